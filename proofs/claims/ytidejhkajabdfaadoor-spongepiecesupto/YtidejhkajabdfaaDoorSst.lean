/- A sponge of the program: its cells; what New, isNone, Rate, Shut, Clone answer. -/
import Derived.Test.YtidejhkajabdfaaDoorSnum
import Derived.Test.YtidejhkajabdfaaDoorQlg
import Derived.Test.YtidejhkajabdfaaDoorQkfb
import Derived.Laws.Cover3
namespace Go.Proofs.YtidejhkajabdfaaDoor.Kc
open Go.ChangeShapes Go.WideShapes Go.ChangeAt Go.RowKit
open Go.Proofs.YtidejhkajabdfaaDoor.By Go.Proofs.YtidejhkajabdfaaDoor.Wd
/-- A sponge's cells. -/
def spc (r : Int) (sf : Int) (f : Nat → Int) (p : Int) (sh : Bool) : List Value := .int .i64 r :: .int .u8 sf :: (bl 200 f ++ [.int .i64 p, .bool sh])
theorem spc_length (r sf : Int) (f : Nat → Int) (p : Int) (sh : Bool) : (spc r sf f p sh).length = 204 := by simp [spc, bl_length]
theorem spc_b (r sf : Int) (f : Nat → Int) (p : Int) (sh : Bool) (i : Nat) (v : Value) (hv : (bl 200 f)[i]? = some v) : (spc r sf f p sh)[2 + i]? = some v := by
  have hi : i < 200 := by have := (List.getElem?_eq_some_iff.1 hv).1; rwa [bl_length] at this
  show (Value.int .i64 r :: .int .u8 sf :: (bl 200 f ++ [.int .i64 p, .bool sh]))[2 + i]? = some v
  rw [show 2 + i = i + 1 + 1 from by omega, List.getElem?_cons_succ, List.getElem?_cons_succ, List.getElem?_append_left (by rw [bl_length]; exact hi)]; exact hv
theorem spc_at (r sf : Int) (f : Nat → Int) (p : Int) (sh : Bool) (i : Nat) (h : i < 200) : (spc r sf f p sh)[2 + i]? = some (.int .u8 (f i)) := spc_b _ _ _ _ _ _ _ (bl_get 200 f i h)
theorem spc_p (r sf : Int) (f : Nat → Int) (p : Int) (sh : Bool) : (spc r sf f p sh)[202]? = some (.int .i64 p) := by
  show (Value.int .i64 r :: .int .u8 sf :: (bl 200 f ++ [.int .i64 p, .bool sh]))[200 + 1 + 1]? = _
  rw [List.getElem?_cons_succ, List.getElem?_cons_succ, List.getElem?_append_right (by rw [bl_length]; omega), bl_length]; rfl
theorem spc_s (r sf : Int) (f : Nat → Int) (p : Int) (sh : Bool) : (spc r sf f p sh)[203]? = some (.bool sh) := by
  show (Value.int .i64 r :: .int .u8 sf :: (bl 200 f ++ [.int .i64 p, .bool sh]))[201 + 1 + 1]? = _
  rw [List.getElem?_cons_succ, List.getElem?_cons_succ, List.getElem?_append_right (by rw [bl_length]; omega), bl_length]; rfl
theorem spc_one (r sf : Int) (f : Nat → Int) (p : Int) (sh : Bool) : ∀ u ∈ spc r sf f p sh, u.oneCell' = true := by
  intro u hu
  simp only [spc, List.mem_cons, List.mem_append, List.not_mem_nil, or_false] at hu
  rcases hu with rfl | rfl | hu | rfl | rfl
  · rfl
  · rfl
  · exact bl_one _ _ u hu
  · rfl
  · rfl
theorem spc_ext (r sf : Int) (f : Nat → Int) (p : Int) (sh : Bool) (cs : List Value) (hl : cs.length = 204) (h0 : cs[0]? = some (.int .i64 r)) (h1 : cs[1]? = some (.int .u8 sf)) (hb : ∀ i, i < 200 → cs[2 + i]? = some (.int .u8 (f i))) (hp : cs[202]? = some (.int .i64 p)) (hs : cs[203]? = some (.bool sh)) : cs = spc r sf f p sh := by
  apply List.ext_getElem?
  intro i
  by_cases h : i < 204
  · by_cases e0 : i = 0
    · subst e0; rw [h0]; rfl
    · by_cases e1 : i = 1
      · subst e1; rw [h1]; rfl
      · by_cases e2 : i < 202
        · have := hb (i - 2) (by omega)
          have h2 := spc_at r sf f p sh (i - 2) (by omega)
          rw [show 2 + (i - 2) = i from by omega] at this h2
          rw [this, h2]
        · by_cases e3 : i = 202
          · subst e3; rw [hp, spc_p]
          · obtain rfl : i = 203 := by omega
            rw [hs, spc_s]
  · rw [List.getElem?_eq_none (by omega), List.getElem?_eq_none (by rw [spc_length]; omega)]
theorem spc_setp (r sf : Int) (f : Nat → Int) (p p' : Int) (sh : Bool) : (spc r sf f p sh).set 202 (.int .i64 p') = spc r sf f p' sh := by
  refine spc_ext _ _ _ _ _ _ (by simp [spc_length]) ?_ ?_ (fun i hi => ?_) ?_ ?_ <;> rw [List.getElem?_set]
  · rw [if_neg (by omega)]; rfl
  · rw [if_neg (by omega)]; rfl
  · rw [if_neg (by omega)]; exact spc_at _ _ _ _ _ _ hi
  · rw [if_pos rfl, if_pos (by rw [spc_length]; omega)]
  · rw [if_neg (by omega)]; exact spc_s _ _ _ _ _
theorem spc_sets (r sf : Int) (f : Nat → Int) (p : Int) (sh sh' : Bool) : (spc r sf f p sh).set 203 (.bool sh') = spc r sf f p sh' := by
  refine spc_ext _ _ _ _ _ _ (by simp [spc_length]) ?_ ?_ (fun i hi => ?_) ?_ ?_ <;> rw [List.getElem?_set]
  · rw [if_neg (by omega)]; rfl
  · rw [if_neg (by omega)]; rfl
  · rw [if_neg (by omega)]; exact spc_at _ _ _ _ _ _ hi
  · rw [if_neg (by omega)]; exact spc_p _ _ _ _ _
  · rw [if_pos rfl, if_pos (by rw [spc_length]; omega)]
theorem spc_setb (r sf : Int) (f : Nat → Int) (p : Int) (sh : Bool) (i : Nat) (x : Int) (h : i < 200) : (spc r sf f p sh).set (2 + i) (.int .u8 x) = spc r sf (fun j => if j = i then x else f j) p sh := by
  refine spc_ext _ _ _ _ _ _ (by simp [spc_length]) ?_ ?_ (fun j hj => ?_) ?_ ?_ <;> rw [List.getElem?_set]
  · rw [if_neg (by omega)]; rfl
  · rw [if_neg (by omega)]; rfl
  · by_cases e : j = i
    · subst e; rw [if_pos rfl, if_pos (by rw [spc_length]; omega), if_pos rfl]
    · rw [if_neg (by omega), if_neg e]; exact spc_at _ _ _ _ _ _ hj
  · rw [if_neg (by omega)]; exact spc_p _ _ _ _ _
  · rw [if_neg (by omega)]; exact spc_s _ _ _ _ _
theorem spc_put (r sf : Int) (f g : Nat → Int) (p : Int) (sh : Bool) : put (spc r sf f p sh) 2 (bl 200 g) = spc r sf g p sh := by
  refine spc_ext _ _ _ _ _ _ (by rw [put_length, spc_length]) ?_ ?_ (fun i hi => ?_) ?_ ?_ <;> rw [put_get _ _ _ _ (by rw [spc_length, bl_length]; omega), bl_length]
  · rw [if_neg (by omega)]; rfl
  · rw [if_neg (by omega)]; rfl
  · rw [if_pos (by omega), show 2 + i - 2 = i from by omega]; exact bl_get 200 g i hi
  · rw [if_neg (by omega)]; exact spc_p _ _ _ _ _
  · rw [if_neg (by omega)]; exact spc_s _ _ _ _ _
/-- The sponge in block b. -/
structure Sp (w : World) (b r : Nat) (sf : Int) (z : Z) (sh : Bool) : Prop where
  here : Blk w b (spc r sf z.f z.p sh) 71
  ok : z.Ok r sh
  lo : 8 ≤ r
  hi : r ≤ 192
  sf : 0 ≤ sf ∧ sf < 256
/-- What is in block b is no sponge. -/
def NoSp (w : World) (b : Nat) : Prop := ∃ cs, Blk w b (.int .i64 0 :: cs) 71
section
variable {w w' : World} {b r : Nat} {sf : Int} {z : Z} {sh : Bool}
theorem Sp.kept {S : Nat → Prop} (h : Sp w b r sf z sh) (hk : Kp S w w') (hn : ¬ S b) : Sp w' b r sf z sh := ⟨h.here.kept hk hn, h.ok, h.lo, h.hi, h.sf⟩
theorem Sp.below (h : Sp w b r sf z sh) (hb : Below w.heap.size w w') : Sp w' b r sf z sh := ⟨h.here.below hb, h.ok, h.lo, h.hi, h.sf⟩
theorem Sp.c0 (h : Sp w b r sf z sh) : w.cell? ⟨b, 0, none⟩ = some (.int .i64 r) := h.here.cell 0 _ rfl
theorem Sp.c1 (h : Sp w b r sf z sh) : w.cell? ⟨b, 1, none⟩ = some (.int .u8 sf) := h.here.cell 1 _ rfl
theorem Sp.cp (h : Sp w b r sf z sh) : w.cell? ⟨b, 202, none⟩ = some (.int .i64 z.p) := h.here.cell 202 _ (spc_p _ _ _ _ _)
theorem Sp.cs (h : Sp w b r sf z sh) : w.cell? ⟨b, 203, none⟩ = some (.bool sh) := h.here.cell 203 _ (spc_s _ _ _ _ _)
theorem NoSp.c0 (h : NoSp w b) : w.cell? ⟨b, 0, none⟩ = some (.int .i64 0) := by
  obtain ⟨cs, h⟩ := h; exact h.cell 0 _ rfl
end
theorem isNone_sp (b : Nat) (w : World) (r : Nat) (h : w.cell? ⟨b, 0, none⟩ = some (.int .i64 r)) (hr : 8 ≤ r) : Calls Tryd.prog 49 #[.pointer (some ⟨b, 0, none⟩)] w fun e w' => e = .returned (.bool false) ∧ w' = w := by
  have e : ((r : Int) == 0) = false := by rw [beq_eq_false_iff_ne]; omega
  have e2 : ¬ (r : Int) = 0 := by omega
  have e3 : ¬ r = 0 := by omega
  go_enter Tryd.func49, Tryd.ntmps49
  go_wp2
  go_ret
  exact ⟨rfl, rfl⟩
theorem isNone_no (b : Nat) (w : World) (h : w.cell? ⟨b, 0, none⟩ = some (.int .i64 0)) : Calls Tryd.prog 49 #[.pointer (some ⟨b, 0, none⟩)] w fun e w' => e = .returned (.bool true) ∧ w' = w := by
  go_enter Tryd.func49, Tryd.ntmps49
  go_wp2
  go_ret
  exact ⟨rfl, rfl⟩
theorem isNone_nil (w : World) : Calls Tryd.prog 49 #[.pointer none] w fun e w' => e = .returned (.bool true) ∧ w' = w := by
  go_enter Tryd.func49, Tryd.ntmps49
  go_wp2
  go_ret
  exact ⟨rfl, rfl⟩
set_option maxRecDepth 4000 in
theorem newBad (rate sf : Int) (w : World) (h : rate < 8 ∨ 192 < rate ∨ ¬ rate % 8 = 0) : Calls Tryd.prog 22 #[.int .i64 rate, .int .u8 sf] w fun e w' => e = .returned (.tuple #[.pointer none, .int .i64 2]) ∧ w' = w := by
  by_cases h1 : rate < 8
  · go_enter Tryd.func22, Tryd.ntmps22
    go_wp2
    go_ret2
    exact ⟨rfl, rfl⟩
  · by_cases h2 : 192 < rate
    · go_enter Tryd.func22, Tryd.ntmps22
      go_wp2
      go_ret2
      exact ⟨rfl, rfl⟩
    · have h3 : ¬ rate % 8 = 0 := by omega
      have h4 : ¬ rate.tmod 8 = 0 := by rw [Int.tmod_eq_emod_of_nonneg (by omega)]; exact h3
      go_enter Tryd.func22, Tryd.ntmps22
      go_wp2
      go_ret2
      exact ⟨rfl, rfl⟩
set_option maxRecDepth 4000 in
theorem zero_sp : Tryd.zeroCells71 = (spc 0 0 (fun _ => 0) 0 false).toArray := by kernel_rfl
theorem newA (r sf : Int) : (Tryd.zeroCells71.setIfInBounds 0 (Value.int IntKind.i64 r)).setIfInBounds 1 (Value.int IntKind.u8 sf) = (spc r sf (fun _ => 0) 0 false).toArray := by
  rw [zero_sp]
  simp only [List.setIfInBounds_toArray]
  rfl
set_option maxRecDepth 4000 in
set_option maxHeartbeats 2000000 in
theorem newOk (r : Nat) (sf : Int) (w : World) (h1 : 8 ≤ r) (h2 : r ≤ 192) (h3 : r % 8 = 0) (hs : 0 ≤ sf ∧ sf < 256) : Calls Tryd.prog 22 #[.int .i64 r, .int .u8 sf] w fun e w' => e = .returned (.tuple #[.pointer (some ⟨w.heap.size, 0, none⟩), .int .i64 0]) ∧ Sp w' w.heap.size r sf ⟨fun _ => 0, 0, 0⟩ false ∧ Below w.heap.size w w' := by
  have e1 : ¬ (r : Int) < 8 := by omega
  have e2 : ¬ (192 : Int) < r := by omega
  have e3 : (r : Int).tmod 8 = 0 := by rw [Int.tmod_eq_emod_of_nonneg (by omega)]; omega
  have HS := hid hs
  clear hs
  go_enter Tryd.func22, Tryd.ntmps22
  go_wp2
  go_ret2
  exact ⟨rfl, ⟨Blk.newAt _ _ _ _ _ rfl (by rw [newA]; rfl), ⟨fun _ => by show (0 : Int) ≤ 0 ∧ (0 : Int) < 256; decide, Nat.zero_le _, fun _ => by show 0 < r; omega⟩, h1, h2, HS.out⟩, below_alloc _ _⟩
theorem rate_sp (b r : Nat) (sf : Int) (z : Z) (sh : Bool) (w : World) (h : Sp w b r sf z sh) : Calls Tryd.prog 31 #[.pointer (some ⟨b, 0, none⟩)] w fun e w' => e = .returned (.int .i64 r) ∧ w' = w := by
  have h0 := h.c0
  have HR := hid h.lo
  clear h
  go_enter Tryd.func31, Tryd.ntmps31
  go_wp2_with (go_at_call 49; refine (isNone_sp _ _ r h0 HR.out).mono ?_; rintro e w ⟨rfl, rfl⟩)
  go_ret
  exact ⟨rfl, rfl⟩
theorem rate_no (b : Nat) (w : World) (h : NoSp w b) : Calls Tryd.prog 31 #[.pointer (some ⟨b, 0, none⟩)] w fun e w' => e = .returned (.int .i64 0) ∧ w' = w := by
  have h0 := h.c0
  clear h
  go_enter Tryd.func31, Tryd.ntmps31
  go_wp2_with (go_at_call 49; refine (isNone_no _ _ h0).mono ?_; rintro e w ⟨rfl, rfl⟩)
  go_ret
  exact ⟨rfl, rfl⟩
theorem rate_nil (w : World) : Calls Tryd.prog 31 #[.pointer none] w fun e w' => e = .returned (.int .i64 0) ∧ w' = w := by
  go_enter Tryd.func31, Tryd.ntmps31
  go_wp2_with (go_at_call 49; refine (isNone_nil _).mono ?_; rintro e w ⟨rfl, rfl⟩)
  go_ret
  exact ⟨rfl, rfl⟩
theorem shut_sp (b r : Nat) (sf : Int) (z : Z) (sh : Bool) (w : World) (h : Sp w b r sf z sh) : Calls Tryd.prog 30 #[.pointer (some ⟨b, 0, none⟩)] w fun e w' => e = .returned (.bool sh) ∧ w' = w := by
  have h0 := h.c0
  have h3 := h.cs
  have HR := hid h.lo
  clear h
  go_enter Tryd.func30, Tryd.ntmps30
  go_wp2_with (go_at_call 49; refine (isNone_sp _ _ r h0 HR.out).mono ?_; rintro e w ⟨rfl, rfl⟩)
  go_ret
  exact ⟨rfl, rfl⟩
theorem shut_no (b : Nat) (w : World) (h : NoSp w b) : Calls Tryd.prog 30 #[.pointer (some ⟨b, 0, none⟩)] w fun e w' => e = .returned (.bool false) ∧ w' = w := by
  have h0 := h.c0
  clear h
  go_enter Tryd.func30, Tryd.ntmps30
  go_wp2_with (go_at_call 49; refine (isNone_no _ _ h0).mono ?_; rintro e w ⟨rfl, rfl⟩)
  go_ret
  exact ⟨rfl, rfl⟩
theorem shut_nil (w : World) : Calls Tryd.prog 30 #[.pointer none] w fun e w' => e = .returned (.bool false) ∧ w' = w := by
  go_enter Tryd.func30, Tryd.ntmps30
  go_wp2_with (go_at_call 49; refine (isNone_nil _).mono ?_; rintro e w ⟨rfl, rfl⟩)
  go_ret
  exact ⟨rfl, rfl⟩
end Go.Proofs.YtidejhkajabdfaaDoor.Kc
