/- The program's memory of a slot: its cells; what isNone, New, Len, Look answer. -/
import Derived.Test.YthoklddoeoedgaaSbk
namespace Go.Proofs.Ythoklddoeoedgaa.Sl
open Go.ChangeShapes Go.WideShapes Go.ChangeAt Go.RowKit
open Go.Proofs.Ythoklddoeoedgaa.By
/-- A memory's cells. -/
def mc (md : Bool) (f : Nat → Int) (n : Int) : List Value := .bool md :: (bl 1024 f ++ [.int .i64 n])
theorem mc_length (md : Bool) (f : Nat → Int) (n : Int) : (mc md f n).length = 1026 := by simp [mc, bl_length]
theorem mc_v (md : Bool) (f : Nat → Int) (n : Int) (i : Nat) (v : Value) (hv : (bl 1024 f)[i]? = some v) : (mc md f n)[1 + i]? = some v := by
  have hi : i < 1024 := by have := (List.getElem?_eq_some_iff.1 hv).1; rwa [bl_length] at this
  unfold mc
  rw [show 1 + i = i + 1 from by omega, List.getElem?_cons_succ, List.getElem?_append_left (by rw [bl_length]; exact hi)]; exact hv
theorem mc_b (md : Bool) (f : Nat → Int) (n : Int) (i : Nat) (h : i < 1024) : (mc md f n)[1 + i]? = some (.int .u8 (f i)) := mc_v _ _ _ _ _ (bl_get 1024 f i h)
theorem mc_n (md : Bool) (f : Nat → Int) (n : Int) : (mc md f n)[1025]? = some (.int .i64 n) := by
  unfold mc
  rw [show (1025 : Nat) = 1024 + 1 from rfl, List.getElem?_cons_succ, List.getElem?_append_right (by rw [bl_length]; omega), bl_length]; rfl
theorem mc_one (md : Bool) (f : Nat → Int) (n : Int) : ∀ u ∈ mc md f n, u.oneCell' = true := by
  intro u hu
  simp only [mc, List.mem_cons, List.mem_append, List.not_mem_nil, or_false] at hu
  rcases hu with rfl | hu | rfl
  · rfl
  · exact bl_one _ _ u hu
  · rfl
theorem mc_ext (md : Bool) (f : Nat → Int) (n : Int) (cs : List Value) (hl : cs.length = 1026) (h0 : cs[0]? = some (.bool md)) (hb : ∀ i, i < 1024 → cs[1 + i]? = some (.int .u8 (f i))) (hn : cs[1025]? = some (.int .i64 n)) : cs = mc md f n := by
  apply List.ext_getElem?
  intro i
  by_cases h : i < 1026
  · by_cases e0 : i = 0
    · subst e0; rw [h0]; rfl
    · by_cases e2 : i < 1025
      · have := hb (i - 1) (by omega)
        have h2 := mc_b md f n (i - 1) (by omega)
        rw [show 1 + (i - 1) = i from by omega] at this h2
        rw [this, h2]
      · obtain rfl : i = 1025 := by omega
        rw [hn, mc_n]
  · rw [List.getElem?_eq_none (by omega), List.getElem?_eq_none (by rw [mc_length]; omega)]
theorem mc_setn (md : Bool) (f : Nat → Int) (n n' : Int) : (mc md f n).set 1025 (.int .i64 n') = mc md f n' := by
  refine mc_ext _ _ _ _ (by simp [mc_length]) ?_ (fun i hi => ?_) ?_ <;> rw [List.getElem?_set]
  · rw [if_neg (by omega)]; rfl
  · rw [if_neg (by omega)]; exact mc_b _ _ _ _ hi
  · rw [if_pos rfl, if_pos (by rw [mc_length]; omega)]
theorem mc_setm (md md' : Bool) (f : Nat → Int) (n : Int) : (mc md f n).set 0 (.bool md') = mc md' f n := rfl
theorem mc_put (md : Bool) (f g : Nat → Int) (n : Int) (o k : Nat) (h : o + k ≤ 1024) : put (mc md f n) (1 + o) (bl k g) = mc md (fun i => if o ≤ i ∧ i < o + k then g (i - o) else f i) n := by
  refine mc_ext _ _ _ _ (by rw [put_length, mc_length]) ?_ (fun i hi => ?_) ?_ <;> rw [put_get _ _ _ _ (by rw [mc_length, bl_length]; omega), bl_length]
  · rw [if_neg (by omega)]; rfl
  · by_cases e : o ≤ i ∧ i < o + k
    · rw [if_pos (by omega), if_pos e, show 1 + i - (1 + o) = i - o from by omega]; exact bl_get k g _ (by omega)
    · rw [if_neg (by omega), if_neg e]; exact mc_b _ _ _ _ hi
  · rw [if_neg (by omega)]; exact mc_n _ _ _
theorem rep_bl (k : Nat) : List.replicate k (Value.int .u8 0) = bl k (fun _ => 0) := by
  apply List.ext_getElem?
  intro i
  rw [List.getElem?_replicate]
  by_cases h : i < k
  · rw [bl_get _ _ _ h, if_pos h]
  · rw [if_neg h, List.getElem?_eq_none (by rw [bl_length]; omega)]
/-- The memory in block b has n bytes f, and noughts behind them. -/
structure Mem (w : World) (b n : Nat) (f : Nat → Int) : Prop where
  here : Blk w b (mc true f n) 32
  hn : n ≤ 1024
  hf : ∀ i, 0 ≤ f i ∧ f i < 256
  hz : ∀ i, n ≤ i → f i = 0
/-- What is in block b is a memory that New did not make. -/
def NoMem (w : World) (b : Nat) : Prop := Blk w b (mc false (fun _ => 0) 0) 32
section
variable {w w' : World} {b n : Nat} {f : Nat → Int}
theorem Mem.kept {S : Nat → Prop} (h : Mem w b n f) (hk : Kp S w w') (hn : ¬ S b) : Mem w' b n f := ⟨h.here.kept hk hn, h.hn, h.hf, h.hz⟩
theorem Mem.below (h : Mem w b n f) (hb : Below w.heap.size w w') : Mem w' b n f := ⟨h.here.below hb, h.hn, h.hf, h.hz⟩
theorem Mem.c0 (h : Mem w b n f) : w.cell? ⟨b, 0, none⟩ = some (.bool true) := h.here.cell 0 _ rfl
theorem Mem.cn (h : Mem w b n f) : w.cell? ⟨b, 1025, none⟩ = some (.int .i64 n) := h.here.cell 1025 _ (mc_n _ _ _)
theorem Mem.cb (h : Mem w b n f) (i : Nat) (hi : i < 1024) : w.cell? ⟨b, 1 + i, none⟩ = some (.int .u8 (f i)) := h.here.cell _ _ (mc_b _ _ _ i hi)
theorem NoMem.c0 (h : NoMem w b) : w.cell? ⟨b, 0, none⟩ = some (.bool false) := Blk.cell h 0 _ rfl
end
/-- What a memory is: none (nil, or nobody's), or n bytes f. -/
abbrev Kd := Option (Nat × (Nat → Int))
/-- The pointer v is a memory of that kind. -/
def IsM (w : World) (v : Value) : Kd → Prop
  | none => v = .pointer none ∨ ∃ b, v = .pointer (some ⟨b, 0, none⟩) ∧ NoMem w b
  | some (n, f) => ∃ b, v = .pointer (some ⟨b, 0, none⟩) ∧ Mem w b n f
theorem isNone_no (v : Value) (w : World) (h : IsM w v none) : Calls Try.prog 35 #[v] w fun e w' => e = .returned (.bool true) ∧ w' = w := by
  rcases h with rfl | ⟨b, rfl, h⟩
  · go_enter Try.func35, Try.ntmps35
    go_wp2
    go_ret
    exact ⟨rfl, rfl⟩
  · have h0 := h.c0
    clear h
    go_enter Try.func35, Try.ntmps35
    go_wp2
    go_ret
    exact ⟨rfl, rfl⟩
theorem isNone_mem (b : Nat) (w : World) (h0 : w.cell? ⟨b, 0, none⟩ = some (.bool true)) : Calls Try.prog 35 #[.pointer (some ⟨b, 0, none⟩)] w fun e w' => e = .returned (.bool false) ∧ w' = w := by
  go_enter Try.func35, Try.ntmps35
  go_wp2
  go_ret
  exact ⟨rfl, rfl⟩
@[go_sem high] theorem zv_mem (w : World) : (zeroValue 32).run Try.prog w = .ok (.agg (mc false (fun _ => 0) 0).toArray) w := by kernel_rfl
@[go_sem high] theorem zv_slot (w : World) : (zeroValue 30).run Try.prog w = .ok (.agg (bl 1024 (fun _ => 0)).toArray) w := by kernel_rfl
set_option maxRecDepth 4000 in
set_option maxHeartbeats 2000000 in
theorem new_mem (w : World) : Calls Try.prog 9 #[] w fun e w' => e = .returned (.pointer (some ⟨w.heap.size, 0, none⟩)) ∧ Mem w' w.heap.size 0 (fun _ => 0) ∧ Below w.heap.size w w' := by
  go_enter Try.func9, Try.ntmps9
  go_wp2
  go_ret
  exact ⟨rfl, ⟨Blk.new w (mc true (fun _ => 0) 0) _, Nat.zero_le _, fun _ => by show (0 : Int) ≤ 0 ∧ (0 : Int) < 256; decide, fun _ _ => rfl⟩, below_alloc _ _⟩
def kn : Kd → Nat
  | none => 0
  | some (n, _) => n
def kf : Kd → Nat → Int
  | none => fun _ => 0
  | some (_, f) => f
theorem len_m (v : Value) (k : Kd) (w : World) (h : IsM w v k) : Calls Try.prog 21 #[v] w fun e w' => e = .returned (.int .i64 (kn k)) ∧ w' = w := by
  cases k with
  | none =>
    have H := hid h
    clear h
    go_enter Try.func21, Try.ntmps21
    go_wp2_with (go_at_call 35; refine (isNone_no _ _ H.out).mono ?_; rintro e w ⟨rfl, rfl⟩)
    go_ret
    exact ⟨rfl, rfl⟩
  | some p =>
    obtain ⟨n, f⟩ := p
    obtain ⟨b, rfl, h⟩ := h
    have h0 := h.c0
    have hn := h.cn
    clear h
    go_enter Try.func21, Try.ntmps21
    go_wp2_with (go_at_call 35; refine (isNone_mem _ _ h0).mono ?_; rintro e w ⟨rfl, rfl⟩)
    go_ret
    exact ⟨rfl, rfl⟩
def LDs (a : Addr) : Sem Value := loadVar 30 a
def SVs (a : Addr) (v : Value) : Sem Unit := storeVar 30 a v
@[go_sem ↓ high] theorem lds (a : Addr) : loadVar 30 a = LDs a := rfl
@[go_sem ↓ high] theorem svs (a : Addr) (v : Value) : storeVar 30 a v = SVs a v := rfl
theorem infos : (Try.prog.info? 30).map (·.size) = some 1024 := by kernel_rfl
theorem LDs_run {w : World} {g o : Nat} {cs : List Value} (h : w.rangeAt g o cs) (hl : cs.length = 1024) : (LDs ⟨g, o, none⟩).run Try.prog w = .ok (.agg cs.toArray) w :=
  run_loadVar_mid w g o _ cs _ h Try.underlying30 rfl (by rw [hl]; exact infos)
theorem SVs_run {w : World} {g o : Nat} {cs : List Value} (h : w.there g o 1024) (hl : cs.length = 1024) (h1 : ∀ u ∈ cs, u.oneCell' = true) : (SVs ⟨g, o, none⟩ (.agg cs.toArray)).run Try.prog w = .ok () (w.setCells g o cs) :=
  run_storeVar_mid w g o _ cs.toArray (by simpa [hl] using h) (by simpa [hl] using infos) (all_oneCell_toArray h1)
theorem Mem.load {w : World} {b n : Nat} {f : Nat → Int} (h : Mem w b n f) : (LDs ⟨b, 1, none⟩).run Try.prog w = .ok (.agg (bl 1024 f).toArray) w :=
  LDs_run (h.here.range 1 _ (fun _ _ hv => mc_v _ _ _ _ _ hv)) (bl_length _ _)
/-- A slot's value. -/
def sv (f : Nat → Int) : Value := .agg (bl 1024 f).toArray
theorem IsM.below {w w' : World} {v : Value} {k : Kd} (h : IsM w v k) (hb : Below w.heap.size w w') : IsM w' v k := by
  cases k with
  | none => exact h.imp id (fun ⟨b, e, h⟩ => ⟨b, e, Blk.below h hb⟩)
  | some p => obtain ⟨n, f⟩ := p; obtain ⟨b, e, h⟩ := h; exact ⟨b, e, h.below hb⟩
set_option maxRecDepth 20000 in
set_option maxHeartbeats 1200000 in
theorem look_m (v : Value) (k : Kd) (w : World) (h : IsM w v k) : Calls Try.prog 19 #[v] w fun e w' => e = .returned (sv (kf k)) ∧ Below w.heap.size w w' := by
  obtain ⟨W, hW⟩ : ∃ W, w.alloc (.cells (bl 1024 (fun _ => 0)).toArray 30) = W := ⟨_, rfl⟩
  have HB : Hid (Below w.heap.size w W) := by rw [← hW]; exact below_alloc _ _
  have NB : Hid (Blk W w.heap.size (bl 1024 (fun _ => 0)) 30) := by rw [← hW]; exact Blk.new _ _ _
  have SZ : Hid (w.heap.size ≤ W.heap.size) := HB.out.size
  have ld : ∀ f, (LDs ⟨w.heap.size, 0, none⟩).run Try.prog (W.setCells w.heap.size 0 (bl 1024 f)) = .ok (.agg (bl 1024 f).toArray) (W.setCells w.heap.size 0 (bl 1024 f)) := fun f => by
    have := NB.out.put 0 (bl 1024 f)
    rw [put_all _ _ (by rw [bl_length, bl_length])] at this
    exact LDs_run (this.range 0 _ (fun _ _ hv => by rw [Nat.zero_add]; exact hv)) (bl_length _ _)
  have sv : ∀ f, (SVs ⟨w.heap.size, 0, none⟩ (.agg (bl 1024 f).toArray)).run Try.prog W = .ok () (W.setCells w.heap.size 0 (bl 1024 f)) := fun f =>
    SVs_run (NB.out.there 0 1024 (by rw [bl_length]; omega)) (bl_length _ _) (bl_one _ _)
  cases k with
  | none =>
    have H := hid (h.below HB.out)
    have ld := ld (fun _ => 0)
    have sv := sv (fun _ => 0)
    clear h
    go_enter Try.func19, Try.ntmps19
    go_wp2_with (go_at_call 35; refine (isNone_no _ _ H.out).mono ?_; rintro e W ⟨rfl, rfl⟩)
    refine bodyPost_ret (results_cell1 rfl rfl ld) rfl ?_
    exact ⟨rfl, below_cells HB.out _ _ _ (Nat.le_refl _) SZ.out⟩
  | some p =>
    obtain ⟨n, f⟩ := p
    obtain ⟨b, rfl, h⟩ := h
    have h' := h.below HB.out
    have h0 := h'.c0
    have hn := h'.load
    have ld := ld f
    have sv := sv f
    clear h h'
    go_enter Try.func19, Try.ntmps19
    go_wp2_with (go_at_call 35; refine (isNone_mem _ _ h0).mono ?_; rintro e W ⟨rfl, rfl⟩)
    refine bodyPost_ret (results_cell1 rfl rfl ld) rfl ?_
    exact ⟨rfl, below_cells HB.out _ _ _ (Nat.le_refl _) SZ.out⟩
end Go.Proofs.Ythoklddoeoedgaa.Sl
