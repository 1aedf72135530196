/- What a sponge of the program answers: Read refused, Clone, Wipe, Form. -/
import Derived.Test.YtnhhkoekghjogaaGreatDoorSrd
namespace Go.Proofs.YtnhhkoekghjogaaGreatDoor.Kc
open Go.ChangeShapes Go.WideShapes Go.ChangeAt Go.RowKit
open Go.Proofs.YtnhhkoekghjogaaGreatDoor.By Go.Proofs.YtnhhkoekghjogaaGreatDoor.Wd
theorem read_arg (b r : Nat) (sf : Int) (z : Z) (sh : Bool) (n : Int) (lp : Value) (w : World) (h : Sp w b r sf z sh) (hn : n < 0 ∨ 65536 < n) : Calls Tryz.prog 58 #[.pointer (some ⟨b, 0, none⟩), lp, .int .i64 n] w fun e w' => e = .returned (.tuple #[.slice none 0 0, .int .i64 2]) ∧ w' = w := by
  have h0 := h.c0
  have hr8 := h.lo
  clear h
  by_cases h1 : n < 0
  · go_enter Tryz.func58, Tryz.ntmps58
    go_wp2_with (go_at_call 71; refine (isNone_sp _ _ r h0 hr8).mono ?_; rintro e w ⟨rfl, rfl⟩)
    go_ret2
    exact ⟨rfl, rfl⟩
  · have h2 : 65536 < n := by omega
    go_enter Tryz.func58, Tryz.ntmps58
    go_wp2_with (go_at_call 71; refine (isNone_sp _ _ r h0 hr8).mono ?_; rintro e w ⟨rfl, rfl⟩)
    go_ret2
    exact ⟨rfl, rfl⟩
theorem read_no (b : Nat) (n lp : Value) (w : World) (h : NoSp w b) : Calls Tryz.prog 58 #[.pointer (some ⟨b, 0, none⟩), lp, n] w fun e w' => e = .returned (.tuple #[.slice none 0 0, .int .i64 1]) ∧ w' = w := by
  have h0 := h.c0
  clear h
  go_enter Tryz.func58, Tryz.ntmps58
  go_wp2_with (go_at_call 71; refine (isNone_no _ _ h0).mono ?_; rintro e w' ⟨rfl, rfl⟩)
  go_ret2
  exact ⟨rfl, rfl⟩
theorem read_nil (n lp : Value) (w : World) : Calls Tryz.prog 58 #[.pointer none, lp, n] w fun e w' => e = .returned (.tuple #[.slice none 0 0, .int .i64 1]) ∧ w' = w := by
  go_enter Tryz.func58, Tryz.ntmps58
  go_wp2_with (go_at_call 71; refine (isNone_nil _).mono ?_; rintro e w' ⟨rfl, rfl⟩)
  go_ret2
  exact ⟨rfl, rfl⟩
def LDs (a : Addr) : Sem Value := loadVar 109 a
def SVs (a : Addr) (v : Value) : Sem Unit := storeVar 109 a v
@[go_sem ↓ high] theorem lds (a : Addr) : loadVar 109 a = LDs a := rfl
@[go_sem ↓ high] theorem svs (a : Addr) (v : Value) : storeVar 109 a v = SVs a v := rfl
theorem infos : (Tryz.prog.info? 109).map (·.size) = some 204 := by kernel_rfl
theorem LDs_run {w : World} {g o : Nat} {cs : List Value} (h : w.rangeAt g o cs) (hl : cs.length = 204) : (LDs ⟨g, o, none⟩).run Tryz.prog w = .ok (.agg cs.toArray) w :=
  run_loadVar_mid w g o _ cs _ h Tryz.underlying109 rfl (by rw [hl]; exact infos)
theorem SVs_run {w : World} {g o : Nat} {cs : List Value} (h : w.there g o 204) (hl : cs.length = 204) (h1 : ∀ u ∈ cs, u.oneCell' = true) : (SVs ⟨g, o, none⟩ (.agg cs.toArray)).run Tryz.prog w = .ok () (w.setCells g o cs) :=
  run_storeVar_mid w g o _ cs.toArray (by simpa [hl] using h) (by simpa [hl] using infos) (all_oneCell_toArray h1)
/-- The cells of the zero sponge. -/
def zsp : List Value := spc 0 0 (fun _ => 0) 0 false
set_option maxRecDepth 4000 in
theorem clone_sp (b r : Nat) (sf : Int) (z : Z) (sh : Bool) (w : World) (h : Sp w b r sf z sh) :
    Calls Tryz.prog 56 #[.pointer (some ⟨b, 0, none⟩)] w fun e w' => e = .returned (.tuple #[.pointer (some ⟨w.heap.size, 0, none⟩), .int .i64 0]) ∧ Sp w' w.heap.size r sf z sh ∧ Below w.heap.size w w' := by
  have H := hid h
  have h0 := h.c0
  have hr8 := h.lo
  have x1 := LDs_run (h.here.range 0 (spc r sf z.f z.p sh) (fun j v hj => by rw [Nat.zero_add]; exact hj)) (spc_length _ _ _ _ _)
  have bn := Blk.newAt w Tryz.zeroCells109 zsp 109 w.heap.size rfl zero_sp
  have x2 := SVs_run (cs := spc r sf z.f z.p sh) (bn.there 0 204 (by rw [zsp, spc_length]; omega)) (spc_length _ _ _ _ _) (spc_one _ _ _ _ _)
  have B := hid bn
  clear bn h
  go_enter Tryz.func56, Tryz.ntmps56
  go_wp2_with (go_at_call 71; refine (isNone_sp _ _ r h0 hr8).mono ?_; rintro e w ⟨rfl, rfl⟩)
  go_ret2
  have b2 := B.out.put 0 (spc r sf z.f z.p sh)
  rw [put_all _ _ (by rw [zsp, spc_length, spc_length])] at b2
  exact ⟨rfl, ⟨b2, H.out.ok, H.out.lo, H.out.hi, H.out.sf⟩, below_cells (below_alloc _ _) _ _ _ (Nat.le_refl _) (by rw [size_alloc]; omega)⟩
theorem clone_no (b : Nat) (w : World) (h : NoSp w b) : Calls Tryz.prog 56 #[.pointer (some ⟨b, 0, none⟩)] w fun e w' => e = .returned (.tuple #[.pointer none, .int .i64 1]) ∧ w' = w := by
  have h0 := h.c0
  clear h
  go_enter Tryz.func56, Tryz.ntmps56
  go_wp2_with (go_at_call 71; refine (isNone_no _ _ h0).mono ?_; rintro e w' ⟨rfl, rfl⟩)
  go_ret2
  exact ⟨rfl, rfl⟩
theorem clone_nil (w : World) : Calls Tryz.prog 56 #[.pointer none] w fun e w' => e = .returned (.tuple #[.pointer none, .int .i64 1]) ∧ w' = w := by
  go_enter Tryz.func56, Tryz.ntmps56
  go_wp2_with (go_at_call 71; refine (isNone_nil _).mono ?_; rintro e w' ⟨rfl, rfl⟩)
  go_ret2
  exact ⟨rfl, rfl⟩
set_option maxRecDepth 4000 in
theorem wipe_sp (b r : Nat) (sf : Int) (z : Z) (sh : Bool) (lo : Option Nat) (L : List Rn) (S : Nat → Prop) (w : World) (h : Sp w b r sf z sh) (hSb : S b) (hl : LG S w w lo L) (hroom : Big L) :
    Calls Tryz.prog 62 #[.pointer (some ⟨b, 0, none⟩), lpv lo] w fun e w' => e = .returned (.int .i64 0) ∧ NoSp w' b ∧ LG S w w' lo (putL L ⟨8, 203, 1⟩) ∧ Kp S w w' := by
  have H := hid h
  have h0 := h.c0
  have hr8 := h.lo
  have HS := hid hSb
  have HL := hid hl
  have HM := hid hroom
  have x2 := SVs_run (cs := zsp) (h.here.there 0 204 (by rw [spc_length]; omega)) (spc_length _ _ _ _ _) (spc_one _ _ _ _ _)
  rw [show zsp.toArray = Tryz.zeroCells109 from zero_sp.symm] at x2
  clear h hSb hl hroom
  go_enter Tryz.func62, Tryz.ntmps62
  go_wp2_with (first | (go_at_call 71; refine (isNone_sp _ _ r h0 hr8).mono ?_; rintro e w ⟨rfl, rfl⟩))
  have b2 := H.out.here.put 0 zsp
  rw [put_all _ _ (by rw [zsp, spc_length, spc_length])] at b2
  have B1 := hid b2
  have K1 : Hid (Kp S w (w.setCells b 0 zsp)) := (Kp.setCells b _ _).mono (fun k _ e => by have : k = b := e; rw [this]; exact HS.out)
  have L1 : Hid (LG S w (w.setCells b 0 zsp) lo L) := HL.out.kept (Kp.setCells b 0 zsp) (fun g e => by subst e; exact ⟨_, _, H.out.here, by decide, by decide⟩)
  clear b2 x2 h0
  refine (note_lg S w _ lo L 8 203 (by decide) (by decide) L1.out K1.out ⟨by have := HM.out.1; omega, by have := HM.out.2; omega⟩).mono ?_
  rintro e W6 ⟨rfl, hl6, hk6, ht6⟩
  have B6 := hid (ht6 _ _ _ B1.out (by decide) (by decide))
  have K6 := hid hk6
  have L6 := hid hl6
  clear hl6 hk6 ht6
  go_wp2
  go_ret
  exact ⟨rfl, ⟨_, B6.out⟩, L6.out, K6.out⟩
theorem wipe_no (b : Nat) (lp : Value) (w : World) (h : NoSp w b) : Calls Tryz.prog 62 #[.pointer (some ⟨b, 0, none⟩), lp] w fun e w' => e = .returned (.int .i64 1) ∧ w' = w := by
  have h0 := h.c0
  clear h
  go_enter Tryz.func62, Tryz.ntmps62
  go_wp2_with (go_at_call 71; refine (isNone_no _ _ h0).mono ?_; rintro e w' ⟨rfl, rfl⟩)
  go_ret
  exact ⟨rfl, rfl⟩
theorem wipe_nil (lp : Value) (w : World) : Calls Tryz.prog 62 #[.pointer none, lp] w fun e w' => e = .returned (.int .i64 1) ∧ w' = w := by
  go_enter Tryz.func62, Tryz.ntmps62
  go_wp2_with (go_at_call 71; refine (isNone_nil _).mono ?_; rintro e w' ⟨rfl, rfl⟩)
  go_ret
  exact ⟨rfl, rfl⟩
/-- A sponge's form. -/
def fmf (z : Z) (sh : Bool) (i : Nat) : Int := if i < 200 then z.f i else if i = 200 then (z.p : Int) / 256 % 256 else if i = 201 then (z.p : Int) % 256 else if sh then 1 else 0
theorem fmf_b {z : Z} (h : BB z.f) (sh : Bool) : BB (fmf z sh) := fun i => by
  unfold fmf
  split
  · exact h i
  · split
    · omega
    · split
      · omega
      · split <;> decide
theorem copyAll (W : World) (b ob : Nat) (ty : TypeId) (oc : List Value) (f : Nat → Int) (hob : Blk W ob oc 5) (hol : 200 ≤ oc.length) (hs : ∀ i, i < 200 → W.cell? ⟨b, 2 + i, none⟩ = some (.int .u8 (f i))) :
    (Builtin.copy_ #[22, 22] ty #[.slice (some ⟨ob, 0, none⟩) 203 203, .slice (some ⟨b, 2, none⟩) 200 200]).run Tryz.prog W = .ok (.int .i64 200) (W.setCells ob 0 (bl 200 f)) := by
  have h := run_copy_cells (P := Tryz.prog) W 22 22 ty 5 ob 0 203 203 ⟨b, 2, none⟩ 200 200 (bl 200 f) Tryz.underlying22 (by kernel_rfl) (by rw [bl_length]; rfl)
    (fun j v hj => by obtain ⟨hj1, rfl⟩ := bl_get_inv _ _ _ _ hj; rw [By.add_plain]; exact hs j (by omega))
    (fun j hj => (hob.there 0 200 (by omega) j (by rw [bl_length] at hj; omega)).1) (fun j hj => hob.frozen _) (bl_one _ _)
  rw [bl_length] at h
  exact h
theorem made_form (z : Z) (sh : Bool) (a b c : Int) (ha : a = (z.p : Int) / 256 % 256) (hb : b = (z.p : Int) % 256) (hc : c = if sh then 1 else 0) : (((put (bl 203 (fun _ => 0)) 0 (bl 200 z.f)).set 200 (.int .u8 a)).set 201 (.int .u8 b)).set 202 (.int .u8 c) = bl 203 (fmf z sh) := by
  apply List.ext_getElem?
  intro i
  rw [List.getElem?_set, List.getElem?_set, List.getElem?_set, put_get _ _ _ _ (by rw [bl_length, bl_length]; omega)]
  simp only [List.length_set, put_length, bl_length]
  by_cases h : i < 203
  · rw [bl_get _ _ _ h, bl_get _ _ _ h]
    unfold fmf
    by_cases h1 : i < 200
    · rw [if_neg (by omega), if_neg (by omega), if_neg (by omega), if_pos (by omega), if_pos h1, bl_get _ _ _ (by omega), Nat.sub_zero]
    · by_cases h2 : i = 200
      · subst h2; rw [if_neg (by omega), if_neg (by omega), if_pos rfl, if_pos (by omega), if_neg (by omega), if_pos rfl, ha]
      · by_cases h3 : i = 201
        · subst h3; rw [if_neg (by omega), if_pos rfl, if_pos (by omega), if_neg (by omega), if_neg (by omega), if_pos rfl, hb]
        · obtain rfl : i = 202 := by omega
          rw [if_pos rfl, if_pos (by omega), if_neg (by omega), if_neg (by omega), if_neg (by omega), hc]
  · rw [if_neg (by omega), if_neg (by omega), if_neg (by omega), if_neg (by omega), List.getElem?_eq_none (by rw [bl_length]; omega), List.getElem?_eq_none (by rw [bl_length]; omega)]
theorem make203 (w : World) : (Instr.makeSlice 22 (.int .i64 203) (.int .i64 203)).run Tryz.prog w = .ok (.slice (some ⟨w.heap.size, 0, none⟩) 203 203) (w.alloc (.cells (bl 203 (fun _ => 0)).toArray 5)) := make_n 203 (by omega) w
set_option maxRecDepth 4000 in
set_option maxHeartbeats 4000000 in
theorem form_sp (b r : Nat) (sf : Int) (z : Z) (sh : Bool) (w : World) (h : Sp w b r sf z sh) :
    Calls Tryz.prog 64 #[.pointer (some ⟨b, 0, none⟩)] w fun e w' => e = .returned (.slice (some ⟨w.heap.size, 0, none⟩) 203 203) ∧ Blk w' w.heap.size (bl 203 (fmf z sh)) 5 ∧ Below w.heap.size w w' := by
  have H := hid h
  have h0 := h.c0
  have hr8 := h.lo
  have mk := make203 w
  have hsl := fun W => sliceAll W b
  have O1 := hid (Blk.new w (bl 203 (fun _ => 0)) 5)
  have B1 := hid (h.here.alloc (.cells (bl 203 (fun _ => 0)).toArray 5))
  have hcp := fun ty => copyAll _ b w.heap.size ty _ z.f O1.out (by rw [bl_length]; omega) (fun i hi => B1.out.cell _ _ (spc_at _ _ _ _ _ i hi))
  have HBE := hid (below_cells (below_alloc w (.cells (bl 203 (fun _ => 0)).toArray 5)) w.heap.size 0 (bl 200 z.f) (Nat.le_refl _) (by rw [size_alloc]; omega))
  have HLT := hid h.here.lt
  clear h
  go_enter Tryz.func64, Tryz.ntmps64
  go_wp2_with (first | (go_at_call 71; refine (isNone_sp _ _ r h0 hr8).mono ?_; rintro e w ⟨rfl, rfl⟩))
  have O2 := hid (O1.out.put 0 (bl 200 z.f))
  have B2 := hid (B1.out.kept (Kp.setCells w.heap.size 0 (bl 200 z.f)) (by have := HLT.out; omega))
  obtain ⟨W2, hW2⟩ : ∃ x, (w.alloc (.cells (bl 203 (fun _ => 0)).toArray 5)).setCells w.heap.size 0 (bl 200 z.f) = x := ⟨_, rfl⟩
  rw [hW2] at O2 B2 HBE
  rw [hW2]
  have hne : b ≠ w.heap.size := by have := HLT.out; omega
  obtain ⟨g, hg⟩ : ∃ g, w.heap.size = g := ⟨_, rfl⟩
  have HG := hid hg
  rw [hg] at O2 hne
  rw [hg]
  clear hW2 hg hcp mk hsl h0 O1 B1
  have cp := B2.out.cell 202 _ (spc_p _ _ _ _ _)
  have cs := B2.out.cell 203 _ (spc_s _ _ _ _ _)
  have g0 := O2.out.cell 200 (.int .u8 0) (by rw [put_get _ _ _ _ (by rw [bl_length, bl_length]; omega), bl_length, if_neg (by omega)]; exact bl_get 203 _ 200 (by omega))
  have g1 := O2.out.cell 201 (.int .u8 0) (by rw [put_get _ _ _ _ (by rw [bl_length, bl_length]; omega), bl_length, if_neg (by omega)]; exact bl_get 203 _ 201 (by omega))
  have g2 := O2.out.cell 202 (.int .u8 0) (by rw [put_get _ _ _ _ (by rw [bl_length, bl_length]; omega), bl_length, if_neg (by omega)]; exact bl_get 203 _ 202 (by omega))
  have f0 := O2.out.frozen 200
  have f1 := O2.out.frozen 201
  have f2 := O2.out.frozen 202
  have hp : (z.p : Int) ≤ 192 := by have := H.out.ok.p; have := H.out.hi; omega
  go_wp2_with fail
  go_region
  have HE1 : Hid (w.heap.size ≤ g) := by rw [HG.out]; exact Nat.le_refl _
  have O3 : Hid (Blk ((W2.setCell ⟨g, 200, none⟩ (.int .u8 ((z.p : Int) / 256))).setCell ⟨g, 201, none⟩ (.int .u8 (z.p : Int))).drew g (((put (bl 203 (fun _ => 0)) 0 (bl 200 z.f)).set 200 (.int .u8 ((z.p : Int) / 256))).set 201 (.int .u8 (z.p : Int))) 5) := ((O2.out.set 200 _).set 201 _).drewN 1
  have B3 : Hid (Blk ((W2.setCell ⟨g, 200, none⟩ (.int .u8 ((z.p : Int) / 256))).setCell ⟨g, 201, none⟩ (.int .u8 (z.p : Int))).drew b (spc r sf z.f z.p sh) 109) := ((B2.out.other hne _ _).other hne _ _).drewN 1
  have E3 : Hid (Below w.heap.size w ((W2.setCell ⟨g, 200, none⟩ (.int .u8 ((z.p : Int) / 256))).setCell ⟨g, 201, none⟩ (.int .u8 (z.p : Int))).drew) := by
    have e1 := below_set HBE.out g 200 (.int .u8 ((z.p : Int) / 256)) HE1.out HBE.out.size
    exact below_drew' (below_set e1 g 201 (.int .u8 (z.p : Int)) HE1.out e1.size) 1
  obtain ⟨W3, hW3⟩ : ∃ x, ((W2.setCell ⟨g, 200, none⟩ (.int .u8 ((z.p : Int) / 256))).setCell ⟨g, 201, none⟩ (.int .u8 (z.p : Int))).drew = x := ⟨_, rfl⟩
  rw [hW3] at O3 B3 E3
  rw [hW3]
  clear hW3 cp cs g0 g1 g2 f0 f1 f2 HBE O2 B2
  have cs := B3.out.cell 203 _ (spc_s _ _ _ _ _)
  have g2 := O3.out.cell 202 (.int .u8 0) (by rw [List.getElem?_set, if_neg (by omega), List.getElem?_set, if_neg (by omega), put_get _ _ _ _ (by rw [bl_length, bl_length]; omega), bl_length, if_neg (by omega)]; exact bl_get 203 _ 202 (by omega))
  have f2 := O3.out.frozen 202
  cases sh with
  | true =>
    have M := hid (made_form z true ((z.p : Int) / 256) (z.p : Int) 1 (by omega) (by omega) rfl)
    go_wp2
    go_ret
    rw [HG.out]
    have E4 := below_set E3.out g 202 (.int .u8 1) HE1.out E3.out.size
    rw [HG.out] at E4
    refine ⟨rfl, ?_, E4⟩
    rw [← M.out]
    exact O3.out.set 202 _
  | false =>
    have M := hid (made_form z false ((z.p : Int) / 256) (z.p : Int) 0 (by omega) (by omega) rfl)
    go_wp2
    go_ret
    rw [HG.out]
    have E4 := E3.out
    rw [HG.out] at E4
    refine ⟨rfl, ?_, E4⟩
    rw [← M.out]
    have e : (((put (bl 203 (fun _ => 0)) 0 (bl 200 z.f)).set 200 (.int .u8 ((z.p : Int) / 256))).set 201 (.int .u8 (z.p : Int))).set 202 (.int .u8 0) = ((put (bl 203 (fun _ => 0)) 0 (bl 200 z.f)).set 200 (.int .u8 ((z.p : Int) / 256))).set 201 (.int .u8 (z.p : Int)) := by
      apply List.ext_getElem?
      intro i
      rw [List.getElem?_set]
      by_cases hi : 202 = i
      · subst hi
        rw [if_pos rfl]
        simp only [List.length_set, put_length, bl_length]
        rw [if_pos (by omega), List.getElem?_set, if_neg (by omega), List.getElem?_set, if_neg (by omega), put_get _ _ _ _ (by rw [bl_length, bl_length]; omega), bl_length, if_neg (by omega), bl_get 203 _ 202 (by omega)]
      · rw [if_neg hi]
    rw [e]
    exact O3.out
theorem form_no (b : Nat) (w : World) (h : NoSp w b) : Calls Tryz.prog 64 #[.pointer (some ⟨b, 0, none⟩)] w fun e w' => e = .returned (.slice none 0 0) ∧ w' = w := by
  have h0 := h.c0
  clear h
  go_enter Tryz.func64, Tryz.ntmps64
  go_wp2_with (go_at_call 71; refine (isNone_no _ _ h0).mono ?_; rintro e w' ⟨rfl, rfl⟩)
  go_ret
  exact ⟨rfl, rfl⟩
theorem form_nil (w : World) : Calls Tryz.prog 64 #[.pointer none] w fun e w' => e = .returned (.slice none 0 0) ∧ w' = w := by
  go_enter Tryz.func64, Tryz.ntmps64
  go_wp2_with (go_at_call 71; refine (isNone_nil _).mono ?_; rintro e w' ⟨rfl, rfl⟩)
  go_ret
  exact ⟨rfl, rfl⟩
end Go.Proofs.YtnhhkoekghjogaaGreatDoor.Kc
