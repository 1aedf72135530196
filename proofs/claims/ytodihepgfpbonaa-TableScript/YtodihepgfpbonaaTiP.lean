/- The calls of a table of the type turnkeylaw19.Pair, for every table and world. -/
import Derived.Test.YtodihepgfpbonaaTtb
namespace Go.Proofs.Ytodihepgfpbonaa.Tb.P
open Go.ChangeShapes Go.WideShapes Go.ChangeAt Go.RowKit
abbrev V := Int × Int
/-- A thing as a value, and as cells. -/
abbrev vv (x : V) : Value := .agg #[.int .i64 x.1, .int .i64 x.2]
abbrev vc (x : V) : List Value := [.int .i64 x.1, .int .i64 x.2]
abbrev vz : V := (0, 0)
abbrev vt : TypeId := 31
abbrev tt : TypeId := 71
abbrev at' : TypeId := 69
theorem zc : Try.zeroCells71 = (tc 0 (fun _ => none)).toArray := by kernel_rfl
/-- What a table that is none may be: nil, or nobody's. -/
def NoT (w : World) (p : Value) : Prop := p = .pointer none ∨ ∃ b, p = .pointer (some ⟨b, 0, none⟩) ∧ Blk w b (tc 0 (fun _ => none)) tt
theorem NoT.below {w w' : World} {p : Value} (h : NoT w p) (hb : Below w.heap.size w w') : NoT w' p := h.imp id (fun ⟨b, e, h⟩ => ⟨b, e, h.below hb⟩)
theorem isNone_no (p : Value) (w : World) (h : NoT w p) : Calls Try.prog 58 #[p] w fun e w' => e = .returned (.bool true) ∧ w' = w := by
  rcases h with rfl | ⟨b, rfl, h⟩
  · go_enter Try.func58, Try.ntmps58
    go_wp2
    go_ret
    exact ⟨rfl, rfl⟩
  · have h0 := h.cell 0 _ rfl
    clear h
    go_enter Try.func58, Try.ntmps58
    go_wp2
    go_ret
    exact ⟨rfl, rfl⟩
theorem isNone_t (b m : Nat) (w : World) (h0 : w.cell? ⟨b, 0, none⟩ = some (.int .i64 m)) (h1 : 1 ≤ m) : Calls Try.prog 58 #[.pointer (some ⟨b, 0, none⟩)] w fun e w' => e = .returned (.bool false) ∧ w' = w := by
  have d : ((m : Int) == 0) = false := by simp; omega
  go_enter Try.func58, Try.ntmps58
  go_wp2
  go_ret
  exact ⟨rfl, rfl⟩
theorem new_ok (n : Nat) (w : World) (h1 : 1 ≤ n) (h2 : n ≤ 64) : Calls Try.prog 8 #[.int .i64 n] w fun e w' => e = .returned (.tuple #[.pointer (some ⟨w.heap.size, 0, none⟩), .int .i64 0]) ∧ Blk w' w.heap.size (tc n (fun _ => none)) tt ∧ Below w.heap.size w w' := by
  have d1 : ¬ (n : Int) < 1 := by omega
  have d2 : ¬ (64 : Int) < n := by omega
  go_enter Try.func8, Try.ntmps8
  go_wp2
  go_ret2
  refine ⟨rfl, ?_, below_alloc _ _⟩
  rw [zc]
  exact Blk.newAt w _ _ _ _ rfl (by simp [tc])
theorem new_no (n : Int) (w : World) (h : n < 1 ∨ 64 < n) : Calls Try.prog 8 #[.int .i64 n] w fun e w' => e = .returned (.tuple #[.pointer none, .int .i64 2]) ∧ w' = w := by
  by_cases d1 : n < 1
  · go_enter Try.func8, Try.ntmps8
    go_wp2
    go_ret2
    exact ⟨rfl, rfl⟩
  · have d2 : (64 : Int) < n := by omega
    go_enter Try.func8, Try.ntmps8
    go_wp2
    go_ret2
    exact ⟨rfl, rfl⟩
theorem ref_no (p : Value) (h : Int) (w : World) (hp : NoT w p) : Calls Try.prog 59 #[p, .int .i64 h] w fun e w' => e = .returned (.int .i64 1) ∧ w' = w := by
  have H := hid hp
  clear hp
  go_enter Try.func59, Try.ntmps59
  go_wp2_with (go_at_call 58; refine (isNone_no _ _ H.out).mono ?_; rintro e w ⟨rfl, rfl⟩)
  go_ret
  exact ⟨rfl, rfl⟩
/-- Is a number held? -/
def heldN (ps : Ps) (m : Nat) (h : Int) : Bool := decide (0 ≤ h) && decide (h < m) && (ps h.toNat).isSome
theorem ref_t (b m : Nat) (ps : Ps) (h : Int) (w : World) (hb : Blk w b (tc m ps) tt) (h1 : 1 ≤ m) (h2 : m ≤ 64) : Calls Try.prog 59 #[.pointer (some ⟨b, 0, none⟩), .int .i64 h] w fun e w' => e = .returned (.int .i64 (if heldN ps m h then 0 else 5)) ∧ w' = w := by
  have c0 := hb.cell 0 _ rfl
  have HB := hid hb
  clear hb
  by_cases l0 : h < 0
  · have hh : heldN ps m h = false := by simp [heldN]; omega
    rw [hh]
    go_enter Try.func59, Try.ntmps59
    go_wp2_with (go_at_call 58; refine (isNone_t _ _ _ c0 h1).mono ?_; rintro e w ⟨rfl, rfl⟩)
    go_ret
    exact ⟨rfl, rfl⟩
  · by_cases l1 : h < m
    · obtain ⟨k, rfl⟩ : ∃ k : Nat, h = k := ⟨h.toNat, by omega⟩
      have ck := HB.out.cell (1 + k) _ (tc_p _ ps k (by omega))
      have l2 : ¬ (m : Int) ≤ k := by omega
      have l3 : (0 : Int) ≤ k := by omega
      have l4 : (k : Int) < 64 := by omega
      have e1 : heldN ps m k = (ps k).isSome := by simp [heldN]; omega
      rw [e1]
      cases ep : ps k with
      | none =>
        rw [ep] at ck
        simp only [pv, Option.map_none] at ck
        go_enter Try.func59, Try.ntmps59
        go_wp2_with (go_at_call 58; refine (isNone_t _ _ _ c0 h1).mono ?_; rintro e w ⟨rfl, rfl⟩)
        go_ret
        exact ⟨rfl, rfl⟩
      | some g =>
        rw [ep] at ck
        simp only [pv, Option.map_some] at ck
        go_enter Try.func59, Try.ntmps59
        go_wp2_with (go_at_call 58; refine (isNone_t _ _ _ c0 h1).mono ?_; rintro e w ⟨rfl, rfl⟩)
        go_ret
        exact ⟨rfl, rfl⟩
    · have hh : heldN ps m h = false := by simp [heldN]; omega
      rw [hh]
      have l2 : (m : Int) ≤ h := by omega
      go_enter Try.func59, Try.ntmps59
      go_wp2_with (go_at_call 58; refine (isNone_t _ _ _ c0 h1).mono ?_; rintro e w ⟨rfl, rfl⟩)
      go_ret
      exact ⟨rfl, rfl⟩
/-- What Get tells. -/
def gt (x : Option V) : Value := .tuple #[vv (x.getD vz), .int .i64 (if x.isSome then 0 else 5)]
def LDv (a : Addr) : Sem Value := loadVar vt a
def SVv (a : Addr) (v : Value) : Sem Unit := storeVar vt a v
@[go_sem ↓ high] theorem ldv (a : Addr) : loadVar 31 a = LDv a := rfl
@[go_sem ↓ high] theorem svv (a : Addr) (v : Value) : storeVar 31 a v = SVv a v := rfl
theorem infov (x : V) : (Try.prog.info? vt).map (·.size) = some (vc x).length := by kernel_rfl
theorem vc_one (x : V) : ∀ u ∈ vc x, u.oneCell' = true := by
  intro u hu
  simp only [vc, List.mem_cons, List.not_mem_nil, or_false] at hu
  rcases hu with rfl | rfl <;> rfl
theorem LDv_run {W : World} {g : Nat} {x : V} (h : Blk W g (vc x) vt) : (LDv ⟨g, 0, none⟩).run Try.prog W = .ok (vv x) W :=
  run_loadVar_mid W g 0 _ (vc x) _ (h.range 0 _ (fun _ _ hv => by rw [Nat.zero_add]; exact hv)) Try.underlying31 rfl (infov x)
theorem SVv_run {W : World} {g : Nat} {y x : V} (h : Blk W g (vc y) vt) : ∃ W', (SVv ⟨g, 0, none⟩ (vv x)).run Try.prog W = .ok () W' ∧ Blk W' g (vc x) vt ∧ Kp (fun j => j = g) W W' := by
  refine ⟨W.setCells g 0 (vc x), run_storeVar_mid W g 0 _ (vc x).toArray (h.there 0 _ (by simp)) (by simpa using infov x) (all_oneCell_toArray (vc_one x)), ?_, Kp.setCells g 0 _⟩
  have := h.put 0 (vc x)
  rw [put_all (vc y) (vc x) rfl] at this
  exact this
theorem get_no (p : Value) (h : Int) (w : World) (hp : NoT w p) : Calls Try.prog 39 #[p, .int .i64 h] w fun e w' => e = .returned (.tuple #[vv vz, .int .i64 1]) ∧ Below w.heap.size w w' := by
  obtain ⟨W, hW⟩ : ∃ W, w.alloc (.cells #[.int .i64 0, .int .i64 0] 31) = W := ⟨_, rfl⟩
  have HR : Hid (Blk W w.heap.size (vc vz) vt) := by rw [← hW]; exact Blk.new _ _ _
  have HB : Hid (Below w.heap.size w W) := by rw [← hW]; exact below_alloc _ _
  have H := hid (hp.below HB.out)
  obtain ⟨W2, hW2⟩ : ∃ W2, W.alloc (.cells #[.int .i64 0, .int .i64 0] 31) = W2 := ⟨_, rfl⟩
  have l1 : (LDv ⟨W.heap.size, 0, none⟩).run Try.prog W2 = .ok (vv vz) W2 := LDv_run (by rw [← hW2]; exact Blk.new _ _ _)
  have HR2 : Hid (Blk W2 w.heap.size (vc vz) vt) := by rw [← hW2]; exact HR.out.alloc _
  have HB2 : Hid (Below w.heap.size w W2) := by rw [← hW2]; exact below_next HB.out (below_alloc _ _)
  obtain ⟨W3, s1, hb3, hk3⟩ := SVv_run (x := vz) HR2.out
  have HB3 : Hid (Below w.heap.size w W3) := HB2.out.trans (hk3.below HB2.out.size (fun k hk e => by omega))
  have HL := hid (LDv_run hb3)
  clear hp hk3 hb3
  go_enter Try.func39, Try.ntmps39
  go_wp2_with (go_at_call 59; refine (ref_no _ _ _ H.out).mono ?_; rintro e W ⟨rfl, rfl⟩)
  refine bodyPost_ret (results_cell2 rfl rfl rfl HL.out) rfl ?_
  exact ⟨rfl, HB3.out⟩
theorem get_t (b m : Nat) (ps : Ps) (h : Int) (x : Option V) (w : World) (hb : Blk w b (tc m ps) tt) (h1 : 1 ≤ m) (h2 : m ≤ 64) (hx : x.isSome = heldN ps m h) (hg : ∀ v, x = some v → ∃ g, ps h.toNat = some g ∧ Blk w g (vc v) vt) :
    Calls Try.prog 39 #[.pointer (some ⟨b, 0, none⟩), .int .i64 h] w fun e w' => e = .returned (gt x) ∧ Below w.heap.size w w' := by
  obtain ⟨W, hW⟩ : ∃ W, w.alloc (.cells #[.int .i64 0, .int .i64 0] 31) = W := ⟨_, rfl⟩
  have HR : Hid (Blk W w.heap.size (vc vz) vt) := by rw [← hW]; exact Blk.new _ _ _
  have HBW : Hid (Below w.heap.size w W) := by rw [← hW]; exact below_alloc _ _
  have HB := hid (hb.below HBW.out)
  have c0 := HB.out.cell 0 _ rfl
  clear hb
  cases x with
  | none =>
    have e1 : heldN ps m h = false := hx.symm
    obtain ⟨W2, hW2⟩ : ∃ W2, W.alloc (.cells #[.int .i64 0, .int .i64 0] 31) = W2 := ⟨_, rfl⟩
    have l1 : (LDv ⟨W.heap.size, 0, none⟩).run Try.prog W2 = .ok (vv vz) W2 := LDv_run (by rw [← hW2]; exact Blk.new _ _ _)
    have HR2 : Hid (Blk W2 w.heap.size (vc vz) vt) := by rw [← hW2]; exact HR.out.alloc _
    have HB2 : Hid (Below w.heap.size w W2) := by rw [← hW2]; exact below_next HBW.out (below_alloc _ _)
    obtain ⟨W3, s1, hb3, hk3⟩ := SVv_run (x := vz) HR2.out
    have HB3 : Hid (Below w.heap.size w W3) := HB2.out.trans (hk3.below HB2.out.size (fun k hk e => by omega))
    have HL := hid (LDv_run hb3)
    clear hg hx hk3 hb3
    go_enter Try.func39, Try.ntmps39
    go_wp2_with (go_at_call 59; refine (ref_t _ _ _ _ _ HB.out h1 h2).mono ?_; rintro e W ⟨rfl, rfl⟩; rw [e1])
    refine bodyPost_ret (results_cell2 rfl rfl rfl HL.out) rfl ?_
    exact ⟨rfl, HB3.out⟩
  | some v =>
    have e1 : heldN ps m h = true := hx.symm
    obtain ⟨g, hpg, hgb⟩ := hg v rfl
    have l : (0 ≤ h ∧ h < m) := by simp [heldN] at e1; omega
    obtain ⟨k, rfl⟩ : ∃ k : Nat, h = k := ⟨h.toNat, by omega⟩
    have ck := HB.out.cell (1 + k) _ (tc_p _ ps k (by omega))
    rw [show ps k = some g from hpg] at ck
    simp only [pv, Option.map_some] at ck
    have l1 := LDv_run (hgb.below HBW.out)
    have l3 : (0 : Int) ≤ k := by omega
    have l4 : (k : Int) < 64 := by omega
    obtain ⟨W3, s1, hb3, hk3⟩ := SVv_run (x := v) HR.out
    have HB3 : Hid (Below w.heap.size w W3) := HBW.out.trans (hk3.below HBW.out.size (fun k hk e => by omega))
    have HL := hid (LDv_run hb3)
    clear hg hx hpg hgb hk3 hb3
    go_enter Try.func39, Try.ntmps39
    go_wp2_with (go_at_call 59; refine (ref_t _ _ _ _ _ HB.out h1 h2).mono ?_; rintro e W ⟨rfl, rfl⟩; rw [e1])
    refine bodyPost_ret (results_cell2 rfl rfl rfl HL.out) rfl ?_
    exact ⟨rfl, HB3.out⟩
theorem set_no (p : Value) (h : Int) (x : V) (w : World) (hp : NoT w p) : Calls Try.prog 40 #[p, .int .i64 h, vv x] w fun e w' => e = .returned (.int .i64 1) ∧ Below w.heap.size w w' := by
  have H := hid (hp.below (below_alloc w (.cells (vc x).toArray vt)))
  clear hp
  go_enter Try.func40, Try.ntmps40
  go_wp2_with (go_at_call 59; refine (ref_no _ _ _ H.out).mono ?_; rintro e w ⟨rfl, rfl⟩)
  go_ret
  exact ⟨rfl, below_alloc _ _⟩
theorem set_bad (b m : Nat) (ps : Ps) (h : Int) (x : V) (w : World) (hb : Blk w b (tc m ps) tt) (h1 : 1 ≤ m) (h2 : m ≤ 64) (hx : heldN ps m h = false) :
    Calls Try.prog 40 #[.pointer (some ⟨b, 0, none⟩), .int .i64 h, vv x] w fun e w' => e = .returned (.int .i64 5) ∧ Below w.heap.size w w' := by
  have HB := hid (hb.alloc (.cells (vc x).toArray vt))
  clear hb
  go_enter Try.func40, Try.ntmps40
  go_wp2_with (go_at_call 59; refine (ref_t _ _ _ _ _ HB.out h1 h2).mono ?_; rintro e w ⟨rfl, rfl⟩; rw [hx])
  go_ret
  exact ⟨rfl, below_alloc _ _⟩
theorem set_ok (b m : Nat) (ps : Ps) (k : Nat) (x : V) (w : World) (hb : Blk w b (tc m ps) tt) (h1 : 1 ≤ m) (h2 : m ≤ 64) (hk : k < m) (hx : heldN ps m k = true) :
    Calls Try.prog 40 #[.pointer (some ⟨b, 0, none⟩), .int .i64 k, vv x] w fun e w' => e = .returned (.int .i64 0) ∧ Blk w' b (tc m (ups ps k (some w.heap.size))) tt ∧ Blk w' w.heap.size (vc x) vt ∧ Kp (fun j => j = b) w w' := by
  obtain ⟨W, hW⟩ : ∃ W, w.alloc (.cells (vc x).toArray vt) = W := ⟨_, rfl⟩
  have HB : Hid (Blk W b (tc m ps) tt) := by rw [← hW]; exact hb.alloc _
  have HN : Hid (Blk W w.heap.size (vc x) vt) := by rw [← hW]; exact Blk.new _ _ _
  have HK : Hid (Below w.heap.size w W) := by rw [← hW]; exact below_alloc _ _
  have ck := HB.out.cell (1 + k) _ (tc_p _ ps k (by omega))
  have fk := HB.out.frozen (1 + k)
  have l3 : (0 : Int) ≤ k := by omega
  have l4 : (k : Int) < 64 := by omega
  have hlt := hb.lt
  clear hb
  go_enter Try.func40, Try.ntmps40
  go_wp2_with (go_at_call 59; refine (ref_t _ _ _ _ _ HB.out h1 h2).mono ?_; rintro e W ⟨rfl, rfl⟩; rw [hx])
  go_ret
  have hs := HB.out.set (1 + k) (pv (some w.heap.size))
  rw [tc_set] at hs
  exact ⟨rfl, hs, HN.out.other (by omega) _ _, (Kp.of_below (fun j => j = b) HK.out).trans (Kp.setCell b (1 + k) _) (fun _ _ e => e)⟩
theorem drop_no (p : Value) (h : Int) (w : World) (hp : NoT w p) : Calls Try.prog 41 #[p, .int .i64 h] w fun e w' => e = .returned (.tuple #[vv vz, .int .i64 1]) ∧ Below w.heap.size w w' := by
  obtain ⟨W, hW⟩ : ∃ W, w.alloc (.cells #[.int .i64 0, .int .i64 0] 31) = W := ⟨_, rfl⟩
  have HR : Hid (Blk W w.heap.size (vc vz) vt) := by rw [← hW]; exact Blk.new _ _ _
  have HB : Hid (Below w.heap.size w W) := by rw [← hW]; exact below_alloc _ _
  have H := hid (hp.below HB.out)
  clear hp
  go_enter Try.func41, Try.ntmps41
  go_wp2_with fail
  refine (get_no _ _ _ H.out).mono ?_
  rintro e W1 ⟨rfl, hb1⟩
  obtain ⟨W2, hW2⟩ : ∃ W2, W1.alloc (.cells #[.int .i64 0, .int .i64 0] 31) = W2 := ⟨_, rfl⟩
  obtain ⟨W3, s1, hb3, hk3⟩ := SVv_run (x := vz) (show Blk W2 W1.heap.size (vc vz) vt by rw [← hW2]; exact Blk.new _ _ _)
  have l1 := LDv_run hb3
  have hR3 : Blk W3 w.heap.size (vc vz) vt := by
    refine ((HR.out.below hb1).below (w' := W2) (by rw [← hW2]; exact below_alloc _ _)).kept hk3 ?_
    have := HR.out.lt; have := hb1.size; omega
  obtain ⟨W4, s2, hb4, hk4⟩ := SVv_run (x := vz) hR3
  have HL := hid (LDv_run hb4)
  have HE : Hid (Below w.heap.size w W4) := by
    have z := HB.out.size
    have b1 := below_next HB.out hb1
    have b2 : Below w.heap.size w W2 := below_next b1 (by rw [← hW2]; exact below_alloc _ _)
    have b3 := b2.trans (hk3.below b2.size (fun k hk e => by have := b1.size; omega))
    exact b3.trans (hk4.below b3.size (fun k hk e => by omega))
  clear hb3 hk3 hR3 hb4 hk4 hb1
  go_wp2
  refine bodyPost_ret (results_cell2 rfl rfl rfl HL.out) rfl ?_
  exact ⟨rfl, HE.out⟩
set_option maxRecDepth 8000 in
theorem drop_bad (b m : Nat) (ps : Ps) (h : Int) (w : World) (hb : Blk w b (tc m ps) tt) (h1 : 1 ≤ m) (h2 : m ≤ 64) (hx : heldN ps m h = false) :
    Calls Try.prog 41 #[.pointer (some ⟨b, 0, none⟩), .int .i64 h] w fun e w' => e = .returned (gt none) ∧ Below w.heap.size w w' := by
  obtain ⟨W, hW⟩ : ∃ W, w.alloc (.cells #[.int .i64 0, .int .i64 0] 31) = W := ⟨_, rfl⟩
  have HR : Hid (Blk W w.heap.size (vc vz) vt) := by rw [← hW]; exact Blk.new _ _ _
  have HB : Hid (Below w.heap.size w W) := by rw [← hW]; exact below_alloc _ _
  have H := hid (hb.below HB.out)
  clear hb
  go_enter Try.func41, Try.ntmps41
  go_wp2_with fail
  refine (get_t _ _ _ _ none _ H.out h1 h2 (by rw [hx]; rfl) (fun _ e => by cases e)).mono ?_
  rintro e W1 ⟨rfl, hb1⟩
  simp only [gt, Option.getD_none, Option.isSome_none, Bool.false_eq_true, if_false]
  obtain ⟨W2, hW2⟩ : ∃ W2, W1.alloc (.cells #[.int .i64 0, .int .i64 0] 31) = W2 := ⟨_, rfl⟩
  obtain ⟨W3, s1, hb3, hk3⟩ := SVv_run (x := vz) (show Blk W2 W1.heap.size (vc vz) vt by rw [← hW2]; exact Blk.new _ _ _)
  have l1 := LDv_run hb3
  have hR3 : Blk W3 w.heap.size (vc vz) vt := by
    refine ((HR.out.below hb1).below (w' := W2) (by rw [← hW2]; exact below_alloc _ _)).kept hk3 ?_
    have := HR.out.lt; have := hb1.size; omega
  obtain ⟨W4, s2, hb4, hk4⟩ := SVv_run (x := vz) hR3
  have HL := hid (LDv_run hb4)
  have HE : Hid (Below w.heap.size w W4) := by
    have z := HB.out.size
    have b1 := below_next HB.out hb1
    have b2 : Below w.heap.size w W2 := below_next b1 (by rw [← hW2]; exact below_alloc _ _)
    have b3 := b2.trans (hk3.below b2.size (fun k hk e => by have := b1.size; omega))
    exact b3.trans (hk4.below b3.size (fun k hk e => by omega))
  clear hb3 hk3 hR3 hb4 hk4 hb1
  go_wp2
  refine bodyPost_ret (results_cell2 rfl rfl rfl HL.out) rfl ?_
  exact ⟨rfl, HE.out⟩
set_option maxRecDepth 8000 in
theorem drop_ok (b m : Nat) (ps : Ps) (k g : Nat) (x : V) (w : World) (hb : Blk w b (tc m ps) tt) (h1 : 1 ≤ m) (h2 : m ≤ 64) (hk : k < m) (hp : ps k = some g) (hg : Blk w g (vc x) vt) :
    Calls Try.prog 41 #[.pointer (some ⟨b, 0, none⟩), .int .i64 k] w fun e w' => e = .returned (gt (some x)) ∧ Blk w' b (tc m (ups ps k none)) tt ∧ Kp (fun j => j = b) w w' := by
  obtain ⟨W, hW⟩ : ∃ W, w.alloc (.cells #[.int .i64 0, .int .i64 0] 31) = W := ⟨_, rfl⟩
  have HR : Hid (Blk W w.heap.size (vc vz) vt) := by rw [← hW]; exact Blk.new _ _ _
  have HB : Hid (Below w.heap.size w W) := by rw [← hW]; exact below_alloc _ _
  have H := hid (hb.below HB.out)
  have hlt := hb.lt
  have hx : Hid (heldN ps m k = true) := by simp [Hid, heldN, hp]; omega
  have HG : Hid (∀ v, some x = some v → ∃ g, ps (k : Int).toNat = some g ∧ Blk W g (vc v) vt) := fun v e => by cases e; exact ⟨g, hp, hg.below HB.out⟩
  have l3 : (0 : Int) ≤ k := by omega
  have l4 : (k : Int) < 64 := by omega
  clear hb hg hp
  go_enter Try.func41, Try.ntmps41
  go_wp2_with fail
  refine (get_t _ _ _ _ (some x) _ H.out h1 h2 (by rw [hx.out]; rfl) HG.out).mono ?_
  rintro e W1 ⟨rfl, hb1⟩
  simp only [gt, Option.getD_some, Option.isSome_some, if_true]
  obtain ⟨W2, hW2⟩ : ∃ W2, W1.alloc (.cells #[.int .i64 0, .int .i64 0] 31) = W2 := ⟨_, rfl⟩
  obtain ⟨W3, s1, hb3, hk3⟩ := SVv_run (x := x) (show Blk W2 W1.heap.size (vc vz) vt by rw [← hW2]; exact Blk.new _ _ _)
  have z1 := HB.out.size
  have z2 := hb1.size
  have z3 := HR.out.lt
  have hT3 : Blk W3 b (tc m ps) tt := by
    refine ((H.out.below hb1).below (w' := W2) (by rw [← hW2]; exact below_alloc _ _)).kept hk3 ?_
    omega
  have ck := hT3.cell (1 + k) _ (tc_p _ ps k (by omega))
  have fk := hT3.frozen (1 + k)
  obtain ⟨W4, hW4⟩ : ∃ W4, W3.setCell ⟨b, 1 + k, none⟩ (.pointer none) = W4 := ⟨_, rfl⟩
  have hT4 := hT3.set (1 + k) (pv none)
  rw [tc_set] at hT4
  have k4 : Kp (fun j => j = b) W3 W4 := by rw [← hW4]; exact Kp.setCell b (1 + k) _
  rw [show W3.setCell ⟨b, 1 + k, none⟩ (pv none) = W4 from hW4] at hT4
  have l1 := LDv_run (hb3.kept k4 (by omega))
  have hR4 : Blk W4 w.heap.size (vc vz) vt := by
    refine (((HR.out.below hb1).below (w' := W2) (by rw [← hW2]; exact below_alloc _ _)).kept hk3 (by omega)).kept k4 (by omega)
  obtain ⟨W5, s2, hb5, hk5⟩ := SVv_run (x := x) hR4
  have HL := hid (LDv_run hb5)
  have HT5 : Hid (Blk W5 b (tc m (ups ps k none)) tt) := hT4.kept hk5 (by omega)
  have HE : Hid (Kp (fun j => j = b) w W5) := by
    have b1 := below_next HB.out hb1
    have b2 : Below w.heap.size w W2 := below_next b1 (by rw [← hW2]; exact below_alloc _ _)
    have b3 := b2.trans (hk3.below b2.size (fun k hk e => by have := b1.size; omega))
    exact ((Kp.of_below (fun j => j = b) b3).trans k4 (fun _ _ e => e)).trans hk5 (fun i hi e => by omega)
  clear hb3 hk3 hT3 hT4 hR4 k4 hb5 hk5 hb1
  go_wp2
  refine bodyPost_ret (results_cell2 rfl rfl rfl HL.out) rfl ?_
  exact ⟨rfl, HT5.out, HE.out⟩
theorem add_no (p : Value) (x : V) (w : World) (hp : NoT w p) : Calls Try.prog 37 #[p, vv x] w fun e w' => e = .returned (.tuple #[.int .i64 0, .int .i64 1]) ∧ Below w.heap.size w w' := by
  have H := hid (hp.below (below_alloc w (.cells (vc x).toArray vt)))
  clear hp
  go_enter Try.func37, Try.ntmps37
  go_wp2_with (go_at_call 58; refine (isNone_no _ _ H.out).mono ?_; rintro e w ⟨rfl, rfl⟩)
  go_ret2
  exact ⟨rfl, below_alloc _ _⟩
set_option maxHeartbeats 800000 in
theorem add_ok (b m : Nat) (ps : Ps) (k : Nat) (x : V) (w : World) (hb : Blk w b (tc m ps) tt) (h1 : 1 ≤ m) (h2 : m ≤ 64) (hk : k < m) (hf : ps k = none) (ha : ∀ j, j < k → ps j ≠ none) :
    Calls Try.prog 37 #[.pointer (some ⟨b, 0, none⟩), vv x] w fun e w' => e = .returned (.tuple #[.int .i64 k, .int .i64 0]) ∧ Blk w' b (tc m (ups ps k (some w.heap.size))) tt ∧ Blk w' w.heap.size (vc x) vt ∧ Kp (fun j => j = b) w w' := by
  obtain ⟨W, hW⟩ : ∃ W, w.alloc (.cells (vc x).toArray vt) = W := ⟨_, rfl⟩
  have HB : Hid (Blk W b (tc m ps) tt) := by rw [← hW]; exact hb.alloc _
  have HN : Hid (Blk W w.heap.size (vc x) vt) := by rw [← hW]; exact Blk.new _ _ _
  have HK : Hid (Below w.heap.size w W) := by rw [← hW]; exact below_alloc _ _
  have c0 := HB.out.cell 0 _ rfl
  have hlt := hb.lt
  have HF := hid hf
  have HA := hid ha
  clear hb hf ha
  go_enter Try.func37, Try.ntmps37
  go_wp2_with (go_at_call 58; refine (isNone_t _ _ _ c0 h1).mono ?_; rintro e W ⟨rfl, rfl⟩)
  go_loopw [13] (fun i wr => ∃ j : Nat, j ≤ k ∧ i = .int .i64 j ∧ wr = W) (fun i _ => m - (intOf i).toNat)
  case atStart => exact ⟨0, Nat.zero_le _, rfl, rfl⟩
  case round =>
    obtain ⟨j, hj, rfl, rfl⟩ := hrel
    have cj := HB.out.cell (1 + j) _ (tc_p _ ps j (by omega))
    have l3 : (0 : Int) ≤ j := by omega
    have l4 : (j : Int) < 64 := by omega
    have l5 : (j : Int) < m := by omega
    by_cases hjk : j < k
    · obtain ⟨g, hg⟩ : ∃ g, ps j = some g := by
        cases e : ps j with
        | none => exact absurd e (HA.out j hjk)
        | some g => exact ⟨g, rfl⟩
      rw [hg] at cj
      simp only [pv, Option.map_some] at cj
      clear hg
      go_wp2
      go_roundw
      case rel => exact ⟨j + 1, by omega, by go_num, trivial⟩
      case measure => simp [intOf]; omega
    · obtain rfl : j = k := by omega
      rw [HF.out] at cj
      simp only [pv, Option.map_none] at cj
      have fk := HB.out.frozen (1 + j)
      go_wp2
      go_ret2
      have hs := HB.out.set (1 + j) (pv (some w.heap.size))
      rw [tc_set] at hs
      exact ⟨rfl, hs, HN.out.other (by omega) _ _, (Kp.of_below (fun j => j = b) HK.out).trans (Kp.setCell b (1 + j) _) (fun _ _ e => e)⟩
theorem add_full (b m : Nat) (ps : Ps) (x : V) (w : World) (hb : Blk w b (tc m ps) tt) (h1 : 1 ≤ m) (h2 : m ≤ 64) (ha : ∀ j, j < m → ps j ≠ none) :
    Calls Try.prog 37 #[.pointer (some ⟨b, 0, none⟩), vv x] w fun e w' => e = .returned (.tuple #[.int .i64 0, .int .i64 8]) ∧ Below w.heap.size w w' := by
  obtain ⟨W, hW⟩ : ∃ W, w.alloc (.cells (vc x).toArray vt) = W := ⟨_, rfl⟩
  have HB : Hid (Blk W b (tc m ps) tt) := by rw [← hW]; exact hb.alloc _
  have HK : Hid (Below w.heap.size w W) := by rw [← hW]; exact below_alloc _ _
  have c0 := HB.out.cell 0 _ rfl
  have HA := hid ha
  clear hb ha
  go_enter Try.func37, Try.ntmps37
  go_wp2_with (go_at_call 58; refine (isNone_t _ _ _ c0 h1).mono ?_; rintro e W ⟨rfl, rfl⟩)
  go_loopw [13] (fun i wr => ∃ j : Nat, j ≤ m ∧ i = .int .i64 j ∧ wr = W) (fun i _ => m - (intOf i).toNat)
  case atStart => exact ⟨0, Nat.zero_le _, rfl, rfl⟩
  case round =>
    obtain ⟨j, hj, rfl, rfl⟩ := hrel
    by_cases hjk : j < m
    · have cj := HB.out.cell (1 + j) _ (tc_p _ ps j (by omega))
      have l3 : (0 : Int) ≤ j := by omega
      have l4 : (j : Int) < 64 := by omega
      have l5 : (j : Int) < m := by omega
      obtain ⟨g, hg⟩ : ∃ g, ps j = some g := by
        cases e : ps j with
        | none => exact absurd e (HA.out j hjk)
        | some g => exact ⟨g, rfl⟩
      rw [hg] at cj
      simp only [pv, Option.map_some] at cj
      clear hg
      go_wp2
      go_roundw
      case rel => exact ⟨j + 1, by omega, by go_num, trivial⟩
      case measure => simp [intOf]; omega
    · obtain rfl : j = m := by omega
      go_wp2
      go_ret2
      exact ⟨rfl, HK.out⟩
def LDa (a : Addr) : Sem Value := loadVar at' a
def SVa (a : Addr) (v : Value) : Sem Unit := storeVar at' a v
@[go_sem ↓ high] theorem lda (a : Addr) : loadVar 69 a = LDa a := rfl
@[go_sem ↓ high] theorem sva (a : Addr) (v : Value) : storeVar 69 a v = SVa a v := rfl
theorem infoa : (Try.prog.info? at').map (·.size) = some 64 := by kernel_rfl
theorem LDa_run {W : World} {g o : Nat} {ps : Ps} (h : W.rangeAt g o (pl ps)) : (LDa ⟨g, o, none⟩).run Try.prog W = .ok (av ps) W :=
  run_loadVar_mid W g o _ (pl ps) _ h Try.underlying69 rfl (by rw [pl_length]; exact infoa)
theorem LDa_t {W : World} {b : Nat} {m : Int} {ps : Ps} {t : TypeId} (h : Blk W b (tc m ps) t) : (LDa ⟨b, 1, none⟩).run Try.prog W = .ok (av ps) W :=
  LDa_run (h.range 1 _ (fun _ _ hv => tc_v _ _ _ _ hv))
theorem LDa_b {W : World} {b : Nat} {ps : Ps} {t : TypeId} (h : Blk W b (pl ps) t) : (LDa ⟨b, 0, none⟩).run Try.prog W = .ok (av ps) W :=
  LDa_run (h.range 0 _ (fun _ _ hv => by rw [Nat.zero_add]; exact hv))
theorem SVa_run {W : World} {b : Nat} {ps qs : Ps} {t : TypeId} (h : Blk W b (pl ps) t) : ∃ W', (SVa ⟨b, 0, none⟩ (av qs)).run Try.prog W = .ok () W' ∧ Blk W' b (pl qs) t ∧ Kp (fun j => j = b) W W' := by
  refine ⟨W.setCells b 0 (pl qs), run_storeVar_mid W b 0 _ (pl qs).toArray (h.there 0 _ (by simp [pl_length])) (by simpa [pl_length] using infoa) (all_oneCell_toArray (pl_one qs)), ?_, Kp.setCells b 0 _⟩
  have := h.put 0 (pl qs)
  rw [put_all (pl ps) (pl qs) (by rw [pl_length, pl_length])] at this
  exact this
theorem ixa (ps : Ps) (k : Nat) (hk : k < 64) (w : World) : (Instr.index at' (av ps) (.int .i64 k)).run Try.prog w = .ok (pv (ps k)) w := by
  have hidx := pl_get ps k hk
  have hsz := pl_length ps
  simp [Instr.index, av, go_sem, hk, hsz]
  exact (List.getElem?_eq_some_iff.1 hidx).2
theorem len_no (p : Value) (w : World) (hp : NoT w p) : Calls Try.prog 42 #[p] w fun e w' => e = .returned (.int .i64 0) ∧ w' = w := by
  have H := hid hp
  clear hp
  go_enter Try.func42, Try.ntmps42
  go_wp2_with (go_at_call 58; refine (isNone_no _ _ H.out).mono ?_; rintro e w ⟨rfl, rfl⟩)
  go_ret
  exact ⟨rfl, rfl⟩
theorem len_t (b m : Nat) (ps : Ps) (w : World) (hb : Blk w b (tc m ps) tt) (h1 : 1 ≤ m) : Calls Try.prog 42 #[.pointer (some ⟨b, 0, none⟩)] w fun e w' => e = .returned (.int .i64 (cnt ps 64)) ∧ w' = w := by
  have c0 := hb.cell 0 _ rfl
  have la := LDa_t hb
  clear hb
  go_enter Try.func42, Try.ntmps42
  go_wp2_with (go_at_call 58; refine (isNone_t _ _ _ c0 h1).mono ?_; rintro e w ⟨rfl, rfl⟩)
  go_loopw [3, 12] (fun n i wr => ∃ j : Nat, j ≤ 64 ∧ i = .int .i64 j ∧ n = .int .i64 (cnt ps j) ∧ wr = w) (fun _ i _ => 64 - (intOf i).toNat)
  case atStart => exact ⟨0, Nat.zero_le _, rfl, rfl, rfl⟩
  case round =>
    obtain ⟨j, hj, rfl, rfl, rfl⟩ := hrel
    by_cases hjk : j < 64
    · have l4 : (j : Int) < 64 := by omega
      have ix := ixa ps j hjk wr
      have cb := cnt_le ps j
      cases e : ps j with
      | none =>
        rw [e] at ix
        simp only [pv, Option.map_none] at ix
        have es : cnt ps (j + 1) = cnt ps j := by rw [cnt, e]; rfl
        clear e
        go_wp2
        go_roundw
        case rel => exact ⟨j + 1, by omega, by go_num, by rw [es], trivial⟩
        case measure => simp [intOf]; omega
      | some g =>
        rw [e] at ix
        simp only [pv, Option.map_some] at ix
        have es : cnt ps (j + 1) = cnt ps j + 1 := by rw [cnt, e]; rfl
        clear e
        go_wp2
        go_roundw
        case rel => exact ⟨j + 1, by omega, by go_num, by rw [es]; go_num, trivial⟩
        case measure => simp [intOf]; omega
    · obtain rfl : j = 64 := by omega
      go_wp2
      go_ret
      exact ⟨rfl, rfl⟩
theorem full_no (p : Value) (w : World) (hp : NoT w p) : Calls Try.prog 43 #[p] w fun e w' => e = .returned (.bool false) ∧ ∃ d, w' = w.drewN d := by
  have H := hid (show ∀ d, NoT (w.drewN d) p from fun d => hp)
  clear hp
  go_enter Try.func43, Try.ntmps43
  go_wp2_with fail
  go_quiet ((go_at_call 58; refine (isNone_no _ _ (H.out _)).mono ?_; rintro e w4 ⟨rfl, rfl⟩; exact ⟨rfl, _, rfl⟩))
  go_wp2
  go_ret
  exact ⟨rfl, _, rfl⟩
theorem full_t (b m : Nat) (ps : Ps) (w : World) (hb : Blk w b (tc m ps) tt) (h1 : 1 ≤ m) : Calls Try.prog 43 #[.pointer (some ⟨b, 0, none⟩)] w fun e w' => e = .returned (.bool (decide (cnt ps 64 = m))) ∧ ∃ d, w' = w.drewN d := by
  have c0 := hb.cell 0 _ rfl
  have C0 := hid (show ∀ d, (w.drewN d).cell? ⟨b, 0, none⟩ = some (.int .i64 m) from fun d => c0)
  have H := hid (show ∀ d, Blk (w.drewN d) b (tc m ps) tt from fun d => hb)
  clear hb
  go_enter Try.func43, Try.ntmps43
  go_wp2_with fail
  go_quiet (first | (go_at_call 58; refine (isNone_t _ _ _ (C0.out _) h1).mono ?_; rintro e w4 ⟨rfl, rfl⟩; exact ⟨rfl, _, rfl⟩) | (go_at_call 42; refine (len_t _ _ _ _ (H.out _) h1).mono ?_; rintro e w4 ⟨rfl, rfl⟩; exact ⟨rfl, _, rfl⟩))
  go_wp2
  go_ret
  have e : (((cnt ps 64 : Nat) : Int) == (m : Int)) = decide (cnt ps 64 = m) := by
    by_cases h : cnt ps 64 = m
    · rw [decide_eq_true h, h]; simp
    · rw [decide_eq_false h]; simp; omega
  refine ⟨?_, _, rfl⟩
  first
    | (show Ending.returned (.bool (((cnt ps 64 : Nat) : Int) == (m : Int))) = _; rw [e])
    | rfl
theorem all_no (p : Value) (w : World) (hp : NoT w p) : Calls Try.prog 44 #[p] w fun e w' => e = .returned (.func (.func 60) #[] #[.pointer (some ⟨w.heap.size, 0, none⟩)]) ∧ Blk w' w.heap.size (pl (fun _ => none)) at' ∧ Below w.heap.size w w' := by
  have H := hid hp
  clear hp
  go_enter Try.func44, Try.ntmps44
  go_wp2_with fail
  refine (isNone_no _ _ (H.out.below (below_alloc _ _))).mono ?_
  rintro e W ⟨rfl, hW⟩
  have HN : Hid (Blk W w.heap.size (pl (fun _ => none)) at') := by rw [hW]; exact Blk.newAt w _ _ _ _ rfl rfl
  have HK : Hid (Below w.heap.size w W) := by rw [hW]; exact below_alloc _ _
  clear hW
  go_wp2
  go_ret
  exact ⟨rfl, HN.out, HK.out⟩
theorem all_t (b m : Nat) (ps : Ps) (w : World) (hb : Blk w b (tc m ps) tt) (h1 : 1 ≤ m) : Calls Try.prog 44 #[.pointer (some ⟨b, 0, none⟩)] w fun e w' => e = .returned (.func (.func 60) #[] #[.pointer (some ⟨w.heap.size, 0, none⟩)]) ∧ Blk w' w.heap.size (pl ps) at' ∧ Below w.heap.size w w' := by
  have H := hid hb
  clear hb
  go_enter Try.func44, Try.ntmps44
  go_wp2_with fail
  refine (isNone_t _ m _ ((H.out.below (below_alloc _ _)).cell 0 _ rfl) h1).mono ?_
  rintro e W ⟨rfl, hW⟩
  have HN : Hid (Blk W w.heap.size (pl (fun _ => none)) at') := by rw [hW]; exact Blk.newAt w _ _ _ _ rfl rfl
  have HK : Hid (Below w.heap.size w W) := by rw [hW]; exact below_alloc _ _
  clear hW
  have la := LDa_t (H.out.below HK.out)
  obtain ⟨W2, sa, hb2, hk2⟩ := SVa_run (qs := ps) HN.out
  have HB2 := hid hb2
  have HK2 : Hid (Below w.heap.size w W2) := HK.out.trans (hk2.below HK.out.size (fun k hk e => by omega))
  clear hb2 hk2
  go_wp2
  go_ret
  exact ⟨rfl, HB2.out, HK2.out⟩
end Go.Proofs.Ytodihepgfpbonaa.Tb.P
