/- The document's table: each of its calls. -/
import Derived.Test.YtodihepgfpbonaaTmk
import Derived.Test.YtodihepgfpbonaaTpu
namespace Go.Proofs.Ytodihepgfpbonaa.Tb
open Go.ChangeShapes Go.WideShapes Go.ChangeAt Go.RowKit
/-- Numbers as cells. -/
def is (g : Nat → Int) (m : Nat) : List Value := (List.range m).map fun j => .int .i64 (g j)
theorem is_length (g : Nat → Int) (m : Nat) : (is g m).length = m := by simp [is]
theorem is_get (g : Nat → Int) (m k : Nat) (h : k < m) : (is g m)[k]? = some (.int .i64 (g k)) := by simp [is, h]
def upi (g : Nat → Int) (k : Nat) (x : Int) : Nat → Int := fun j => if j = k then x else g j
theorem is_set (g : Nat → Int) (m k : Nat) (x : Int) : (is g m).set k (.int .i64 x) = is (upi g k x) m := by
  apply List.ext_getElem?
  intro j
  rw [List.getElem?_set, is_length]
  by_cases h : j < m
  · rw [is_get _ _ _ h, is_get _ _ _ h]
    by_cases e : k = j
    · subst e; simp [h, upi]
    · rw [if_neg e]; simp [upi, Ne.symm e]
  · rw [List.getElem?_eq_none (by rw [is_length]; omega), List.getElem?_eq_none (by rw [is_length]; omega)]
    split
    · rw [if_neg (by omega)]
    · rfl
theorem infoI : (Try.prog.info? 3).map (fun i => (i.zero, i.size, i.bytes)) = some (some (.int .i64 0), 1, 8) := by kernel_rfl
theorem make_i (n : Nat) (hn : n ≤ 100) (w : World) : (Instr.makeSlice 72 (.int .i64 n) (.int .i64 n)).run Try.prog w = .ok (.slice (some ⟨w.heap.size, 0, none⟩) n n) (w.alloc (.cells (is (fun _ => 0) n).toArray 3)) := by
  obtain ⟨i0, hi, hz0, hz1, hz2⟩ := info_parts infoI
  have hr := run_make (P := Try.prog) w 72 3 i0 (.int .i64 0) Try.underlying72 hi hz0 .i64 .i64 n n (by omega) (by omega) (by rw [hz2]; omega) (by omega)
  have e : madeCells #[Value.int .i64 0] n = (is (fun _ => 0) n).toArray := by
    have h := toList_madeCells_one (Value.int .i64 0) n
    apply Array.toList_inj.1
    rw [h]
    apply List.ext_getElem?
    intro i
    by_cases hi : i < n
    · rw [show (is (fun _ => 0) n).toArray.toList = is (fun _ => 0) n from rfl, is_get _ _ _ hi]; simp [hi]
    · rw [List.getElem?_eq_none (by simp; omega), List.getElem?_eq_none (by simp [is]; omega)]
  simp only [Int.toNat_natCast, hz1, Nat.mul_one, Value.cells, e] at hr
  exact hr
/-- The document's table in memory: its own two cells, which numbers are held, what they stand for. -/
def rc (hb vb m : Nat) : List Value := [.slice (some ⟨hb, 0, none⟩) m m, .slice (some ⟨vb, 0, none⟩) m m]
structure RT (w : World) (b hb vb m : Nat) (f : Nat → Bool) (g : Nat → Int) : Prop where
  tb : Blk w b (rc hb vb m) 74
  hs : Blk w hb (bs f m) 4
  vs : Blk w vb (is g m) 3
theorem RT.below {w w' : World} {b hb vb m : Nat} {f : Nat → Bool} {g : Nat → Int} (h : RT w b hb vb m f g) (k : Below w.heap.size w w') : RT w' b hb vb m f g := ⟨h.tb.below k, h.hs.below k, h.vs.below k⟩
theorem RT.hv {w : World} {b hb vb m : Nat} {f : Nat → Bool} {g : Nat → Int} (h : RT w b hb vb m f g) : hb ≠ vb := h.hs.ne h.vs (by decide)
theorem rnew_no (n : Int) (w : World) (h : n < 1 ∨ 64 < n) : Calls Try.prog 9 #[.int .i64 n] w fun e w' => e = .returned (.tuple #[.pointer none, .int .i64 2]) ∧ w' = w := by
  by_cases d1 : n < 1
  · go_enter Try.func9, Try.ntmps9
    go_wp2
    go_ret2
    exact ⟨rfl, rfl⟩
  · have d2 : (64 : Int) < n := by omega
    go_enter Try.func9, Try.ntmps9
    go_wp2
    go_ret2
    exact ⟨rfl, rfl⟩
theorem nx {B : Nat} {A M C : World} (h : Below B A M) (k : Below M.heap.size M C) (hB : B ≤ A.heap.size := by exact Nat.le_refl _) : Below B A C := h.trans (k.mono (Nat.le_trans hB h.size))
theorem rnew_ok (n : Nat) (w : World) (h1 : 1 ≤ n) (h2 : n ≤ 64) : Calls Try.prog 9 #[.int .i64 n] w fun e w' => ∃ b hb vb, e = .returned (.tuple #[.pointer (some ⟨b, 0, none⟩), .int .i64 0]) ∧ RT w' b hb vb n (fun _ => false) (fun _ => 0) ∧ b ≠ hb ∧ b ≠ vb ∧ w.heap.size ≤ b ∧ w.heap.size ≤ hb ∧ w.heap.size ≤ vb ∧ Below w.heap.size w w' := by
  have d1 : ¬ (n : Int) < 1 := by omega
  have d2 : ¬ (64 : Int) < n := by omega
  have mb := fun W => make_b n (by omega) W
  have mi := fun W => make_i n (by omega) W
  go_enter Try.func9, Try.ntmps9
  go_wp2
  go_region
  · go_wp2
    go_ret2
    refine ⟨_, _, _, rfl, ⟨Blk.newAt _ _ _ _ _ (by simp) rfl, ((Blk.newAt _ _ _ _ _ rfl rfl).alloc _).alloc _, (Blk.newAt _ _ _ _ _ (by simp) rfl).alloc _⟩, by omega, by omega, by omega, by omega, by omega, ?_⟩
    exact nx (nx (nx (below_alloc w _) (below_alloc _ _)) (below_alloc _ _)) (below_drewN _ 1)
  · go_wp2
    go_ret2
    refine ⟨_, _, _, rfl, ⟨Blk.newAt _ _ _ _ _ (by simp) rfl, (Blk.newAt _ _ _ _ _ (by simp) rfl).alloc _, ((Blk.newAt _ _ _ _ _ rfl rfl).alloc _).alloc _⟩, by omega, by omega, by omega, by omega, by omega, ?_⟩
    exact nx (nx (nx (below_alloc w _) (below_alloc _ _)) (below_alloc _ _)) (below_drewN _ 1)
/-- Is a number held? -/
def hN (f : Nat → Bool) (m : Nat) (h : Int) : Bool := decide (0 ≤ h) && decide (h < m) && f h.toNat
theorem there_t (b hb vb m : Nat) (f : Nat → Bool) (g : Nat → Int) (h : Int) (w : World) (ht : RT w b hb vb m f g) : Calls Try.prog 56 #[.pointer (some ⟨b, 0, none⟩), .int .i64 h] w fun e w' => e = .returned (.bool (hN f m h)) ∧ w' = w := by
  have c0 := ht.tb.cell 0 _ rfl
  have HT := hid ht
  clear ht
  unfold hN
  by_cases l0 : 0 ≤ h
  · obtain ⟨k, rfl⟩ : ∃ k : Nat, h = k := ⟨h.toNat, by omega⟩
    by_cases l1 : (k : Int) < m
    · have ck := HT.out.hs.cell k _ (bs_get f m k (by omega))
      rw [decide_eq_true l0, decide_eq_true l1, Bool.true_and, Bool.true_and, Int.toNat_natCast]
      go_enter Try.func56, Try.ntmps56
      go_wp2
      go_ret
      exact ⟨rfl, rfl⟩
    · rw [decide_eq_true l0, decide_eq_false l1, Bool.true_and, Bool.false_and]
      go_enter Try.func56, Try.ntmps56
      go_wp2
      go_ret
      exact ⟨rfl, rfl⟩
  · rw [decide_eq_false l0, Bool.false_and, Bool.false_and]
    go_enter Try.func56, Try.ntmps56
    go_wp2
    go_ret
    exact ⟨rfl, rfl⟩
theorem hN_in {f : Nat → Bool} {m : Nat} {h : Int} (e : hN f m h = true) : ∃ k : Nat, h = k ∧ k < m := by
  simp [hN] at e
  exact ⟨h.toNat, by omega, by omega⟩
theorem rget_t (b hb vb m : Nat) (f : Nat → Bool) (g : Nat → Int) (h : Int) (w : World) (ht : RT w b hb vb m f g) : Calls Try.prog 27 #[.pointer (some ⟨b, 0, none⟩), .int .i64 h] w fun e w' => e = .returned (.tuple #[.int .i64 (if hN f m h then g h.toNat else 0), .int .i64 (if hN f m h then 0 else 5)]) ∧ w' = w := by
  have HT := hid ht
  have c1 := ht.tb.cell 1 _ rfl
  clear ht
  cases e : hN f m h with
  | false =>
    go_enter Try.func27, Try.ntmps27
    go_wp2_with (go_at_call 56; refine (there_t _ _ _ _ _ _ _ _ HT.out).mono ?_; rintro e' w ⟨rfl, rfl⟩; rw [e])
    go_ret2
    exact ⟨rfl, rfl⟩
  | true =>
    obtain ⟨k, rfl, hk⟩ := hN_in e
    have l0 : (0 : Int) ≤ k := by omega
    have l1 : (k : Int) < m := by omega
    have ck := HT.out.vs.cell k _ (is_get g m k hk)
    go_enter Try.func27, Try.ntmps27
    go_wp2_with (go_at_call 56; refine (there_t _ _ _ _ _ _ _ _ HT.out).mono ?_; rintro e' w ⟨rfl, rfl⟩; rw [e])
    go_ret2
    exact ⟨rfl, rfl⟩
theorem rset_no (b hb vb m : Nat) (f : Nat → Bool) (g : Nat → Int) (h x : Int) (w : World) (ht : RT w b hb vb m f g) (e : hN f m h = false) : Calls Try.prog 28 #[.pointer (some ⟨b, 0, none⟩), .int .i64 h, .int .i64 x] w fun e w' => e = .returned (.int .i64 5) ∧ w' = w := by
  have HT := hid ht
  clear ht
  go_enter Try.func28, Try.ntmps28
  go_wp2_with (go_at_call 56; refine (there_t _ _ _ _ _ _ _ _ HT.out).mono ?_; rintro e' w ⟨rfl, rfl⟩; rw [e])
  go_ret
  exact ⟨rfl, rfl⟩
theorem rset_ok (b hb vb m : Nat) (f : Nat → Bool) (g : Nat → Int) (h x : Int) (w : World) (ht : RT w b hb vb m f g) (e : hN f m h = true) : Calls Try.prog 28 #[.pointer (some ⟨b, 0, none⟩), .int .i64 h, .int .i64 x] w fun e w' => e = .returned (.int .i64 0) ∧ w' = w.setCell ⟨vb, h.toNat, none⟩ (.int .i64 x) := by
  have HT := hid ht
  have c1 := ht.tb.cell 1 _ rfl
  clear ht
  obtain ⟨k, rfl, hk⟩ := hN_in e
  have l0 : (0 : Int) ≤ k := by omega
  have l1 : (k : Int) < m := by omega
  have ck := HT.out.vs.cell k _ (is_get g m k hk)
  have fk := HT.out.vs.frozen k
  go_enter Try.func28, Try.ntmps28
  go_wp2_with (go_at_call 56; refine (there_t _ _ _ _ _ _ _ _ HT.out).mono ?_; rintro e' w ⟨rfl, rfl⟩; rw [e])
  go_ret
  exact ⟨rfl, rfl⟩
theorem rdrop_no (b hb vb m : Nat) (f : Nat → Bool) (g : Nat → Int) (h : Int) (w : World) (ht : RT w b hb vb m f g) (e : hN f m h = false) : Calls Try.prog 30 #[.pointer (some ⟨b, 0, none⟩), .int .i64 h] w fun e w' => e = .returned (.tuple #[.int .i64 0, .int .i64 5]) ∧ w' = w := by
  have HT := hid ht
  clear ht
  go_enter Try.func30, Try.ntmps30
  go_wp2_with (go_at_call 56; refine (there_t _ _ _ _ _ _ _ _ HT.out).mono ?_; rintro e' w ⟨rfl, rfl⟩; rw [e])
  go_ret2
  exact ⟨rfl, rfl⟩
theorem rdrop_ok (b hb vb m : Nat) (f : Nat → Bool) (g : Nat → Int) (h : Int) (w : World) (ht : RT w b hb vb m f g) (hbh : b ≠ hb) (e : hN f m h = true) : Calls Try.prog 30 #[.pointer (some ⟨b, 0, none⟩), .int .i64 h] w fun e w' => e = .returned (.tuple #[.int .i64 (g h.toNat), .int .i64 0]) ∧ w' = w.setCell ⟨hb, h.toNat, none⟩ (.bool false) := by
  have HT := hid ht
  have c0 := ht.tb.cell 0 _ rfl
  obtain ⟨k, rfl, hk⟩ := hN_in e
  have l0 : (0 : Int) ≤ k := by omega
  have l1 : (k : Int) < m := by omega
  have ck := ht.hs.cell k _ (bs_get f m k hk)
  have fk := ht.hs.frozen k
  obtain ⟨W, hW⟩ : ∃ W, w.setCell ⟨hb, k, none⟩ (.bool false) = W := ⟨_, rfl⟩
  have d1 : W.cell? ⟨b, 1, none⟩ = some (.slice (some ⟨vb, 0, none⟩) m m) := by rw [← hW]; exact (ht.tb.other hbh _ _).cell 1 _ rfl
  have dk : W.cell? ⟨vb, k, none⟩ = some (.int .i64 (g k)) := by rw [← hW]; exact (ht.vs.other (Ne.symm ht.hv) _ _).cell k _ (is_get g m k hk)
  rw [Int.toNat_natCast, hW]
  clear ht
  go_enter Try.func30, Try.ntmps30
  go_wp2_with (go_at_call 56; refine (there_t _ _ _ _ _ _ _ _ HT.out).mono ?_; rintro e' w ⟨rfl, rfl⟩; rw [e])
  go_ret2
  exact ⟨rfl, rfl⟩
theorem radd_full (b hb vb m : Nat) (f : Nat → Bool) (g : Nat → Int) (x : Int) (w : World) (ht : RT w b hb vb m f g) (hm : m ≤ 64) (ha : ∀ j, j < m → f j = true) : Calls Try.prog 26 #[.pointer (some ⟨b, 0, none⟩), .int .i64 x] w fun e w' => e = .returned (.tuple #[.int .i64 0, .int .i64 8]) ∧ w' = w := by
  have HT := hid ht
  have c0 := ht.tb.cell 0 _ rfl
  have HA := hid ha
  clear ht ha
  go_enter Try.func26, Try.ntmps26
  go_wp2
  go_loopw [6] (fun i wr => ∃ j : Nat, j ≤ m ∧ i = .int .i64 j ∧ wr = w) (fun i _ => m - (intOf i).toNat)
  case atStart => exact ⟨0, Nat.zero_le _, rfl, rfl⟩
  case round =>
    obtain ⟨j, hj, rfl, rfl⟩ := hrel
    by_cases hjk : j < m
    · have cj := HT.out.hs.cell j _ (bs_get f m j hjk)
      rw [HA.out j hjk] at cj
      have l3 : (0 : Int) ≤ j := by omega
      have l5 : (j : Int) < m := by omega
      go_wp2
      go_roundw
      case rel => exact ⟨j + 1, by omega, by go_num, trivial⟩
      case measure => simp [intOf]; omega
    · obtain rfl : j = m := by omega
      go_wp2
      go_ret2
      exact ⟨rfl, rfl⟩
theorem radd_ok (b hb vb m : Nat) (f : Nat → Bool) (g : Nat → Int) (k : Nat) (x : Int) (w : World) (ht : RT w b hb vb m f g) (hbh : b ≠ hb) (hm : m ≤ 64) (hk : k < m) (hf : f k = false) (ha : ∀ j, j < k → f j = true) : Calls Try.prog 26 #[.pointer (some ⟨b, 0, none⟩), .int .i64 x] w fun e w' => e = .returned (.tuple #[.int .i64 k, .int .i64 0]) ∧ w' = (w.setCell ⟨hb, k, none⟩ (.bool true)).setCell ⟨vb, k, none⟩ (.int .i64 x) := by
  have HT := hid ht
  have c0 := ht.tb.cell 0 _ rfl
  obtain ⟨W, hW⟩ : ∃ W, w.setCell ⟨hb, k, none⟩ (.bool true) = W := ⟨_, rfl⟩
  have d1 : W.cell? ⟨b, 1, none⟩ = some (.slice (some ⟨vb, 0, none⟩) m m) := by rw [← hW]; exact (ht.tb.other hbh _ _).cell 1 _ rfl
  have dk : W.cell? ⟨vb, k, none⟩ = some (.int .i64 (g k)) := by rw [← hW]; exact (ht.vs.other (Ne.symm ht.hv) _ _).cell k _ (is_get g m k hk)
  have df : W.frozen? ⟨vb, k, none⟩ = false := by rw [← hW]; exact (ht.vs.other (Ne.symm ht.hv) _ _).frozen k
  have fk := ht.hs.frozen k
  have HA := hid ha
  have HF := hid hf
  rw [hW]
  clear ht ha hf
  go_enter Try.func26, Try.ntmps26
  go_wp2
  go_loopw [6] (fun i wr => ∃ j : Nat, j ≤ k ∧ i = .int .i64 j ∧ wr = w) (fun i _ => m - (intOf i).toNat)
  case atStart => exact ⟨0, Nat.zero_le _, rfl, rfl⟩
  case round =>
    obtain ⟨j, hj, rfl, rfl⟩ := hrel
    have cj := HT.out.hs.cell j _ (bs_get f m j (by omega))
    have l3 : (0 : Int) ≤ j := by omega
    have l5 : (j : Int) < m := by omega
    by_cases hjk : j < k
    · rw [HA.out j hjk] at cj
      go_wp2
      go_roundw
      case rel => exact ⟨j + 1, by omega, by go_num, trivial⟩
      case measure => simp [intOf]; omega
    · obtain rfl : j = k := by omega
      rw [HF.out] at cj
      go_wp2
      go_ret2
      exact ⟨rfl, rfl⟩
/-- The numbers held, rising, the first n of them. -/
def hl (f : Nat → Bool) : Nat → List Nat
  | 0 => []
  | n + 1 => hl f n ++ (if f n then [n] else [])
theorem hl_len (f : Nat → Bool) (n : Nat) : (hl f n).length ≤ n := by
  induction n with
  | zero => exact Nat.le_refl _
  | succ n ih =>
    rw [hl, List.length_append]
    split <;> simp <;> omega
/-- Numbers as cells. -/
def iv (l : List Int) : List Value := l.map (Value.int .i64 ·)
theorem iv_snoc (l : List Int) (x : Int) : iv (l ++ [x]) = iv l ++ [.int .i64 x] := by simp [iv]
theorem iv_len (l : List Int) : (iv l).length = l.length := by simp [iv]
def nv (l : List Nat) : List Int := List.map Int.ofNat l
theorem nv_snoc (l : List Nat) (x : Nat) : nv (l ++ [x]) = nv l ++ [(x : Int)] := by unfold nv; rw [List.map_append]; rfl
theorem nv_len (l : List Nat) : (nv l).length = l.length := by simp [nv]
set_option maxHeartbeats 800000 in
theorem rheld_t (b hb vb m : Nat) (f : Nat → Bool) (g : Nat → Int) (w : World) (ht : RT w b hb vb m f g) (hm : m ≤ 64) : Calls Try.prog 32 #[.pointer (some ⟨b, 0, none⟩)] w fun e w' => ∃ v, e = .returned v ∧ w'.ownsRow w.heap.size 3 1 v (hl f m).length (iv (nv (hl f m))) ∧ Below w.heap.size w w' := by
  have HT := hid ht
  have hlb := ht.tb.lt
  have hlh := ht.hs.lt
  clear ht
  go_enter Try.func32, Try.ntmps32
  go_wp2
  go_loopw [3, 4] (fun l i wr => ∃ j : Nat, j ≤ m ∧ i = .int .i64 j ∧ wr.ownsRow w.heap.size 3 1 l (hl f j).length (iv (nv (hl f j))) ∧ Below w.heap.size w wr) (fun _ i _ => m - (intOf i).toNat)
  case atStart => exact ⟨0, Nat.zero_le _, rfl, World.ownsRow_nil _ _ _ _, Below.refl _ _⟩
  case round =>
    obtain ⟨j, hj, rfl, ho, hb⟩ := hrel
    have HO := hid ho
    have HB := hid hb
    have T := hid (HT.out.below hb)
    have c0 := T.out.tb.cell 0 _ rfl
    have hsz := hb.size
    clear ho hb
    by_cases hjk : j < m
    · have cj := T.out.hs.cell j _ (bs_get f m j hjk)
      have l3 : (0 : Int) ≤ j := by omega
      have l5 : (j : Int) < m := by omega
      have hln := hl_len f j
      cases e : f j with
      | false =>
        rw [e] at cj
        have HE : Hid (hl f (j + 1) = hl f j) := by show _ = _; rw [hl, e]; simp
        clear e
        go_wp2
        go_roundw
        case rel => exact ⟨j + 1, by omega, by go_num, by rw [HE.out]; exact HO.out, HB.out⟩
        case measure => simp [intOf]; omega
      | true =>
        rw [e] at cj
        have HE : Hid (hl f (j + 1) = hl f j ++ [j]) := by show _ = _; rw [hl, e]; simp
        clear e
        go_wp2_with (at_builtin; go_must (refine wpList_pushG rfl _ _ 72 3 (.int .i64 0) 1 8 rfl Try.underlying72 infoI rfl (by decide) (by decide) w.heap.size _ _ _ [.int .i64 j] (row_below HO.out (below_alloc _ _)) rfl (by intro u hu; simp at hu; subst hu; rfl) ?c1 ?c2 ⟨_, 0, none⟩ rfl rfl (cell_new1 _ _ _ _ rfl) ?_))
        case c1 => rw [size_alloc]; omega
        case c2 => omega
        intro u' w1 hown hkp hson
        have R1 : Hid (w1.ownsRow w.heap.size 3 1 u' (hl f (j + 1)).length (iv (nv (hl f (j + 1))))) := by
          show World.ownsRow _ _ _ _ _ _ _
          rw [HE.out, List.length_append, nv_snoc, iv_snoc]; exact hown
        have R2 : Hid (Below w.heap.size w w1) := by
          refine (nx HB.out (below_alloc _ _)).trans (hkp.below (by rw [size_alloc]; omega) (fun k hk e => ?_))
          have := (HO.out.lt k e).1; omega
        clear hown hkp hson HO HB
        go_wp2
        go_roundw
        case rel => exact ⟨j + 1, by omega, by go_num, R1.out, R2.out⟩
        case measure => simp [intOf]; omega
    · obtain rfl : j = m := by omega
      go_wp2
      go_ret
      exact ⟨_, rfl, HO.out, HB.out⟩
end Go.Proofs.Ytodihepgfpbonaa.Tb
