/- LedgerLists, where what it reads is of bulk at most 1048576: for any two lists of runs that hold together at most so many values, what is told of them, and their Join, is what the document says, before and after they are written over; nothing that is handed in is changed, what is told lies apart. -/
import Derived.Test.YtonggccbgiecmaaApart
import Derived.Test.YtonggccbgiecmaaLives
import Derived.OpenShut
import Derived.JoinedCond
import Derived.ChangeOld
import Derived.Deep.Slices
import Derived.Carry
namespace Go.Proofs.Ytonggccbgiecmaa
open Go.ChangeShapes Go.WideShapes Go.ChangeAt Go.RowKit

/-- The five lists of the statement. -/
def V5 (j k m x y : Value) : Nat → Value
  | 0 => j
  | 1 => k
  | 2 => m
  | 3 => x
  | _ => y
def F5 (a b c d e : List Rn) : Nat → List Rn
  | 0 => a
  | 1 => b
  | 2 => c
  | 3 => d
  | _ => e
theorem ap5 {j k m x y : Value} {a0 a1 a2 a3 a4 a5 L : Nat} (hx : ∀ g, x.ownBlock = some g → a0 ≤ g ∧ g < a1) (hy : ∀ g, y.ownBlock = some g → a1 ≤ g ∧ g < a2) (hj : ∀ g, j.ownBlock = some g → a2 ≤ g ∧ g < a3) (hk : ∀ g, k.ownBlock = some g → a3 ≤ g ∧ g < a4) (hm : ∀ g, m.ownBlock = some g → a4 ≤ g ∧ g < a5) (_h1 : a0 ≤ a1) (h2 : a1 ≤ a2) (h3 : a2 ≤ a3) (h4 : a3 ≤ a4) (h5 : a4 ≤ a5) (hL : a5 ≤ L) : AP 5 L (V5 j k m x y) := by
  refine ⟨?_, ?_⟩
  · intro p q hp hq hne g h h'
    have e1 : p = 0 ∨ p = 1 ∨ p = 2 ∨ p = 3 ∨ p = 4 := by omega
    have e2 : q = 0 ∨ q = 1 ∨ q = 2 ∨ q = 3 ∨ q = 4 := by omega
    rcases e1 with rfl | rfl | rfl | rfl | rfl <;> rcases e2 with rfl | rfl | rfl | rfl | rfl <;> simp only [V5] at h h' <;>
      first
      | exact hne rfl
      | (have b1 := hx g h; have b2 := hy g h'; omega)
      | (have b1 := hx g h; have b2 := hj g h'; omega)
      | (have b1 := hx g h; have b2 := hk g h'; omega)
      | (have b1 := hx g h; have b2 := hm g h'; omega)
      | (have b1 := hy g h; have b2 := hx g h'; omega)
      | (have b1 := hy g h; have b2 := hj g h'; omega)
      | (have b1 := hy g h; have b2 := hk g h'; omega)
      | (have b1 := hy g h; have b2 := hm g h'; omega)
      | (have b1 := hj g h; have b2 := hx g h'; omega)
      | (have b1 := hj g h; have b2 := hy g h'; omega)
      | (have b1 := hj g h; have b2 := hk g h'; omega)
      | (have b1 := hj g h; have b2 := hm g h'; omega)
      | (have b1 := hk g h; have b2 := hx g h'; omega)
      | (have b1 := hk g h; have b2 := hy g h'; omega)
      | (have b1 := hk g h; have b2 := hj g h'; omega)
      | (have b1 := hk g h; have b2 := hm g h'; omega)
      | (have b1 := hm g h; have b2 := hx g h'; omega)
      | (have b1 := hm g h; have b2 := hy g h'; omega)
      | (have b1 := hm g h; have b2 := hj g h'; omega)
      | (have b1 := hm g h; have b2 := hk g h'; omega)
  · intro q hq h
    have e2 : q = 0 ∨ q = 1 ∨ q = 2 ∨ q = 3 ∨ q = 4 := by omega
    rcases e2 with rfl | rfl | rfl | rfl | rfl <;> simp only [V5] at h <;>
      first
      | (have b1 := hx L h; omega)
      | (have b1 := hy L h; omega)
      | (have b1 := hj L h; omega)
      | (have b1 := hk L h; omega)
      | (have b1 := hm L h; omega)

theorem mks_take (k n m : Nat) (h : n ≤ m) : (mks k m).take n = mks k n := by
  simp [mks, ← List.map_take, List.take_range, Nat.min_eq_left h]
theorem mks_split (k n m : Nat) (h : n ≤ m) : mks k m = mks k n ++ (mks k m).drop n := by
  rw [← mks_take k n m h, List.take_append_drop]

set_option maxRecDepth 100000 in
set_option maxHeartbeats 2000000 in
theorem listsWalk (v0 v1 : Value) (L M : List Rn) (w : World) (h0 : RB w v0 L) (h1 : RB w v1 M) (hL : L.length ≤ 1048576) (hM : M.length ≤ 1048576) :
    Calls Try.prog 5 #[v0, v1] w fun e w' => e = .returned (.bool true) ∧ Below w.heap.size w w' := by
  obtain ⟨n, hn⟩ : ∃ n, L.length = n := ⟨_, rfl⟩
  obtain ⟨m, hm⟩ : ∃ n, M.length = n := ⟨_, rfl⟩
  obtain ⟨a, capa, rfl⟩ : ∃ a cap, v0 = .slice a n cap := by
    obtain ⟨a, cap, e⟩ := h0.isSlice
    exact ⟨a, cap, by rw [← hn]; exact e⟩
  obtain ⟨b, capb, rfl⟩ : ∃ a cap, v1 = .slice a m cap := by
    obtain ⟨a, cap, e⟩ := h1.isSlice
    exact ⟨a, cap, by rw [← hm]; exact e⟩
  have HA := hid h0
  have HB := hid h1
  have HL := hid hL
  have HM := hid hM
  have Hn := hid hn
  have Hm := hid hm
  rw [hn] at hL
  rw [hm] at hM
  clear h0 h1 hn hm
  go_enter Try.func5, Try.ntmps5
  go_wp2_with fail
  refine (lives8 _).mono ?_
  rintro e W1 ⟨rfl, hb⟩
  have B1 := hid hb
  clear hb
  go_wp2_with fail
  refine (lent25 _ L _ (HA.out.below B1.out) (by have := HL.out; omega)).mono ?_
  rintro e W2 ⟨x, rfl, ho, hb⟩
  have X2 := hid ho
  have B2 := hid (below_next B1.out hb)
  have z12 : W1.heap.size ≤ W2.heap.size := hb.size
  clear hb ho
  go_wp2_with fail
  refine (lent25 _ M _ (HB.out.below B2.out) (by have := HM.out; omega)).mono ?_
  rintro e W3 ⟨y, rfl, ho, hb⟩
  have Y3 := hid ho
  have X3 := hid (X2.out.below hb)
  have B3 := hid (below_next B2.out hb)
  have z23 : W2.heap.size ≤ W3.heap.size := hb.size
  clear hb ho
  obtain ⟨gx, cx, hx, hx1, hx2, hx3⟩ : ∃ g c, x = .slice (some ⟨g, 0, none⟩) (n + 6) c ∧ W1.heap.size ≤ g ∧ g < W2.heap.size ∧ n + 6 ≤ c := by
    have hl : (L ++ mks 7 6).length = n + 6 := by rw [List.length_append, mks_length, Hn.out]
    rcases X2.out.shape with ⟨_, h⟩ | ⟨g, c, h1, h2, h3, h4, _⟩
    · rw [h] at hl; simp at hl
    · rw [hl] at h1 h4; exact ⟨g, c, h1, h2, h3, h4⟩
  obtain ⟨gy, cy, hy, hy1, hy2, hy3⟩ : ∃ g c, y = .slice (some ⟨g, 0, none⟩) (m + 6) c ∧ W2.heap.size ≤ g ∧ g < W3.heap.size ∧ m + 6 ≤ c := by
    have hl : (M ++ mks 7 6).length = m + 6 := by rw [List.length_append, mks_length, Hm.out]
    rcases Y3.out.shape with ⟨_, h⟩ | ⟨g, c, h1, h2, h3, h4, _⟩
    · rw [h] at hl; simp at hl
    · rw [hl] at h1 h4; exact ⟨g, c, h1, h2, h3, h4⟩
  subst hx hy
  have ONE := hid (own_prefix X3.out (by rw [List.length_append, mks_length, Hn.out]) Hn.out)
  have TWO := hid (own_prefix Y3.out (by rw [List.length_append, mks_length, Hm.out]) Hm.out)
  have s1 : (n : Int) ≤ cx := by omega
  have s2 : (m : Int) ≤ cy := by omega
  have s3 : n ≤ cx := by omega
  have s4 : m ≤ cy := by omega
  have Hroom : Hid ((L.length + M.length) * 24 ≤ 140737488355328) := by show _ * 24 ≤ _; rw [Hn.out, Hm.out]; omega
  have HLb : Hid (L.length < 1000000000000000000) := by have := HL.out; show _ < _; omega
  have HMb : Hid (M.length < 1000000000000000000) := by have := HM.out; show _ < _; omega
  go_wp2_with fail
  refine (join26 _ _ L M _ ONE.out.reads TWO.out.reads Hroom.out).mono ?_
  rintro e W4 ⟨j, rfl, ho, hb⟩
  have J4 := hid ho
  have JB : Hid (∀ g, j.ownBlock = some g → g < W4.heap.size) := fun g hg => (ho.lt g hg).2
  have Hb4 := hid hb
  have B4 := hid (below_next B3.out hb)
  have z34 : W3.heap.size ≤ W4.heap.size := hb.size
  clear ho hb
  go_wp2_with fail
  refine (join26 _ _ L M _ (ONE.out.reads.below Hb4.out) (TWO.out.reads.below Hb4.out) Hroom.out).mono ?_
  rintro e W5 ⟨k, rfl, ho, hb⟩
  have K5 := hid ho
  have KB : Hid (∀ g, k.ownBlock = some g → g < W5.heap.size) := fun g hg => (ho.lt g hg).2
  have Hb5 := hid (below_next Hb4.out hb)
  have J5 := hid (J4.out.below hb)
  have B5 := hid (below_next B4.out hb)
  have z45 : W4.heap.size ≤ W5.heap.size := hb.size
  clear ho hb
  go_wp2_with fail
  refine (join27 _ _ L M _ (HA.out.below B5.out) (HB.out.below B5.out) Hroom.out).mono ?_
  rintro e W6 ⟨want, rfl, ho, hb⟩
  have T6 := hid ho
  have Hb6 := hid (below_next Hb5.out hb)
  have J6 := hid (J5.out.below hb)
  have K6 := hid (K5.out.below hb)
  have B6 := hid (below_next B5.out hb)
  have z56 : W5.heap.size ≤ W6.heap.size := hb.size
  clear ho hb J5
  have HJ : Hid ((joinL L M).length < 1000000000000000000) := by
    show _ < _
    rw [join_fold]
    have := fold_len (L ++ M) []
    rw [List.length_append, Hn.out, Hm.out] at this
    simp only [List.length_nil, Nat.zero_add] at this
    omega
  go_wp2_with fail
  refine (same14 _ _ _ _ _ J6.out.reads T6.out.reads HJ.out HJ.out).mono ?_
  rintro e w' ⟨rfl, d1, rfl⟩
  rw [show decide (joinL L M = joinL L M) = true from decide_eq_true rfl]
  go_wp2_with fail
  refine (same14 _ _ _ _ _ (K6.out.reads.drewN _) (T6.out.reads.drewN _) HJ.out HJ.out).mono ?_
  rintro e w' ⟨rfl, d2, rfl⟩
  rw [show decide (joinL L M = joinL L M) = true from decide_eq_true rfl]
  go_wp2_with fail
  refine (lists28 _ _ _ _ L M _ ((ONE.out.reads.below Hb6.out).drewN _) ((TWO.out.reads.below Hb6.out).drewN _) ((HA.out.below B6.out).drewN _) ((HB.out.below B6.out).drewN _) HLb.out HMb.out).mono ?_
  rintro e W7 ⟨rfl, hb⟩
  have N7 : Hid (Below W6.heap.size W6 W7) := below_next (below_drewN W6 _) hb
  clear hb
  go_wp2_with fail
  refine (kept29 _ _ L _ (X3.out.reads.below (below_next Hb6.out N7.out)) (HA.out.below (below_next B6.out N7.out)) (by have := HL.out; omega)).mono ?_
  rintro e W8 ⟨rfl, hb⟩
  have N8 := hid (below_next N7.out hb)
  clear hb N7
  go_wp2_with fail
  refine (kept29 _ _ M _ (Y3.out.reads.below (below_next Hb6.out N8.out)) (HB.out.below (below_next B6.out N8.out)) (by have := HM.out; omega)).mono ?_
  rintro e W9 ⟨rfl, hb⟩
  have N9 := hid (below_next N8.out hb)
  clear hb N8
  have X9 := hid (X3.out.below (below_next Hb6.out N9.out))
  have Y9 := hid (Y3.out.below (below_next Hb6.out N9.out))
  have J9 := hid (J6.out.below N9.out)
  have K9 := hid (K6.out.below N9.out)
  have T9 := hid (T6.out.below N9.out)
  have B9 := hid (below_next B6.out N9.out)
  have z69 : W6.heap.size ≤ W9.heap.size := N9.out.size
  have z01 : w.heap.size ≤ W1.heap.size := B1.out.size
  clear B1 B2 B3 B4 B5 B6 X2 X3 Y3 Hb4 Hb5 Hb6 N9 J4 J6 K5 K6 T6 ONE TWO
  go_wp2_with fail
  refine (over30 gx cx (n + 6) _ _ _ X9.out (by rw [List.length_append, mks_length, Hn.out]) (by omega)).mono ?_
  rintro e W10 ⟨rfl, ho, hk⟩
  have X10 := hid ho
  have J10 := hid (J9.out.kept hk (fun g hg e => by have := (J9.out.lt g hg).1; omega))
  have K10 := hid (K9.out.kept hk (fun g hg e => by have := (K9.out.lt g hg).1; omega))
  have T10 := hid (T9.out.kept hk (fun g hg e => by have := (T9.out.lt g hg).1; omega))
  have Y10 := hid (Y9.out.kept hk (fun g hg e => by have := (Y9.out.lt g hg).1; omega))
  have B10 := hid (B9.out.trans (hk.below B9.out.size (fun q hq e => by omega)))
  have z910 : W9.heap.size ≤ W10.heap.size := hk.size
  clear ho hk X9 J9 K9 T9 Y9 B9
  go_wp2_with fail
  refine (over30 gy cy (m + 6) _ _ _ Y10.out (by rw [List.length_append, mks_length, Hm.out]) (by omega)).mono ?_
  rintro e W11 ⟨rfl, ho, hk⟩
  have Y11 := hid ho
  have J11 := hid (J10.out.kept hk (fun g hg e => by have := (J10.out.lt g hg).1; omega))
  have K11 := hid (K10.out.kept hk (fun g hg e => by have := (K10.out.lt g hg).1; omega))
  have T11 := hid (T10.out.kept hk (fun g hg e => by have := (T10.out.lt g hg).1; omega))
  have X11 := hid (X10.out.kept hk (fun g hg e => by simp [Value.ownBlock] at hg; omega))
  have B11 := hid (B10.out.trans (hk.below B10.out.size (fun q hq e => by omega)))
  have z1011 : W10.heap.size ≤ W11.heap.size := hk.size
  clear ho hk X10 J10 K10 T10 Y10 B10
  have ONE : Hid (Own W11 W1.heap.size (.slice (some ⟨gx, 0, none⟩) n cx) (mks 9 n)) := by
    have h := X11.out
    rw [mks_split 9 n (n + 6) (by omega)] at h
    exact own_prefix h (by rw [← mks_split 9 n (n + 6) (by omega), mks_length]) (mks_length _ _)
  have TWO : Hid (Own W11 W2.heap.size (.slice (some ⟨gy, 0, none⟩) m cy) (mks 9 m)) := by
    have h := Y11.out
    rw [mks_split 9 m (m + 6) (by omega)] at h
    exact own_prefix h (by rw [← mks_split 9 m (m + 6) (by omega), mks_length]) (mks_length _ _)
  have Hroom2 : Hid (((mks 9 n).length + (mks 9 m).length) * 24 ≤ 140737488355328) := by show _ * 24 ≤ _; rw [mks_length, mks_length]; omega
  go_wp2_with fail
  refine (copy31 _ (mks 9 n) _ ONE.out.reads (by rw [mks_length]; omega)).mono ?_
  rintro e W12 ⟨now, rfl, ho, hb⟩
  have NOW12 := hid ho
  have N12 := hid hb
  clear ho hb
  go_wp2_with fail
  refine (copy31 _ (mks 9 m) _ (TWO.out.reads.below N12.out) (by rw [mks_length]; omega)).mono ?_
  rintro e W13 ⟨thn, rfl, ho, hb⟩
  have THN13 := hid ho
  have NOW13 := hid (NOW12.out.below hb)
  have N13 := hid (below_next N12.out hb)
  clear ho hb NOW12 N12
  go_wp2_with fail
  refine (join26 _ _ (mks 9 n) (mks 9 m) _ (ONE.out.reads.below N13.out) (TWO.out.reads.below N13.out) Hroom2.out).mono ?_
  rintro e W14 ⟨mm, rfl, ho, hb⟩
  have M14 := hid ho
  have NOW14 := hid (NOW13.out.below hb)
  have THN14 := hid (THN13.out.below hb)
  have N14 := hid (below_next N13.out hb)
  have z1113 : W11.heap.size ≤ W13.heap.size := N13.out.size
  have z1314 : W13.heap.size ≤ W14.heap.size := hb.size
  clear ho hb NOW13 THN13 N13
  have HJ2 : Hid ((joinL (mks 9 n) (mks 9 m)).length ≤ n + m) := by
    show _ ≤ _
    rw [join_fold]
    have := fold_len (mks 9 n ++ mks 9 m) []
    rw [List.length_append, mks_length, mks_length] at this
    simpa using this
  have HJ3 : Hid ((joinL L M).length ≤ n + m) := by
    show _ ≤ _
    rw [join_fold]
    have := fold_len (L ++ M) []
    rw [List.length_append, Hn.out, Hm.out] at this
    simpa using this
  have HJ4 : Hid ((joinL (mks 9 n) (mks 9 m)).length < 1000000000000000000) := by have := HJ2.out; show _ < _; omega
  go_wp2_with fail
  refine (same14 _ _ _ _ _ (J11.out.reads.below N14.out) (T11.out.reads.below N14.out) HJ.out HJ.out).mono ?_
  rintro e w' ⟨rfl, d3, rfl⟩
  rw [show decide (joinL L M = joinL L M) = true from decide_eq_true rfl]
  go_wp2_with fail
  refine (join27 _ _ (mks 9 n) (mks 9 m) _ (NOW14.out.reads.drewN _) (THN14.out.reads.drewN _) Hroom2.out).mono ?_
  rintro e W15 ⟨u15, rfl, ho, hb⟩
  have U15 := hid ho
  have N15 : Hid (Below W14.heap.size W14 W15) := below_next (below_drewN W14 _) hb
  clear ho hb
  go_wp2_with fail
  refine (same14 _ _ _ _ _ (M14.out.reads.below N15.out) U15.out.reads HJ4.out HJ4.out).mono ?_
  rintro e w' ⟨rfl, d4, rfl⟩
  rw [show decide (joinL (mks 9 n) (mks 9 m) = joinL (mks 9 n) (mks 9 m)) = true from decide_eq_true rfl]
  go_wp2_with fail
  refine (lists28 _ _ _ _ (mks 9 n) (mks 9 m) _ ((ONE.out.reads.below (below_next N14.out N15.out)).drewN _) ((TWO.out.reads.below (below_next N14.out N15.out)).drewN _) ((NOW14.out.reads.below N15.out).drewN _) ((THN14.out.reads.below N15.out).drewN _) (by rw [mks_length]; omega) (by rw [mks_length]; omega)).mono ?_
  rintro e W16 ⟨rfl, hb⟩
  have N16 : Hid (Below W14.heap.size W14 W16) := below_next (below_next N15.out (below_drewN W15 _)) hb
  clear hb N15
  have J16 := hid (J11.out.below (below_next N14.out N16.out))
  have K16 := hid (K11.out.below (below_next N14.out N16.out))
  have M16 := hid (M14.out.below N16.out)
  have X16 := hid (X11.out.below (below_next N14.out N16.out))
  have Y16 := hid (Y11.out.below (below_next N14.out N16.out))
  have B16 := hid (below_next B11.out (below_next N14.out N16.out))
  have z1416 : W14.heap.size ≤ W16.heap.size := N16.out.size
  have RJ : Hid (∀ g, j.ownBlock = some g → W3.heap.size ≤ g ∧ g < W4.heap.size) := fun g hg => ⟨(J16.out.lt g hg).1, JB.out g hg⟩
  have RK : Hid (∀ g, k.ownBlock = some g → W4.heap.size ≤ g ∧ g < W5.heap.size) := fun g hg => ⟨(K16.out.lt g hg).1, KB.out g hg⟩
  have RM : Hid (∀ g, mm.ownBlock = some g → W5.heap.size ≤ g ∧ g < W14.heap.size) := fun g hg => by have := M14.out.lt g hg; omega
  have RX : Hid (∀ g, (Value.slice (some ⟨gx, 0, none⟩) (n + 6) cx).ownBlock = some g → W1.heap.size ≤ g ∧ g < W2.heap.size) := fun g hg => by simp [Value.ownBlock] at hg; omega
  have RY : Hid (∀ g, (Value.slice (some ⟨gy, 0, none⟩) (m + 6) cy).ownBlock = some g → W2.heap.size ≤ g ∧ g < W3.heap.size) := fun g hg => by simp [Value.ownBlock] at hg; omega
  have HAP : Hid (AP 5 W16.heap.size (V5 j k mm (.slice (some ⟨gx, 0, none⟩) (n + 6) cx) (.slice (some ⟨gy, 0, none⟩) (m + 6) cy))) := ap5 RX.out RY.out RJ.out RK.out RM.out z12 z23 z34 z45 (by omega) (by omega)
  have HI : Hid (Inv1 (W16.alloc (.cells #[j, k, mm, .slice (some ⟨gx, 0, none⟩) (n + 6) cx, .slice (some ⟨gy, 0, none⟩) (m + 6) cy] 32)) w.heap.size 5 W16.heap.size (V5 j k mm (.slice (some ⟨gx, 0, none⟩) (n + 6) cx) (.slice (some ⟨gy, 0, none⟩) (m + 6) cy)) (F5 (joinL L M) (joinL L M) (joinL (mks 9 n) (mks 9 m)) (mks 9 (n + 6)) (mks 9 (m + 6)))) := by
    have hrow := heap_alloc_new W16 (.cells #[j, k, mm, .slice (some ⟨gx, 0, none⟩) (n + 6) cx, .slice (some ⟨gy, 0, none⟩) (m + 6) cy] 32)
    refine ⟨fun q hq => ?_, fun q hq => ?_⟩
    · have e2 : q = 0 ∨ q = 1 ∨ q = 2 ∨ q = 3 ∨ q = 4 := by omega
      rcases e2 with rfl | rfl | rfl | rfl | rfl
      · exact (J16.out.base (by omega)).alloc _
      · exact (K16.out.base (by omega)).alloc _
      · exact (M16.out.base (by omega)).alloc _
      · exact (X16.out.base (by omega)).alloc _
      · exact (Y16.out.base (by omega)).alloc _
    · rw [cell_of_row _ _ q _ 32 (0, 0) hrow]
      have e2 : q = 0 ∨ q = 1 ∨ q = 2 ∨ q = 3 ∨ q = 4 := by omega
      rcases e2 with rfl | rfl | rfl | rfl | rfl <;> rfl
  have HNb : Hid (∀ q, q < 5 → ((fun q => (F5 (joinL L M) (joinL L M) (joinL (mks 9 n) (mks 9 m)) (mks 9 (n + 6)) (mks 9 (m + 6)) q).length) q + 7) * 24 ≤ 140737488355328) := by
    intro q hq
    have h2 := HJ2.out
    have h3 := HJ3.out
    have e2 : q = 0 ∨ q = 1 ∨ q = 2 ∨ q = 3 ∨ q = 4 := by omega
    rcases e2 with rfl | rfl | rfl | rfl | rfl
    · show ((joinL L M).length + 7) * 24 ≤ _; omega
    · show ((joinL L M).length + 7) * 24 ≤ _; omega
    · show ((joinL (mks 9 n) (mks 9 m)).length + 7) * 24 ≤ _; omega
    · show ((mks 9 (n + 6)).length + 7) * 24 ≤ _; rw [mks_length]; omega
    · show ((mks 9 (m + 6)).length + 7) * 24 ≤ _; rw [mks_length]; omega
  have hwl : w.heap.size ≤ W16.heap.size := B16.out.size
  obtain ⟨ja, jn, jc, hjs⟩ := J16.out.isSlice
  obtain ⟨ka, kn, kc, hks⟩ := K16.out.isSlice
  obtain ⟨ma, mn, mc, hms⟩ := M16.out.isSlice
  subst hjs hks hms
  clear J16 K16 M16 X16 Y16 RJ RK RM RX RY JB KB J11 K11 T11 X11 Y11 M14 NOW14 THN14 U15 ONE TWO
  go_wp2_with fail
  refine (apart15 w.heap.size 5 W16.heap.size _ _ (fun q => (F5 (joinL L M) (joinL L M) (joinL (mks 9 n) (mks 9 m)) (mks 9 (n + 6)) (mks 9 (m + 6)) q).length) _ _ HAP.out HI.out (fun _ _ => rfl) (by omega) HNb.out (by simp; omega) (by simp)).mono ?_
  rintro e W17 ⟨rfl, hb⟩
  have B17 : Hid (Below w.heap.size w W17) := (B16.out.alloc hwl _).trans hb
  clear hb
  go_wp2
  go_ret
  exact ⟨rfl, B17.out⟩

theorem one_le {H : Type} (d : DataW H) : 1 ≤ Rows.uptoBulk d := by
  cases d with
  | lit l => cases l <;> simp [Rows.uptoBulk]
  | nil => simp [Rows.uptoBulk]
  | ptr d => simp [Rows.uptoBulk]
  | slice a b => simp [Rows.uptoBulk]
  | agg a => simp [Rows.uptoBulk]
  | iface a b => simp [Rows.uptoBulk]
  | map a => simp [Rows.uptoBulk]
  | held a => simp [Rows.uptoBulk]
theorem len_bulk {H : Type} (l : List (DataW H)) : l.length ≤ Rows.uptoBulkAll l := by
  induction l with
  | nil => simp [Rows.uptoBulkAll]
  | cons x r ih => have := one_le x; simp only [Rows.uptoBulkAll, List.length_cons]; omega

theorem some_of_lt {α : Type} {l : List α} {i : Nat} (h : i < l.length) : ∃ y, l[i]? = some y := ⟨l[i], List.getElem?_eq_getElem h⟩
/-- Cells of a run, as an argument's reading opens them. -/
theorem open_run {H : Type} {enc : TypeId × Value → H} {w : World} {base : Nat} {spare : Nat → Bool} {held : Bool} {fuel : Nat} {cs : List Value} {x : DataW H × List MemPlace} (h : DataW.trod enc Try.prog w base spare held fuel 70 cs = some x) : ∃ r : Rn, r.Ok ∧ cs = rc r := by
  obtain ⟨xs, n1, _, _, hl, hxl, hf⟩ := DataW.trod_struct Try.underlying70 h
  have hl3 : cs.length = 3 := by rw [hl]; kernel_rfl
  match cs, hl3 with
  | [a, b, c], _ =>
    have g0 := hf 0 { name := "Event", type := 39, offset := 0, embedded := false, tag := "", pkgPath := "", byteOffset := 0 } rfl
    have g1 := hf 1 { name := "Count", type := 3, offset := 2, embedded := false, tag := "", pkgPath := "", byteOffset := 16 } rfl
    have e39 : Try.prog.cellsOf 39 = 2 := by kernel_rfl
    have e3 : Try.prog.cellsOf 3 = 1 := by kernel_rfl
    have e37 : Try.prog.cellsOf 37 = 1 := by kernel_rfl
    dsimp only at g0 g1
    rw [e39] at g0
    rw [e3] at g1
    simp only [List.drop_zero, List.take_succ_cons, List.take_zero, List.drop_succ_cons] at g0 g1
    obtain ⟨y0, hy0⟩ : ∃ y, xs[0]? = some y := some_of_lt (by rw [hxl]; decide)
    obtain ⟨y1, hy1⟩ : ∃ y, xs[1]? = some y := some_of_lt (by rw [hxl]; decide)
    rw [hy0] at g0
    rw [hy1] at g1
    obtain ⟨c', hc, _, wc⟩ := DataW.trod_int Try.underlying3 g1
    obtain ⟨zs, n2, _, _, _, hzl, hz⟩ := DataW.trod_struct Try.underlying39 g0
    have k0 := hz 0 { name := "Kind", type := 37, offset := 0, embedded := false, tag := "", pkgPath := "", byteOffset := 0 } rfl
    have k1 := hz 1 { name := "Size", type := 3, offset := 1, embedded := false, tag := "", pkgPath := "", byteOffset := 8 } rfl
    dsimp only at k0 k1
    rw [e37] at k0
    rw [e3] at k1
    simp only [List.drop_zero, List.take_succ_cons, List.take_zero, List.drop_succ_cons] at k0 k1
    obtain ⟨u0, hu0⟩ : ∃ y, zs[0]? = some y := some_of_lt (by rw [hzl]; decide)
    obtain ⟨u1, hu1⟩ : ∃ y, zs[1]? = some y := some_of_lt (by rw [hzl]; decide)
    rw [hu0] at k0
    rw [hu1] at k1
    obtain ⟨a', ha, _, wa⟩ := DataW.trod_int Try.underlying37 k0
    obtain ⟨b', hb, _, wb⟩ := DataW.trod_int Try.underlying3 k1
    simp only [List.cons.injEq, and_true] at ha hb hc
    subst ha hb hc
    refine ⟨⟨a', b', c'⟩, ⟨?_, ?_, ?_⟩, rfl⟩
    · have : 0 ≤ a' ∧ a' ≤ 255 := by simpa [Lit.wf, IntKind.min, IntKind.max, IntKind.signed, IntKind.bits] using wa
      show 0 ≤ a' ∧ a' < 256
      omega
    · simpa [Lit.wf, IntKind.min, IntKind.max, IntKind.signed, IntKind.bits] using wb
    · simpa [Lit.wf, IntKind.min, IntKind.max, IntKind.signed, IntKind.bits] using wc

/-- A list of runs, as an argument's reading opens it. -/
theorem openRuns {H : Type} {enc : TypeId × Value → H} {w : World} {base : Nat} {spare : Nat → Bool} {held : Bool} {fuel : Nat} {v : Value} {x : DataW H × List MemPlace} (hv : ∃ a l c, v = .slice a l c) (h : DataW.trod enc Try.prog w base spare held fuel 32 v.cells.toList = some x) :
    ∃ L, RB w v L ∧ L.length ≤ Rows.uptoBulk x.1 := by
  obtain ⟨a0, l0, c0, rfl⟩ := hv
  rcases Deep.open_slice Try.underlying32 h with ⟨hcs, _⟩ | ⟨a, len, cap, m, n, D, Pl, hcs, _, hl, hm, hmm, hx, hel⟩
  · simp [Value.cells] at hcs
    obtain ⟨rfl, rfl, rfl⟩ := hcs
    exact ⟨[], (Own.nil w 0).reads, Nat.zero_le _⟩
  · simp [Value.cells] at hcs
    obtain ⟨rfl, rfl, rfl⟩ := hcs
    have e70 : Try.prog.cellsOf 70 = 3 := by kernel_rfl
    have hlm : l0 ≤ m := by rw [hmm]; split <;> omega
    have each : ∀ i, i < l0 → ∃ r : Rn, r.Ok ∧ w.cell? (a.add (i * 3)) = some (.int .u8 r.k) ∧ w.cell? (a.add (i * 3 + 1)) = some (.int .i64 r.s) ∧ w.cell? (a.add (i * 3 + 2)) = some (.int .i64 r.c) := by
      intro i hi
      obtain ⟨cs, h1, h2⟩ := hel i (by omega)
      rw [e70] at h1
      obtain ⟨_, _, hcell⟩ := World.cells?_some h1
      obtain ⟨r, hr, rfl⟩ := open_run h2
      have q0 := hcell 0 (by omega)
      have q1 := hcell 1 (by omega)
      have q2 := hcell 2 (by omega)
      rw [Deep.add_add] at q0 q1 q2
      exact ⟨r, hr, q0, q1, q2⟩
    obtain ⟨R, hR⟩ := @Deep.choose_lt Rn ⟨⟨0, 0, 0⟩⟩ _ _ each
    refine ⟨(List.range l0).map R, ?_, ?_⟩
    · have hok : ∀ r ∈ (List.range l0).map R, r.Ok := by
        intro r hr
        simp at hr
        obtain ⟨i, hi, rfl⟩ := hr
        exact (hR i hi).1
      have hlen : ((List.range l0).map R).length = l0 := by simp
      by_cases h0 : l0 = 0
      · subst h0
        exact ⟨hok, some a, c0, by simp, by simp, hm, .inl ⟨by simp, fun h => by cases h⟩⟩
      · obtain ⟨b, off, spot⟩ := a
        have hc := (hR 0 (by omega)).2.1
        have hspot : spot = none := by simpa [Addr.add] using World.cell?_spot hc
        subst hspot
        refine ⟨hok, _, c0, by rw [hlen], by rw [hlen]; exact hl, hm, .inr ⟨b, off, rfl, fun i r hi => ?_⟩⟩
        have hi2 : i < l0 := by have := (List.getElem?_eq_some_iff.1 hi).1; rw [hlen] at this; exact this
        simp [hi2] at hi
        subst hi
        have q := (hR i hi2).2
        rw [add_plain, add_plain, add_plain, ← Nat.add_assoc, ← Nat.add_assoc] at q
        exact q
    · rw [hx]
      have := len_bulk ((List.range l0).map D)
      simp only [Rows.uptoBulk]
      simp at this ⊢
      omega
end Go.Proofs.Ytonggccbgiecmaa
namespace Go.Proofs.Ytonggccbgiecmaa.ledgerLists
open Go.ChangeShapes Go.WideShapes Go.ChangeAt Go.RowKit
set_option linter.unusedVariables false

theorem own : ownKnob Try.prog.godebug = none := by kernel_rfl
theorem laidOut : laidOutB Try.prog = true := by kernel_rfl

theorem contract (H : Type) (enc : TypeId × Value → H) (W : World) (base : Nat) (args : Array Value) (ds gs : List (DataW H)) (before : List MemPlace)
    (hval : ∀ (j : Nat) t v, Try.f5.params[j]? = some t → args[j]? = some v → Value.okWide Try.prog W .any base t v)
    (hW : DataW.Whole enc Try.prog Try.f5.params.toList Rows.ledgerListsSpec.vars false W args.toList ds gs before) (hk : Rows.uptoSmall H (ds ++ gs) = true) :
    Calls Try.prog 5 args W fun e W' => ∃ v, e = .returned v ∧ Rows.ledgerListsSpec.post enc Try.prog Try.f5 false true false false W args v W' := by
  have hW' := hW
  obtain ⟨p, q, hA0, hV, rfl, hfz, hnd⟩ := hW
  have hA : DataW.TrodAll enc Try.prog W 0 (fun _ => true) true Try.f5.params.toList args.toList ds p := hA0
  rw [Try.params5] at hA hval
  obtain ⟨v0, vs0, d0, ds0, p0, q0, hargs, rfl, rfl, h0, r0⟩ := trodAll_cons hA
  obtain ⟨v1, vs1, d1, ds1, p1, q1, rfl, rfl, rfl, h1, r1⟩ := trodAll_cons r0
  obtain ⟨rfl, rfl, rfl⟩ := trodAll_nil r1
  obtain rfl : args = #[v0, v1] := by cases args; simp_all
  obtain ⟨rfl, rfl⟩ := trodVars_none hV
  have k0 := h0
  have lt0 : ∀ x ∈ p0, x.block < W.heap.size := by obtain ⟨m, hm⟩ := k0; exact DataW.trod_lt m _ _ _ hm
  have k1 := h1
  have lt1 : ∀ x ∈ p1, x.block < W.heap.size := by obtain ⟨m, hm⟩ := k1; exact DataW.trod_lt m _ _ _ hm
  have hb : Rows.uptoBulk d0 + Rows.uptoBulk d1 ≤ 1048576 := by
    have h := of_decide_eq_true hk
    simp only [List.append_nil, Rows.uptoBulkAll] at h
    omega
  obtain ⟨L, hL, hLn⟩ : ∃ L, RB W v0 L ∧ L.length ≤ Rows.uptoBulk d0 := by
    obtain ⟨fuel, hf⟩ := h0
    obtain ⟨a0, len0, cap0, e⟩ := okWide_slice Try.underlying32 (hval 0 32 v0 rfl rfl)
    exact openRuns ⟨a0, len0, cap0, e⟩ hf
  obtain ⟨M, hM, hMn⟩ : ∃ L, RB W v1 L ∧ L.length ≤ Rows.uptoBulk d1 := by
    obtain ⟨fuel, hf⟩ := h1
    obtain ⟨a0, len0, cap0, e⟩ := okWide_slice Try.underlying32 (hval 1 32 v1 rfl rfl)
    exact openRuns ⟨a0, len0, cap0, e⟩ hf
  clear hA0
  refine (listsWalk v0 v1 L M W hL hM (by omega) (by omega)).mono fun e W' ⟨he, bel⟩ => ?_
  subst he
  exact ⟨_, rfl, _, _, _, [], _, [], hW', trodAll_mk1 (shut_bool Try.underlying4 _), (trodAll_cons_mk (Below.trod laidOut (by kernel_rfl) (of_decide_eq_true (by kernel_rfl)) k0 bel lt0) (trodAll_cons_mk (Below.trod laidOut (by kernel_rfl) (of_decide_eq_true (by kernel_rfl)) k1 bel lt1) trodAll_mk0)), rfl, bel.frame _, fun h => by cases h⟩

set_option maxRecDepth 100000 in
theorem lifted (os : Os) (started : os.Started) (H : Type) (enc : TypeId × Value → H) (F : Stop.Interp) :
    ReturnsInHanded {} Try.checked os 5 .any ((Rows.OpenSpec.upto Rows.ledgerListsSpec).pre6 enc Try.prog Try.f5 Rows.ledgerListsUptoRow.domain false) (((Rows.OpenSpec.upto Rows.ledgerListsSpec).at F).post enc Try.prog Try.f5 false true false false) := by
  refine returnsInHanded_of_cond (C := Try.checked) (s := Rows.OpenSpec.upto Rows.ledgerListsSpec) (k := Rows.uptoSmall) rfl own started (by kernel_rfl) Try.func5
    (OpenSpec.witness (enc := enc) (C := Try.checked) (s := Rows.OpenSpec.upto Rows.ledgerListsSpec) (k := Rows.uptoSmall) rfl false ⟨#[], #[.slice none 0 0, .slice none 0 0], []⟩ 8 (by kernel_rfl) (by kernel_rfl) (by kernel_rfl)
      (x := ([.nil, .nil], [], [])) (by kernel_rfl) rfl (by kernel_rfl)) ?_
  intro W base args ds gs before hval hW _ hk _
  exact contract H enc W base args ds gs before hval hW hk

theorem over : Rows.ledgerListsUptoRow.holds Try.pinned (Rows.OpenSpec.upto Rows.ledgerListsSpec) :=
  OpenClaim.holds_of_cond 5 Try.f5 rfl rfl rfl rfl rfl rfl rfl ⟨rfl, rfl, rfl, rfl, rfl⟩ rfl rfl rfl rfl rfl (by kernel_rfl) Try.func5 (by kernel_rfl)
    (of_decide_eq_true (by kernel_rfl)) (by unfold Func.isWrapper; first | (rw [if_pos (by decide +kernel)]; kernel_rfl) | (rw [if_neg (by decide +kernel)]; exact ⟨rfl, rfl⟩))
    (fun os started H enc _ F => lifted os started H enc F)
theorem proved : Rows.LedgerListsUptoSaid := over
end Go.Proofs.Ytonggccbgiecmaa.ledgerLists
namespace Go.Proofs.Ytonggccbgiecmaa
theorem ledgerListsUpto_holds : Rows.LedgerListsUptoSaid := ledgerLists.proved
#print axioms ledgerListsUpto_holds
end Go.Proofs.Ytonggccbgiecmaa
