/- That the chapter's first example stands (lives). -/
import Derived.Test.YtpcnkiapbkmjbaaNlv
import Derived.Lib.SmallJoins
namespace Go.Proofs.Ytpcnkiapbkmjbaa.Nv
open Go.ChangeShapes Go.WideShapes Go.ChangeAt Go.RowKit
open Go.Proofs.Ytpcnkiapbkmjbaa Go.Proofs.Ytpcnkiapbkmjbaa.Tb
/-- A literal list of bytes in memory that is new. -/
theorem rb_mark (w : World) (C : Array Value) (fr : Nat × Nat) (g n : Nat) (f : Nat → Int) (hg : g = w.heap.size) (hf : ∀ i, 0 ≤ f i ∧ f i < 256) (hn : n ≤ maxLen) (hc : C = (By.bl n f).toArray) : By.RB (w.alloc (.cells C 5 fr)) (.slice (some ⟨g, 0, none⟩) n n) n f :=
  ⟨hf, _, _, rfl, Nat.le_refl _, hn, .inr ⟨g, 0, rfl, fun i hi => by
    rw [Nat.zero_add, Go.Joins.cell_alloc_mark_at w C _ fr g i hg, hc]
    rw [List.getElem?_toArray]
    exact By.bl_get n f i hi⟩⟩
theorem rd_mark {w0 W : World} {B : Nat} {t : Nat → Th} (hG : GX w0 B t W) (C : Array Value) (fr : Nat × Nat) (g n : Nat) (f : Nat → Int) (hg : g = W.heap.size) (hf : ∀ i, 0 ≤ f i ∧ f i < 256) (hn : n ≤ maxLen) (hc : C = (By.bl n f).toArray) (k : Nat) :
    GX w0 B t (W.alloc (.cells C 5 fr)) ∧ Rd t k (W.alloc (.cells C 5 fr)) (.slice (some ⟨g, 0, none⟩) n n) n f := by
  refine ⟨hG.below (below_alloc _ _), rd_new hG (rb_mark W C fr g n f hg hf hn hc) (fun b off cap e => ?_) k⟩
  cases e; omega
theorem Rd.below {t : Nat → Th} {k n : Nat} {W W' : World} {v : Value} {f : Nat → Int} (h : Rd t k W v n f) (hb : Below W.heap.size W W') : Rd t k W' v n f := ⟨h.1.below hb, h.2⟩
theorem Rd.keep {t t' : Nat → Th} {k n : Nat} {W : World} {v : Value} {f : Nat → Int} (h : Rd t k W v n f) (e : t' k = t k) : Rd t' k W v n f := ⟨h.1, fun b off cap q => by rw [e]; exact h.2 b off cap q⟩
def abcd : List Int := [97, 98, 99, 100]
def axcd : List Int := [97, 120, 99, 100]
theorem ints_lit (w : World) (g : Nat) (hg : g = w.heap.size) (bs : List Bool) (cs : Array Value) (hc : cs.toList = bs.map bint) : ∀ i b, bs[i]? = some b → (w.alloc (.cells cs 3)).cell? ⟨g, i, none⟩ = some (bint b) := by
  intro i b hi
  have h : Blk (w.alloc (.cells cs 3)) g (bs.map bint) 3 := Blk.newAt w cs (bs.map bint) _ g hg (by rw [← hc])
  exact h.cell i _ (by rw [List.getElem?_map, hi]; rfl)
theorem eq_lits {w0 W : World} {B : Nat} {t : Nat → Th} {k lb : Nat} {L : List Rn} (hG : GX w0 B t W) (hk : LgP t k lb L) (hL : tot L ≤ 900000) (C1 C2 : Array Value) (f1 f2 : Nat × Nat) (g2 n m : Nat) (f g : Nat → Int) (hg2 : g2 = W.heap.size + 1)
    (hf : ∀ i, 0 ≤ f i ∧ f i < 256) (hg : ∀ i, 0 ≤ g i ∧ g i < 256) (hn : n ≤ 200) (hm : m ≤ 200) (h1 : C1 = (By.bl n f).toArray) (h2 : C2 = (By.bl m g).toArray) :
    Calls Try.prog 13 #[lpv (some lb), .slice (some ⟨W.heap.size, 0, none⟩) n n, .slice (some ⟨g2, 0, none⟩) m m] ((W.alloc (.cells C1 5 f1)).alloc (.cells C2 5 f2)) fun e W' => e = .returned (.bool (eqA f g n m)) ∧ ∃ t', GX w0 B t' W' ∧ LgP t' k lb (nts L (eqL f g n m)) ∧ But t t' k := by
  obtain ⟨G1, R1⟩ := rd_mark hG C1 f1 W.heap.size n f rfl hf (by unfold maxLen; omega) h1 k
  obtain ⟨G2, R2⟩ := rd_mark G1 C2 f2 g2 m g (by rw [hg2]; simp) hg (by unfold maxLen; omega) h2 k
  exact gx_eq G2 hk hL (R1.below (below_alloc _ _)) R2 hn hm
theorem four : (By.bl 4 (By.lst abcd)).toArray = #[Value.int .u8 97, Value.int .u8 98, Value.int .u8 99, Value.int .u8 100] := rfl
theorem fourx : (By.bl 4 (By.lst axcd)).toArray = #[Value.int .u8 97, Value.int .u8 120, Value.int .u8 99, Value.int .u8 100] := rfl
theorem tot0 : tot [] ≤ 900000 := by simp [tot]
theorem lv1 : eqA (By.lst abcd) (By.lst abcd) 4 4 = true ∧ eqL (By.lst abcd) (By.lst abcd) 4 4 = [true, true, true, true] := by decide +kernel
theorem lv2 : eqA (By.lst abcd) (By.lst axcd) 4 4 = false ∧ eqL (By.lst abcd) (By.lst axcd) 4 4 = [true, false] := by decide +kernel
set_option maxRecDepth 100000 in
set_option maxHeartbeats 4000000 in
theorem lives_walk (w : World) : Calls Try.prog 8 #[] w fun e w' => e = .returned (.bool true) ∧ Below w.heap.size w w' := by
  have G0 := hidl (GX.start w)
  have ab := hidl (By.lst_bound abcd (by decide))
  have ax := hidl (By.lst_bound axcd (by decide))
  go_enter Try.func8, Try.ntmps8
  go_wp2_with fail
  refine (gx_new G0.out 0).mono ?_
  rintro e W1 ⟨rfl, t1, hG1, hk1, -⟩
  have G1 := hidl hG1
  have K1 := hidl hk1
  clear hG1 hk1
  generalize hB0 : w.heap.size = B0 at *
  have cv1 := Lib.run_convert_bytes_const (P := Try.prog) W1 22 5 #[Value.int .u8 97, .int .u8 98, .int .u8 99, .int .u8 100] 4 4 Try.underlying22 Try.underlying5
  have cv2 := Go.Joins.run_convert_bytes_const_at (P := Try.prog) (W1.alloc (.cells #[Value.int .u8 97, .int .u8 98, .int .u8 99, .int .u8 100] 5 (4, 5))) 22 5 #[Value.int .u8 97, .int .u8 98, .int .u8 99, .int .u8 100] 4 4 (W1.heap.size + 1) (by simp) Try.underlying22 Try.underlying5
  go_wp2_with fail
  refine (eq_lits G1.out K1.out tot0 _ _ (4, 5) (4, 5) _ 4 4 (By.lst abcd) (By.lst abcd) rfl ab.out ab.out (by omega) (by omega) four.symm four.symm).mono ?_
  rintro e W2 ⟨rfl, t2, hG2, hk2, -⟩
  rw [lv1.1]
  rw [lv1.2] at hk2
  have G2 := hidl hG2
  have K2 := hidl hk2
  clear hG2 hk2 G1 K1 cv1 cv2
  go_wp2_with fail
  refine (gx_new G2.out 1).mono ?_
  rintro e W3 ⟨rfl, t3, hG3, hk3, b3⟩
  have G3 := hidl hG3
  have K3 := hidl hk3
  have K4 := hidl (K2.out.keep (b3 0 (by decide)))
  clear hG3 hk3 b3 G2 K2
  generalize W2.heap.size = B1 at *
  have cv1 := Lib.run_convert_bytes_const (P := Try.prog) W3 22 5 #[Value.int .u8 97, .int .u8 98, .int .u8 99, .int .u8 100] 4 4 Try.underlying22 Try.underlying5
  have cv2 := Go.Joins.run_convert_bytes_const_at (P := Try.prog) (W3.alloc (.cells #[Value.int .u8 97, .int .u8 98, .int .u8 99, .int .u8 100] 5 (4, 5))) 22 5 #[Value.int .u8 97, .int .u8 120, .int .u8 99, .int .u8 100] 4 4 (W3.heap.size + 1) (by simp) Try.underlying22 Try.underlying5
  go_wp2_with fail
  refine (eq_lits G3.out K3.out tot0 _ _ (4, 5) (4, 5) _ 4 4 (By.lst abcd) (By.lst axcd) rfl ab.out ax.out (by omega) (by omega) four.symm fourx.symm).mono ?_
  rintro e W4 ⟨rfl, t4, hG4, hk4, b4⟩
  rw [lv2.1]
  rw [lv2.2] at hk4
  have G4 := hidl hG4
  have K5 := hidl hk4
  have K6 := hidl (K4.out.keep (b4 0 (by decide)))
  clear hG4 hk4 G3 K3 K4 b4 cv1 cv2
  go_wp2_with fail
  refine (gx_runs G4.out K6.out (by decide)).mono ?_
  rintro e W5 ⟨v5, rfl, hr5, hb5⟩
  have R5 := hidl hr5
  have G5 := hidl (G4.out.below hb5)
  clear hr5 hb5 G4
  go_wp2_with fail
  refine (branches_walk [true, true, true, true] 4 _ _ rfl (by simp) (ints_lit W5 _ rfl [true, true, true, true] _ rfl) (by decide)).mono ?_
  rintro e W6 ⟨v6, rfl, hr6, hb6⟩
  have R6 := hidl hr6
  have G6 := hidl ((G5.out.below (below_alloc _ _)).below hb6)
  have R5' := hidl ((R5.out.below (below_alloc _ _)).below hb6)
  clear hr6 hb6 G5 R5
  go_wp2_with fail
  refine (same14 v5 v6 _ _ W6 R5'.out R6.out (by decide) (by decide)).mono ?_
  rintro e W7 ⟨rfl, d7, rfl⟩
  rw [decide_eq_true rfl]
  have G7 := hidl (G6.out.drewN d7)
  clear R5' R6 G6
  go_wp2_with fail
  refine (gx_runs G7.out K5.out (by decide)).mono ?_
  rintro e W8 ⟨v8, rfl, hr8, hb8⟩
  have R8 := hidl hr8
  have G8 := hidl (G7.out.below hb8)
  clear hr8 hb8 G7
  go_wp2_with fail
  refine (branches_walk [true, false] 2 _ _ rfl (by simp) (ints_lit W8 _ rfl [true, false] _ rfl) (by decide)).mono ?_
  rintro e W9 ⟨v9, rfl, hr9, hb9⟩
  have R9 := hidl hr9
  have G9 := hidl ((G8.out.below (below_alloc _ _)).below hb9)
  have R8' := hidl ((R8.out.below (below_alloc _ _)).below hb9)
  clear hr9 hb9 G8 R8
  go_wp2_with fail
  refine (same14 v8 v9 _ _ W9 R8'.out R9.out (by decide) (by decide)).mono ?_
  rintro e Wa ⟨rfl, da, rfl⟩
  rw [decide_eq_true rfl]
  have Ga := hidl (G9.out.drewN da)
  clear R8' R9 G9
  go_wp2
  go_ret
  subst hB0
  exact ⟨rfl, Ga.out.bel⟩
end Go.Proofs.Ytpcnkiapbkmjbaa.Nv
