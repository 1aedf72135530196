/- awake -/
import Derived.Test.YtjfjjhjajgodiaaDoorXeval
import Derived.Test.YtjfjjhjajgodiaaDoorXhex
import Derived.Test.YtjfjjhjajgodiaaDoorXsh
import Derived.Lib.SlBytesConst
namespace Go.Proofs.YtjfjjhjajgodiaaDoor.Kc
open Go.ChangeShapes Go.WideShapes Go.ChangeAt Go.RowKit
open Go.Proofs.YtjfjjhjajgodiaaDoor.By Go.Proofs.YtjfjjhjajgodiaaDoor.Wd
theorem rb_marked (w : World) (n : Nat) (f : Nat → Int) (fr : Nat × Nat) (hf : ∀ i, 0 ≤ f i ∧ f i < 256) (hn : n ≤ maxLen) : By.RB (w.alloc (.cells (bl n f).toArray 5 fr)) (.slice (some ⟨w.heap.size, 0, none⟩) n n) n f :=
  ⟨hf, _, _, rfl, Nat.le_refl _, hn, .inr ⟨_, 0, rfl, fun i hi => by
    rw [cell_of_row _ w.heap.size (0 + i) _ 5 fr (heap_alloc_last w _), Nat.zero_add]
    simpa using bl_get n f i hi⟩⟩
def e3 : List Int := [2, 1, 0]
theorem e3_b (i : Nat) : 0 ≤ lst e3 i ∧ lst e3 i < 256 := lst_bound e3 (by decide) i
theorem nb256 : nb 256 = 2 := by decide
theorem lf256 : ∀ i, i < 2 + 1 → lf 256 i = lst e3 i := by decide +kernel
def sA : ByteArray := ⟨#[55, 102, 57, 99, 50, 98, 97, 52, 101, 56, 56, 102, 56, 50, 55, 100, 54, 49, 54, 48, 52, 53, 53, 48, 55, 54, 48, 53, 56, 53, 51, 101, 100, 55, 51, 98, 56, 48, 57, 51, 102, 54, 101, 102, 98, 99, 56, 56, 101, 98, 49, 97, 54, 101, 97, 99, 102, 97, 54, 54, 101, 102, 50, 54]⟩
def sC : ByteArray := ⟨#[99, 49, 99, 51, 54, 57, 50, 53, 98, 54, 52, 48, 57, 97, 48, 52, 102, 49, 98, 53, 48, 52, 102, 99, 98, 99, 97, 57, 100, 56, 50, 98, 52, 48, 49, 55, 50, 55, 55, 99, 98, 53, 101, 100, 50, 98, 50, 48, 54, 53, 102, 99, 49, 100, 51, 56, 49, 52, 100, 53, 97, 97, 102, 53]⟩
def sB : ByteArray := ⟨#[52, 54, 98, 57, 100, 100, 50, 98, 48, 98, 97, 56, 56, 100, 49, 51]⟩
theorem hexA : ∀ i, i < 32 → hf sA i = lst e128 i := by decide +kernel
theorem hexC : ∀ i, i < 32 → hf sC i = lst eC i := by decide +kernel
theorem hexB : ∀ i, i < 8 → hf sB i = lst e256 i := by decide +kernel
theorem tc32 : tc 32 = 0 := by decide
theorem tk32 : tk 32 = 32 := by decide
theorem tF32 (r a : Nat) (f : Nat → Int) (c : Nat) (h : Nat → Int) (m : Nat) (g : Nat → Int) : tF r a f c h m g 32 = Z.say r (tY r a f c h m g) := by funext i; exact if_neg (by decide)
set_option maxRecDepth 4000 in
set_option maxHeartbeats 2000000 in
theorem awake1 (w : World) (hk : KT w) :
    Calls Tryd.prog 40 #[] w fun e w' => e = .returned (.bool true) ∧ Below w.heap.size w w' := by
  have HK := hid hk
  clear hk
  go_enter Tryd.func40, Tryd.ntmps40
  go_wp2_with fail
  refine (shake128_any 0 0 no0 32 _ none (fun _ => False) w HK.out (fun e => e) (fun e => e) trivial (by omega) (fun _ _ => rb_none _) (by omega)).mono ?_
  rintro e w1 ⟨v1, rfl, ho, -, hkp⟩
  rw [tc32]
  rw [tk32, tF32] at ho
  obtain ⟨a1, c1, rfl⟩ := own_slice ho
  have L1 := hid ((LS.nil (Nat.le_refl w.heap.size)).snoc (below_no hkp) (own_congr ho e128_b (fun i hi => say128 no0 i hi)))
  have B1 := hid (below_no hkp)
  clear ho hkp
  have hcv := Lib.run_convert_bytes_const (P := Tryd.prog) w1 22 5 #[Value.int IntKind.u8 69, Value.int IntKind.u8 109, Value.int IntKind.u8 97, Value.int IntKind.u8 105, Value.int IntKind.u8 108, Value.int IntKind.u8 32, Value.int IntKind.u8 83, Value.int IntKind.u8 105, Value.int IntKind.u8 103, Value.int IntKind.u8 110, Value.int IntKind.u8 97, Value.int IntKind.u8 116, Value.int IntKind.u8 117, Value.int IntKind.u8 114, Value.int IntKind.u8 101] 15 15 Tryd.underlying22 Tryd.underlying5
  go_wp2_with fail
  have RE := hid ((rb_marked w1 15 (lst eM) (15, 16) eM_b (by decide)).alloc (.cells (bl 4 (lst e4)).toArray 5))
  have R4 := hid (rb_lit' (w1.alloc (.cells (bl 15 (lst eM)).toArray 5 (15, 16))) (bl 4 (lst e4)).toArray (w1.heap.size + 1) 4 (lst e4) (by simp) e4_b (by decide) rfl rfl)
  have BB2 := hid (below_next (below_alloc w1 (.cells (bl 15 (lst eM)).toArray 5 (15, 16))) (below_alloc _ (.cells (bl 4 (lst e4)).toArray 5)))
  obtain ⟨W2, hW2⟩ : ∃ W, (w1.alloc (.cells (bl 15 (lst eM)).toArray 5 (15, 16))).alloc (.cells (bl 4 (lst e4)).toArray 5) = W := ⟨_, rfl⟩
  rw [hW2] at RE R4 BB2
  rw [show (w1.alloc (Obj.cells #[Value.int IntKind.u8 69, Value.int IntKind.u8 109, Value.int IntKind.u8 97, Value.int IntKind.u8 105, Value.int IntKind.u8 108, Value.int IntKind.u8 32, Value.int IntKind.u8 83, Value.int IntKind.u8 105, Value.int IntKind.u8 103, Value.int IntKind.u8 110, Value.int IntKind.u8 97, Value.int IntKind.u8 116, Value.int IntKind.u8 117, Value.int IntKind.u8 114, Value.int IntKind.u8 101] 5 (15, 16))).alloc (Obj.cells #[Value.int IntKind.u8 0, Value.int IntKind.u8 1, Value.int IntKind.u8 2, Value.int IntKind.u8 3] 5) = W2 from hW2]
  have L2 := hid (L1.out.below BB2.out)
  have B2 := hid (below_next B1.out BB2.out)
  have K2 := hid (HK.out.below B2.out)
  clear hW2 BB2 L1 B1 hcv
  refine (c128_any 0 15 4 0 no0 (lst eM) (lst e4) 32 _ _ _ none (fun _ => False) W2 K2.out (fun e => e) (fun e => e) trivial (by omega) (fun _ _ => rb_none _) (fun w' hk' => RE.out.below (below_no hk')) (fun w' hk' => R4.out.below (below_no hk')) (by omega) (by omega)).mono ?_
  rintro e w3 ⟨v3, rfl, ho, -, hkp⟩
  rw [tc32]
  rw [tk32, tF32] at ho
  obtain ⟨a3, c3, rfl⟩ := own_slice ho
  have L3 := hid (L2.out.snoc (below_no hkp) (own_congr ho eC_b (fun i hi => sayC i hi)))
  have B3 := hid (below_next B2.out (below_no hkp))
  clear ho hkp L2 B2 RE R4
  go_wp2_with fail
  refine (leftOk 256 w3 (by omega)).mono ?_
  rintro e w4 ⟨v4, rfl, ho, hb⟩
  rw [nb256] at ho
  obtain ⟨a4, c4, rfl⟩ := own_slice ho
  have L4 := hid (L3.out.snoc hb (own_congr ho e3_b lf256))
  have B4 := hid (below_next B3.out hb)
  clear ho hb L3 B3
  go_wp2_with fail
  refine (unhex1 sA 32 w4 (by decide) (by omega)).mono ?_
  rintro e w5 ⟨v5, rfl, ho, hb⟩
  have L5 := hid (L4.out.snoc hb (own_congr ho e128_b hexA))
  have B5 := hid (below_next B4.out hb)
  clear ho hb L4 B4
  go_wp2_with fail
  refine (same_true _ _ 32 _ _ _ (L5.out.at (i := 0) rfl).reads (L5.out.at (i := 3) rfl).reads (by omega) (fun _ _ => rfl)).mono ?_
  rintro e w6 ⟨rfl, d6, hw⟩
  have hb : Below w5.heap.size w5 w6 := by rw [hw]; exact below_drewN _ _
  have L6 := hid (L5.out.below hb)
  have B6 := hid (below_next B5.out hb)
  clear hw hb L5 B5
  go_wp2_with fail
  refine (unhex1 sC 32 w6 (by decide) (by omega)).mono ?_
  rintro e w7 ⟨v7, rfl, ho, hb⟩
  have L7 := hid (L6.out.snoc hb (own_congr ho eC_b hexC))
  have B7 := hid (below_next B6.out hb)
  clear ho hb L6 B6
  go_wp2_with fail
  refine (same_true _ _ 32 _ _ _ (L7.out.at (i := 1) rfl).reads (L7.out.at (i := 4) rfl).reads (by omega) (fun _ _ => rfl)).mono ?_
  rintro e w8 ⟨rfl, d8, hw⟩
  have hb : Below w7.heap.size w7 w8 := by rw [hw]; exact below_drewN _ _
  have L8 := hid (L7.out.below hb)
  have B8 := hid (below_next B7.out hb)
  clear hw hb L7 B7
  go_wp2_with fail
  have R9 := hid (rb_lit w8 (bl 3 (lst e3)).toArray 3 (lst e3) e3_b (by decide) (by decide) rfl)
  refine (same_true _ _ 3 _ _ _ ((L8.out.at (i := 2) rfl).reads.alloc _) R9.out (by omega) (fun _ _ => rfl)).mono ?_
  rintro e w9 ⟨rfl, d9, hw⟩
  have B9 : Hid (Below w.heap.size w w9) := by
    rw [hw]
    exact below_drew' (below_next B8.out (below_alloc w8 _)) _
  clear hw R9
  go_wp2
  go_ret
  exact ⟨rfl, B9.out⟩
end Go.Proofs.YtjfjjhjajgodiaaDoor.Kc
