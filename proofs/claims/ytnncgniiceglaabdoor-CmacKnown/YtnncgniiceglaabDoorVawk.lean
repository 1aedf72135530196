/- The statements' helpers key, text, tagged, awake: the document's examples. -/
import Derived.Test.YtnncgniiceglaabDoorVevo
import Derived.Test.YtnncgniiceglaabDoorVtag
import Derived.Test.YtnncgniiceglaabDoorYr
namespace Go.Proofs.YtnncgniiceglaabDoor.Vm
open Go.ChangeShapes Go.WideShapes Go.ChangeAt Go.RowKit
open Go.Proofs.YtnncgniiceglaabDoor.By Go.Proofs.YtnncgniiceglaabDoor.Gf Go.Proofs.YtnncgniiceglaabDoor.Ae
theorem lk : #[Value.int IntKind.u8 43, Value.int IntKind.u8 126, Value.int IntKind.u8 21, Value.int IntKind.u8 22, Value.int IntKind.u8 40, Value.int IntKind.u8 174, Value.int IntKind.u8 210, Value.int IntKind.u8 166, Value.int IntKind.u8 171, Value.int IntKind.u8 247, Value.int IntKind.u8 21, Value.int IntKind.u8 136, Value.int IntKind.u8 9, Value.int IntKind.u8 207, Value.int IntKind.u8 79, Value.int IntKind.u8 60] = (bl 16 (cb (ofl XK))).toArray := by kernel_rfl
theorem lt40 : #[Value.int IntKind.u8 107, Value.int IntKind.u8 193, Value.int IntKind.u8 190, Value.int IntKind.u8 226, Value.int IntKind.u8 46, Value.int IntKind.u8 64, Value.int IntKind.u8 159, Value.int IntKind.u8 150, Value.int IntKind.u8 233, Value.int IntKind.u8 61, Value.int IntKind.u8 126, Value.int IntKind.u8 17, Value.int IntKind.u8 115, Value.int IntKind.u8 147, Value.int IntKind.u8 23, Value.int IntKind.u8 42, Value.int IntKind.u8 174, Value.int IntKind.u8 45, Value.int IntKind.u8 138, Value.int IntKind.u8 87, Value.int IntKind.u8 30, Value.int IntKind.u8 3, Value.int IntKind.u8 172, Value.int IntKind.u8 156, Value.int IntKind.u8 158, Value.int IntKind.u8 183, Value.int IntKind.u8 111, Value.int IntKind.u8 172, Value.int IntKind.u8 69, Value.int IntKind.u8 175, Value.int IntKind.u8 142, Value.int IntKind.u8 81, Value.int IntKind.u8 48, Value.int IntKind.u8 200, Value.int IntKind.u8 28, Value.int IntKind.u8 70, Value.int IntKind.u8 163, Value.int IntKind.u8 92, Value.int IntKind.u8 228, Value.int IntKind.u8 17] = (bl 40 (cb (ofl XT))).toArray := by kernel_rfl
theorem lA : #[Value.int IntKind.u8 187, Value.int IntKind.u8 29, Value.int IntKind.u8 105, Value.int IntKind.u8 41, Value.int IntKind.u8 233, Value.int IntKind.u8 89, Value.int IntKind.u8 55, Value.int IntKind.u8 40, Value.int IntKind.u8 127, Value.int IntKind.u8 163, Value.int IntKind.u8 125, Value.int IntKind.u8 18, Value.int IntKind.u8 155, Value.int IntKind.u8 117, Value.int IntKind.u8 103, Value.int IntKind.u8 70] = (bl 16 (cb (ofl TA))).toArray := by kernel_rfl
theorem lB : #[Value.int IntKind.u8 7, Value.int IntKind.u8 10, Value.int IntKind.u8 22, Value.int IntKind.u8 180, Value.int IntKind.u8 107, Value.int IntKind.u8 77, Value.int IntKind.u8 65, Value.int IntKind.u8 68, Value.int IntKind.u8 247, Value.int IntKind.u8 155, Value.int IntKind.u8 221, Value.int IntKind.u8 157, Value.int IntKind.u8 208, Value.int IntKind.u8 74, Value.int IntKind.u8 40, Value.int IntKind.u8 124] = (bl 16 (cb (ofl TB))).toArray := by kernel_rfl
theorem lC : #[Value.int IntKind.u8 223, Value.int IntKind.u8 166, Value.int IntKind.u8 103, Value.int IntKind.u8 71, Value.int IntKind.u8 222, Value.int IntKind.u8 154, Value.int IntKind.u8 230, Value.int IntKind.u8 48, Value.int IntKind.u8 48, Value.int IntKind.u8 202, Value.int IntKind.u8 50, Value.int IntKind.u8 97, Value.int IntKind.u8 20, Value.int IntKind.u8 151, Value.int IntKind.u8 200, Value.int IntKind.u8 39] = (bl 16 (cb (ofl TC))).toArray := by kernel_rfl
theorem zA : ((((((((((((((((z16.set 0 (Value.int IntKind.u8 187)).set 1 (Value.int IntKind.u8 29)).set 2 (Value.int IntKind.u8 105)).set 3 (Value.int IntKind.u8 41)).set 4 (Value.int IntKind.u8 233)).set 5 (Value.int IntKind.u8 89)).set 6 (Value.int IntKind.u8 55)).set 7 (Value.int IntKind.u8 40)).set 8 (Value.int IntKind.u8 127)).set 9 (Value.int IntKind.u8 163)).set 10 (Value.int IntKind.u8 125)).set 11 (Value.int IntKind.u8 18)).set 12 (Value.int IntKind.u8 155)).set 13 (Value.int IntKind.u8 117)).set 14 (Value.int IntKind.u8 103)).set 15 (Value.int IntKind.u8 70)) = bl 16 (cb (ofl TA)) := by kernel_rfl
theorem zB : ((((((((((((((((z16.set 0 (Value.int IntKind.u8 7)).set 1 (Value.int IntKind.u8 10)).set 2 (Value.int IntKind.u8 22)).set 3 (Value.int IntKind.u8 180)).set 4 (Value.int IntKind.u8 107)).set 5 (Value.int IntKind.u8 77)).set 6 (Value.int IntKind.u8 65)).set 7 (Value.int IntKind.u8 68)).set 8 (Value.int IntKind.u8 247)).set 9 (Value.int IntKind.u8 155)).set 10 (Value.int IntKind.u8 221)).set 11 (Value.int IntKind.u8 157)).set 12 (Value.int IntKind.u8 208)).set 13 (Value.int IntKind.u8 74)).set 14 (Value.int IntKind.u8 40)).set 15 (Value.int IntKind.u8 124)) = bl 16 (cb (ofl TB)) := by kernel_rfl
theorem zC : ((((((((((((((((z16.set 0 (Value.int IntKind.u8 223)).set 1 (Value.int IntKind.u8 166)).set 2 (Value.int IntKind.u8 103)).set 3 (Value.int IntKind.u8 71)).set 4 (Value.int IntKind.u8 222)).set 5 (Value.int IntKind.u8 154)).set 6 (Value.int IntKind.u8 230)).set 7 (Value.int IntKind.u8 48)).set 8 (Value.int IntKind.u8 48)).set 9 (Value.int IntKind.u8 202)).set 10 (Value.int IntKind.u8 50)).set 11 (Value.int IntKind.u8 97)).set 12 (Value.int IntKind.u8 20)).set 13 (Value.int IntKind.u8 151)).set 14 (Value.int IntKind.u8 200)).set 15 (Value.int IntKind.u8 39)) = bl 16 (cb (ofl TC)) := by kernel_rfl
theorem xk_b (i : Nat) : ofl XK i < 256 := ofl_lt XK (by decide +kernel) i
theorem xt_b (i : Nat) : ofl XT i < 256 := ofl_lt XT (by decide +kernel) i
theorem cb_b {f : Nat → Nat} (h : ∀ i, f i < 256) (i : Nat) : 0 ≤ cb f i ∧ cb f i < 256 := ⟨Int.natCast_nonneg _, Int.ofNat_lt.2 (h i)⟩
set_option maxRecDepth 8000 in
theorem key1 (w : World) : Calls Tryd.prog 6 #[] w fun e w' => e = .returned (.slice (some ⟨w.heap.size, 0, none⟩) 16 16) ∧ Blk w' w.heap.size (bl 16 (cb (ofl XK))) 5 ∧ Below w.heap.size w w' := by
  have e := lk
  go_enter Tryd.func6, Tryd.ntmps6
  go_wp2
  go_ret
  exact ⟨rfl, Blk.newAt _ _ _ _ _ rfl (by first | exact lk | rfl), below_alloc _ _⟩
set_option maxRecDepth 8000 in
theorem text1 (w : World) : Calls Tryd.prog 9 #[] w fun e w' => e = .returned (.slice (some ⟨w.heap.size, 0, none⟩) 40 40) ∧ Blk w' w.heap.size (bl 40 (cb (ofl XT))) 5 ∧ Below w.heap.size w w' := by
  go_enter Tryd.func9, Tryd.ntmps9
  go_wp2
  go_ret
  exact ⟨rfl, Blk.newAt _ _ _ _ _ rfl lt40, below_alloc _ _⟩
theorem low_nil : Low [] := ⟨by simp [tot], by simp⟩
theorem pos_nil : Pos [] := fun q hq => by simp at hq
/-- A tag, without a ledger. -/
theorem tagN (k : Nat) (hkk : k = 4 ∨ k = 6 ∨ k = 8) (key : Nat → Nat) (hkey : ∀ i, key i < 256) (kb ko cap : Nat) (hc : 4 * k ≤ cap) (w : World) (hk : KM w) (hcell : ∀ i, i < 4 * k → w.cell? ⟨kb, ko + i, none⟩ = some (.int .u8 (key i : Nat)))
    (q : Nat) (f : Nat → Nat) (hq : q ≤ 140737488355328) (a : Option Addr) (pc : Nat) (hrb : By.RB w (.slice a q pc) q (cb f)) :
    Calls Tryd.prog 13 #[.pointer none, .slice (some ⟨kb, ko, none⟩) (4 * k) cap, .slice a q pc] w fun e w' => ∃ b, e = .returned (.tuple #[.slice (some ⟨b, 0, none⟩) 16 16, .int .i64 0]) ∧ Blk w' b (bl 16 (cb (tgn (rk k key) (k + 6) f q))) 34 ∧ w.heap.size ≤ b ∧ Below w.heap.size w w' := by
  have hb := block_lt_of_cell (hcell 0 (by omega))
  refine (tag_ok (fun _ => False) w w none [] k hkk key hkey kb ko cap hc trivial (Kp.refl _ _) pos_nil low_nil hk id (fun W h _ i hi => ?_) q f (fun i => Int.ofNat_lt.1 (hrb.1 i).2) hq a pc (fun V h _ => hrb.below (below_kp h))).mono ?_
  · exact ((below_kp h).cell (p := ⟨kb, ko + i, none⟩) hb).trans (hcell i hi)
  · rintro e w' ⟨b, rfl, h1, h2, -, h4, -⟩
    exact ⟨b, rfl, h1, h2, below_kp h4⟩
theorem upto_b {f : Nat → Nat} (h : B16 f) (i : Nat) : upto 16 f i < 256 := by
  unfold upto; split
  · exact h _ (by omega)
  · decide
theorem rb_tag {w : World} {b : Nat} {f : Nat → Nat} {t : TypeId} (h : Blk w b (bl 16 (cb f)) t) (hf : B16 f) : By.RB w (.slice (some ⟨b, 0, none⟩) 16 16) 16 (cb (upto 16 f)) := by
  rw [← upto_all] at h
  exact rb_blk h (cb_b (upto_b hf)) (by simp [maxLen])
theorem upto_e {f g : Nat → Nat} (h : E16 f g) (i : Nat) (hi : i < 16) : cb (upto 16 f) i = cb g i := by
  show ((upto 16 f i : Nat) : Int) = ((g i : Nat) : Int)
  rw [upto_get _ _ _ hi, h i hi]
theorem xk_rk (p : Nat) (hp : p < 16 * (10 + 1)) : rk 4 (ofl XK) p = ofl KX p := by
  unfold rk
  rw [upto_get _ _ _ (by omega)]
  exact xk_wds (ofl XK) (fun _ _ => rfl) p (by omega)
theorem km_below {w w' : World} (h : KM w) (hb : Below w.heap.size w w') : KM w' := h.kept (Kp.of_below (fun _ => False) hb) id
set_option maxRecDepth 8000 in
set_option maxHeartbeats 4000000 in
theorem tagged1 (n : Nat) (hn : n ≤ 40) (T : Nat → Nat) (hT : E16 (tgn (ofl KX) 10 (ofl XT) n) T) (v : Value) (w : World) (hk : KM w) (hv : By.RB w v 16 (cb T)) :
    Calls Tryd.prog 22 #[.int .i64 n, v] w fun e w' => e = .returned (.bool true) ∧ Below w.heap.size w w' := by
  have HT := hid ((tgn_k (r := 10) xk_rk (ofl XT) n).trans hT)
  have HK := hid hk
  have HV := hid hv
  obtain ⟨hf, ad, cap, rfl, h1, h2, -⟩ := hv
  clear hf h1 h2 hT hk
  have hn2 : (n : Int) ≤ 40 := by omega
  go_enter Tryd.func22, Tryd.ntmps22
  go_wp2_with fail
  refine (key1 w).mono ?_
  rintro e w2 ⟨rfl, hb2, hk2⟩
  have B2 := hid hb2
  have K2 := hid hk2
  clear hb2 hk2
  go_wp2_with fail
  refine (text1 w2).mono ?_
  rintro e w3 ⟨rfl, hb3, hk3⟩
  have B3 := hid (B2.out.below hk3)
  have T3 := hid hb3
  have K3 := hid (below_next K2.out hk3)
  have HZ := hid B2.out.lt
  clear hb3 hk3 B2 K2
  obtain ⟨o2, ho2⟩ : ∃ x, w2.heap.size = x := ⟨_, rfl⟩
  rw [ho2] at T3 ⊢
  have RT := hid (show By.RB w3 (.slice (some ⟨o2, 0, none⟩) n 40) n (cb (ofl XT)) from ⟨cb_b xt_b, _, _, rfl, by omega, by simp [maxLen], .inr ⟨o2, 0, rfl, fun i hi => by rw [Nat.zero_add]; exact T3.out.cell i _ (bl_get 40 _ i (by omega))⟩⟩)
  have TC := hid (tagN 4 (.inl rfl) (ofl XK) xk_b w.heap.size 0 16 (by omega) w3 (km_below HK.out K3.out) (fun i hi => by rw [Nat.zero_add]; exact B3.out.cell i _ (bl_get 16 _ i (by omega))) n (ofl XT) (by omega) (some ⟨o2, 0, none⟩) 40 RT.out)
  rw [show 4 * 4 = 16 from rfl, show 4 + 6 = 10 from rfl] at TC
  have hss : (Instr.sliceAt 28 (.slice (some ⟨o2, 0, none⟩) 40 40) none (some (.int .i64 (n : Int))) none).run Tryd.prog w3 = .ok (.slice (some ⟨o2, 0, none⟩) n 40) w3 := by
    simp [Instr.sliceAt, go_sem, hn2]
  clear hn2
  go_wp2_with fail
  refine TC.out.mono ?_
  rintro e w4 ⟨b, rfl, hb4, -, hk4⟩
  have R4 := hid (rb_tag hb4 (tgn_b (rk_lt 4 _ xk_b) xt_b 10 n))
  have K4 := hid (below_next K3.out hk4)
  have V4 := hid (HV.out.below K4.out)
  have SC := hid (same_true _ _ 16 _ _ w4 R4.out V4.out (by decide) (upto_e HT.out))
  clear hb4 hk4 TC RT hss B3 T3 K3
  go_wp2_with (go_at_call 35; refine SC.out.mono ?_; rintro e w5 ⟨rfl, d, rfl⟩)
  go_ret
  exact ⟨by simp, below_drew' K4.out d⟩
set_option maxRecDepth 8000 in
set_option maxHeartbeats 4000000 in
theorem awake1 (w : World) (hk : KM w) : Calls Tryd.prog 14 #[] w fun e w' => e = .returned (.bool true) ∧ Below w.heap.size w w' := by
  have HK := hid hk
  clear hk
  have hA := zA
  have hB := zB
  have hC := zC
  have tb := fun (l : List Nat) (W : World) (h : ∀ i, ofl l i < 256) => rb_blk (Blk.new W (bl 16 (cb (ofl l))) 5) (cb_b h) (by simp [maxLen])
  have HTB := hid tb
  have hTA := hid (fun i => ofl_lt TA (by decide +kernel) i)
  have hTB := hid (fun i => ofl_lt TB (by decide +kernel) i)
  have hTC := hid (fun i => ofl_lt TC (by decide +kernel) i)
  clear tb
  go_enter Tryd.func14, Tryd.ntmps14
  go_wp2_with fail
  have k1 := hid (below_alloc w (.cells (bl 16 (cb (ofl TA))).toArray 5))
  refine (tagged1 0 (by decide) _ (tag0 _) _ _ (km_below HK.out k1.out) (HTB.out TA w hTA.out)).mono ?_
  rintro e w2 ⟨rfl, hb2⟩
  have B2 := hid (below_next k1.out hb2)
  have k3 := hid (below_next B2.out (below_alloc w2 (.cells (bl 16 (cb (ofl TB))).toArray 5)))
  clear hb2 k1
  go_wp2_with fail
  refine (tagged1 16 (by decide) _ tag16 _ _ (km_below HK.out k3.out) (HTB.out TB w2 hTB.out)).mono ?_
  rintro e w4 ⟨rfl, hb4⟩
  have B4 := hid (below_next k3.out hb4)
  have k5 := hid (below_next B4.out (below_alloc w4 (.cells (bl 16 (cb (ofl TC))).toArray 5)))
  clear hb4 k3 B2
  go_wp2_with fail
  refine (tagged1 40 (by decide) _ tag40 _ _ (km_below HK.out k5.out) (HTB.out TC w4 hTC.out)).mono ?_
  rintro e w6 ⟨rfl, hb6⟩
  have B6 := hid (below_next k5.out hb6)
  clear hb6 k5 B4
  go_wp2_with fail
  go_ret
  exact ⟨rfl, B6.out⟩
end Go.Proofs.YtnncgniiceglaabDoor.Vm
