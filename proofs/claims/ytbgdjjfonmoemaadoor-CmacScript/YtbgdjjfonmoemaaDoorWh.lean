/- The program's Tag. The statements' helpers key, text, tagged, awake: the document's examples. The calls of a mac without a ledger. The keys that may be, and the others. -/
import Derived.Test.YtbgdjjfonmoemaaDoorVwr
import Derived.Test.YtbgdjjfonmoemaaDoorWd
import Derived.Test.YtbgdjjfonmoemaaDoorWf
import Derived.Test.YtbgdjjfonmoemaaDoorYr
import Derived.Test.YtbgdjjfonmoemaaDoorVwip
namespace Go.Proofs.YtbgdjjfonmoemaaDoor.Vm
open Go.ChangeShapes Go.WideShapes Go.ChangeAt Go.RowKit
open Go.Proofs.YtbgdjjfonmoemaaDoor.By Go.Proofs.YtbgdjjfonmoemaaDoor.Gf Go.Proofs.YtbgdjjfonmoemaaDoor.Ae
theorem ct2_zero (m f : Nat → Nat) : ct2 0 m f = f := by
  funext i
  unfold ct2
  rw [if_neg (by omega), Nat.sub_zero]
/-- Room for a whole message's events. -/
def Low (L : List Rn) : Prop := tot L ≤ 1152921504606846976 ∧ L.length ≤ 1000000
theorem Low.big {L : List Rn} (h : Low L) : Big L := ⟨by have := h.1; omega, by have := h.2; omega⟩
/-- What a tag records. -/
def evT (k : Nat) (L : List Rn) (n : Nat) : List Rn := evb k (putL L ⟨4, ((4 * k : Nat) : Int), 1⟩) (nbl n + 2)
theorem evT_steps {L : List Rn} (hp : Pos L) (hr : Low L) (k n : Nat) (hn : n ≤ 140737488355328) : evb k (evb k (evb k (putL L ⟨4, ((4 * k : Nat) : Int), 1⟩) 1) (nbl n)) 1 = evT k L n := by
  have h1 : tot (putL L ⟨4, ((4 * k : Nat) : Int), 1⟩) = tot L + 1 := putL_tot hp rfl (by have := hr.1; omega)
  have h2 : nbl n ≤ 140737488355328 := by unfold nbl; omega
  have h3 := hr.1
  have hp1 : Pos (putL L ⟨4, ((4 * k : Nat) : Int), 1⟩) := putL_pos hp
  rw [evb_add hp1 k 1 (nbl n) (by omega), evb_add hp1 k (1 + nbl n) 1 (by omega)]
  unfold evT
  rw [show 1 + nbl n + 1 = nbl n + 2 from by omega]
theorem Low.mid {L : List Rn} (hp : Pos L) (hr : Low L) (k a : Nat) (ha : a ≤ 140737488355330) : Pos (evb k (putL L ⟨4, ((4 * k : Nat) : Int), 1⟩) a) ∧ tot (evb k (putL L ⟨4, ((4 * k : Nat) : Int), 1⟩) a) ≤ 2305843009213693952 ∧ (evb k (putL L ⟨4, ((4 * k : Nat) : Int), 1⟩) a).length ≤ 10000000 := by
  have h1 : tot (putL L ⟨4, ((4 * k : Nat) : Int), 1⟩) = tot L + 1 := putL_tot hp rfl (by have := hr.1; omega)
  have h3 := hr.1
  have h4 := hr.2
  have h5 := evb_len k (putL L ⟨4, ((4 * k : Nat) : Int), 1⟩) a
  have h6 := (putL_len (L := L) (r := ⟨4, ((4 * k : Nat) : Int), 1⟩)).1
  refine ⟨evb_pos (putL_pos hp) k a, ?_, by omega⟩
  rw [evb_tot (putL_pos hp) k a (by omega), h1]; omega
theorem kt_of_kx {w w2 V : World} {g : Nat} (h : Kt w w2) (hg : w.heap.size ≤ g) (hx : Kx g w2 V) : Kt w V :=
  ⟨Nat.le_trans h.1 hx.1, fun x cs t hb h1 h2 => hx.2 x cs t (by have := hb.lt; omega) (h.2 x cs t hb h1 h2) h1 h2⟩
theorem tag_bad (lv pv : Value) (a : Option Addr) (n cap : Nat) (w : World) (h1 : n ≠ 16) (h2 : n ≠ 24) (h3 : n ≠ 32) : Calls Tryd.prog 33 #[lv, .slice a n cap, pv] w fun e w' => e = .returned (.tuple #[.slice none 0 0, .int .i64 7]) ∧ Below w.heap.size w w' := by
  go_enter Tryd.func33, Tryd.ntmps33
  go_wp2_with (go_at_call 15; refine (cnew_bad lv a n cap _ h1 h2 h3).mono ?_; rintro e w2 ⟨rfl, hb2⟩)
  go_ret2
  exact ⟨rfl, hb2⟩
set_option maxRecDepth 8000 in
set_option maxHeartbeats 4000000 in
theorem tag_ok (S : Nat → Prop) (w0 w : World) (lo : Option Nat) (L : List Rn) (k : Nat) (hkk : k = 4 ∨ k = 6 ∨ k = 8) (key : Nat → Nat) (hkey : ∀ i, key i < 256) (kb ko cap : Nat) (hc : 4 * k ≤ cap) (h : LG S w0 w lo L) (h0 : Kp S w0 w) (hp : Pos L) (hr : Low L) (hk : KM w0) (s0 : ¬ S 0)
    (hcell : ∀ W, Kp S w0 W → Kt w W → ∀ i, i < 4 * k → W.cell? ⟨kb, ko + i, none⟩ = some (.int .u8 (key i : Nat)))
    (q : Nat) (f : Nat → Nat) (hf : ∀ i, f i < 256) (hq : q ≤ 140737488355328) (a : Option Addr) (pc : Nat) (hrb : ∀ V, Kp S w0 V → Kt w V → By.RB V (.slice a q pc) q (cb f)) :
    Calls Tryd.prog 33 #[lpv lo, .slice (some ⟨kb, ko, none⟩) (4 * k) cap, .slice a q pc] w fun e w' => ∃ b, e = .returned (.tuple #[.slice (some ⟨b, 0, none⟩) 16 16, .int .i64 0]) ∧ Blk w' b (bl 16 (cb (tgn (rk k key) (k + 6) f q))) 82 ∧ w.heap.size ≤ b ∧ LG S w0 w' lo (evT k L q) ∧ Kp S w0 w' ∧ Kt w w' := by
  have NC := hid (cnew_ok S w0 w lo L k hkk key hkey kb ko cap hc h h0 hr.big hp hk s0 hcell)
  have HRB := hid hrb
  have ES := hid (evT_steps hp hr k q hq)
  have M1 := hid (Low.mid hp hr k 1 (by omega))
  have M2 := hid (Low.mid hp hr k (1 + nbl q) (by unfold nbl; omega))
  have EA := hid (show evb k (evb k (putL L ⟨4, ((4 * k : Nat) : Int), 1⟩) 1) (nbl q) = evb k (putL L ⟨4, ((4 * k : Nat) : Int), 1⟩) (1 + nbl q) from evb_add (putL_pos hp) k 1 (nbl q) (by
    have h1 : tot (putL L ⟨4, ((4 * k : Nat) : Int), 1⟩) = tot L + 1 := putL_tot hp rfl (by have := hr.1; omega)
    have := hr.1
    unfold nbl; omega))
  have HF := hid hf
  have HK := hid hk
  have HS0 := hid s0
  have W0 := hid h0.size
  clear h h0 hp hr hk s0 hcell hrb hf
  go_enter Tryd.func33, Tryd.ntmps33
  go_wp2_with (go_at_call 15; refine NC.out.mono ?_; rintro e w2 ⟨g, gc, rfl, hm2, hg2, hgc2, hl2, hk2, ht2⟩)
  refine (write_mc S w0 w2 lo _ g gc k 0 (rk k key) nought hm2 hl2 hk2 M1.out.1 M1.out.2 HK.out HS0.out (fun e => by have := W0.out; omega) q f HF.out hq a pc (fun V hV hx => HRB.out V hV (kt_of_kx ht2 hg2 hx))).mono ?_
  rintro e w3 ⟨rfl, hm3, hl3, hk3, hx3⟩
  rw [ct2_zero, Nat.zero_add] at hm3
  rw [Nat.zero_add, show nbl q - nbl 0 = nbl q from Nat.sub_zero _] at hl3
  have T3 := hid (kt_of_kx ht2 hg2 hx3)
  go_wp2_with fail
  have RM := M2.out.2
  rw [← EA.out] at RM
  refine (sum_mc S w0 w3 lo _ g gc k q (rk k key) f hm3 hl3 hk3 ⟨by have := RM.1; omega, by have := RM.2; omega⟩ HK.out HS0.out).mono ?_
  rintro e w4 ⟨b, rfl, hb4, hbs, hl4, hk4, ht4⟩
  rw [ES.out] at hl4
  have R := hid (show Blk w4 b (bl 16 (cb (tgn (rk k key) (k + 6) f q))) 82 ∧ w.heap.size ≤ b ∧ LG S w0 w4 lo (evT k L q) ∧ Kp S w0 w4 ∧ Kt w w4 from ⟨hb4, Nat.le_trans T3.out.1 hbs, hl4, hk4, T3.out.trans ht4⟩)
  clear hm2 hg2 hgc2 hl2 hk2 ht2 hm3 hl3 hk3 hx3 RM hb4 hbs hl4 hk4 ht4
  go_wp2_with fail
  go_ret2
  exact ⟨b, rfl, R.out⟩
end Go.Proofs.YtbgdjjfonmoemaaDoor.Vm
namespace Go.Proofs.YtbgdjjfonmoemaaDoor.Vm
open Go.ChangeShapes Go.WideShapes Go.ChangeAt Go.RowKit
open Go.Proofs.YtbgdjjfonmoemaaDoor.By Go.Proofs.YtbgdjjfonmoemaaDoor.Gf Go.Proofs.YtbgdjjfonmoemaaDoor.Ae
theorem lk : #[Value.int IntKind.u8 43, Value.int IntKind.u8 126, Value.int IntKind.u8 21, Value.int IntKind.u8 22, Value.int IntKind.u8 40, Value.int IntKind.u8 174, Value.int IntKind.u8 210, Value.int IntKind.u8 166, Value.int IntKind.u8 171, Value.int IntKind.u8 247, Value.int IntKind.u8 21, Value.int IntKind.u8 136, Value.int IntKind.u8 9, Value.int IntKind.u8 207, Value.int IntKind.u8 79, Value.int IntKind.u8 60] = (bl 16 (cb (ofl XK))).toArray := by kernel_rfl
theorem lt40 : #[Value.int IntKind.u8 107, Value.int IntKind.u8 193, Value.int IntKind.u8 190, Value.int IntKind.u8 226, Value.int IntKind.u8 46, Value.int IntKind.u8 64, Value.int IntKind.u8 159, Value.int IntKind.u8 150, Value.int IntKind.u8 233, Value.int IntKind.u8 61, Value.int IntKind.u8 126, Value.int IntKind.u8 17, Value.int IntKind.u8 115, Value.int IntKind.u8 147, Value.int IntKind.u8 23, Value.int IntKind.u8 42, Value.int IntKind.u8 174, Value.int IntKind.u8 45, Value.int IntKind.u8 138, Value.int IntKind.u8 87, Value.int IntKind.u8 30, Value.int IntKind.u8 3, Value.int IntKind.u8 172, Value.int IntKind.u8 156, Value.int IntKind.u8 158, Value.int IntKind.u8 183, Value.int IntKind.u8 111, Value.int IntKind.u8 172, Value.int IntKind.u8 69, Value.int IntKind.u8 175, Value.int IntKind.u8 142, Value.int IntKind.u8 81, Value.int IntKind.u8 48, Value.int IntKind.u8 200, Value.int IntKind.u8 28, Value.int IntKind.u8 70, Value.int IntKind.u8 163, Value.int IntKind.u8 92, Value.int IntKind.u8 228, Value.int IntKind.u8 17] = (bl 40 (cb (ofl XT))).toArray := by kernel_rfl
theorem lA : #[Value.int IntKind.u8 187, Value.int IntKind.u8 29, Value.int IntKind.u8 105, Value.int IntKind.u8 41, Value.int IntKind.u8 233, Value.int IntKind.u8 89, Value.int IntKind.u8 55, Value.int IntKind.u8 40, Value.int IntKind.u8 127, Value.int IntKind.u8 163, Value.int IntKind.u8 125, Value.int IntKind.u8 18, Value.int IntKind.u8 155, Value.int IntKind.u8 117, Value.int IntKind.u8 103, Value.int IntKind.u8 70] = (bl 16 (cb (ofl TA))).toArray := by kernel_rfl
theorem lB : #[Value.int IntKind.u8 7, Value.int IntKind.u8 10, Value.int IntKind.u8 22, Value.int IntKind.u8 180, Value.int IntKind.u8 107, Value.int IntKind.u8 77, Value.int IntKind.u8 65, Value.int IntKind.u8 68, Value.int IntKind.u8 247, Value.int IntKind.u8 155, Value.int IntKind.u8 221, Value.int IntKind.u8 157, Value.int IntKind.u8 208, Value.int IntKind.u8 74, Value.int IntKind.u8 40, Value.int IntKind.u8 124] = (bl 16 (cb (ofl TB))).toArray := by kernel_rfl
theorem lC : #[Value.int IntKind.u8 223, Value.int IntKind.u8 166, Value.int IntKind.u8 103, Value.int IntKind.u8 71, Value.int IntKind.u8 222, Value.int IntKind.u8 154, Value.int IntKind.u8 230, Value.int IntKind.u8 48, Value.int IntKind.u8 48, Value.int IntKind.u8 202, Value.int IntKind.u8 50, Value.int IntKind.u8 97, Value.int IntKind.u8 20, Value.int IntKind.u8 151, Value.int IntKind.u8 200, Value.int IntKind.u8 39] = (bl 16 (cb (ofl TC))).toArray := by kernel_rfl
theorem zA : ((((((((((((((((z16.set 0 (Value.int IntKind.u8 187)).set 1 (Value.int IntKind.u8 29)).set 2 (Value.int IntKind.u8 105)).set 3 (Value.int IntKind.u8 41)).set 4 (Value.int IntKind.u8 233)).set 5 (Value.int IntKind.u8 89)).set 6 (Value.int IntKind.u8 55)).set 7 (Value.int IntKind.u8 40)).set 8 (Value.int IntKind.u8 127)).set 9 (Value.int IntKind.u8 163)).set 10 (Value.int IntKind.u8 125)).set 11 (Value.int IntKind.u8 18)).set 12 (Value.int IntKind.u8 155)).set 13 (Value.int IntKind.u8 117)).set 14 (Value.int IntKind.u8 103)).set 15 (Value.int IntKind.u8 70)) = bl 16 (cb (ofl TA)) := by kernel_rfl
theorem zB : ((((((((((((((((z16.set 0 (Value.int IntKind.u8 7)).set 1 (Value.int IntKind.u8 10)).set 2 (Value.int IntKind.u8 22)).set 3 (Value.int IntKind.u8 180)).set 4 (Value.int IntKind.u8 107)).set 5 (Value.int IntKind.u8 77)).set 6 (Value.int IntKind.u8 65)).set 7 (Value.int IntKind.u8 68)).set 8 (Value.int IntKind.u8 247)).set 9 (Value.int IntKind.u8 155)).set 10 (Value.int IntKind.u8 221)).set 11 (Value.int IntKind.u8 157)).set 12 (Value.int IntKind.u8 208)).set 13 (Value.int IntKind.u8 74)).set 14 (Value.int IntKind.u8 40)).set 15 (Value.int IntKind.u8 124)) = bl 16 (cb (ofl TB)) := by kernel_rfl
theorem zC : ((((((((((((((((z16.set 0 (Value.int IntKind.u8 223)).set 1 (Value.int IntKind.u8 166)).set 2 (Value.int IntKind.u8 103)).set 3 (Value.int IntKind.u8 71)).set 4 (Value.int IntKind.u8 222)).set 5 (Value.int IntKind.u8 154)).set 6 (Value.int IntKind.u8 230)).set 7 (Value.int IntKind.u8 48)).set 8 (Value.int IntKind.u8 48)).set 9 (Value.int IntKind.u8 202)).set 10 (Value.int IntKind.u8 50)).set 11 (Value.int IntKind.u8 97)).set 12 (Value.int IntKind.u8 20)).set 13 (Value.int IntKind.u8 151)).set 14 (Value.int IntKind.u8 200)).set 15 (Value.int IntKind.u8 39)) = bl 16 (cb (ofl TC)) := by kernel_rfl
theorem xk_b (i : Nat) : ofl XK i < 256 := ofl_lt XK (by decide +kernel) i
theorem xt_b (i : Nat) : ofl XT i < 256 := ofl_lt XT (by decide +kernel) i
theorem cb_b {f : Nat → Nat} (h : ∀ i, f i < 256) (i : Nat) : 0 ≤ cb f i ∧ cb f i < 256 := ⟨Int.natCast_nonneg _, Int.ofNat_lt.2 (h i)⟩
theorem low_nil : Low [] := ⟨by simp [tot], by simp⟩
theorem pos_nil : Pos [] := fun q hq => by simp at hq
/-- A tag, without a ledger. -/
theorem tagN (k : Nat) (hkk : k = 4 ∨ k = 6 ∨ k = 8) (key : Nat → Nat) (hkey : ∀ i, key i < 256) (kb ko cap : Nat) (hc : 4 * k ≤ cap) (w : World) (hk : KM w) (hcell : ∀ i, i < 4 * k → w.cell? ⟨kb, ko + i, none⟩ = some (.int .u8 (key i : Nat)))
    (q : Nat) (f : Nat → Nat) (hq : q ≤ 140737488355328) (a : Option Addr) (pc : Nat) (hrb : By.RB w (.slice a q pc) q (cb f)) :
    Calls Tryd.prog 33 #[.pointer none, .slice (some ⟨kb, ko, none⟩) (4 * k) cap, .slice a q pc] w fun e w' => ∃ b, e = .returned (.tuple #[.slice (some ⟨b, 0, none⟩) 16 16, .int .i64 0]) ∧ Blk w' b (bl 16 (cb (tgn (rk k key) (k + 6) f q))) 82 ∧ w.heap.size ≤ b ∧ Below w.heap.size w w' := by
  have hb := block_lt_of_cell (hcell 0 (by omega))
  refine (tag_ok (fun _ => False) w w none [] k hkk key hkey kb ko cap hc trivial (Kp.refl _ _) pos_nil low_nil hk id (fun W h _ i hi => ?_) q f (fun i => Int.ofNat_lt.1 (hrb.1 i).2) hq a pc (fun V h _ => hrb.below (below_kp h))).mono ?_
  · exact ((below_kp h).cell (p := ⟨kb, ko + i, none⟩) hb).trans (hcell i hi)
  · rintro e w' ⟨b, rfl, h1, h2, -, h4, -⟩
    exact ⟨b, rfl, h1, h2, below_kp h4⟩
theorem upto_b {f : Nat → Nat} (h : B16 f) (i : Nat) : upto 16 f i < 256 := by
  unfold upto; split
  · exact h _ (by omega)
  · decide
theorem rb_tag {w : World} {b : Nat} {f : Nat → Nat} {t : TypeId} (h : Blk w b (bl 16 (cb f)) t) (hf : B16 f) : By.RB w (.slice (some ⟨b, 0, none⟩) 16 16) 16 (cb (upto 16 f)) := by
  rw [← upto_all] at h
  exact rb_blk h (cb_b (upto_b hf)) (by simp [maxLen])
theorem upto_e {f g : Nat → Nat} (h : E16 f g) (i : Nat) (hi : i < 16) : cb (upto 16 f) i = cb g i := by
  show ((upto 16 f i : Nat) : Int) = ((g i : Nat) : Int)
  rw [upto_get _ _ _ hi, h i hi]
theorem xk_rk (p : Nat) (hp : p < 16 * (10 + 1)) : rk 4 (ofl XK) p = ofl KX p := by
  unfold rk
  rw [upto_get _ _ _ (by omega)]
  exact xk_wds (ofl XK) (fun _ _ => rfl) p (by omega)
theorem km_below {w w' : World} (h : KM w) (hb : Below w.heap.size w w') : KM w' := h.kept (Kp.of_below (fun _ => False) hb) id
end Go.Proofs.YtbgdjjfonmoemaaDoor.Vm
namespace Go.Proofs.YtbgdjjfonmoemaaDoor.Vm
open Go.ChangeShapes Go.WideShapes Go.ChangeAt Go.RowKit
open Go.Proofs.YtbgdjjfonmoemaaDoor.By Go.Proofs.YtbgdjjfonmoemaaDoor.Gf Go.Proofs.YtbgdjjfonmoemaaDoor.Ae
theorem cnewN (k : Nat) (hkk : k = 4 ∨ k = 6 ∨ k = 8) (key : Nat → Nat) (hkey : ∀ i, key i < 256) (kb ko cap : Nat) (hc : 4 * k ≤ cap) (w : World) (hk : KM w) (hcell : ∀ i, i < 4 * k → w.cell? ⟨kb, ko + i, none⟩ = some (.int .u8 (key i : Nat))) :
    Calls Tryd.prog 15 #[.pointer none, .slice (some ⟨kb, ko, none⟩) (4 * k) cap] w fun e w' => ∃ g gc, e = .returned (.tuple #[.pointer (some ⟨g, 0, none⟩), .int .i64 0]) ∧ Mc w' g gc k (rk k key) 0 nought ∧ w.heap.size ≤ g ∧ w.heap.size ≤ gc ∧ Below w.heap.size w w' := by
  have hb := block_lt_of_cell (hcell 0 (by omega))
  refine (cnew_ok (fun _ => False) w w none [] k hkk key hkey kb ko cap hc trivial (Kp.refl _ _) low_nil.big pos_nil hk id (fun W h _ i hi => ((below_kp h).cell (p := ⟨kb, ko + i, none⟩) hb).trans (hcell i hi))).mono ?_
  rintro e w' ⟨g, gc, rfl, h1, h2, h3, -, h5, -⟩
  exact ⟨g, gc, rfl, h1, h2, h3, below_kp h5⟩
/-- What lies behind V, and V's own blocks. -/
theorem kp_ns {V W : World} (h : Kp (NS V) V W) : Below V.heap.size V W := h.below (Nat.le_refl _) (fun k hk e => by unfold NS at e; omega)
theorem ns_0 {V : World} (h : KM V) : ¬ NS V 0 := by have := h.lt; unfold NS; omega
theorem writeN (V W : World) (hv : Below V.heap.size V W) (hk : KM V) (g gc k n : Nat) (ws m : Nat → Nat) (hm : Mc W g gc k ws n m) (hg : V.heap.size ≤ g) (q : Nat) (f : Nat → Nat) (hq : q ≤ 140737488355328) (a : Option Addr) (cap : Nat) (hrb : ∀ V', Below V.heap.size V V' → Kx g W V' → By.RB V' (.slice a q cap) q (cb f)) :
    Calls Tryd.prog 20 #[.pointer (some ⟨g, 0, none⟩), .pointer none, .slice a q cap] W fun e w' => e = .returned (.int .i64 0) ∧ Mc w' g gc k ws (n + q) (ct2 n m f) ∧ Below V.heap.size V w' ∧ Kx g W w' := by
  refine (write_mc (NS V) V W none [] g gc k n ws m hm trivial (Kp.of_below _ hv) pos_nil ⟨by simp [tot], by simp⟩ hk (ns_0 hk) (fun e => by omega) q f (fun i => Int.ofNat_lt.1 ((hrb W hv (Kx.refl _ _)).1 i).2) hq a cap (fun V' h hx => hrb V' (kp_ns h) hx)).mono ?_
  rintro e w' ⟨rfl, h1, -, h3, h4⟩
  exact ⟨rfl, h1, kp_ns h3, h4⟩
theorem sumN (W : World) (hk : KM W) (g gc k n : Nat) (ws m : Nat → Nat) (hm : Mc W g gc k ws n m) :
    Calls Tryd.prog 22 #[.pointer (some ⟨g, 0, none⟩), .pointer none] W fun e w' => ∃ b, e = .returned (.tuple #[.slice (some ⟨b, 0, none⟩) 16 16, .int .i64 0]) ∧ Blk w' b (bl 16 (cb (tgn ws (k + 6) m n))) 82 ∧ W.heap.size ≤ b ∧ Below W.heap.size W w' := by
  refine (sum_mc (fun _ => False) W W none [] g gc k n ws m hm trivial (Kp.refl _ _) room_nil hk id).mono ?_
  rintro e w' ⟨b, rfl, h1, h2, -, h4, -⟩
  exact ⟨b, rfl, h1, h2, below_kp h4⟩
theorem wipeM (V W : World) (hv : Below V.heap.size V W) (g gc k n : Nat) (ws m : Nat → Nat) (hm : Mc W g gc k ws n m) (hg : V.heap.size ≤ g) (hgc : V.heap.size ≤ gc) :
    Calls Tryd.prog 29 #[.pointer (some ⟨g, 0, none⟩), .pointer none] W fun e w' => e = .returned (.int .i64 0) ∧ NoMc w' g ∧ Below V.heap.size V w' ∧ ∀ x cs t, x ≠ g → x ≠ gc → Blk W x cs t → t ≠ 48 → t ≠ 77 → Blk w' x cs t := by
  refine (wipe_mc (NS V) V W none [] g gc k n ws m hm trivial (Kp.of_below _ hv) room_nil (fun e => by omega) (fun e => by omega)).mono ?_
  rintro e w' ⟨rfl, h1, -, h3, -, h5⟩
  exact ⟨rfl, h1, kp_ns h3, h5⟩
theorem Mc.kx {w w' : World} {g gc k n x : Nat} {ws m : Nat → Nat} (h : Mc w g gc k ws n m) (hk : Kx x w w') (hx : g ≠ x) (hc : gc ≠ x) : Mc w' g gc k ws n m := ⟨hk.2 _ _ _ hx h.here (by decide) (by decide), ⟨hk.2 _ _ _ hc h.ci.here (by decide) (by decide), h.ci.kk, h.ci.lt⟩, h.lt⟩
end Go.Proofs.YtbgdjjfonmoemaaDoor.Vm
namespace Go.Proofs.YtbgdjjfonmoemaaDoor.Vm
open Go.ChangeShapes Go.WideShapes Go.ChangeAt Go.RowKit
open Go.Proofs.YtbgdjjfonmoemaaDoor.By Go.Proofs.YtbgdjjfonmoemaaDoor.Gf Go.Proofs.YtbgdjjfonmoemaaDoor.Ae
theorem key_cases (n : Nat) : (n ≠ 16 ∧ n ≠ 24 ∧ n ≠ 32) ∨ ∃ k, (k = 4 ∨ k = 6 ∨ k = 8) ∧ n = 4 * k := by
  by_cases h1 : n = 16
  · exact .inr ⟨4, .inl rfl, h1⟩
  by_cases h2 : n = 24
  · exact .inr ⟨6, .inr (.inl rfl), h2⟩
  by_cases h3 : n = 32
  · exact .inr ⟨8, .inr (.inr rfl), h3⟩
  exact .inl ⟨h1, h2, h3⟩
theorem rb_kf {w : World} {v : Value} {n : Nat} {f : Nat → Int} (h : By.RB w v n f) : By.RB w v n (cb (kf f)) := by
  rw [show cb (kf f) = f from funext (fun i => kf_eq h.1 i)]; exact h
theorem rb_cells {w : World} {a : Option Addr} {n cap : Nat} {f : Nat → Nat} (h : By.RB w (.slice a n cap) n (cb f)) (h0 : 0 < n) : ∃ b o, a = some ⟨b, o, none⟩ ∧ n ≤ cap ∧ ∀ i, i < n → w.cell? ⟨b, o + i, none⟩ = some (.int .u8 (f i : Nat)) := by
  obtain ⟨_, a', cap', he, hc, _, h1 | ⟨b, o, h1, hcell⟩⟩ := h
  · omega
  · simp at he
    obtain ⟨rfl, rfl⟩ := he
    exact ⟨b, o, h1, hc, hcell⟩
end Go.Proofs.YtbgdjjfonmoemaaDoor.Vm
