/- The program's Tag. -/
import Derived.Test.YtnncgniiceglaabDoorVwr
import Derived.Test.YtnncgniiceglaabDoorVnew
namespace Go.Proofs.YtnncgniiceglaabDoor.Vm
open Go.ChangeShapes Go.WideShapes Go.ChangeAt Go.RowKit
open Go.Proofs.YtnncgniiceglaabDoor.By Go.Proofs.YtnncgniiceglaabDoor.Gf Go.Proofs.YtnncgniiceglaabDoor.Ae
theorem ct2_zero (m f : Nat → Nat) : ct2 0 m f = f := by
  funext i
  unfold ct2
  rw [if_neg (by omega), Nat.sub_zero]
/-- Room for a whole message's events. -/
def Low (L : List Rn) : Prop := tot L ≤ 1152921504606846976 ∧ L.length ≤ 1000000
theorem Low.big {L : List Rn} (h : Low L) : Big L := ⟨by have := h.1; omega, by have := h.2; omega⟩
/-- What a tag records. -/
def evT (k : Nat) (L : List Rn) (n : Nat) : List Rn := evb k (putL L ⟨4, ((4 * k : Nat) : Int), 1⟩) (nbl n + 2)
theorem evT_steps {L : List Rn} (hp : Pos L) (hr : Low L) (k n : Nat) (hn : n ≤ 140737488355328) : evb k (evb k (evb k (putL L ⟨4, ((4 * k : Nat) : Int), 1⟩) 1) (nbl n)) 1 = evT k L n := by
  have h1 : tot (putL L ⟨4, ((4 * k : Nat) : Int), 1⟩) = tot L + 1 := putL_tot hp rfl (by have := hr.1; omega)
  have h2 : nbl n ≤ 140737488355328 := by unfold nbl; omega
  have h3 := hr.1
  have hp1 : Pos (putL L ⟨4, ((4 * k : Nat) : Int), 1⟩) := putL_pos hp
  rw [evb_add hp1 k 1 (nbl n) (by omega), evb_add hp1 k (1 + nbl n) 1 (by omega)]
  unfold evT
  rw [show 1 + nbl n + 1 = nbl n + 2 from by omega]
theorem Low.mid {L : List Rn} (hp : Pos L) (hr : Low L) (k a : Nat) (ha : a ≤ 140737488355330) : Pos (evb k (putL L ⟨4, ((4 * k : Nat) : Int), 1⟩) a) ∧ tot (evb k (putL L ⟨4, ((4 * k : Nat) : Int), 1⟩) a) ≤ 2305843009213693952 ∧ (evb k (putL L ⟨4, ((4 * k : Nat) : Int), 1⟩) a).length ≤ 10000000 := by
  have h1 : tot (putL L ⟨4, ((4 * k : Nat) : Int), 1⟩) = tot L + 1 := putL_tot hp rfl (by have := hr.1; omega)
  have h3 := hr.1
  have h4 := hr.2
  have h5 := evb_len k (putL L ⟨4, ((4 * k : Nat) : Int), 1⟩) a
  have h6 := (putL_len (L := L) (r := ⟨4, ((4 * k : Nat) : Int), 1⟩)).1
  refine ⟨evb_pos (putL_pos hp) k a, ?_, by omega⟩
  rw [evb_tot (putL_pos hp) k a (by omega), h1]; omega
theorem kt_of_kx {w w2 V : World} {g : Nat} (h : Kt w w2) (hg : w.heap.size ≤ g) (hx : Kx g w2 V) : Kt w V :=
  ⟨Nat.le_trans h.1 hx.1, fun x cs t hb h1 h2 => hx.2 x cs t (by have := hb.lt; omega) (h.2 x cs t hb h1 h2) h1 h2⟩
theorem tag_bad (lv pv : Value) (a : Option Addr) (n cap : Nat) (w : World) (h1 : n ≠ 16) (h2 : n ≠ 24) (h3 : n ≠ 32) : Calls Tryd.prog 13 #[lv, .slice a n cap, pv] w fun e w' => e = .returned (.tuple #[.slice none 0 0, .int .i64 7]) ∧ Below w.heap.size w w' := by
  go_enter Tryd.func13, Tryd.ntmps13
  go_wp2_with (go_at_call 5; refine (cnew_bad lv a n cap _ h1 h2 h3).mono ?_; rintro e w2 ⟨rfl, hb2⟩)
  go_ret2
  exact ⟨rfl, hb2⟩
set_option maxRecDepth 8000 in
set_option maxHeartbeats 4000000 in
theorem tag_ok (S : Nat → Prop) (w0 w : World) (lo : Option Nat) (L : List Rn) (k : Nat) (hkk : k = 4 ∨ k = 6 ∨ k = 8) (key : Nat → Nat) (hkey : ∀ i, key i < 256) (kb ko cap : Nat) (hc : 4 * k ≤ cap) (h : LG S w0 w lo L) (h0 : Kp S w0 w) (hp : Pos L) (hr : Low L) (hk : KM w0) (s0 : ¬ S 0)
    (hcell : ∀ W, Kp S w0 W → Kt w W → ∀ i, i < 4 * k → W.cell? ⟨kb, ko + i, none⟩ = some (.int .u8 (key i : Nat)))
    (q : Nat) (f : Nat → Nat) (hf : ∀ i, f i < 256) (hq : q ≤ 140737488355328) (a : Option Addr) (pc : Nat) (hrb : ∀ V, Kp S w0 V → Kt w V → By.RB V (.slice a q pc) q (cb f)) :
    Calls Tryd.prog 13 #[lpv lo, .slice (some ⟨kb, ko, none⟩) (4 * k) cap, .slice a q pc] w fun e w' => ∃ b, e = .returned (.tuple #[.slice (some ⟨b, 0, none⟩) 16 16, .int .i64 0]) ∧ Blk w' b (bl 16 (cb (tgn (rk k key) (k + 6) f q))) 34 ∧ w.heap.size ≤ b ∧ LG S w0 w' lo (evT k L q) ∧ Kp S w0 w' ∧ Kt w w' := by
  have NC := hid (cnew_ok S w0 w lo L k hkk key hkey kb ko cap hc h h0 hr.big hp hk s0 hcell)
  have HRB := hid hrb
  have ES := hid (evT_steps hp hr k q hq)
  have M1 := hid (Low.mid hp hr k 1 (by omega))
  have M2 := hid (Low.mid hp hr k (1 + nbl q) (by unfold nbl; omega))
  have EA := hid (show evb k (evb k (putL L ⟨4, ((4 * k : Nat) : Int), 1⟩) 1) (nbl q) = evb k (putL L ⟨4, ((4 * k : Nat) : Int), 1⟩) (1 + nbl q) from evb_add (putL_pos hp) k 1 (nbl q) (by
    have h1 : tot (putL L ⟨4, ((4 * k : Nat) : Int), 1⟩) = tot L + 1 := putL_tot hp rfl (by have := hr.1; omega)
    have := hr.1
    unfold nbl; omega))
  have HF := hid hf
  have HK := hid hk
  have HS0 := hid s0
  have W0 := hid h0.size
  clear h h0 hp hr hk s0 hcell hrb hf
  go_enter Tryd.func13, Tryd.ntmps13
  go_wp2_with (go_at_call 5; refine NC.out.mono ?_; rintro e w2 ⟨g, gc, rfl, hm2, hg2, hgc2, hl2, hk2, ht2⟩)
  refine (write_mc S w0 w2 lo _ g gc k 0 (rk k key) nought hm2 hl2 hk2 M1.out.1 M1.out.2 HK.out HS0.out (fun e => by have := W0.out; omega) q f HF.out hq a pc (fun V hV hx => HRB.out V hV (kt_of_kx ht2 hg2 hx))).mono ?_
  rintro e w3 ⟨rfl, hm3, hl3, hk3, hx3⟩
  rw [ct2_zero, Nat.zero_add] at hm3
  rw [Nat.zero_add, show nbl q - nbl 0 = nbl q from Nat.sub_zero _] at hl3
  have T3 := hid (kt_of_kx ht2 hg2 hx3)
  go_wp2_with fail
  have RM := M2.out.2
  rw [← EA.out] at RM
  refine (sum_mc S w0 w3 lo _ g gc k q (rk k key) f hm3 hl3 hk3 ⟨by have := RM.1; omega, by have := RM.2; omega⟩ HK.out HS0.out).mono ?_
  rintro e w4 ⟨b, rfl, hb4, hbs, hl4, hk4, ht4⟩
  rw [ES.out] at hl4
  have R := hid (show Blk w4 b (bl 16 (cb (tgn (rk k key) (k + 6) f q))) 34 ∧ w.heap.size ≤ b ∧ LG S w0 w4 lo (evT k L q) ∧ Kp S w0 w4 ∧ Kt w w4 from ⟨hb4, Nat.le_trans T3.out.1 hbs, hl4, hk4, T3.out.trans ht4⟩)
  clear hm2 hg2 hgc2 hl2 hk2 ht2 hm3 hl3 hk3 hx3 RM hb4 hbs hl4 hk4 ht4
  go_wp2_with fail
  go_ret2
  exact ⟨b, rfl, R.out⟩
end Go.Proofs.YtnncgniiceglaabDoor.Vm
