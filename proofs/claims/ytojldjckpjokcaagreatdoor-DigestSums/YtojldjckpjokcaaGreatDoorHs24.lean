/- The document's function Sum. -/
import Derived.Test.YtojldjckpjokcaaGreatDoorDsum
import Derived.Test.YtojldjckpjokcaaGreatDoorHgen
namespace Go.Proofs.YtojldjckpjokcaaGreatDoor.Sh
open Go.ChangeShapes Go.WideShapes Go.ChangeAt Go.RowKit
open Go.Proofs.YtojldjckpjokcaaGreatDoor.By Go.Proofs.YtojldjckpjokcaaGreatDoor.Wd
set_option maxRecDepth 4000 in
set_option maxHeartbeats 200000 in
theorem sum24 (b m : Nat) (v : Value) (f : Nat → Int) (w : World) (h : RLed w b (.slice none 0 0) []) (hr : ∀ w', Kp (fun j => j = b) w w' → By.RB w' v m f) (hm : m ≤ 900000) :
    Calls Tryz.prog 53 #[.pointer (some ⟨b, 0, none⟩), v] w fun e w' => ∃ u rv', e = .returned u ∧ By.Own w' w.heap.size u 32 (dig m f) ∧ RLed w' b rv' [⟨1, 64, (blocks m : Int)⟩] ∧ (∀ q, rv'.ownBlock = some q → w.heap.size ≤ q) ∧ Kp (fun j => j = b) w w' := by
  have HL := hid h
  have HR := hid hr
  have hN := hid (blocks_pos m)
  have hN2 : Hid (blocks m ≤ 100000) := by show blocks m ≤ 100000; unfold blocks zs; omega
  have hq : Hid (wrap64 (((m : Int) + (1 + (zs m : Int) + 8)).tdiv 64) = (blocks m : Int)) := by
    show wrap64 (((m : Int) + (1 + (zs m : Int) + 8)).tdiv 64) = (blocks m : Int)
    have e1 : ((m : Int) + (1 + (zs m : Int) + 8)).tdiv 64 = (blocks m : Int) := by rw [Int.tdiv_eq_ediv_of_nonneg (by omega)]; unfold blocks; omega
    have := hN2.out
    rw [e1]; unfold wrap64; omega
  clear h hr
  go_enter Tryz.func53, Tryz.ntmps53
  go_wp2_with fail
  refine (event52 _).mono ?_
  rintro e w1 ⟨rfl, hb⟩
  have b1 := hid hb
  clear hb
  go_wp2_with fail
  refine (padded53 m v f _ (HR.out _ (Kp.of_below _ b1.out)) hm).mono ?_
  rintro e w2 ⟨u2, rfl, hu, hb⟩
  obtain ⟨gu, cu, rfl, -⟩ := own_cells hu (by omega)
  have b2 := hid (below_next b1.out hb)
  clear hu hb
  go_wp2_with fail
  rw [hq.out]
  refine (refNoteTimes45 b _ [] 1 64 (blocks m) _ (HL.out.below b2.out) ⟨by show (0 : Int) ≤ 1 ∧ (1 : Int) < 256; decide, by show (-9223372036854775808 : Int) ≤ 64 ∧ (64 : Int) ≤ 9223372036854775807; decide, by show -9223372036854775808 ≤ (blocks m : Int) ∧ (blocks m : Int) ≤ 9223372036854775807; have := hN2.out; omega⟩ (by have := hN.out; omega) (by have := hN2.out; show (0 : Int) + blocks m ≤ _; omega) (by decide)).mono ?_
  rintro e w3 ⟨rfl, rv3, hl3, hk3, hs3⟩
  have L3 := hid (show RLed w3 b rv3 [⟨1, 64, (blocks m : Int)⟩] from by rw [← put_nil _ (by show (1 : Int) ≤ blocks m; have := hN.out; omega)]; exact hl3)
  have K3 := hid ((Kp.of_below (fun j => j = b) b2.out).trans hk3 (fun i _ e => by rcases e with e | e; exact e; simp [Value.ownBlock] at e))
  have O3 := hid (show ∀ q, rv3.ownBlock = some q → w.heap.size ≤ q from fun q hq => by
    rcases hs3 with e | e
    · rw [e] at hq; simp [Value.ownBlock] at hq
    · have := e q hq; have := b2.out.size; omega)
  clear hl3 hk3 hs3
  go_wp2_with fail
  refine (digest54 m v f _ (HR.out _ K3.out) hm).mono ?_
  rintro e w4 ⟨u4, rfl, hu, hb⟩
  have U4 := hid (own_mono hu K3.out.size)
  have K4 := hid (K3.out.trans (Kp.of_below _ hb) (fun _ _ e => e))
  have L4 := hid (L3.out.below hb)
  clear hu hb
  go_wp2
  go_ret
  exact ⟨_, _, rfl, U4.out, L4.out, O3.out, K4.out⟩
end Go.Proofs.YtojldjckpjokcaaGreatDoor.Sh
