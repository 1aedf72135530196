/- The statement AesBack, walked. -/
import Derived.Test.YtbommnigljmfkaaDoorAnl
namespace Go.Proofs.YtbommnigljmfkaaDoor.Ae
open Go.ChangeShapes Go.WideShapes Go.ChangeAt Go.RowKit
open Go.Proofs.YtbommnigljmfkaaDoor.By Go.Proofs.YtbommnigljmfkaaDoor.Gf
open Go.Proofs.YtbommnigljmfkaaDoor.Kc (own_kept own_mono own8_type cat cat_bound wpList_cat below_grow)
theorem Blk.kt {W W' : World} {g : Nat} {cs : List Value} (h : Blk W g cs 58) (ht : Kt W W') : Blk W' g cs 58 := ht.2 _ _ _ h (by decide) (by decide)
theorem Ci.kt {W W' : World} {g k : Nat} {ws : Nat → Nat} (h : Ci W g k ws) (ht : Kt W W') : Ci W' g k ws := ⟨ht.2 _ _ _ h.here (by decide) (by decide), h.kk, h.lt⟩
theorem bel_drew {V W : World} (h : Below V.heap.size V W) (d : Nat) : Below V.heap.size V (W.drewN d) := ⟨h.os, h.tape, h.output, h.size, h.block⟩
theorem rb_at {w : World} {v : Value} {n : Nat} {f : Nat → Int} (h : By.RB w v n f) (hn : 0 < n) : ∃ g off cap, v = .slice (some ⟨g, off, none⟩) n cap ∧ n ≤ cap ∧ ∀ i, i < n → w.cell? ⟨g, off + i, none⟩ = some (.int .u8 ((kf f i : Nat) : Int)) := by
  obtain ⟨hf, a, cap, rfl, hc, _, h0 | ⟨b, off, rfl, hcell⟩⟩ := h
  · omega
  · exact ⟨b, off, cap, rfl, hc, fun i hi => by rw [kf_eq hf]; exact hcell i hi⟩
set_option maxRecDepth 8000 in
set_option maxHeartbeats 8000000 in
theorem back_bad (ka : Option Addr) (n kc : Nat) (p q : Value) (w : World) (hM : KM w) (h1 : n ≠ 16) (h2 : n ≠ 24) (h3 : n ≠ 32) : Calls Tryd.prog 5 #[.slice ka n kc, p, q] w fun e w' => e = .returned (.bool true) ∧ Below w.heap.size w w' := by
  have HM := hid hM
  have e1 : ((n : Int) == 16) = false := by rw [beq_eq_false_iff_ne]; omega
  have e2 : ((n : Int) == 24) = false := by rw [beq_eq_false_iff_ne]; omega
  have e3 : ((n : Int) == 32) = false := by rw [beq_eq_false_iff_ne]; omega
  have n1 : ((n : Int) != 16) = true := by rw [bne_iff_ne]; omega
  have n2 : ((n : Int) != 24) = true := by rw [bne_iff_ne]; omega
  have n3 : ((n : Int) != 32) = true := by rw [bne_iff_ne]; omega
  clear hM e1 e2 e3
  go_enter Tryd.func5, Tryd.ntmps5
  go_wp2_with fail
  refine (awake1 w HM.out).mono ?_
  rintro e W1 ⟨rfl, hb⟩
  have B1 := hid hb
  clear hb
  go_wp2_with fail
  refine (newL w W1 B1.out).mono ?_
  rintro e W2 ⟨rfl, g2, hb⟩
  have G := hid g2
  clear hb g2
  go_wp2_with fail
  refine (new_bad _ ka n kc W2 h1 h2 h3).mono ?_
  rintro e w' ⟨rfl, hw'⟩
  subst w'
  go_wp2_with fail
  refine G.out.len.mono ?_
  rintro e w' ⟨rfl, hw'⟩
  subst w'
  go_wp2_with fail
  go_ret
  exact ⟨rfl, G.out.bel⟩
end Go.Proofs.YtbommnigljmfkaaDoor.Ae
