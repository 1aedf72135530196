/- A state of the document: Write. -/
import Derived.Test.YtojldjckpjokcaaGreatDoorZhh
import Derived.Deep.RegionHeld3
namespace Go.Proofs.YtojldjckpjokcaaGreatDoor.Sh
open Go.ChangeShapes Go.WideShapes Go.ChangeAt Go.RowKit
open Go.Proofs.YtojldjckpjokcaaGreatDoor.By Go.Proofs.YtojldjckpjokcaaGreatDoor.Wd

set_option maxHeartbeats 12000000 in
theorem rwrite35 (b m n : Nat) (lo : Option (Nat × Value)) (f g : Nat → Int) (v : Value) (L : List Rn) (w : World) (h : IsR w b (some (m, f))) (hl : RG w L lo) (hr : ∀ w', Below w.heap.size w w' → By.RB w' v n g) (hmn : m + n ≤ 900000) :
    Calls Tryz.prog 43 #[.pointer (some ⟨b, 0, none⟩), lptr lo, v] w fun e w' => e = .returned (.int .i64 0) ∧ IsR w' b (some (m + n, cat m f g)) ∧ RP w w' (evs256 L ((m + n) / 64 - m / 64)) lo ∧ Kp (fun j => j = b ∨ SR lo j) w w' ∧ ∃ u, Blk w' b [u, .bool true] 108 ∧ By.Own w' w.heap.size u (m + n) (cat m f g) := by
  obtain ⟨hm, vm, hb, ho⟩ := h
  have h1 := hb.cell 1 _ rfl
  have h0 := hb.cell 0 _ rfl
  obtain ⟨a, cap, rfl⟩ : ∃ a cap, vm = .slice a m cap := by obtain ⟨_, a, cap, e, _⟩ := ho.reads; exact ⟨a, cap, e⟩
  have B := hid hb
  have HO := hid ho
  have HL := hid hl
  have HV := hid hr
  clear hb ho hl hr
  go_enter Tryz.func43, Tryz.ntmps43
  go_wp2_with (first | (go_at_call 61; refine (none_st _ _ true h1).mono ?_; rintro e w ⟨rfl, rfl⟩) | (at_builtin; refine wpList_cat rfl _ _ rfl w.heap.size 0 m _ _ f f rfl (By.own_nil _ _ _ HO.out.1) rfl HO.out.reads (by omega) (Nat.le_refl _) ?_))
  intro v1 w1 hv1 hg1
  have O1 := hid (own_congr (g := f) hv1 HO.out.1 (fun i hi => by rw [cat0]))
  have b1 := hid (below_grow (Below.refl w.heap.size w) (Nat.le_refl _) (By.own_nil w w.heap.size f HO.out.1) hg1)
  clear hv1 hg1
  go_wp2_with (at_builtin; refine wpList_cat rfl _ _ rfl w.heap.size m n _ _ f g rfl O1.out rfl (HV.out _ b1.out) (by omega) b1.out.size ?_)
  intro v2 w2 hv2 hg2
  have O2 := hid hv2
  have b2 := hid (below_grow b1.out b1.out.size O1.out hg2)
  obtain ⟨a2, c2, rfl⟩ : ∃ a2 c2, v2 = .slice a2 (m + n) c2 := by obtain ⟨_, x, y, e, _⟩ := hv2.reads; exact ⟨x, y, e⟩
  have B2 := hid (B.out.below b2.out)
  have f2 := B2.out.frozen 0
  have c2' := B2.out.cell 0 _ rfl
  have L2 := hid (HL.out.below b2.out)
  clear hv2 hg2 O1 h0 h1
  go_wp2_with fail
  obtain ⟨W3, hW3⟩ : ∃ x, w2.setCell ⟨b, 0, none⟩ (.slice a2 (m + n) c2) = x := ⟨_, rfl⟩
  have x1 : Blk W3 b [.slice a2 (m + n) c2, .bool true] 108 := by rw [← hW3]; exact B2.out.set 0 _
  have x2 : Kp (fun j => j = b) w2 W3 := by rw [← hW3]; exact Kp.setCell b 0 _
  have x3 : RG W3 L lo := L2.out.kept x2 (fun g hg e => L2.out.apart B2.out (by decide) (by decide) (by have e' : g = b := e; rw [← e']; exact hg))
  have x4 : By.Own W3 w.heap.size (.slice a2 (m + n) c2) (m + n) (cat m f g) := own_kept O2.out x2 (fun g hg e => by
    obtain ⟨c, hc⟩ := own8_type O2.out hg
    have e' : g = b := e
    exact Blk.ne (show Blk w2 g c.toList 5 from by show w2.heap[g]? = _; rw [hc]) B2.out (by decide) e')
  rw [hW3]
  have X1 := hid x1
  have X3 := hid x3
  have X4 := hid x4
  have X5 := hid (show Kp (fun j => j = b ∨ SR lo j) w W3 from (Kp.of_below _ b2.out).trans x2 (fun i _ e => .inl e))
  clear hW3 x1 x2 x3 x4 O2 B2 L2 f2 c2'
  obtain ⟨q, hq⟩ : ∃ q : Nat, (m + n) / 64 - m / 64 = q := ⟨_, rfl⟩
  obtain ⟨N, hN⟩ : ∃ N : Nat, m + n = N := ⟨_, rfl⟩
  obtain ⟨j, hj⟩ : ∃ j : Nat, m / 64 = j := ⟨_, rfl⟩
  have ej : (m : Int) / 64 = (j : Int) := by omega
  have HN := hid hN
  have HQ := hid hq
  have HQ2 := hid (show q ≤ 1000000 by omega)
  have e0 : (N : Int) / 64 - (j : Int) = (q : Int) := by omega
  have hNN : N ≤ 900000 := by omega
  have hj9 : j ≤ 900000 := by omega
  have e1 : IntKind.i64.wrap (IntKind.i64.wrap ((N : Int) / 64) - (j : Int)) = (q : Int) := by
    have x1 : IntKind.i64.wrap ((N : Int) / 64) = (N : Int) / 64 := by rw [IntKind.wrap_i64]; omega
    rw [x1, e0]
    have := HQ2.out
    rw [IntKind.wrap_i64]; omega
  rw [hN] at X1 X4
  rw [ej]
  have h0 := X1.out.cell 0 _ rfl
  have h0a := (X1.out.below (below_alloc W3 (.cells #[.int .u8 1, .int .i64 64] 57))).cell 0 _ rfl
  clear hq hj ej hN
  go_region_held3 (fun W' => W'.cell? ⟨b, 0, none⟩ = some (.slice a2 N c2)) (go_keep) (first | (go_simp; go_at_call 63; refine (event52e _).mono ?_; rintro e w' ⟨rfl, rfl⟩) | (go_simp; go_at_call 62; (try rw [e1]); refine (rtimes' lo L q W3 _ ?bb X3.out HQ2.out).mono ?_; (case bb => (repeat (first | with_reducible exact Below.refl _ _ | with_reducible refine bel_al ?_ | with_reducible refine bel_dr ?_))); rintro e w4 ⟨rfl, hp, hk⟩; have h04 := (X1.out.kept hk (X3.out.apart X1.out (by decide) (by decide))).cell 0 _ rfl))
  all_goals (
    have P4 := hid (hp.from X5.out.size)
    have K4 := hid (X5.out.trans hk (fun i _ e => .inr e))
    have B4 := hid (X1.out.kept hk (X3.out.apart X1.out (by decide) (by decide)))
    have O4 := hid (own_kept X4.out hk (fun g hg => by
      obtain ⟨c, hc⟩ := own8_type X4.out hg
      exact X3.out.apart (show Blk W3 g c.toList 5 from by show W3.heap[g]? = _; rw [hc]) (by decide) (by decide)))
    clear hp hk h0 h0a h04
    go_wp2
    go_ret
    exact ⟨rfl, by rw [HN.out]; exact ⟨hNN, _, B4.out, own_mono O4.out (Nat.zero_le _)⟩, by rw [HQ.out]; exact P4.out, K4.out, _, B4.out, by rw [HN.out]; exact O4.out⟩)
end Go.Proofs.YtojldjckpjokcaaGreatDoor.Sh
