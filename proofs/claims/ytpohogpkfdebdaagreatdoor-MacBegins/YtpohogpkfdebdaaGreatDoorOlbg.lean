/- MacBegins. -/
import Derived.Test.YtpohogpkfdebdaaGreatDoorOh
namespace Go.Proofs.YtpohogpkfdebdaaGreatDoor.Oc
open Go.ChangeShapes Go.WideShapes Go.ChangeAt Go.RowKit
open Go.Proofs.YtpohogpkfdebdaaGreatDoor.By
open Go.Proofs.YtpohogpkfdebdaaGreatDoor.Sh (Blk size_alloc)
open Go.Proofs.YtpohogpkfdebdaaGreatDoor.Dg (BB LG lpv Lt Tl IsMk MB)
theorem Ledg.led {t : Nat → Th} {k lb : Nat} {L : List Rn} {w0 W : World} {B : Nat} (h : Ledg t k (some lb) L) (hG : GX w0 B t W) : ∃ rv, Led W lb rv L := by
  obtain ⟨rv, e⟩ := h
  have := hG.all k
  rw [e] at this
  exact ⟨rv, this⟩
theorem cas1 (q : CE) {w : World} {b : Nat} (h : Blk w b (cel q) 25) : Cas w b 1 (fun _ => q) := fun i hi => by
  obtain rfl : i = 0 := by omega
  exact ⟨h.cell 0 _ rfl, h.cell 1 _ rfl, h.cell 2 _ rfl, h.cell 3 _ rfl⟩
set_option maxRecDepth 20000 in
set_option maxHeartbeats 4000000 in
theorem begins_walk (q : CE) (w : World) (hk : KA w) (hq : q.Ok w) : Calls Tryz.prog 4 #[.agg #[.int .u8 (q.al : Int), .slice q.ka q.kn q.kc, .slice q.ca q.cn q.cc, .int .i64 q.out]] w fun e w' => e = .returned (.bool true) ∧ Below w.heap.size w w' := by
  have HQ := hid hq
  obtain ⟨t1, G1, k1, -⟩ := gx_var (GX.start w hk) 5 (cel q) 25
  rw [cel_arr] at G1
  have GG := hid G1
  have K1 := hid k1
  have HA := hid (show ∀ w', Below w.heap.size w w' → q.Ok w' from fun w' hb => hq.below hb)
  clear hk hq G1 k1
  go_enter Tryz.func4, Tryz.ntmps4
  go_wp2_with fail
  refine (lives1 _ GG.out.ka).mono ?_
  rintro e w1 ⟨rfl, hb⟩
  have G2 := GG.out.below hb
  have hc := G2.k K1.out
  have c0 := hc.cell 0 _ rfl
  have c1 := hc.cell 1 _ rfl
  have c2 := hc.cell 2 _ rfl
  have c3 := hc.cell 3 _ rfl
  have S1 := hid (small0 w1.heap.size 1 (fun _ => q) _ (cas1 q (Blk.new w1 (cel q) 25)) (fun _ _ => ⟨HQ.out.lk, HQ.out.lc⟩) (by decide))
  have G3 := hid (G2.below (below_alloc w1 (.cells (cel q).toArray 25)))
  rw [cel_arr] at S1 G3
  clear hb GG hc G2
  go_wp2_with fail
  refine S1.out.mono ?_
  rintro e w2 ⟨⟨y, rfl, hy⟩, d, rfl⟩
  have G4 := hid (G3.out.below (below_drewN _ d))
  obtain ⟨W4, hW4⟩ : ∃ W4, (w1.alloc (.cells #[.int .u8 (q.al : Int), .slice q.ka q.kn q.kc, .slice q.ca q.cn q.cc, .int .i64 q.out] 25)).drewN d = W4 := ⟨_, rfl⟩
  rw [hW4] at G4 ⊢
  clear S1 G3 hW4 c0 c1 c2 c3
  cases y with
  | false =>
    go_wp2
    go_ret
    exact ⟨rfl, G4.out.bel⟩
  | true =>
    obtain ⟨hkn, hcn⟩ := hy rfl 0 (by decide)
    have hkn : q.kn ≤ 3000 := hkn
    have hcn : q.cn ≤ 3000 := hcn
    clear hy
    go_wp2_with fail
    refine (gx_led G4.out 9).mono ?_
    rintro e w5 ⟨lb, t5, rfl, g5, l5, b5⟩
    have G5 := hid g5
    have L5 := hid l5
    have K5 := hid ((b5 5 (by decide) (by decide)).trans K1.out)
    have hc := g5.k K5.out
    have c0 := hc.cell 0 _ rfl
    have c1 := hc.cell 1 _ rfl
    have c2 := hc.cell 2 _ rfl
    have c3 := hc.cell 3 _ rfl
    clear g5 l5 b5 G4 K1 hc
    by_cases hcd : code q.al q.kn q.cn q.out = 0
    · obtain ⟨-, -, -, hc64, ho1, ho2⟩ := code_ok hcd
      obtain ⟨qo, hqo⟩ : ∃ n : Nat, q.out = n := ⟨q.out.toNat, by omega⟩
      have hcd2 := hcd
      rw [hqo] at hcd2 c3
      go_wp2_with fail
      refine (gx_begin (i := 0) (k := 9) G5.out L5.out (by decide) q.al q.kn q.cn qo 0 _ _ q.f q.h Fit.nil (by decide) (G5.out.rdA (fun w' hb => (HA.out w' hb).rk) (fun j hj => G5.out.lo 9 j hj)) (G5.out.rdA (fun w' hb => (HA.out w' hb).rc) (fun j hj => G5.out.lo 9 j hj)) hcd2 (by omega)).mono ?_
      rintro e w6 ⟨x, rfl, hx1, hx2, hx3, t6, g6, s6, l6, b6⟩
      have G6 := hid g6
      have S6 := hid s6
      have L6 := hid l6
      have X1 := hid hx1
      have X2 := hid hx2
      have hc := g6.k ((b6 5 (by decide) (by decide)).trans K5.out)
      have c0 := hc.cell 0 _ rfl
      have c1 := hc.cell 1 _ rfl
      have c2 := hc.cell 2 _ rfl
      have c3 := hc.cell 3 _ rfl
      rw [hqo] at c3
      clear g6 s6 l6 b6 hx1 hx2 hx3 hc
      have hkp : 0 < tot (eB q.al q.kn q.f q.cn q.h []) := eB_pos _ _ _ _ _ hkn (by omega)
      have hkp2 : ¬ tot (eB q.al q.kn q.f q.cn q.h []) ≤ 0 := by omega
      go_wp2_with fail
      refine (rcode q.al q.kn q.cn qo _).mono ?_
      rintro e w7 ⟨rfl, rfl⟩
      rw [hcd2]
      have G7 := G6.out.below (below_drewN w7 1)
      have hs := G7.all 0
      rw [S6.out] at hs
      have AL := hid (al_s hs)
      have OU := hid (ou_s hs)
      obtain ⟨rv, hled⟩ := L6.out.led G7
      have LN := hid (len20 lb rv _ _ hled)
      rw [X1.out] at AL
      rw [X2.out] at OU
      clear hs hled G7
      go_wp2_with fail
      go_region_held3 (fun W => W.cell? ⟨w.heap.size, 0, none⟩ = some (.int .u8 (q.al : Int)) ∧ W.cell? ⟨w.heap.size, 3, none⟩ = some (.int .i64 (qo : Int))) (go_keep) (first
        | (go_at_call 24; refine AL.out.mono ?_; rintro e w' ⟨rfl, rfl⟩)
        | (go_at_call 25; refine OU.out.mono ?_; rintro e w' ⟨rfl, rfl⟩)
        | (go_at_call 15; refine LN.out.mono ?_; rintro e w' ⟨rfl, rfl⟩))
      go_wp2
      go_ret
      exact ⟨by simp, G6.out.bel.trans ((below_drewN w7 1).mono G6.out.bel.size)⟩
    · have hb := hid (bgn_no q.al q.kn q.cn q.out q.ka q.ca q.kc q.cc (pt lb) w5 hcd)
      have R := hid (fun W => rcode q.al q.kn q.cn q.out W)
      have hcd2 : (code q.al q.kn q.cn q.out == 0) = false := beq_eq_false_iff_ne.2 hcd
      generalize code q.al q.kn q.cn q.out = z at *
      go_wp2_with fail
      refine hb.out.mono ?_
      rintro e w6 ⟨rfl, hb6⟩
      have G6 := hid (G5.out.below hb6)
      have hc := G6.out.k K5.out
      have c0 := hc.cell 0 _ rfl
      have c1 := hc.cell 1 _ rfl
      have c2 := hc.cell 2 _ rfl
      have c3 := hc.cell 3 _ rfl
      obtain ⟨rv, hled⟩ := L5.out.led G6.out
      have LN := hid (len20 lb rv _ w6 hled)
      clear hb6 hc hled
      go_wp2_with (first
        | (go_at_call 23; refine (R.out _).mono ?_; rintro e w' ⟨rfl, rfl⟩)
        | (go_at_call 15; refine LN.out.mono ?_; rintro e w' ⟨rfl, rfl⟩))
      go_ret
      exact ⟨rfl, G6.out.bel⟩
end Go.Proofs.YtpohogpkfdebdaaGreatDoor.Oc
