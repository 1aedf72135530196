/- The document's code of an operation. -/
import Derived.Test.YtdmacflcjbkkpaaGreatCpb
import Derived.Deep.RegionHeld3
namespace Go.Proofs.YtdmacflcjbkkpaaGreat.Cd
open Go.Proofs.YtdmacflcjbkkpaaGreat.Co
open Go.ChangeShapes Go.WideShapes Go.ChangeAt Go.RowKit
open Go.Proofs.YtdmacflcjbkkpaaGreat.Ou (Sk sv sL LDk SVk LDk_run SVk_run)
open Go.Proofs.YtdmacflcjbkkpaaGreat.Tb (Blk Blk.newAt put_all Kp.setCells)
/-- A code, number by number. -/
def coN (k d : Int) (f : Option Nat) (y : Option Int) : Int := if k < 1 ∨ 10 < k then 3 else if k = 1 then (if 512 < d then 7 else if f = none then 8 else 0) else match y with
  | none => 5
  | some c => if c ≠ 0 then c else if tks k = true ∧ f = none then 8 else 0
theorem coN_is (P : St) (s : Sk) : cod P s = coN s.k s.d (fre P) ((hat P s.h).map (fit s)) := by
  unfold cod coN
  cases hat P s.h <;> rfl
set_option maxRecDepth 100000 in
set_option maxHeartbeats 3200000 in
theorem code_ok (r : Nat) (P : St) (s : Sk) (w : World) (hp : DP w r P) : Calls Tryz.prog 32 #[.pointer (some ⟨r, 0, none⟩), sv s] w fun e w' => e = .returned (.int .i64 (cod P s)) ∧ Below w.heap.size w w' := by
  have EC0 := coN_is P s
  obtain ⟨sk, sh, sa, sc, so, sd, sm⟩ := s
  have EC : Hid (cod P ⟨sk, sh, sa, sc, so, sd, sm⟩ = coN sk sd (fre P) ((hat P sh).map (fit ⟨sk, sh, sa, sc, so, sd, sm⟩))) := hid EC0
  clear EC0
  obtain ⟨W, hW⟩ : ∃ W, w.alloc (.cells #[.int .u8 sk, .int .i64 sh, .int .u8 sa, .int .i64 sc, .int .i64 so, .int .i64 sd, .int .i64 sm] 40) = W := ⟨_, rfl⟩
  have BW : Hid (Below w.heap.size w W) := by rw [← hW]; exact below_alloc _ _
  have KB : Hid (Blk W w.heap.size [.int .u8 sk, .int .i64 sh, .int .u8 sa, .int .i64 sc, .int .i64 so, .int .i64 sd, .int .i64 sm] 40) := by rw [← hW]; exact Blk.newAt w _ _ _ w.heap.size rfl rfl
  have HP := hid (hp.below BW.out)
  have RL := hid hp.lt
  clear hp
  have x0 := KB.out.cell 0 _ rfl
  have x1 := KB.out.cell 1 _ rfl
  have x2 := KB.out.cell 2 _ rfl
  have x3 := KB.out.cell 3 _ rfl
  have x4 := KB.out.cell 4 _ rfl
  have x5 := KB.out.cell 5 _ rfl
  have x6 := KB.out.cell 6 _ rfl
  by_cases k1 : sk < 1
  · have E : Hid (cod P ⟨sk, sh, sa, sc, so, sd, sm⟩ = 3) := hid (by rw [EC.out]; unfold coN; rw [if_pos (by omega)])
    go_enter Tryz.func32, Tryz.ntmps32
    go_wp2
    go_ret
    exact ⟨by rw [E.out]; rfl, BW.out⟩
  · by_cases k10 : 10 < sk
    · have E : Hid (cod P ⟨sk, sh, sa, sc, so, sd, sm⟩ = 3) := hid (by rw [EC.out]; unfold coN; rw [if_pos (by omega)])
      go_enter Tryz.func32, Tryz.ntmps32
      go_wp2
      go_ret
      exact ⟨by rw [E.out]; rfl, BW.out⟩
    · by_cases ke : sk = 1
      · subst ke
        by_cases d5 : 512 < sd
        · have E : Hid (cod P ⟨1, sh, sa, sc, so, sd, sm⟩ = 7) := hid (by rw [EC.out]; unfold coN; rw [if_neg (by omega), if_pos rfl, if_pos (by omega)])
          go_enter Tryz.func32, Tryz.ntmps32
          go_wp2
          go_ret
          exact ⟨by rw [E.out]; rfl, BW.out⟩
        · have FR := hid (free_ok r P W HP.out)
          cases hf : fre P with
          | none =>
            have E : Hid (cod P ⟨1, sh, sa, sc, so, sd, sm⟩ = 8) := hid (by rw [EC.out, hf]; unfold coN; rw [if_neg (by omega), if_pos rfl, if_neg (by omega), if_pos rfl])
            have FI : frI P = -1 := by unfold frI; rw [hf]
            clear hf
            go_enter Tryz.func32, Tryz.ntmps32
            go_wp2_with fail
            refine (takes_ok 1 _).mono ?_
            rintro e w' ⟨rfl, rfl⟩
            rw [show tks 1 = true from rfl]
            go_wp2_with fail
            refine FR.out.mono ?_
            rintro e w' ⟨rfl, rfl⟩
            rw [FI]
            go_wp2
            go_ret
            exact ⟨by rw [E.out]; rfl, BW.out⟩
          | some n =>
            have E : Hid (cod P ⟨1, sh, sa, sc, so, sd, sm⟩ = 0) := hid (by rw [EC.out, hf]; unfold coN; rw [if_neg (by omega), if_pos rfl, if_neg (by omega), if_neg (by simp)])
            have FI : frI P = (n : Int) := by unfold frI; rw [hf]
            have n0 : ¬ (n : Int) < 0 := by omega
            clear hf
            go_enter Tryz.func32, Tryz.ntmps32
            go_wp2_with fail
            refine (takes_ok 1 _).mono ?_
            rintro e w' ⟨rfl, rfl⟩
            rw [show tks 1 = true from rfl]
            go_wp2_with fail
            refine FR.out.mono ?_
            rintro e w' ⟨rfl, rfl⟩
            rw [FI]
            go_wp2
            go_ret
            exact ⟨by rw [E.out]; rfl, BW.out⟩
      · have q1 : (sk == 1) = false := by simpa using ke
        have q2 : (sk != 1) = true := bne_iff_ne.2 ke
        have TH := hid (there_ok r P sh W HP.out)
        cases hh : hat P sh with
        | none =>
          have E : Hid (cod P ⟨sk, sh, sa, sc, so, sd, sm⟩ = 5) := hid (by rw [EC.out, hh]; unfold coN; rw [if_neg (by omega), if_neg ke]; rfl)
          rw [hh] at TH
          have TH : Hid (Calls Tryz.prog 65 #[.pointer (some ⟨r, 0, none⟩), .int .i64 sh] W fun e w' => e = .returned (.bool false) ∧ w' = W) := TH
          clear hh
          go_enter Tryz.func32, Tryz.ntmps32
          go_wp2_with fail
          refine TH.out.mono ?_
          rintro e w' ⟨rfl, rfl⟩
          go_wp2
          go_ret
          exact ⟨by rw [E.out]; rfl, BW.out⟩
        | some y =>
          have hx := hat_of hh
          obtain ⟨n, rfl⟩ : ∃ n : Nat, sh = n := ⟨sh.toNat, by omega⟩
          have n64 : n < 64 := by omega
          have Pn : P n = some y := by simpa using hx.2.2
          rw [hh] at TH
          have TH : Hid (Calls Tryz.prog 65 #[.pointer (some ⟨r, 0, none⟩), .int .i64 (n : Int)] W fun e w' => e = .returned (.bool true) ∧ w' = W) := TH
          obtain ⟨f, hf⟩ : ∃ f, fit ⟨sk, (n : Int), sa, sc, so, sd, sm⟩ y = f := ⟨_, rfl⟩
          have FT := hid (fun w => fits_ok (.pointer (some ⟨r, 0, none⟩)) ⟨sk, (n : Int), sa, sc, so, sd, sm⟩ y w)
          rw [hf] at FT
          have EQ : Hid (cod P ⟨sk, (n : Int), sa, sc, so, sd, sm⟩ = if f ≠ 0 then f else if tks sk = true ∧ fre P = none then 8 else 0) := hid (by rw [EC.out, hh]; unfold coN; rw [if_neg (by omega), if_neg ke]; show (if fit _ _ ≠ 0 then fit _ _ else _) = _; rw [hf])
          have LH := hid (fun V (hV : Below W.heap.size W V) => (HP.out.below hV).load n64 Pn)
          have LS : Hid (∀ V, Below W.heap.size W V → V.cell? ⟨w.heap.size, 1, none⟩ = some (.int .i64 (n : Int)) ∧ (LDk ⟨w.heap.size, 0, none⟩).run Tryz.prog V = .ok (.agg #[.int .u8 sk, .int .i64 (n : Int), .int .u8 sa, .int .i64 sc, .int .i64 so, .int .i64 sd, .int .i64 sm]) V) := hid (fun V hV => ⟨(KB.out.below hV).cell 1 _ rfl, LDk_run (s := ⟨sk, (n : Int), sa, sc, so, sd, sm⟩) (KB.out.below hV)⟩)
          have l1 : (n : Int) < 64 := by omega
          have lz : (0 : Int) ≤ (n : Int) := by omega
          clear hx Pn hh hf
          obtain ⟨key, alg, ot, cus, msg⟩ := y
          go_enter Tryz.func32, Tryz.ntmps32
          go_wp2_with fail
          refine TH.out.mono ?_
          rintro e w' ⟨rfl, rfl⟩
          clear hW
          go_wp2_with fail
          have lc1 := (LS.out w' (Below.refl _ _)).1
          have lc2 : (LDk ⟨w.heap.size, 0, none⟩).run Tryz.prog w'.drew = .ok (.agg #[.int .u8 sk, .int .i64 (n : Int), .int .u8 sa, .int .i64 sc, .int .i64 so, .int .i64 sd, .int .i64 sm]) w'.drew := (LS.out w'.drew (below_drewN w' 1)).2
          have lc3 : (LDd ⟨r, 64 + n * 5, none⟩).run Tryz.prog w'.drew = .ok (.agg #[.int .i64 key, .int .u8 alg, .int .i64 ot, .int .i64 cus, .int .i64 msg]) w'.drew := LH.out w'.drew (below_drewN w' 1)
          go_region_held3 (fun V => V.cell? ⟨w.heap.size, 1, none⟩ = some (.int .i64 (n : Int)) ∧ (LDk ⟨w.heap.size, 0, none⟩).run Tryz.prog V = .ok (.agg #[.int .u8 sk, .int .i64 (n : Int), .int .u8 sa, .int .i64 sc, .int .i64 so, .int .i64 sd, .int .i64 sm]) V ∧ (LDd ⟨r, 64 + n * 5, none⟩).run Tryz.prog V = .ok (.agg #[.int .i64 key, .int .u8 alg, .int .i64 ot, .int .i64 cus, .int .i64 msg]) V) (go_keep) ((go_at_call 66; refine (FT.out _).mono ?_; rintro e w2 ⟨rfl, hb⟩; have hbb : Below w'.heap.size w' w2 := below_next (below_drewN w' 1) hb; have e1 := (LS.out w2 hbb).1; have e2 := (LS.out w2 hbb).2; have e3 := LH.out w2 hbb; have B2 := hid hbb; clear hb hbb))
          have B3 := hid (below_next BW.out B2.out)
          by_cases f0 : f = 0
          · subst f0
            have FR := hid (free_ok r P w2 (HP.out.below B2.out))
            have e0 := (KB.out.below B2.out).cell 0 _ rfl
            go_wp2_with fail
            refine (takes_ok sk _).mono ?_
            rintro e w3 ⟨rfl, rfl⟩
            cases ht : tks sk with
            | false =>
              have E : Hid (cod P ⟨sk, (n : Int), sa, sc, so, sd, sm⟩ = 0) := hid (by rw [EQ.out, if_neg (by decide), ht, if_neg (by simp)])
              clear ht
              go_wp2
              go_ret
              exact ⟨by rw [E.out]; rfl, B3.out⟩
            | true =>
              cases hf : fre P with
              | none =>
                have E : Hid (cod P ⟨sk, (n : Int), sa, sc, so, sd, sm⟩ = 8) := hid (by rw [EQ.out, if_neg (by decide), ht, hf, if_pos ⟨rfl, rfl⟩])
                have FI : frI P = -1 := by unfold frI; rw [hf]
                clear hf ht
                go_wp2_with fail
                refine FR.out.mono ?_
                rintro e w4 ⟨rfl, rfl⟩
                rw [FI]
                go_wp2
                go_ret
                exact ⟨by rw [E.out]; rfl, B3.out⟩
              | some g =>
                have E : Hid (cod P ⟨sk, (n : Int), sa, sc, so, sd, sm⟩ = 0) := hid (by rw [EQ.out, if_neg (by decide), hf, if_neg (by simp)])
                have FI : frI P = (g : Int) := by unfold frI; rw [hf]
                have n0 : ¬ (g : Int) < 0 := by omega
                clear hf ht
                go_wp2_with fail
                refine FR.out.mono ?_
                rintro e w4 ⟨rfl, rfl⟩
                rw [FI]
                go_wp2
                go_ret
                exact ⟨by rw [E.out]; rfl, B3.out⟩
          · have E : Hid (cod P ⟨sk, (n : Int), sa, sc, so, sd, sm⟩ = f) := hid (by rw [EQ.out, if_pos f0])
            have nf : (f != 0) = true := bne_iff_ne.2 f0
            go_wp2
            go_ret
            exact ⟨by rw [E.out]; rfl, B3.out⟩
end Go.Proofs.YtdmacflcjbkkpaaGreat.Cd
