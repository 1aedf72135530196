/- The statement's walk: the least that is free. -/
import Derived.Test.YtodihepgfpbonaaTawk
import Derived.Test.YtodihepgfpbonaaTgA
import Derived.Test.YtodihepgfpbonaaTmk
import Derived.BigQuiet
namespace Go.Proofs.Ytodihepgfpbonaa.Tb
open Go.ChangeShapes Go.WideShapes Go.ChangeAt Go.RowKit
/-- What is known between two acts. -/
def LS (w : World) (p m hb vb : Nat) (hd : Nat → Option A.V) (vf : Nat → A.V) (W : World) : Prop := ∃ t C, GX w w.heap.size t W ∧ t 0 = tK C ∧ A.TT t C 1 p m hd ∧ t 2 = tC hb (bs (fun j => (hd j).isSome) m) 4 ∧ t 3 = tC vb (vs vf m) 44 ∧ ∀ j v, hd j = some v → vf j = v
set_option maxRecDepth 20000 in
set_option maxHeartbeats 1200000 in
theorem least_w (m : Nat) (h1 : 1 ≤ m) (h2 : m ≤ 64) (pa : Option Addr) (np cp : Nat) (av : Nat → A.V) (w : World) (ha : ∀ w', Below w.heap.size w w' → AA w' pa np av) (hnp : np ≤ 140737488355328) : Calls Try.prog 5 #[.int .i64 m, .slice pa np cp] w fun e w' => e = .returned (.bool true) ∧ Below w.heap.size w w' := by
  obtain ⟨t0, hg, hz⟩ := gx_zero w
  have G := hid hg
  have Z := hid hz
  have HA := hid ha
  clear hg hz ha
  have d1 : ¬ (m : Int) < 1 := by omega
  have d2 : ¬ (64 : Int) < m := by omega
  go_enter Try.func5, Try.ntmps5
  go_wp2_with fail
  refine (S.awake w).mono ?_
  rintro e W0 ⟨rfl, hb⟩
  replace G := hid (G.out.below hb)
  clear hb
  go_wp2_with fail
  refine (A.gx_new G.out Z.out 1 m (by decide) h1 h2).mono ?_
  rintro e W1 ⟨rfl, t1, hg, hz, ht, -⟩
  replace G := hid hg
  replace Z := hid hz
  have T := hid ht
  clear hg hz ht
  obtain ⟨W2, hW2⟩ : ∃ W, W1.alloc (.cells (bs (fun _ => false) m).toArray 4) = W := ⟨_, rfl⟩
  obtain ⟨W3, hW3⟩ : ∃ W, W2.alloc (.cells (vs (fun _ => A.vz) m).toArray 44) = W := ⟨_, rfl⟩
  have mb := make_b m (by omega) W1
  have ma := make_a m (by omega) W2
  rw [hW2] at mb
  rw [hW3] at ma
  obtain ⟨p, hp⟩ : ∃ p, W0.heap.size = p := ⟨_, rfl⟩
  obtain ⟨hb, hhb⟩ : ∃ p, W1.heap.size = p := ⟨_, rfl⟩
  obtain ⟨vb, hvb⟩ : ∃ p, W2.heap.size = p := ⟨_, rfl⟩
  rw [hp] at T ⊢
  rw [hhb] at mb
  rw [hvb] at ma
  have INV : Hid (LS w p m hb vb (fun _ => none) (fun _ => A.vz) W3) := by
    obtain ⟨t2, g2, e2, B2⟩ := gx_alloc G.out 2 (bs (fun _ => false) m) 4
    rw [hW2, hhb] at *
    obtain ⟨t3, g3, e3, B3⟩ := gx_alloc g2 3 (vs (fun _ => A.vz) m) 44
    rw [hW3, hvb] at *
    exact ⟨t3, _, g3, (B3 0 (by decide) (by decide)).trans ((B2 0 (by decide) (by decide)).trans Z.out), (T.out.keep (B2 1 (by decide) (by decide)) (Cle.refl _)).keep (B3 1 (by decide) (by decide)) (Cle.refl _), (B3 2 (by decide) (by decide)).trans e2, e3, fun j v e => by cases e⟩
  clear hW2 hW3 G Z T
  go_wp2_with fail
  clear mb ma
  clear hhb hvb hp
  go_loopw [10, 11] (fun n i wr => ∃ (k : Nat) (hd : Nat → Option A.V) (vf : Nat → A.V), k ≤ np ∧ i = .int .i64 k ∧ n = .int .i64 (cntH hd m) ∧ LS w p m hb vb hd vf wr) (fun _ i _ => np - (intOf i).toNat)
  case atStart => exact ⟨0, _, _, by omega, rfl, by rw [show cntH (V := A.V) (fun _ => none) m = 0 from cntH_none m]; rfl, INV.out⟩
  case round =>
    clear INV
    obtain ⟨k, hd, vf, hk, rfl, rfl, hls⟩ := hrel
    by_cases hlt : k < np
    · obtain ⟨t, C, hg, hz, ht, e2, e3, hv⟩ := hls
      obtain ⟨bp, op, rfl, c0, c1, c2, c3⟩ := HA.out wr hg.bel k hlt
      have l0 : (0 : Int) ≤ k := by omega
      have l1 : (k : Int) < np := by omega
      have HK := hid hlt
      obtain ⟨x, hx⟩ : ∃ x, av k = x := ⟨_, rfl⟩
      obtain ⟨x0, x1, x2, x3⟩ := x
      rw [hx] at c0 c1 c2 c3
      obtain ⟨W2, hW2⟩ : ∃ W, wr.alloc (.cells #[.int .i64 0, .int .i64 0, .int .i64 0, .int .i64 0] 44) = W := ⟨_, rfl⟩
      obtain ⟨W4, s1, t4, g4, e4, B4⟩ := A.gx_var hg 4 (x0, x1, x2, x3) hW2
      obtain ⟨ab, hab⟩ : ∃ a, wr.heap.size = a := ⟨_, rfl⟩
      rw [hab] at e4 s1
      have ld : (A.LDv ⟨bp, op + k * 4, none⟩).run Try.prog wr = .ok (A.vv (x0, x1, x2, x3)) wr := A.LDv_at (A.range4 c0 c1 c2 c3)
      have l4 : (A.LDv ⟨ab, 0, none⟩).run Try.prog W4 = .ok (A.vv (x0, x1, x2, x3)) W4 := A.LDv_run (g4.blk e4)
      have a1 := (g4.blk e4).cell 1 _ rfl
      have a2 := (g4.blk e4).cell 2 _ rfl
      have G := hid g4
      have Z := hid ((B4 0 (by decide) (by decide)).trans hz)
      have T := hid (ht.keep (B4 1 (by decide) (by decide)) (Cle.refl _))
      have E2 := hid ((B4 2 (by decide) (by decide)).trans e2)
      have E3 := hid ((B4 3 (by decide) (by decide)).trans e3)
      have E4 := hid e4
      have HV := hid hv
      clear hg hz ht e2 e3 e4 hv g4 B4 hx hlt c0 c1 c2 c3
      go_wp2_with fail
      refine (pickN x2 m h1 (by omega) W4).mono ?_
      rintro e W4 ⟨⟨at', hat, rfl⟩, rfl⟩
      clear ld s1 hab hW2
      go_wp2_with fail
      refine (pickN x1 3 (by omega) (by omega) W4).mono ?_
      rintro e W4 ⟨⟨kd, hkd, rfl⟩, rfl⟩
      clear a1 a2
      match kd, hkd with
      | 0, _ =>
        go_wp2_with fail
        go_loopw [14] (fun j wq => ∃ q : Nat, q ≤ m ∧ j = .int .i64 q ∧ wq = W4 ∧ ∀ i, i < q → hd i ≠ none) (fun j _ => m - (intOf j).toNat)
        case atStart => exact ⟨0, Nat.zero_le _, rfl, rfl, fun i hi => absurd hi (Nat.not_lt_zero _)⟩
        case round =>
          obtain ⟨q, hq, rfl, rfl, hall⟩ := hrel
          have HALL := hid hall
          clear hall
          by_cases hqm : q < m
          · have cq := (G.out.blk E2.out).cell q _ (bs_get _ m q hqm)
            have q0 : (0 : Int) ≤ q := by omega
            have q1 : (q : Int) < m := by omega
            cases hh : hd q with
            | some v =>
              rw [hh] at cq
              simp only [Option.isSome_some] at cq
              have HH := hid hh
              clear hh
              go_wp2
              go_roundw
              case rel =>
                refine ⟨q + 1, by omega, by go_num, trivial, fun i hi => ?_⟩
                by_cases e : i = q
                · rw [e, HH.out]; exact fun e => by cases e
                · exact HALL.out i (by omega)
              case measure => simp [intOf]; omega
            | none =>
              rw [hh] at cq
              simp only [Option.isSome_none] at cq
              have HH := hid hh
              have hle := least_eq hqm hh HALL.out
              have HL := hid hle
              clear hh hle
              go_wp2_with fail
              refine (A.gx_add G.out Z.out (by decide) T.out (x0, x1, x2, x3)).mono ?_
              rintro e W5 ⟨rfl, t5, C5, hg, hz, hc, ht, hB⟩
              rw [show addN hd m = q from by unfold addN; rw [HL.out], show addE hd m = 0 from by unfold addE; rw [HL.out]]
              rw [show addH hd m (x0, x1, x2, x3) = uph hd q (some (x0, x1, x2, x3)) from by unfold addH; rw [HL.out]] at ht
              have e2 := (hB 2 (by decide) (by decide)).trans E2.out
              have e3 := (hB 3 (by decide) (by decide)).trans E3.out
              have e4 := (hB 4 (by decide) (by decide)).trans E4.out
              have fq := (hg.blk e2).frozen q
              have cq := (hg.blk e2).cell q _ (bs_get _ m q hqm)
              obtain ⟨W6, hW6⟩ : ∃ W, W5.setCell ⟨hb, q, none⟩ (.bool true) = W := ⟨_, rfl⟩
              obtain ⟨t6, g6, f2, B6⟩ := gx_set1 hg e2 q (.bool true)
              rw [hW6] at g6
              rw [bs_set] at f2
              have f3 := (B6 3 (by decide) (by decide)).trans e3
              have f4 := (B6 4 (by decide) (by decide)).trans e4
              have l6 : (A.LDv ⟨ab, 0, none⟩).run Try.prog W6 = .ok (A.vv (x0, x1, x2, x3)) W6 := A.LDv_run (g6.blk f4)
              obtain ⟨W7, s7, hb7, k7⟩ := A.SVv_vs (g6.blk f3) hqm (x0, x1, x2, x3)
              obtain ⟨t7, g7, f7, B7⟩ := gx_wr g6 f3 hb7 k7
              have LX : Hid (LS w p m hb vb (uph hd q (some (x0, x1, x2, x3))) (upv vf q (x0, x1, x2, x3)) W7) := by
                refine ⟨t7, C5, g7, ?_, (ht.keep (B6 1 (by decide) (by decide)) (Cle.refl _)).keep (B7 1 (by decide) (by decide)) (Cle.refl _), ?_, f7, fun j v e => ?_⟩
                · exact (B7 0 (by decide) (by decide)).trans ((B6 0 (by decide) (by decide)).trans hz)
                · rw [B7 2 (by decide) (by decide), f2]
                  congr 1; congr 1
                  funext j
                  simp only [upb, uph]
                  split <;> rfl
                · unfold uph at e
                  unfold upv
                  split at e
                  · rw [if_pos (by assumption)]; exact Option.some.inj e
                  · rw [if_neg (by assumption)]; exact HV.out j v e
              have hcn : cntH (uph hd q (some (x0, x1, x2, x3))) m = cntH hd m + 1 := by rw [cntH_up _ HH.out, if_pos hqm]
              have HC := hid hcn
              have hcl := cntH_le hd m
              clear hg hz hc ht hB e2 e3 e4 g6 f2 B6 f3 f4 hb7 k7 g7 f7 B7 G Z T E2 E3 E4 HV HH HL HALL hcn l4
              go_wp2
              go_roundw
              case rel => exact ⟨k + 1, _, _, HK.out, by have := HK.out; go_num, by rw [HC.out]; go_num, LX.out⟩
              case measure => have := HK.out; simp [intOf]; omega
          · obtain rfl : q = m := by omega
            have HL := hid (least_all HALL.out)
            clear HALL
            go_wp2_with fail
            refine (A.gx_add G.out Z.out (by decide) T.out (x0, x1, x2, x3)).mono ?_
            rintro e W5 ⟨rfl, t5, C5, hg, hz, hc, ht, hB⟩
            rw [show addN hd q = 0 from by unfold addN; rw [HL.out], show addE hd q = 8 from by unfold addE; rw [HL.out]]
            rw [show addH hd q (x0, x1, x2, x3) = hd from by unfold addH; rw [HL.out]] at ht
            have LX : Hid (LS w p q hb vb hd vf W5) := ⟨t5, C5, hg, hz, ht, (hB 2 (by decide) (by decide)).trans E2.out, (hB 3 (by decide) (by decide)).trans E3.out, HV.out⟩
            clear hg hz hc ht hB G Z T E2 E3 E4 HV HL l4
            go_wp2
            go_roundw
            case rel => exact ⟨k + 1, _, _, HK.out, by have := HK.out; go_num, rfl, LX.out⟩
            case measure => have := HK.out; simp [intOf]; omega
      | 1, _ =>
        go_wp2_with fail
        refine (A.gx_drop G.out Z.out (by decide) T.out at').mono ?_
        rintro e W5 ⟨rfl, t5, hg, hz, ht, hB⟩
        rw [hdI_nat]
        have e2 := (hB 2 (by decide) (by decide)).trans E2.out
        have e3 := (hB 3 (by decide) (by decide)).trans E3.out
        have q0 : (0 : Int) ≤ at' := by omega
        have q1 : (at' : Int) < m := by omega
        have HT := hid hat
        cases hh : hd at' with
        | none =>
          rw [show dropH hd at' = hd from by unfold dropH; rw [hdI_nat, hh]; rfl] at ht
          rw [show A.gt none = .tuple #[A.vv A.vz, .int .i64 5] from rfl]
          obtain ⟨W6, hW6⟩ : ∃ W, W5.alloc (.cells #[.int .i64 0, .int .i64 0, .int .i64 0, .int .i64 0] 44) = W := ⟨_, rfl⟩
          obtain ⟨W7, s7, t7, g7, f7, B7⟩ := A.gx_var hg 5 A.vz hW6
          obtain ⟨zb, hzb⟩ : ∃ a, W5.heap.size = a := ⟨_, rfl⟩
          rw [hzb] at f7 s7
          have l7 : ∀ d, (A.LDv ⟨zb, 0, none⟩).run Try.prog (W7.drewN d) = .ok (A.vv A.vz) (W7.drewN d) := fun d => A.LDv_run ((g7.blk f7).drewN d)
          have cq := (g7.blk ((B7 2 (by decide) (by decide)).trans e2)).cell at' _ (bs_get _ m at' hat)
          rw [hh] at cq
          simp only [Option.isSome_none] at cq
          have LX : Hid (∀ d, LS w p m hb vb hd vf (W7.drewN d)) := fun d => ⟨t7, C, g7.drewN d, (B7 0 (by decide) (by decide)).trans hz, ht.keep (B7 1 (by decide) (by decide)) (Cle.refl _), (B7 2 (by decide) (by decide)).trans e2, (B7 3 (by decide) (by decide)).trans e3, HV.out⟩
          clear hg hz ht hB e2 e3 g7 f7 B7 G Z T E2 E3 E4 HV l4 hh hat
          go_wp2_with fail
          go_quiet (fail)
          go_wp2
          go_roundw
          case rel => exact ⟨k + 1, _, _, HK.out, by have := HK.out; go_num, rfl, LX.out _⟩
          case measure => have := HK.out; simp [intOf]; omega
        | some y =>
          rw [show dropH hd at' = uph hd at' none from by unfold dropH; rw [hdI_nat, hh]; rfl] at ht
          rw [show A.gt (some y) = .tuple #[A.vv y, .int .i64 0] from rfl]
          obtain ⟨W6, hW6⟩ : ∃ W, W5.alloc (.cells #[.int .i64 0, .int .i64 0, .int .i64 0, .int .i64 0] 44) = W := ⟨_, rfl⟩
          obtain ⟨W7, s7, t7, g7, f7, B7⟩ := A.gx_var hg 5 y hW6
          obtain ⟨zb, hzb⟩ : ∃ a, W5.heap.size = a := ⟨_, rfl⟩
          rw [hzb] at f7 s7
          have f2 := (B7 2 (by decide) (by decide)).trans e2
          have f3 := (B7 3 (by decide) (by decide)).trans e3
          have l7 : ∀ d, (A.LDv ⟨zb, 0, none⟩).run Try.prog (W7.drewN d) = .ok (A.vv y) (W7.drewN d) := fun d => A.LDv_run ((g7.blk f7).drewN d)
          have l8 : ∀ d, (A.LDv ⟨vb, at' * 4, none⟩).run Try.prog (W7.drewN d) = .ok (A.vv y) (W7.drewN d) := fun d => by
            have := A.LDv_vs ((g7.blk f3).drewN d) hat
            rw [HV.out at' y hh] at this
            exact this
          have cq := (g7.blk f2).cell at' _ (bs_get _ m at' hat)
          have fq := (g7.blk f2).frozen at'
          rw [hh] at cq
          simp only [Option.isSome_some] at cq
          have LX : Hid (∀ d, LS w p m hb vb (uph hd at' none) vf ((W7.drewN d).setCell ⟨hb, at', none⟩ (.bool false))) := fun d => by
            obtain ⟨t8, g8, f8, B8⟩ := gx_set1 (g7.drewN d) f2 at' (.bool false)
            rw [bs_set] at f8
            refine ⟨t8, C, g8, (B8 0 (by decide) (by decide)).trans ((B7 0 (by decide) (by decide)).trans hz), (ht.keep (B7 1 (by decide) (by decide)) (Cle.refl _)).keep (B8 1 (by decide) (by decide)) (Cle.refl _), ?_, (B8 3 (by decide) (by decide)).trans f3, fun j v e => ?_⟩
            · rw [f8]
              congr 1; congr 1
              funext j
              simp only [upb, uph]
              split <;> rfl
            · unfold uph at e
              split at e
              · cases e
              · exact HV.out j v e
          have HC := hid (cntH_off (show (hd at').isSome = true by rw [hh]; rfl) m)
          have hcl := cntH_le hd m
          have hcp : 1 ≤ cntH hd m := by have := HC.out; rw [if_pos hat] at this; omega
          clear hg hz ht hB e2 e3 f2 f3 g7 f7 B7 G Z T E2 E3 E4 HV l4 hh hat
          go_wp2_with fail
          go_quiet (fail)
          go_wp2
          go_roundw
          case rel => exact ⟨k + 1, _, _, HK.out, by have := HK.out; go_num, by have e := HC.out; rw [if_pos HT.out] at e; rw [← e]; go_num, LX.out _⟩
          case measure => have := HK.out; simp [intOf]; omega
      | 2, _ =>
        go_wp2_with fail
        refine (A.gx_set G.out Z.out (by decide) T.out at' (x0, x1, x2, x3)).mono ?_
        rintro e W5 ⟨rfl, t5, C5, hg, hz, hc, ht, hB⟩
        rw [hdI_nat]
        have e2 := (hB 2 (by decide) (by decide)).trans E2.out
        have e3 := (hB 3 (by decide) (by decide)).trans E3.out
        have e4 := (hB 4 (by decide) (by decide)).trans E4.out
        have q0 : (0 : Int) ≤ at' := by omega
        have q1 : (at' : Int) < m := by omega
        have cq := (hg.blk e2).cell at' _ (bs_get _ m at' hat)
        have l6 : (A.LDv ⟨ab, 0, none⟩).run Try.prog W5 = .ok (A.vv (x0, x1, x2, x3)) W5 := A.LDv_run (hg.blk e4)
        cases hh : hd at' with
        | none =>
          rw [show setH hd at' (x0, x1, x2, x3) = hd from by unfold setH; rw [hdI_nat, hh]; rfl] at ht
          rw [show (if (none : Option A.V).isSome = true then 0 else 5 : Int) = 5 from rfl]
          rw [hh] at cq
          simp only [Option.isSome_none] at cq
          have LX : Hid (LS w p m hb vb hd vf W5) := ⟨t5, C5, hg, hz, ht, e2, e3, HV.out⟩
          clear hg hz hc ht hB e2 e3 e4 G Z T E2 E3 E4 HV l4 hh hat
          go_wp2
          go_roundw
          case rel => exact ⟨k + 1, _, _, HK.out, by have := HK.out; go_num, rfl, LX.out⟩
          case measure => have := HK.out; simp [intOf]; omega
        | some y =>
          rw [show setH hd at' (x0, x1, x2, x3) = uph hd at' (some (x0, x1, x2, x3)) from by unfold setH; rw [hdI_nat, hh]; rfl] at ht
          rw [show (if (some y).isSome = true then 0 else 5 : Int) = 0 from rfl]
          rw [hh] at cq
          simp only [Option.isSome_some] at cq
          obtain ⟨W7, s7, hb7, k7⟩ := A.SVv_vs (hg.blk e3) hat (x0, x1, x2, x3)
          obtain ⟨t7, g7, f7, B7⟩ := gx_wr hg e3 hb7 k7
          have LX : Hid (LS w p m hb vb (uph hd at' (some (x0, x1, x2, x3))) (upv vf at' (x0, x1, x2, x3)) W7) := by
            refine ⟨t7, C5, g7, (B7 0 (by decide) (by decide)).trans hz, ht.keep (B7 1 (by decide) (by decide)) (Cle.refl _), ?_, f7, fun j v e => ?_⟩
            · rw [B7 2 (by decide) (by decide), e2]
              congr 1; congr 1
              funext j
              simp only [uph]
              split
              · rename_i ej; rw [ej, hh]; rfl
              · rfl
            · unfold uph at e
              unfold upv
              split at e
              · rw [if_pos (by assumption)]; exact Option.some.inj e
              · rw [if_neg (by assumption)]; exact HV.out j v e
          have HC := hid (cntH_set (x0, x1, x2, x3) (show (hd at').isSome = true by rw [hh]; rfl) m)
          clear hg hz hc ht hB e2 e3 e4 g7 f7 hb7 k7 B7 G Z T E2 E3 E4 HV l4 hh hat
          go_wp2
          go_roundw
          case rel => exact ⟨k + 1, _, _, HK.out, by have := HK.out; go_num, by rw [HC.out], LX.out⟩
          case measure => have := HK.out; simp [intOf]; omega
    · have l1 : ¬ (k : Int) < np := by omega
      have LX := hid hls
      clear hls hlt
      go_wp2_with fail
      go_loopw [20] (fun i wq => ∃ q : Nat, q ≤ m ∧ i = .int .i64 q ∧ LS w p m hb vb hd vf wq) (fun i _ => m - (intOf i).toNat)
      case atStart => exact ⟨0, Nat.zero_le _, rfl, LX.out⟩
      case round =>
        clear LX
        obtain ⟨q, hq, rfl, t, C, hg, hz, ht, e2, e3, hv⟩ := hrel
        have G := hid hg
        have Z := hid hz
        have T := hid ht
        have E2 := hid e2
        have E3 := hid e3
        have HV := hid hv
        clear hg hz ht e2 e3 hv
        by_cases hqm : q < m
        · have q0 : (0 : Int) ≤ q := by omega
          have q1 : (q : Int) < m := by omega
          go_wp2_with fail
          refine (A.gx_get G.out Z.out T.out q).mono ?_
          rintro e W5 ⟨rfl, hg, -⟩
          rw [hdI_nat]
          have f2 := E2.out
          have f3 := E3.out
          cases hh : hd q with
          | none =>
            rw [show A.gt none = .tuple #[A.vv A.vz, .int .i64 5] from rfl]
            obtain ⟨W6, hW6⟩ : ∃ W, W5.alloc (.cells #[.int .i64 0, .int .i64 0, .int .i64 0, .int .i64 0] 44) = W := ⟨_, rfl⟩
            obtain ⟨W7, s7, t7, g7, f7, B7⟩ := A.gx_var hg 5 A.vz hW6
            obtain ⟨zb, hzb⟩ : ∃ a, W5.heap.size = a := ⟨_, rfl⟩
            rw [hzb] at f7 s7
            have cq := (g7.blk ((B7 2 (by decide) (by decide)).trans f2)).cell q _ (bs_get _ m q hqm)
            rw [hh] at cq
            simp only [Option.isSome_none] at cq
            have LX : Hid (∀ d, LS w p m hb vb hd vf (W7.drewN d)) := fun d => ⟨t7, C, g7.drewN d, (B7 0 (by decide) (by decide)).trans Z.out, T.out.keep (B7 1 (by decide) (by decide)) (Cle.refl _), (B7 2 (by decide) (by decide)).trans f2, (B7 3 (by decide) (by decide)).trans f3, HV.out⟩
            clear hg f2 f3 g7 f7 B7 G Z T E2 E3 HV hh
            go_wp2_with fail
            go_quiet (fail)
            go_wp2
            go_roundw
            case rel => exact ⟨q + 1, by omega, by go_num, LX.out _⟩
            case measure => simp [intOf]; omega
          | some y =>
            rw [show A.gt (some y) = .tuple #[A.vv y, .int .i64 0] from rfl]
            obtain ⟨W6, hW6⟩ : ∃ W, W5.alloc (.cells #[.int .i64 0, .int .i64 0, .int .i64 0, .int .i64 0] 44) = W := ⟨_, rfl⟩
            obtain ⟨W7, s7, t7, g7, f7, B7⟩ := A.gx_var hg 5 y hW6
            obtain ⟨zb, hzb⟩ : ∃ a, W5.heap.size = a := ⟨_, rfl⟩
            rw [hzb] at f7 s7
            have l7 : ∀ d, (A.LDv ⟨zb, 0, none⟩).run Try.prog (W7.drewN d) = .ok (A.vv y) (W7.drewN d) := fun d => A.LDv_run ((g7.blk f7).drewN d)
            have l8 : ∀ d, (A.LDv ⟨vb, q * 4, none⟩).run Try.prog (W7.drewN d) = .ok (A.vv y) (W7.drewN d) := fun d => by
              have := A.LDv_vs ((g7.blk ((B7 3 (by decide) (by decide)).trans f3)).drewN d) hqm
              rw [HV.out q y hh] at this
              exact this
            have cq := (g7.blk ((B7 2 (by decide) (by decide)).trans f2)).cell q _ (bs_get _ m q hqm)
            rw [hh] at cq
            simp only [Option.isSome_some] at cq
            have LX : Hid (∀ d, LS w p m hb vb hd vf (W7.drewN d)) := fun d => ⟨t7, C, g7.drewN d, (B7 0 (by decide) (by decide)).trans Z.out, T.out.keep (B7 1 (by decide) (by decide)) (Cle.refl _), (B7 2 (by decide) (by decide)).trans f2, (B7 3 (by decide) (by decide)).trans f3, HV.out⟩
            clear hg f2 f3 g7 f7 B7 G Z T E2 E3 HV hh
            go_wp2_with fail
            go_quiet (fail)
            go_wp2
            go_roundw
            case rel => exact ⟨q + 1, by omega, by go_num, LX.out _⟩
            case measure => simp [intOf]; omega
        · obtain rfl : q = m := by omega
          go_wp2_with fail
          refine (A.gx_len G.out T.out).mono ?_
          rintro e W5 ⟨rfl, rfl⟩
          go_wp2_with fail
          refine (A.gx_full G.out T.out).mono ?_
          rintro e W6 ⟨rfl, d, rfl⟩
          have GE := hid (G.out.drewN d)
          clear G Z T E2 E3 HV
          by_cases hc : cntH hd q = q
          · rw [decide_eq_true hc]
            have hc2 : ((cntH hd q : Nat) : Int) = (q : Int) := by rw [hc]
            clear hc
            go_wp2
            go_ret
            exact ⟨rfl, GE.out.bel⟩
          · rw [decide_eq_false hc]
            have hc2 : (((cntH hd q : Nat) : Int) == (q : Int)) = false := by simp; omega
            clear hc
            go_wp2
            go_ret
            exact ⟨rfl, GE.out.bel⟩
set_option maxRecDepth 20000 in
set_option maxHeartbeats 1200000 in
theorem least_no (m : Int) (h : m < 1 ∨ 64 < m) (v : Value) (w : World) : Calls Try.prog 5 #[.int .i64 m, v] w fun e w' => e = .returned (.bool true) ∧ Below w.heap.size w w' := by
  have G := hid (GX.start w)
  go_enter Try.func5, Try.ntmps5
  go_wp2_with fail
  refine (S.awake w).mono ?_
  rintro e W0 ⟨rfl, hb⟩
  replace G := hid (G.out.below hb)
  clear hb
  go_wp2_with fail
  refine (A.new_no m W0 h).mono ?_
  rintro e W0 ⟨rfl, rfl⟩
  by_cases d1 : m < 1
  · go_wp2
    go_ret
    exact ⟨rfl, G.out.bel⟩
  · have d2 : (64 : Int) < m := by omega
    go_wp2
    go_ret
    exact ⟨rfl, G.out.bel⟩
theorem least_any (m : Int) (pa : Option Addr) (np cp : Nat) (av : Nat → A.V) (w : World) (ha : ∀ w', Below w.heap.size w w' → AA w' pa np av) (hnp : np ≤ 140737488355328) : Calls Try.prog 5 #[.int .i64 m, .slice pa np cp] w fun e w' => e = .returned (.bool true) ∧ Below w.heap.size w w' := by
  by_cases h : m < 1 ∨ 64 < m
  · exact least_no m h _ w
  · obtain ⟨k, rfl⟩ : ∃ k : Nat, m = k := ⟨m.toNat, by omega⟩
    exact least_w k (by omega) (by omega) pa np cp av w ha hnp
end Go.Proofs.Ytodihepgfpbonaa.Tb
