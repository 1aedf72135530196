/- The walk of SkelFills. -/
import Derived.Test.YtdahogdfonhnfaaVaw
import Derived.Deep.DeepCutAuto
namespace Go.Proofs.Ytdahogdfonhnfaa.Ou
open Go.ChangeShapes Go.WideShapes Go.ChangeAt Go.RowKit
open Go.Proofs.Ytdahogdfonhnfaa.By
open Go.Proofs.Ytdahogdfonhnfaa.Tb (Blk Blk.newAt put_all Kp.setCells)
/-- Is a list too long to be made twice? -/
def bg (s : Sk) : Bool := decide (1048576 < s.d ∧ s.d < 16777216) || decide (1048576 < s.m ∧ s.m < 16777216)
theorem fd_le (s : Sk) : fd s ≤ 16777215 := by
  unfold fd fk
  cases e : mb (ps s).d with
  | false => simp
  | true =>
    have := of_decide_eq_true (show decide (0 ≤ (ps s).d ∧ (ps s).d ≤ 16777215) = true from e)
    split <;> omega
theorem fm_le (s : Sk) : fm s ≤ 16777215 := by
  unfold fm fk
  cases e : mb (ps s).m with
  | false => simp
  | true =>
    have := of_decide_eq_true (show decide (0 ≤ (ps s).m ∧ (ps s).m ≤ 16777215) = true from e)
    split <;> omega
set_option maxRecDepth 8000 in
set_option maxHeartbeats 1200000 in
theorem fills_w (s : Sk) (b : Int) (w : World) (hk : 0 ≤ s.k ∧ s.k < 256) (hb : 0 ≤ b ∧ b < 256) : Calls Try.prog 4 #[sv s, .int .u8 b] w fun e w' => e = .returned (.bool true) ∧ Below w.heap.size w w' := by
  have HK := hid hk
  have HB := hid hb
  obtain ⟨W0, hW0⟩ : ∃ W, w.alloc (.cells #[Value.int IntKind.u8 s.k, Value.int IntKind.i64 s.h, Value.int IntKind.u8 s.a, Value.int IntKind.i64 s.c, Value.int IntKind.i64 s.o, Value.int IntKind.i64 s.d, Value.int IntKind.i64 s.m] 33) = W := ⟨_, rfl⟩
  have KA : Hid (Blk W0 w.heap.size (sL s) 33) := by rw [← hW0]; exact Blk.newAt w _ _ _ w.heap.size rfl rfl
  have B : Hid (Below w.heap.size w W0) := by rw [← hW0]; exact below_alloc _ _
  have l0 := LDk_run KA.out
  have F1 := fun V => fill_ok s b V HK.out HB.out
  have F2 := fun V => rfill_ok s b V HB.out
  have dl := fd_le s
  have ml := fm_le s
  obtain ⟨Q, hQ⟩ : ∃ x, fq s = x := ⟨_, rfl⟩
  obtain ⟨E, hE⟩ : ∃ x, fe s = x := ⟨_, rfl⟩
  obtain ⟨D, hD⟩ : ∃ x, fd s = x := ⟨_, rfl⟩
  obtain ⟨M, hM⟩ : ∃ x, fm s = x := ⟨_, rfl⟩
  simp only [ToldF, hQ, hE, hD, hM] at F1 F2
  rw [hD] at dl
  rw [hM] at ml
  have G1 := hid F1
  have G2 := hid F2
  have DL := hid dl
  have ML := hid ml
  clear F1 F2 hQ hE hD hM dl ml
  clear hk hb
  go_enter Try.func4, Try.ntmps4
  go_wp2_with fail
  have SW : Hid (∀ V, Below W0.heap.size W0 V → (LDk ⟨w.heap.size, 0, none⟩).run Try.prog V = .ok (sv s) V) := fun V hV => LDk_run (KA.out.below hV)
  have D1 : Hid (Below W0.heap.size W0 W0.drew) := below_drewN W0 1
  have x1 := SW.out W0.drew D1.out
  have C1 := hid (bound_ok s W0.drew)
  obtain ⟨z, hz⟩ : ∃ z, bd s = z := ⟨_, rfl⟩
  have HZ := hid hz
  clear hz
  clear hW0 l0
  go_region_held3 (fun V => (LDk ⟨w.heap.size, 0, none⟩).run Try.prog V = .ok (sv s) V) (go_keep) (first
    | (go_at_call 20; with_reducible refine C2.out.mono ?_; rintro e V2 ⟨rfl, hb⟩; rw [HZ.out]; have N2 : Hid (Below W0.heap.size W0 V2) := hid (below_next N1.out hb); have x3 := SW.out V2 N2.out; clear hb)
    | (go_at_call 19; with_reducible refine C1.out.mono ?_; rintro e V1 ⟨rfl, hb⟩; rw [HZ.out]; have N1 : Hid (Below W0.heap.size W0 V1) := hid (below_next D1.out hb); have x2 := SW.out V1 N1.out; have C2 := hid (rbound_ok s V1); clear hb))
  replace B := hid (below_next B.out N2.out)
  replace KA := hid (KA.out.below N2.out)
  clear x1 x2 x3 C1 C2 N1 N2 D1 SW HZ
  have c5 := KA.out.cell 5 _ rfl
  have c6 := KA.out.cell 6 _ rfl
  obtain ⟨T, hT⟩ : ∃ t : Bool, bg s = t := ⟨_, rfl⟩
  have HT := hid hT
  clear hT
  go_upto_region 3 with fail
  go_cut [33] (fun t W => t = .bool T ∧ W = V2)
  case first =>
    have d3 : s.d ≤ 1048576 ∨ (1048576 < s.d ∧ s.d < 16777216) ∨ 16777216 ≤ s.d := by omega
    have m3 : s.m ≤ 1048576 ∨ (1048576 < s.m ∧ s.m < 16777216) ∨ 16777216 ≤ s.m := by omega
    have e : T = (decide (1048576 < s.d ∧ s.d < 16777216) || decide (1048576 < s.m ∧ s.m < 16777216)) := HT.out.symm
    rcases d3 with d | d | d
    · rcases m3 with m | m | m
      · obtain rfl : T = false := by rw [e, decide_eq_false (by omega), decide_eq_false (by omega)]; rfl
        have h1 : ¬ 1048576 < s.d := by omega
        have h2 : ¬ 1048576 < s.m := by omega
        clear d m e
        go_wp2_with fail
        go_meet
        case rel => exact ⟨rfl, rfl⟩
      · obtain rfl : T = true := by rw [e, decide_eq_false (by omega), decide_eq_true m]; rfl
        have h1 : ¬ 1048576 < s.d := by omega
        have h2 := m.1
        have h3 := m.2
        clear d m e
        go_wp2_with fail
        go_meet
        case rel => exact ⟨rfl, rfl⟩
      · obtain rfl : T = false := by rw [e, decide_eq_false (by omega), decide_eq_false (by omega)]; rfl
        have h1 : ¬ 1048576 < s.d := by omega
        have h2 : 1048576 < s.m := by omega
        have h3 : ¬ s.m < 16777216 := by omega
        clear d m e
        go_wp2_with fail
        go_meet
        case rel => exact ⟨rfl, rfl⟩
    · obtain rfl : T = true := by rw [e, decide_eq_true d]; rfl
      have h2 := d.1
      have h3 := d.2
      clear d m3 e
      go_wp2_with fail
      go_meet
      case rel => exact ⟨rfl, rfl⟩
    · rcases m3 with m | m | m
      · obtain rfl : T = false := by rw [e, decide_eq_false (by omega), decide_eq_false (by omega)]; rfl
        have h1 : 1048576 < s.d := by omega
        have h4 : ¬ s.d < 16777216 := by omega
        have h2 : ¬ 1048576 < s.m := by omega
        clear d m e
        go_wp2_with fail
        go_meet
        case rel => exact ⟨rfl, rfl⟩
      · obtain rfl : T = true := by rw [e, decide_eq_false (by omega), decide_eq_true m]; rfl
        have h1 : 1048576 < s.d := by omega
        have h4 : ¬ s.d < 16777216 := by omega
        have h2 := m.1
        have h3 := m.2
        clear d m e
        go_wp2_with fail
        go_meet
        case rel => exact ⟨rfl, rfl⟩
      · obtain rfl : T = false := by rw [e, decide_eq_false (by omega), decide_eq_false (by omega)]; rfl
        have h1 : 1048576 < s.d := by omega
        have h4 : ¬ s.d < 16777216 := by omega
        have h2 : 1048576 < s.m := by omega
        have h3 : ¬ s.m < 16777216 := by omega
        clear d m e
        go_wp2_with fail
        go_meet
        case rel => exact ⟨rfl, rfl⟩
  case rest =>
  obtain ⟨rfl, rfl⟩ := hcut
  clear c5 c6
  cases T with
  | true =>
    go_wp2_with fail
    refine (awake_ok wc).mono ?_
    rintro e V3 ⟨rfl, hb⟩
    replace B := hid (below_next B.out hb)
    clear hb KA
    go_wp2
    go_ret
    exact ⟨rfl, B.out⟩
  | false =>
    have l1 := LDk_run KA.out
    go_wp2_with fail
    have LL : Hid (LS wc w.heap.size []) := LS.nil B.out.size
    clear HT
    refine (G1.out wc).mono ?_
    rintro e W1 ⟨d1, m1, rfl, od, om, ap, hb⟩
    obtain ⟨a1, c1, rfl⟩ := own_lit_slice od
    obtain ⟨b1, k1, rfl⟩ := own_lit_slice om
    obtain ⟨U1, t1, kx, hv, _⟩ := var_op W1 Q (d := .slice a1 D c1) (m := .slice b1 M k1) rfl rfl
    replace LL := hid ((LL.out.two hb od om ap).below hv)
    have hbv := below_next hb hv
    replace B := hid (below_next B.out hbv)
    replace KA := hid (KA.out.below hbv)
    have KX1 := hid kx
    clear od om ap hb hv kx hbv
    have l1 := LDk_run KA.out
    go_wp2_with fail
    clear t1 l1
    refine (G1.out U1).mono ?_
    rintro e W2 ⟨d2, m2, rfl, od, om, ap, hb⟩
    obtain ⟨a2, c2, rfl⟩ := own_lit_slice od
    obtain ⟨b2, k2, rfl⟩ := own_lit_slice om
    obtain ⟨U2, t2, kx, hv, _⟩ := var_op W2 Q (d := .slice a2 D c2) (m := .slice b2 M k2) rfl rfl
    replace LL := hid ((LL.out.two hb od om ap).below hv)
    have hbv := below_next hb hv
    replace B := hid (below_next B.out hbv)
    replace KA := hid (KA.out.below hbv)
    replace KX1 := hid (KX1.out.below hbv)
    have KX2 := hid kx
    clear od om ap hb hv kx hbv
    have l2 := LDk_run KA.out
    go_wp2_with fail
    clear t2 l2
    refine (G2.out U2).mono ?_
    rintro e W3 ⟨d3, m3, rfl, od, om, ap, hb⟩
    obtain ⟨a3, c3, rfl⟩ := own_lit_slice od
    obtain ⟨b3, k3, rfl⟩ := own_lit_slice om
    obtain ⟨U3, t3, kx, hv, _⟩ := var_op W3 Q (d := .slice a3 D c3) (m := .slice b3 M k3) rfl rfl
    replace LL := hid ((LL.out.two hb od om ap).below hv)
    have hbv := below_next hb hv
    replace B := hid (below_next B.out hbv)
    replace KA := hid (KA.out.below hbv)
    replace KX1 := hid (KX1.out.below hbv)
    replace KX2 := hid (KX2.out.below hbv)
    have KX3 := hid kx
    clear od om ap hb hv kx hbv
    have l3 := LDk_run KA.out
    have RR := LL.out.own
    have SO := hid (sameop_ok Q (.slice a1 D c1) (.slice b1 M k1) (.slice a3 D c3) (.slice b3 M k3) D M (fun _ => b) (fun _ => b) (fun _ => b) (fun _ => b) U3 (RR ⟨.slice a1 D c1, D, fun _ => b⟩ (by simp)).reads (RR ⟨.slice a3 D c3, D, fun _ => b⟩ (by simp)).reads (RR ⟨.slice b1 M k1, M, fun _ => b⟩ (by simp)).reads (RR ⟨.slice b3 M k3, M, fun _ => b⟩ (by simp)).reads (by have := DL.out; omega) (by have := ML.out; omega) (fun _ _ => rfl) (fun _ _ => rfl))
    have x1 := LDo_run KX1.out
    have x3 := LDo_run KX3.out
    clear RR
    go_wp2_with fail
    clear x1 x3 t3 l3
    refine SO.out.mono ?_
    rintro e U4 ⟨rfl, hb⟩
    replace LL := hid (LL.out.below hb)
    replace B := hid (below_next B.out hb)
    replace KX1 := hid (KX1.out.below hb)
    replace KX2 := hid (KX2.out.below hb)
    replace KX3 := hid (KX3.out.below hb)
    clear hb SO
    have RR := LL.out.own
    have SO := hid (sameop_ok Q (.slice a2 D c2) (.slice b2 M k2) (.slice a3 D c3) (.slice b3 M k3) D M (fun _ => b) (fun _ => b) (fun _ => b) (fun _ => b) U4 (RR ⟨.slice a2 D c2, D, fun _ => b⟩ (by simp)).reads (RR ⟨.slice a3 D c3, D, fun _ => b⟩ (by simp)).reads (RR ⟨.slice b2 M k2, M, fun _ => b⟩ (by simp)).reads (RR ⟨.slice b3 M k3, M, fun _ => b⟩ (by simp)).reads (by have := DL.out; omega) (by have := ML.out; omega) (fun _ _ => rfl) (fun _ _ => rfl))
    have x1 := LDo_run KX2.out
    have x3 := LDo_run KX3.out
    clear RR
    go_wp2_with fail
    clear x1 x3
    refine SO.out.mono ?_
    rintro e U5 ⟨rfl, hb⟩
    replace LL := hid (LL.out.below hb)
    replace B := hid (below_next B.out hb)
    replace KX1 := hid (KX1.out.below hb)
    replace KX2 := hid (KX2.out.below hb)
    replace KX3 := hid (KX3.out.below hb)
    clear hb SO
    have x1 := KX1.out.cell 5 _ rfl
    have x2 := KX1.out.cell 6 _ rfl
    have x3 := KX2.out.cell 5 _ rfl
    have x4 := KX2.out.cell 6 _ rfl
    go_wp2_with fail
    clear x1 x2 x3 x4
    have L5 : LS U5 w.heap.size [⟨.slice a1 D c1, D, fun _ => b⟩, ⟨.slice b1 M k1, M, fun _ => b⟩, ⟨.slice a2 D c2, D, fun _ => b⟩, ⟨.slice b2 M k2, M, fun _ => b⟩] := LL.out.take 4
    refine (L5.apart _ rfl 4 rfl (by omega) (by omega) (fun x hx => ?_)).mono ?_
    · have := DL.out
      have := ML.out
      simp only [List.mem_cons, List.not_mem_nil, or_false] at hx
      rcases hx with rfl | rfl | rfl | rfl
      · show D ≤ _; omega
      · show M ≤ _; omega
      · show D ≤ _; omega
      · show M ≤ _; omega
    rintro e W6 ⟨rfl, hb⟩
    replace B := hid ((below_next B.out (below_alloc _ _)).trans hb)
    clear hb L5 LL KX1 KX2 KX3
    go_wp2
    go_ret
    exact ⟨rfl, B.out⟩
end Go.Proofs.Ytdahogdfonhnfaa.Ou
