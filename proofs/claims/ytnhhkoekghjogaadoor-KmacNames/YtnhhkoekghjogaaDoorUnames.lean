/- The statement Names, walked. -/
import Derived.Test.YtnhhkoekghjogaaDoorUnone
import Derived.Test.YtnhhkoekghjogaaDoorUev2
namespace Go.Proofs.YtnhhkoekghjogaaDoor.Kc
open Go.ChangeShapes Go.WideShapes Go.ChangeAt Go.RowKit
open Go.Proofs.YtnhhkoekghjogaaDoor.By Go.Proofs.YtnhhkoekghjogaaDoor.Wd
/-- A list that is read still. -/
structure Q5 (W : World) (t a b c d : Value) : Prop where
  t : By.RB W t 21 (lst eT)
  a : By.RB W a 32 (lst eA)
  b : By.RB W b 32 (lst eB)
  c : By.RB W c 64 (lst eC)
  d : By.RB W d 32 (lst eD)
theorem Q5.below {W W' : World} {t a b c d : Value} (h : Q5 W t a b c d) (hb : Below W.heap.size W W') : Q5 W' t a b c d := ⟨h.t.below hb, h.a.below hb, h.b.below hb, h.c.below hb, h.d.below hb⟩
theorem rb_tail {w : World} {g n c k : Nat} {f : Nat → Int} (h : By.RB w (.slice (some ⟨g, 0, none⟩) n c) n f) (hk : k ≤ n) : By.RB w (.slice (some ⟨g, k, none⟩) (n - k) (c - k)) (n - k) (fun i => f (k + i)) := by
  obtain ⟨hf, a, c', e, h1, h2, hc⟩ := h
  simp only [Value.slice.injEq, true_and] at e
  obtain ⟨rfl, rfl⟩ := e
  refine ⟨fun i => hf _, _, _, rfl, by omega, by omega, ?_⟩
  rcases hc with ⟨e, _⟩ | ⟨b, off, e, hc⟩
  · exact .inl ⟨by omega, fun e => by cases e⟩
  · refine .inr ⟨g, k, rfl, fun i hi => ?_⟩
    simp only [Option.some.injEq, Addr.mk.injEq, and_true] at e
    obtain ⟨rfl, rfl⟩ := e
    have := hc (k + i) (by omega)
    rwa [Nat.zero_add] at this
theorem rb_sub {w : World} {g c : Nat} {f : Nat → Int} (k n : Nat) (h : By.RB w (.slice (some ⟨g, 0, none⟩) n c) n f) (hk : k < n) : By.RB w (sub (some ⟨g, 0, none⟩) c (k : Int) (n : Int)) (n - k) (fun i => f (k + i)) := by
  have hc := rb_cap h
  have e : sub (some ⟨g, 0, none⟩) c (k : Int) (n : Int) = .slice (some ⟨g, k, none⟩) (n - k) (c - k) := by
    unfold sub
    rw [if_neg (by simp; omega)]
    simp [Addr.add]
    exact fun h => h.symm
  rw [e]
  exact rb_tail h (by omega)
set_option maxRecDepth 8000 in
set_option maxHeartbeats 8000000 in
theorem names_walk (w : World) (hk : KT w) :
    Calls Tryd.prog 6 #[] w fun e w' => e = .returned (.bool true) ∧ Below w.heap.size w w' := by
  have HK := hid hk
  clear hk
  have hcv := Lib.run_convert_bytes_const (P := Tryd.prog) w 22 5 (bl 21 (lst eT)).toArray 21 21 Tryd.underlying22 Tryd.underlying5
  rw [show (bl 21 (lst eT)).toArray = #[Value.int IntKind.u8 77, Value.int IntKind.u8 121, Value.int IntKind.u8 32, Value.int IntKind.u8 84, Value.int IntKind.u8 97, Value.int IntKind.u8 103, Value.int IntKind.u8 103, Value.int IntKind.u8 101, Value.int IntKind.u8 100, Value.int IntKind.u8 32, Value.int IntKind.u8 65, Value.int IntKind.u8 112, Value.int IntKind.u8 112, Value.int IntKind.u8 108, Value.int IntKind.u8 105, Value.int IntKind.u8 99, Value.int IntKind.u8 97, Value.int IntKind.u8 116, Value.int IntKind.u8 105, Value.int IntKind.u8 111, Value.int IntKind.u8 110] from rfl] at hcv
  go_enter Tryd.func6, Tryd.ntmps6
  go_wp2_with fail
  clear hcv
  obtain ⟨w0, hw0⟩ : ∃ x, w.alloc (.cells #[Value.int IntKind.u8 77, Value.int IntKind.u8 121, Value.int IntKind.u8 32, Value.int IntKind.u8 84, Value.int IntKind.u8 97, Value.int IntKind.u8 103, Value.int IntKind.u8 103, Value.int IntKind.u8 101, Value.int IntKind.u8 100, Value.int IntKind.u8 32, Value.int IntKind.u8 65, Value.int IntKind.u8 112, Value.int IntKind.u8 112, Value.int IntKind.u8 108, Value.int IntKind.u8 105, Value.int IntKind.u8 99, Value.int IntKind.u8 97, Value.int IntKind.u8 116, Value.int IntKind.u8 105, Value.int IntKind.u8 111, Value.int IntKind.u8 110] 5 (21, 22)) = x := ⟨_, rfl⟩
  have B0 : Hid (Below w.heap.size w w0) := by rw [← hw0]; exact below_alloc _ _
  have T0 : Hid (By.RB w0 (.slice (some ⟨w.heap.size, 0, none⟩) 21 21) 21 (lst eT)) := by rw [← hw0]; exact rb_marked w 21 (lst eT) (21, 22) eT_b (by decide)
  rw [hw0]
  clear hw0
  refine (key1 w0).mono ?_
  rintro e k1 ⟨vk1, rfl, ho, hb⟩
  have K1 := hid ho
  have B1 := hid (below_next B0.out hb)
  have T1 := hid (T0.out.below hb)
  clear ho hb
  go_wp2_with fail
  refine (message1 k1).mono ?_
  rintro e m1 ⟨vm1, rfl, ho, hb⟩
  have M1 := hid ho
  have K1' := hid (own_below K1.out hb)
  have B1' := hid (below_next B1.out hb)
  have T1' := hid (T1.out.below hb)
  clear ho hb
  have KK1 := hid (HK.out.below B1'.out)
  go_wp2_with fail
  refine (ktag_ok 128 168 32 0 4 32 (lst eK) no0 (lst e4) _ _ _ false none [] (fun _ => False) m1 (.inl ⟨rfl, rfl⟩) KK1.out (fun e => e) (fun e => e) trivial pos_nil ⟨by decide, by decide⟩ (fun w' hk' => K1'.out.reads.below (below_no hk')) (fun w' hk' => rb_none w') (fun w' hk' => M1.out.reads.below (below_no hk')) (by omega) (by omega) (by omega) (by omega)).mono ?_
  rintro e t1 ⟨v1, rfl, ho, -, hkp⟩
  obtain ⟨a1, c1, rfl, -⟩ := own_cells ho (by omega)
  have hb := below_no hkp
  have T1t := hid (T1'.out.below hb)
  have RA1 := hid (ho.reads.congr eA_b (fun i hi => saykA i hi))
  have B1t := hid (below_next B1'.out hb)
  have hc1 := rb_cap RA1.out
  clear ho hkp hb
  go_wp2_with fail
  refine (key1 t1).mono ?_
  rintro e k2 ⟨vk2, rfl, ho, hb⟩
  have K2 := hid ho
  have B2 := hid (below_next B1t.out hb)
  have T2 := hid (T1t.out.below hb)
  have RA2 := hid (RA1.out.below hb)
  clear ho hb
  go_wp2_with fail
  refine (message1 k2).mono ?_
  rintro e m2 ⟨vm2, rfl, ho, hb⟩
  have M2 := hid ho
  have K2' := hid (own_below K2.out hb)
  have B2' := hid (below_next B2.out hb)
  have T2' := hid (T2.out.below hb)
  have RA2' := hid (RA2.out.below hb)
  clear ho hb
  have KK2 := hid (HK.out.below B2'.out)
  go_wp2_with fail
  refine (ktag_ok 128 168 32 21 4 32 (lst eK) (lst eT) (lst e4) _ _ _ false none [] (fun _ => False) m2 (.inl ⟨rfl, rfl⟩) KK2.out (fun e => e) (fun e => e) trivial pos_nil ⟨by decide, by decide⟩ (fun w' hk' => K2'.out.reads.below (below_no hk')) (fun w' hk' => T2'.out.below (below_no hk')) (fun w' hk' => M2.out.reads.below (below_no hk')) (by omega) (by omega) (by omega) (by omega)).mono ?_
  rintro e t2 ⟨v2, rfl, ho, -, hkp⟩
  obtain ⟨a2, c2, rfl, -⟩ := own_cells ho (by omega)
  have hb := below_no hkp
  have T2t := hid (T2'.out.below hb)
  have RA2t := hid (RA2'.out.below hb)
  have RB2 := hid (ho.reads.congr eB_b (fun i hi => saykB i hi))
  have B2t := hid (below_next B2'.out hb)
  have hc2 := rb_cap RB2.out
  clear ho hkp hb
  go_wp2_with fail
  refine (key1 t2).mono ?_
  rintro e k3 ⟨vk3, rfl, ho, hb⟩
  have K3 := hid ho
  have B3 := hid (below_next B2t.out hb)
  have T3 := hid (T2t.out.below hb)
  have RA3 := hid (RA2t.out.below hb)
  have RB3 := hid (RB2.out.below hb)
  clear ho hb
  go_wp2_with fail
  refine (message1 k3).mono ?_
  rintro e m3 ⟨vm3, rfl, ho, hb⟩
  have M3 := hid ho
  have K3' := hid (own_below K3.out hb)
  have B3' := hid (below_next B3.out hb)
  have T3' := hid (T3.out.below hb)
  have RA3' := hid (RA3.out.below hb)
  have RB3' := hid (RB3.out.below hb)
  clear ho hb
  have KK3 := hid (HK.out.below B3'.out)
  go_wp2_with fail
  refine (ktag_ok 256 136 32 21 4 64 (lst eK) (lst eT) (lst e4) _ _ _ false none [] (fun _ => False) m3 (.inr ⟨rfl, rfl⟩) KK3.out (fun e => e) (fun e => e) trivial pos_nil ⟨by decide, by decide⟩ (fun w' hk' => K3'.out.reads.below (below_no hk')) (fun w' hk' => T3'.out.below (below_no hk')) (fun w' hk' => M3.out.reads.below (below_no hk')) (by omega) (by omega) (by omega) (by omega)).mono ?_
  rintro e t3 ⟨v3, rfl, ho, -, hkp⟩
  obtain ⟨a3, c3, rfl, -⟩ := own_cells ho (by omega)
  have hb := below_no hkp
  have T3t := hid (T3'.out.below hb)
  have RA3t := hid (RA3'.out.below hb)
  have RB3t := hid (RB3'.out.below hb)
  have RC3 := hid (ho.reads.congr eC_b (fun i hi => saykC2 i hi))
  have B3t := hid (below_next B3'.out hb)
  have hc3 := rb_cap RC3.out
  clear ho hkp hb
  go_wp2_with fail
  refine (key1 t3).mono ?_
  rintro e k4 ⟨vk4, rfl, ho, hb⟩
  have K4 := hid ho
  have B4 := hid (below_next B3t.out hb)
  have T4 := hid (T3t.out.below hb)
  have RA4 := hid (RA3t.out.below hb)
  have RB4 := hid (RB3t.out.below hb)
  have RC4 := hid (RC3.out.below hb)
  clear ho hb
  go_wp2_with fail
  refine (message1 k4).mono ?_
  rintro e m4 ⟨vm4, rfl, ho, hb⟩
  have M4 := hid ho
  have K4' := hid (own_below K4.out hb)
  have B4' := hid (below_next B4.out hb)
  have T4' := hid (T4.out.below hb)
  have RA4' := hid (RA4.out.below hb)
  have RB4' := hid (RB4.out.below hb)
  have RC4' := hid (RC4.out.below hb)
  clear ho hb
  have KK4 := hid (HK.out.below B4'.out)
  go_wp2_with fail
  refine (ktag_ok 128 168 32 0 4 32 (lst eK) no0 (lst e4) _ _ _ true none [] (fun _ => False) m4 (.inl ⟨rfl, rfl⟩) KK4.out (fun e => e) (fun e => e) trivial pos_nil ⟨by decide, by decide⟩ (fun w' hk' => K4'.out.reads.below (below_no hk')) (fun w' hk' => rb_none w') (fun w' hk' => M4.out.reads.below (below_no hk')) (by omega) (by omega) (by omega) (by omega)).mono ?_
  rintro e t4 ⟨v4, rfl, ho, -, hkp⟩
  obtain ⟨a4, c4, rfl, -⟩ := own_cells ho (by omega)
  have hb := below_no hkp
  have T4t := hid (T4'.out.below hb)
  have RA4t := hid (RA4'.out.below hb)
  have RB4t := hid (RB4'.out.below hb)
  have RC4t := hid (RC4'.out.below hb)
  have RD4 := hid (ho.reads.congr eD_b (fun i hi => saykD i hi))
  have B4t := hid (below_next B4'.out hb)
  have hc4 := rb_cap RD4.out
  clear ho hkp hb
  have Q0 := hid (show Q5 t4 _ _ _ _ _ from ⟨T4t.out, RA4t.out, RB4t.out, RC4t.out, RD4.out⟩)
  have HB0 := hid B4t.out
  go_wp2_with fail
  refine (begins1 _ 32 c1 (lst eA) 229 120 11 13 _ Q0.out.a (by omega) (by omega) (by omega) (by omega) (by omega) rfl rfl rfl rfl).mono ?_
  rintro e y1 ⟨rfl, hb⟩
  have Qy1 := hid (Q0.out.below hb)
  have HBy1 := hid (below_next HB0.out hb)
  clear hb
  go_wp2_with fail
  have b4 : ∀ i, 0 ≤ lst [69, 110, 225, 78] i ∧ lst [69, 110, 225, 78] i < 256 := lst_bound _ (by decide)
  refine (same_true _ _ 4 (fun i => lst eA (28 + i)) (lst [69, 110, 225, 78]) _ ((rb_sub 28 32 Qy1.out.a (by omega)).alloc _) (rb_lit y1 #[.int .u8 69, .int .u8 110, .int .u8 225, .int .u8 78] 4 (lst [69, 110, 225, 78]) b4 (by decide) rfl rfl) (by omega) (by decide)).mono ?_
  rintro e z1 ⟨rfl, d1, rfl⟩
  have bz1 := below_drew' (below_alloc y1 (.cells #[.int .u8 69, .int .u8 110, .int .u8 225, .int .u8 78] 5)) d1
  have Q1 := hid (Qy1.out.below bz1)
  have HB1 := hid (below_next HBy1.out bz1)
  clear bz1 b4
  obtain ⟨z1, hz⟩ : ∃ x, (y1.alloc (.cells #[.int .u8 69, .int .u8 110, .int .u8 225, .int .u8 78] 5)).drewN d1 = x := ⟨_, rfl⟩
  rw [hz] at Q1 HB1
  rw [hz]
  clear hz
  go_wp2_with fail
  refine (begins1 _ 32 c2 (lst eB) 59 31 186 150 _ Q1.out.b (by omega) (by omega) (by omega) (by omega) (by omega) rfl rfl rfl rfl).mono ?_
  rintro e y2 ⟨rfl, hb⟩
  have Qy2 := hid (Q1.out.below hb)
  have HBy2 := hid (below_next HB1.out hb)
  clear hb
  go_wp2_with fail
  have b4 : ∀ i, 0 ≤ lst [17, 50, 74, 165] i ∧ lst [17, 50, 74, 165] i < 256 := lst_bound _ (by decide)
  refine (same_true _ _ 4 (fun i => lst eB (28 + i)) (lst [17, 50, 74, 165]) _ ((rb_sub 28 32 Qy2.out.b (by omega)).alloc _) (rb_lit y2 #[.int .u8 17, .int .u8 50, .int .u8 74, .int .u8 165] 4 (lst [17, 50, 74, 165]) b4 (by decide) rfl rfl) (by omega) (by decide)).mono ?_
  rintro e z2 ⟨rfl, d2, rfl⟩
  have bz2 := below_drew' (below_alloc y2 (.cells #[.int .u8 17, .int .u8 50, .int .u8 74, .int .u8 165] 5)) d2
  have Q2 := hid (Qy2.out.below bz2)
  have HB2 := hid (below_next HBy2.out bz2)
  clear bz2 b4
  obtain ⟨z2, hz⟩ : ∃ x, (y2.alloc (.cells #[.int .u8 17, .int .u8 50, .int .u8 74, .int .u8 165] 5)).drewN d2 = x := ⟨_, rfl⟩
  rw [hz] at Q2 HB2
  rw [hz]
  clear hz
  go_wp2_with fail
  refine (begins1 _ 64 c3 (lst eC) 32 197 112 195 _ Q2.out.c (by omega) (by omega) (by omega) (by omega) (by omega) rfl rfl rfl rfl).mono ?_
  rintro e y3 ⟨rfl, hb⟩
  have Qy3 := hid (Q2.out.below hb)
  have HBy3 := hid (below_next HB2.out hb)
  clear hb
  go_wp2_with fail
  have b4 : ∀ i, 0 ≤ lst [119, 115, 168, 221] i ∧ lst [119, 115, 168, 221] i < 256 := lst_bound _ (by decide)
  refine (same_true _ _ 4 (fun i => lst eC (60 + i)) (lst [119, 115, 168, 221]) _ ((rb_sub 60 64 Qy3.out.c (by omega)).alloc _) (rb_lit y3 #[.int .u8 119, .int .u8 115, .int .u8 168, .int .u8 221] 4 (lst [119, 115, 168, 221]) b4 (by decide) rfl rfl) (by omega) (by decide)).mono ?_
  rintro e z3 ⟨rfl, d3, rfl⟩
  have bz3 := below_drew' (below_alloc y3 (.cells #[.int .u8 119, .int .u8 115, .int .u8 168, .int .u8 221] 5)) d3
  have Q3 := hid (Qy3.out.below bz3)
  have HB3 := hid (below_next HBy3.out bz3)
  clear bz3 b4
  obtain ⟨z3, hz⟩ : ∃ x, (y3.alloc (.cells #[.int .u8 119, .int .u8 115, .int .u8 168, .int .u8 221] 5)).drewN d3 = x := ⟨_, rfl⟩
  rw [hz] at Q3 HB3
  rw [hz]
  clear hz
  go_wp2_with fail
  refine (begins1 _ 32 c4 (lst eD) 205 131 116 11 _ Q3.out.d (by omega) (by omega) (by omega) (by omega) (by omega) rfl rfl rfl rfl).mono ?_
  rintro e y4 ⟨rfl, hb⟩
  have Qy4 := hid (Q3.out.below hb)
  have HBy4 := hid (below_next HB3.out hb)
  clear hb
  go_wp2_with fail
  have b4 : ∀ i, 0 ≤ lst [172, 214, 236, 53] i ∧ lst [172, 214, 236, 53] i < 256 := lst_bound _ (by decide)
  refine (same_true _ _ 4 (fun i => lst eD (28 + i)) (lst [172, 214, 236, 53]) _ ((rb_sub 28 32 Qy4.out.d (by omega)).alloc _) (rb_lit y4 #[.int .u8 172, .int .u8 214, .int .u8 236, .int .u8 53] 4 (lst [172, 214, 236, 53]) b4 (by decide) rfl rfl) (by omega) (by decide)).mono ?_
  rintro e z4 ⟨rfl, d4, rfl⟩
  have bz4 := below_drew' (below_alloc y4 (.cells #[.int .u8 172, .int .u8 214, .int .u8 236, .int .u8 53] 5)) d4
  have Q4 := hid (Qy4.out.below bz4)
  have HB4 := hid (below_next HBy4.out bz4)
  clear bz4 b4
  obtain ⟨z4, hz⟩ : ∃ x, (y4.alloc (.cells #[.int .u8 172, .int .u8 214, .int .u8 236, .int .u8 53] 5)).drewN d4 = x := ⟨_, rfl⟩
  rw [hz] at Q4 HB4
  rw [hz]
  clear hz
  go_wp2_with fail
  refine (new9 z4).mono ?_
  rintro e w1 ⟨rfl, hl, hb⟩
  have L1 := hid hl
  have B1 := hid (below_next HB4.out hb)
  have HLB : Hid (w.heap.size ≤ z4.heap.size) := HB4.out.size
  clear hl hb Q4
  obtain ⟨lb, hlb⟩ : ∃ lb, z4.heap.size = lb := ⟨_, rfl⟩
  rw [hlb] at L1 HLB
  rw [hlb]
  clear hlb
  go_wp2_with fail
  refine (key1 w1).mono ?_
  rintro e w2 ⟨v2, rfl, ho, hb⟩
  have O2 := hid ho
  have L2 := hid (L1.out.below hb)
  have B2 := hid (below_next B1.out hb)
  clear ho hb L1 B1
  have hS : ∀ j, j ≤ 1 → ¬ (fun x => x = lb) j := fun j hj e => by have := HLB.out; have := kt_lt HK.out; have e' : j = lb := e; omega
  go_wp2_with fail
  refine (knew_ok 128 168 32 0 (lst eK) no0 _ _ (some lb) [] (fun x => x = lb) w2 (.inl ⟨rfl, rfl⟩) (HK.out.below B2.out) (hS 0 (by omega)) (hS 1 (by omega)) ⟨rfl, .slice none 0 0, L2.out, fun x hx => by simp [Value.ownBlock] at hx⟩ pos_nil tiny_nil (fun w' hk' => (own_kept O2.out hk' (fun x hx e => by obtain ⟨c, hc⟩ := own8_type O2.out hx; have e' : x = lb := e; subst e'; have h1 := L2.out.here; rw [hc] at h1; simp at h1)).reads) (fun w' hk' => rb_none w') (by omega) (by omega)).mono ?_
  rintro e w3 ⟨g, b, rfl, hb, hg, hm, hlg, hkp⟩
  rw [kzN] at hm hlg
  obtain ⟨_, rv, hl3, _⟩ := hlg
  have M3 := hid hm
  have L3 := hid hl3
  have B3 : Hid (Below w.heap.size w w3) := B2.out.trans (hkp.below B2.out.size (fun k hk e => by have := HLB.out; have e' : k = lb := e; omega))
  clear hb hg hm hl3 hkp hS L2 B2 O2
  go_wp2_with fail
  refine (runs22 lb rv _ _ L3.out (by show (evk [] 2).length * 24 ≤ _; decide)).mono ?_
  rintro e w6 ⟨u6, rfl, hu6, hb6⟩
  have U6 := hid hu6
  have B6 := hid (below_next B3.out hb6)
  have M6 := hid (M3.out.below hb6)
  have L6 := hid (L3.out.below hb6)
  clear hu6 hb6 B3 M3 L3
  go_wp2_with fail
  have ol := own_lit w6 [⟨3, 200, 2⟩] #[.int .u8 3, .int .i64 200, .int .i64 2] (fun r hr => by simp at hr; subst hr; exact ⟨by decide, by decide, by decide⟩) rfl (by decide)
  refine (same14 _ _ (evk [] 2) [⟨3, 200, 2⟩] _ ((U6.out.alloc _).reads) ol.reads (by decide) (by decide)).mono ?_
  rw [decide_eq_true (show evk [] 2 = [⟨3, 200, 2⟩] from rfl)]
  rintro e w7 ⟨rfl, d7, rfl⟩
  have b67 := below_drew' (below_alloc w6 (.cells #[.int .u8 3, .int .i64 200, .int .i64 2] 63)) d7
  have B7 := hid (below_next B6.out b67)
  have M7 := hid (M6.out.below b67)
  have L7 := hid (L6.out.below b67)
  clear ol b67 B6 M6 L6
  obtain ⟨w7, hw7⟩ : ∃ x, (w6.alloc (.cells #[.int .u8 3, .int .i64 200, .int .i64 2] 63)).drewN d7 = x := ⟨_, rfl⟩
  rw [hw7] at B7 M7 L7
  rw [hw7]
  clear hw7
  go_wp2_with fail
  refine (M7.out.sum_no _ _ (-1) (by omega)).mono ?_
  rintro e w7' ⟨rfl, rfl⟩
  go_wp2_with fail
  refine (M7.out.sum_no _ _ 65537 (by omega)).mono ?_
  rintro e w7'' ⟨rfl, rfl⟩
  go_wp2_with fail
  refine (knew_bad 127 _ _ _ _ (by decide) (by decide)).mono ?_
  rintro e w8 ⟨rfl, hb⟩
  have B8 := hid (below_next B7.out hb)
  have M8 := hid (M7.out.below hb)
  have L8 := hid (L7.out.below hb)
  clear hb B7 M7 L7
  go_wp2_with fail
  refine (ktag_bad 512 1 _ _ _ _ _ _ (by omega) (by decide) (by decide)).mono ?_
  rintro e w9 ⟨rfl, hb⟩
  have B9 := hid (below_next B8.out hb)
  have M9 := hid (M8.out.below hb)
  have L9 := hid (L8.out.below hb)
  clear hb B8 M8 L8
  go_wp2_with fail
  refine (lives1 _ (HK.out.below B9.out)).mono ?_
  rintro e w10 ⟨rfl, hb⟩
  have B10 := hid (below_next B9.out hb)
  have M10 := hid (M9.out.below hb)
  have L10 := hid (L9.out.below hb)
  clear hb B9 M9 L9
  go_wp2_with fail
  refine (len20 _ _ _ _ L10.out).mono ?_
  rintro e w10' ⟨rfl, rfl⟩
  rw [show tot (evk [] 2) = 2 from rfl]
  go_wp2_with fail
  refine M10.out.strength.mono ?_
  rintro e w10'' ⟨rfl, rfl⟩
  go_wp2_with fail
  refine M10.out.form.mono ?_
  rintro e w11 ⟨rfl, -, hb⟩
  have B11 := hid (below_next B10.out hb)
  clear hb
  go_wp2
  go_ret
  exact ⟨rfl, B11.out⟩
end Go.Proofs.YtnhhkoekghjogaaDoor.Kc
