/- HKDF's iterator of parts, gone over till there are bytes enough. -/
import Derived.Test.YtkmkbofokoimkaaDoorIst
import Derived.Deep.RegionHeld3
namespace Go.Proofs.YtkmkbofokoimkaaDoor.Dg
open Go.ChangeShapes Go.WideShapes Go.ChangeAt Go.RowKit Go.Shelf
open Go.Proofs.YtkmkbofokoimkaaDoor.By
open Go.Proofs.YtkmkbofokoimkaaDoor.Sh (Blk size_alloc)
attribute [local go_sem] Oper.semAt_some
theorem kf_mono {B B' : Nat} {W W' : World} (h : KeepsFrom B W W') (hb : B ≤ B') : KeepsFrom B' W W' := ⟨h.size, fun k o hk => h.same k o (Nat.le_trans hb hk)⟩
section
variable {w : World} {S : Nat → Prop} {b Bl Bm Bi Bo Bn : Nat} {lo : Option Nat} {L : List Rn} {a : Bool} {K : Nat → Int} {ni : Nat} {inf : Nat → Int} {xa : Option Addr} {xc N : Nat}
set_option maxRecDepth 100000 in
set_option maxHeartbeats 2000000 in
theorem parts_seq (C : CX w S b Bl Bm Bi lo L a ni inf (.slice xa ni xc) N) (B m : Nat) (hB : w.heap.size ≤ B) (l : Nat) (ovf : Nat → Value) (X : Code → World → Prop) (R : World → Prop) (Rx : Code → World → Prop) (hR : ∀ A B', R A → KeepsFrom B A B' → R B')
    (hY : ∀ k x W1, k < qp a N → ST w S b Bo Bn lo L a K ni inf N (k + 1) k (ovf k) x W1 → R W1 → YieldAt Fence.wide (m - 1) Tryd.prog l #[x] W1 fun e W' => (e = .returned (.bool true) ∧ (ST w S b Bo Bn lo L a K ni inf N (k + 1) (k + 1) (ovf (k + 1)) x W' ∧ (k + 1) * sz a < N) ∧ R W') ∨ (e = .returned (.bool false) ∧ ∃ c, X c W' ∧ Rx c W'))
    (W : World) (h0 : ST w S b Bo Bn lo L a K ni inf N 0 0 (ovf 0) (.slice none 0 0) W) (hRW : R W) :
    CallsIn Fence.wide m Tryd.prog 33 (#[.func (.yield l) #[] #[]] ++ #[.pointer (some ⟨Bl, 0, none⟩), .pointer (some ⟨Bm, 0, none⟩), .pointer (some ⟨Bi, 0, none⟩)]) W fun e W' => (∃ v, e = .returned v) ∧ ∃ c, X c W' ∧ Rx c W' := by
  have HC := hid C
  have HY := hid hY
  have HR := hid hR
  have H0 := hid h0
  have HRW := hid hRW
  clear C hY hR h0 hRW
  refine callsIn_of_wp Tryd.func33 rfl trivial ?_ rfl
  simp only [Tryd.ntmps33, List.size_toArray, List.length_cons, List.length_nil, Nat.reduceAdd, Nat.reduceSub, Array.replicate_succ, Array.replicate_zero, List.push_toArray, List.append_toArray, List.nil_append, List.cons_append]
  gi_wp2
  gi_loopw [5, 6] (fun pv i wr => ∃ k : Nat, k < qp a N ∧ i = .int .u8 ((k : Int) + 1) ∧ ST w S b Bo Bn lo L a K ni inf N k k (ovf k) pv wr ∧ R wr) (fun _ i _ => qp a N - (intOf i).toNat)
  case atStart => exact ⟨0, qp_lt a N 0 (by have := HC.out.hN; omega), rfl, H0.out, HRW.out⟩
  case round =>
    obtain ⟨k, hk, rfl, hst, hrw⟩ := hrel
    have G := hid hst
    have RW := hid hrw
    have hk2 := qp_le a N HC.out.hN2
    have l1 := (HC.out.bl.kept hst.kp HC.out.nl).cell 0 _ rfl
    have l2 := (HC.out.bm.kept hst.kp HC.out.nm).cell 0 _ rfl
    have l3 := (HC.out.bi.kept hst.kp HC.out.ni').cell 0 _ rfl
    obtain ⟨pa, pc, rfl⟩ := own_sl hst.po
    clear hst hrw
    have HP := hid (ST.call HC.out G.out (by omega))
    rw [show ((k + 1 : Nat) : Int) = (k : Int) + 1 from rfl] at HP
    gi_wp2_with fail
    refine ⟨trivial, (fun h => by cases h), (callsIn_wide.2 HP.out).mono ?_⟩
    rintro e W2 ⟨u, rfl, hst, hkf⟩
    have G2 := hid hst
    have RW2 := hid (HR.out _ _ RW.out (kf_mono hkf hB))
    obtain ⟨ua, uc, rfl⟩ := own_sl hst.po
    clear hst hkf G RW HP l1 l2 l3
    obtain ⟨fn, tmps, assign, body, hy, hRd⟩ := HY.out k _ W2 hk G2.out RW2.out
    gi_wp2
    refine ⟨(fun h => by cases h), hRd.mono ?_⟩
    rintro e W3 (⟨rfl, ⟨hst3, hlt⟩, hr3⟩ | ⟨rfl, hx3⟩)
    · have G3 := hid hst3
      have RW3 := hid hr3
      have hk3 := qp_lt a N (k + 1) hlt
      have hmod : ((k : Int) + 1 + 1) % 256 = (k : Int) + 1 + 1 := by omega
      clear hst3 hr3 hlt
      gi_wp2
      go_roundw
      case rel => exact ⟨k + 1, hk3, by rfl, G3.out, RW3.out⟩
      case measure => simp [intOf]; omega
    · have HX := hid hx3
      clear hx3
      gi_wp2
      refine bodyPost_ret (results_none rfl _ _ _) rfl ?_
      exact ⟨⟨_, rfl⟩, HX.out⟩
theorem make_c (c : Nat) (hc : c ≤ 100000) (w : World) : (Instr.makeSlice 22 (.int .i64 0) (.int .i64 c)).run Tryd.prog w = .ok (.slice (some ⟨w.heap.size, 0, none⟩) 0 c) (w.alloc (.cells (bl c (fun _ => 0)).toArray 5)) := by
  obtain ⟨i0, hi, hz0, hz1, hz2⟩ := info_parts info5
  have hr := run_make (P := Tryd.prog) w 22 5 i0 (.int .u8 0) Tryd.underlying22 hi hz0 .i64 .i64 0 c (by omega) (by omega) (by rw [hz2]; omega) (by omega)
  have e : madeCells #[Value.int .u8 0] c = (bl c (fun _ => 0)).toArray := by rw [← bl_zero]
  simp only [Int.toNat_natCast, hz1, Nat.mul_one, Value.cells, e] at hr
  exact hr
theorem sub_h (pa : Addr) (n cap d : Nat) (w : World) (hn : d ≤ n) (hc : n ≤ cap) : (Instr.sliceAt 22 (.slice (some pa) n cap) none (some (.int .i64 d)) none).run Tryd.prog w = .ok (.slice (some pa) d cap) w := by
  have h1 : (d : Int) ≤ cap := by omega
  simp [Instr.sliceAt, Instr.slice, go_sem, h1]
theorem min_d (ts : Array TypeId) (t : TypeId) (x y d : Nat) (h : min x y = d) (w : World) : (Builtin.min_ ts t #[.int .i64 x, .int .i64 y]).run Tryd.prog w = .ok (.int .i64 d) w := by
  rw [run_min_int2 w ts t .i64 .i64 x y]
  congr 2
  split <;> omega
theorem step_app {P : Program} {ops : Array Oper} {o : Oper} {a : Act} {w w' : World} {v vs vx : Value} {K : Act → World → Prop} {Q : Exit → Act → World → Prop} {E : Prop} (hg : o.guard = none) (s x : Operand) (t : TypeId) (hop : o.op = Op.call { callee := Callee.builtin Builtin.append, args := #[s, x], argTypes := #[t, t] }) (hs : a.eval s = vs) (hx : a.eval x = vx) (hrun : (Builtin.append_ #[t, t] o.type #[vs, vx]).run P w = .ok v w') (hK : K (a.put o.dst v) w') : if Region.wanted o (yielded ops a.tmps) = true then Oper.wp P o a w K Q else E := by
  have hw : Region.wanted o (yielded ops a.tmps) = true := by simp [Region.wanted, hg]
  rw [if_pos hw]
  unfold Oper.wp
  simp [execOp, hop, resolve, invoke, builtin, hs, hx, hrun, Result.andThen]
  exact hK
theorem range_cut1 {F : Fence} {n : Nat} {P : Program} {c : Code} {K : Act → World → Prop} {Q : Exit → Act → World → Prop} {a : Act} {w : World} (id : Nat) (J : Nat → World → Prop)
    (h2 : c.wpIn F n P (fun e a' W => e = .exit id ∧ ∃ D, J D W ∧ a' = { a with defers := { target := .collected D, args := #[] } :: a.defers }) a w)
    (h1 : ∀ D W, J D W → K { a with defers := { target := .collected D, args := #[] } :: a.defers } W) :
    c.wpIn F n P (Exit.inBlock id (Exit.then K Q)) a w := by
  refine Code.wpIn_mono ?_ h2
  rintro e a' W ⟨rfl, D, hJ, rfl⟩
  simp only [Exit.inBlock, if_true]
  exact h1 D W hJ
theorem qp_in (a : Bool) (N k : Nat) (h : k < qp a N) : k * sz a < N := by
  have h1 := qp_spec a N
  have h2 : (k + 1) * sz a ≤ qp a N * sz a := Nat.mul_le_mul_right _ h
  have h3 : (k + 1) * sz a = k * sz a + sz a := Nat.succ_mul _ _
  omega
def ovq (go : Nat) (a : Bool) (N q : Nat) : Value := .slice (some ⟨go, 0, none⟩) (min (q * sz a) N) N
set_option maxRecDepth 100000 in
set_option maxHeartbeats 2000000 in
theorem first_on (C : CX w S b Bl Bm Bi lo L a ni inf (.slice xa ni xc) N) (x : MB) (hx : IsMk w b x) (ea : x.a = a) (eK : x.K = K) (hl : LG S w w lo L) :
    Calls Tryd.prog 25 #[.func (.func 33) #[] #[.pointer (some ⟨Bl, 0, none⟩), .pointer (some ⟨Bm, 0, none⟩), .pointer (some ⟨Bi, 0, none⟩)], .int .i64 N] w fun e w' => ∃ u, e = .returned u ∧ By.Own w' w.heap.size u N (okm a K ni inf) ∧ LG S w w' lo (evs a L (es a ni (qp a N))) ∧ Kp S w w' := by
  have HC := hid C
  have HX := hid hx
  have HL := hid hl
  have hN0 : ¬ (N : Int) = 0 := by have := C.hN; omega
  have hN1 := C.hN
  have hN2 : N ≤ 16320 := by have := C.hN2; have := sz_le a; have h3 : 255 * sz a ≤ 255 * 64 := Nat.mul_le_mul_left _ this; omega
  have hmk := make_c N (by omega)
  clear C hx hl
  refine (callsIn_wide (n := 5)).1 ?_
  refine callsIn_of_wp_marks Tryd.func25 rfl trivial ?_ rfl
  simp only [Tryd.ntmps25, List.size_toArray, List.length_cons, List.length_nil, Nat.reduceAdd, Nat.reduceSub, Array.replicate_succ, Array.replicate_zero, List.push_toArray, List.append_toArray, List.nil_append, List.cons_append]
  gi_wp2_with fail
  rw [show ((N : Int) == 0) = false from beq_eq_false_iff_ne.2 hN0]
  have hb0 : Below w.heap.size w (((w.alloc (.cells #[.int .i64 N] 3)).alloc (.cells (bl N fun _ => 0).toArray 5)).alloc (.cells #[.slice (some ⟨w.heap.size + 1, 0, none⟩) 0 N] 22)) := below_next (below_next (below_alloc w _) (below_alloc _ _)) (below_alloc _ _)
  have hcn := ((Sh.Blk.new w [.int .i64 N] 3).below (below_alloc _ (.cells (bl N fun _ => 0).toArray 5))).below (below_alloc _ (.cells #[.slice (some ⟨w.heap.size + 1, 0, none⟩) 0 N] 22))
  have hco := Sh.Blk.new ((w.alloc (.cells #[.int .i64 N] 3)).alloc (.cells (bl N fun _ => 0).toArray 5)) [.slice (some ⟨w.heap.size + 1, 0, none⟩) 0 N] 22
  have hoo := own_below (Sh.own_made (w.alloc (.cells #[.int .i64 N] 3)) 0 N w.heap.size (fun _ => 0) (fun _ => by decide) (Nat.zero_le _) (by simp [maxLen]; omega) (by simp)) (below_alloc _ (.cells #[.slice (some ⟨w.heap.size + 1, 0, none⟩) 0 N] 22))
  rw [size_alloc] at hoo
  rw [size_alloc, size_alloc] at hco
  obtain ⟨W0, hW0⟩ : ∃ x, ((w.alloc (.cells #[.int .i64 N] 3)).alloc (.cells (bl N fun _ => 0).toArray 5)).alloc (.cells #[.slice (some ⟨w.heap.size + 1, 0, none⟩) 0 N] 22) = x := ⟨_, rfl⟩
  rw [hW0] at hb0 hoo ⊢
  replace hcn : Blk W0 w.heap.size [.int .i64 N] 3 := by rw [← hW0]; exact hcn
  replace hco : Blk W0 (w.heap.size + 1 + 1) [.slice (some ⟨w.heap.size + 1, 0, none⟩) 0 N] 22 := by rw [← hW0]; exact hco
  have ez : ovq (w.heap.size + 1) a N 0 = .slice (some ⟨w.heap.size + 1, 0, none⟩) 0 N := by unfold ovq; rw [Nat.zero_mul, Nat.zero_min]
  have hst : ST w S b (w.heap.size + 1 + 1) w.heap.size lo L a K ni inf N 0 0 (ovq (w.heap.size + 1) a N 0) (.slice none 0 0) W0 := by
    refine ⟨Kp.of_below _ hb0, ⟨x, HX.out.below hb0, ea, eK⟩, ?_, by rw [ez]; exact hco, hcn, ?_, own_nil _ _ _ nof_b, fun g _ e => by simp [Value.ownBlock] at e⟩
    · show LG S w W0 lo (evs a L 0)
      rw [evs_zero]
      exact HL.out.below hb0
    · rw [ez, Nat.zero_mul, Nat.zero_min]
      exact own_congr hoo (okm_b _ _ _ _) (fun i hi => by omega)
  have hz0 := hb0.size
  have G0 := hid hst
  clear hW0 hb0 hcn hco hoo ez hst hmk
  refine range_cut1 0 (fun D W => W0.heap.size ≤ D ∧ (∃ pv, ST w S b (w.heap.size + 1 + 1) w.heap.size lo L a K ni inf N (qp a N) (qp a N) (ovq (w.heap.size + 1) a N (qp a N)) pv W) ∧ W.heap[D]? = some (.deferred (some []))) ?range ?rest
  case range =>
    refine range_on (hro := rfl) (h1 := by omega) (gf := 33) (lb := #[.pointer (some ⟨Bl, 0, none⟩), .pointer (some ⟨Bm, 0, none⟩), .pointer (some ⟨Bi, 0, none⟩)]) rfl trivial (enters_of Tryd.func33 (by kernel_rfl) rfl) rfl
      (fun W => ST w S b (w.heap.size + 1 + 1) w.heap.size lo L a K ni inf N 0 0 (ovq (w.heap.size + 1) a N 0) (.slice none 0 0) W)
      (fun k x W => ST w S b (w.heap.size + 1 + 1) w.heap.size lo L a K ni inf N (k + 1) k (ovq (w.heap.size + 1) a N k) x W)
      (fun k x W => ST w S b (w.heap.size + 1 + 1) w.heap.size lo L a K ni inf N (k + 1) (k + 1) (ovq (w.heap.size + 1) a N (k + 1)) x W ∧ (k + 1) * sz a < N)
      (fun c W => c = .exit 0 ∧ ∃ pv, ST w S b (w.heap.size + 1 + 1) w.heap.size lo L a K ni inf N (qp a N) (qp a N) (ovq (w.heap.size + 1) a N (qp a N)) pv W)
      (qp a N) (fun A o h => h.below (below_alloc A o)) (fun k x A l o o' h hl ho hc => h.put (Nat.le_trans hz0 hl) ho hc) (fun k x A l o o' h hl ho hc => ⟨h.1.put (Nat.le_trans hz0 hl) ho hc, h.2⟩) (fun c A l o o' h hl ho hc => ⟨h.1, h.2.elim (fun pv h => ⟨pv, h.put (Nat.le_trans hz0 hl) ho hc⟩)⟩) G0.out
      (fun l R Rx hR hY W hW hRW => parts_seq HC.out W0.heap.size _ hz0 l (ovq (w.heap.size + 1) a N) _ R Rx hR hY W hW hRW)
      (fun x => { tmps := #[.func (.func 33) #[] #[.pointer (some ⟨Bl, 0, none⟩), .pointer (some ⟨Bm, 0, none⟩), .pointer (some ⟨Bi, 0, none⟩)], .int .i64 N, undef, .pointer (some ⟨w.heap.size, 0, none⟩), .slice none 0 0, .pointer (some ⟨w.heap.size + 1 + 1, 0, none⟩), x, .int .i64 N, .bool false, .int .i64 N, .slice (some ⟨w.heap.size + 1, 0, none⟩) 0 N, .func (.func 33) #[] #[.pointer (some ⟨Bl, 0, none⟩), .pointer (some ⟨Bm, 0, none⟩), .pointer (some ⟨Bi, 0, none⟩)], x, undef, undef, undef, undef, undef, undef, undef, undef, undef, undef, undef, undef, undef, undef, undef, undef], defers := [] }) ?assign ?body ?stop
    case assign =>
      intro l k x W K hy hK
      obtain ⟨ya, yc, rfl⟩ := own_sl hy.po
      gi_wp2
      exact hK
    case body =>
      intro l k x W hk hy
      have hpl : pl a (k + 1) = sz a := rfl
      have hin := qp_in a N k hk
      obtain ⟨c, hc⟩ : ∃ c, min (k * sz a) N = c := ⟨_, rfl⟩
      obtain ⟨s, hs⟩ : ∃ s, sz a = s := ⟨_, rfl⟩
      obtain ⟨r, hr⟩ : ∃ r, N - c = r := ⟨_, rfl⟩
      obtain ⟨d, hd⟩ : ∃ d, min s r = d := ⟨_, rfl⟩
      have hs1 : 0 < s := by rw [← hs]; exact sz_pos a
      have hs2 : s ≤ 64 := by rw [← hs]; exact sz_le a
      have hcc : k * sz a = c := by omega
      have hsm : (k + 1) * sz a = c + s := by rw [Nat.succ_mul, hcc, hs]
      have hmd := min_d (h := hd)
      have hwr : IntKind.i64.wrap ((N : Int) - (c : Int)) = (r : Int) := by rw [IntKind.wrap_i64]; omega
      have ho : ovq (w.heap.size + 1) a N k = .slice (some ⟨w.heap.size + 1, 0, none⟩) c N := by unfold ovq; rw [hc]
      rw [ho] at hy
      have G := hid hy
      have o1 := hy.co.cell 0 _ rfl
      have o2 := hy.co.frozen 0
      have n1 := hy.cn.cell 0 _ rfl
      have hpo := hy.po
      rw [hpl, hs] at hpo
      rcases hpo.shape with ⟨_, e0⟩ | ⟨pg, pc, rfl, -, -, hpc, -, hcell, -⟩
      · omega
      have hsl := fun w => sub_h ⟨pg, 0, none⟩ s pc d w (by omega) hpc
      have PO := hid hpo
      have CE := hid hcell
      have HS := hid hs
      have H1 := hid hcc
      have H2 := hid hsm
      have H3 := hid hd
      have H4 := hid hr
      have H5 := hid hin
      have H6 := hid hc
      have hds : d ≤ s := by omega
      have hdl : c + d ≤ N := by omega
      have E1 := hid (show min ((k + 1) * sz a) N = c + d by rw [hsm]; omega)
      have E2 := hid (show c + d = N → N ≤ c + s by omega)
      have E3 := hid (show ¬ c + d = N → c + s < N by omega)
      clear hy hpl ho hpo hcell hs hcc hsm hd hr hin hc
      obtain ⟨i0, hi, hz0', hz1, hz2⟩ := info_parts info5
      gi_wp2_with fail
      rename_i QQ KK aK
      have hsz := G.out.co.lt
      obtain ⟨W1, hap, hown1, hgr1⟩ := run_append_fits (P := Tryd.prog) W.drew w.heap.size 22 22 5 i0 1 Tryd.underlying22 hi hz1 (w.heap.size + 1) c N (bl c (okm a K ni inf)) (by
        have h1 := own_below G.out.oo (below_drewN W 1)
        rw [H6.out] at h1
        exact h1.2) ⟨pg, 0, none⟩ d pc (bl d (tp a K ni inf (k + 1))) (by rw [bl_length, Nat.mul_one]) (by
        intro j u hj
        obtain ⟨hj1, rfl⟩ := bl_get_inv _ _ _ _ hj
        rw [By.add_plain]
        have := CE.out j (by omega : j < s)
        rw [Nat.zero_add]
        exact this) (bl_one _ _) hdl
      have hk1 : Kp (fun j => j = w.heap.size + 1) W W1 := (Kp.of_below _ (below_drewN W 1)).trans ((Kp.of_grown hgr1).mono (fun j _ e => (Option.some.inj e).symm)) (fun _ _ e => e)
      have ho1 : By.Own W1 w.heap.size (.slice (some ⟨w.heap.size + 1, 0, none⟩) (c + d) N) (min ((k + 1) * sz a) N) (okm a K ni inf) := by
        rw [E1.out]
        refine own_congr (f := cat c (okm a K ni inf) (tp a K ni inf (k + 1))) ⟨Sg.cat_bound (okm_b _ _ _ _) (tp_b _ _ _ _ _), ?_⟩ (okm_b _ _ _ _) (fun i hi => ?_)
        · rw [show bl (c + d) (cat c (okm a K ni inf) (tp a K ni inf (k + 1))) = _ from (bl_append c d _ _).symm]; exact hown1
        · rw [← H1.out]; exact okm_cat a K ni inf k d (by rw [HS.out]; omega) i (by rw [H1.out]; exact hi)
      obtain ⟨st2, kf2⟩ := G.out.app (q' := k + 1) (by omega) hk1 ho1
      have co1 := G.out.co.kept hk1 (by show ¬ (w.heap.size + 1 + 1 = w.heap.size + 1); omega)
      have p1 := co1.cell 0 _ rfl
      have p2 := co1.frozen 0
      obtain ⟨W2, hW2⟩ : ∃ x, W1.setCell ⟨w.heap.size + 1 + 1, 0, none⟩ (.slice (some ⟨w.heap.size + 1, 0, none⟩) (c + d) N) = x := ⟨_, rfl⟩
      rw [hW2] at st2 kf2
      have REST : Hid (KK { tmps := #[.func (.func 33) #[] #[.pointer (some ⟨Bl, 0, none⟩), .pointer (some ⟨Bm, 0, none⟩), .pointer (some ⟨Bi, 0, none⟩)], .int .i64 N, undef, .pointer (some ⟨w.heap.size, 0, none⟩), .slice none 0 0, .pointer (some ⟨w.heap.size + 1 + 1, 0, none⟩), .slice (some ⟨pg, 0, none⟩) s pc, .int .i64 N, .bool false, .int .i64 N, .slice (some ⟨w.heap.size + 1, 0, none⟩) 0 N, .func (.func 33) #[] #[.pointer (some ⟨Bl, 0, none⟩), .pointer (some ⟨Bm, 0, none⟩), .pointer (some ⟨Bi, 0, none⟩)], .slice (some ⟨pg, 0, none⟩) s pc, .slice (some ⟨w.heap.size + 1, 0, none⟩) c N, .slice (some ⟨pg, 0, none⟩) s pc, .slice (some ⟨pg, 0, none⟩) s pc, .int .i64 s, .int .i64 N, .slice (some ⟨w.heap.size + 1, 0, none⟩) c N, .int .i64 c, .int .i64 r, .int .i64 d, .slice (some ⟨pg, 0, none⟩) d pc, .slice (some ⟨w.heap.size + 1, 0, none⟩) (c + d) N, undef, undef, undef, undef, undef], defers := [] } W2) := by
        refine aK _ _ ?_
        have q1 := st2.co.cell 0 _ rfl
        have q2 := st2.cn.cell 0 _ rfl
        have ST2 := hid st2
        have KF2 := hid (kf_mono kf2 hz0)
        have eo : ovq (w.heap.size + 1) a N (k + 1) = .slice (some ⟨w.heap.size + 1, 0, none⟩) (c + d) N := by
          unfold ovq
          rw [E1.out]
        by_cases he : c + d = N
        · have he2 : ((c : Int) + d) = N := by omega
          have eq : qp a N = k + 1 := qp_eq a N k H5.out (by rw [H2.out]; exact E2.out he)
          gi_wp2
          exact ⟨KF2.out, rfl, _, by rw [eq, eo]; exact ST2.out⟩
        · have he2 : ¬ ((c : Int) + d) = N := by omega
          gi_wp2
          exact ⟨KF2.out, by rw [eo]; exact ST2.out, by rw [H2.out]; exact E3.out he⟩
      clear aK st2 kf2 co1 hk1 ho1 hgr1 hown1
      refine region_lift (by kernel_rfl) (noDef_spec (by kernel_rfl)) (fun ⟨_, _, h⟩ => h) 12 #[false, false, false, false, false, false, false, false, false, false, false, false] rfl rfl ?_
      refine wpAny_take (i := 1) (v := ?_) rfl (by kernel_rfl) (by kernel_rfl) (by kernel_rfl) (fun _ _ _ h => h) (Or.inl ⟨by rfl, ?_⟩) ?_
      rotate_left
      · (intro w; go_simp; try (with_reducible rfl))
      simp only [Act.put, List.getElem_toArray, List.getElem_cons_succ, List.getElem_cons_zero, List.setIfInBounds_toArray, List.set_cons_succ, List.set_cons_zero]
      refine wpAny_take (i := 2) (v := ?_) rfl (by kernel_rfl) (by kernel_rfl) (by kernel_rfl) (fun _ _ _ h => h) (Or.inl ⟨by rfl, ?_⟩) ?_
      rotate_left
      · (intro w; go_simp; try (with_reducible rfl))
      simp only [Act.put, List.getElem_toArray, List.getElem_cons_succ, List.getElem_cons_zero, List.setIfInBounds_toArray, List.set_cons_succ, List.set_cons_zero]
      refine wpAny_take (i := 3) (v := ?_) rfl (by kernel_rfl) (by kernel_rfl) (by kernel_rfl) (fun _ _ _ h => h) (Or.inl ⟨by rfl, ?_⟩) ?_
      rotate_left
      · (intro w; go_simp; try (with_reducible rfl))
      simp only [Act.put, List.getElem_toArray, List.getElem_cons_succ, List.getElem_cons_zero, List.setIfInBounds_toArray, List.set_cons_succ, List.set_cons_zero]
      refine wpAny_ready (rs := [0, 4, 5]) (by kernel_rfl) (by simp) ?_
      refine AllReady.cons rfl (fun K hK => ?_) (AllReady.cons rfl (fun K hK => ?_) (AllReady.cons rfl (fun K hK => ?_) AllReady.nil))
      · go_simp
        refine hK _ _ ?_
        clear hK K
        simp only [List.setIfInBounds_toArray, List.set_cons_zero]
        refine wpAny_ready (rs := [4, 5]) (by kernel_rfl) (by simp) ?_
        refine AllReady.cons rfl (fun K hK => ?_) (AllReady.cons rfl (fun K hK => ?_) AllReady.nil)
        · go_simp
          refine hK _ _ ?_
          clear hK K
          simp only [List.setIfInBounds_toArray, List.set_cons_succ, List.set_cons_zero]
          refine wpAny_ready (rs := [5]) (by kernel_rfl) (by simp) ?_
          refine AllReady.cons rfl (fun K hK => ?_) AllReady.nil
          go_simp
          refine hK _ _ ?_
          clear hK K
          simp only [List.setIfInBounds_toArray, List.set_cons_succ, List.set_cons_zero]
          refine wpAny_take (i := 6) (v := ?_) rfl (by kernel_rfl) (by kernel_rfl) (by kernel_rfl) (fun _ _ _ h => h) (Or.inl ⟨by rfl, ?_⟩) ?_
          rotate_left
          · (intro w; go_simp; try (with_reducible rfl))
          simp only [Act.put, List.getElem_toArray, List.getElem_cons_succ, List.getElem_cons_zero, List.setIfInBounds_toArray, List.set_cons_succ, List.set_cons_zero]
          refine wpAny_take (i := 7) (v := ?_) rfl (by kernel_rfl) (by kernel_rfl) (by kernel_rfl) (fun _ _ _ h => h) (Or.inl ⟨by rfl, ?_⟩) ?_
          rotate_left
          · (intro w; go_simp; try (with_reducible rfl))
          simp only [Act.put, List.getElem_toArray, List.getElem_cons_succ, List.getElem_cons_zero, List.setIfInBounds_toArray, List.set_cons_succ, List.set_cons_zero]
          refine wpAny_take (i := 8) (v := ?_) rfl (by kernel_rfl) (by kernel_rfl) (by kernel_rfl) (fun _ _ _ h => h) (Or.inl ⟨by rfl, ?_⟩) ?_
          rotate_left
          · (intro w; go_simp; try (with_reducible rfl))
          simp only [Act.put, List.getElem_toArray, List.getElem_cons_succ, List.getElem_cons_zero, List.setIfInBounds_toArray, List.set_cons_succ, List.set_cons_zero]
          refine wpAny_take (i := 9) (v := ?_) rfl (by kernel_rfl) (by kernel_rfl) (by kernel_rfl) (fun _ _ _ h => h) (Or.inl ⟨by rfl, ?_⟩) ?_
          rotate_left
          · (intro w; go_simp; try (with_reducible rfl))
          simp only [Act.put, List.getElem_toArray, List.getElem_cons_succ, List.getElem_cons_zero, List.setIfInBounds_toArray, List.set_cons_succ, List.set_cons_zero]
          refine wpAny_ready (rs := [10]) (by kernel_rfl) (by simp) ?_
          refine AllReady.cons rfl (fun K hK => ?_) AllReady.nil
          refine step_app rfl _ _ 22 rfl rfl rfl hap ?_
          refine hK _ _ ?_
          clear hK K
          simp only [Act.put, List.getElem_toArray, List.getElem_cons_succ, List.getElem_cons_zero, List.setIfInBounds_toArray, List.set_cons_succ, List.set_cons_zero]
          refine wpAny_ready (rs := [11]) (by kernel_rfl) (by simp) ?_
          refine AllReady.cons rfl (fun K hK => ?_) AllReady.nil
          go_simp
          refine hK _ _ ?_
          clear hK K
          refine wpAny_done (by kernel_rfl) ?_ _
          exact REST.out
        · go_simp
          refine hK _ _ ?_
          clear hK K
          simp only [List.setIfInBounds_toArray, List.set_cons_succ, List.set_cons_zero]
          refine wpAny_take (i := 6) (v := ?_) rfl (by kernel_rfl) (by kernel_rfl) (by kernel_rfl) (fun _ _ _ h => h) (Or.inl ⟨by rfl, ?_⟩) ?_
          rotate_left
          · (intro w; go_simp; try (with_reducible rfl))
          simp only [Act.put, List.getElem_toArray, List.getElem_cons_succ, List.getElem_cons_zero, List.setIfInBounds_toArray, List.set_cons_succ, List.set_cons_zero]
          refine wpAny_ready (rs := [4]) (by kernel_rfl) (by simp) ?_
          refine AllReady.cons rfl (fun K hK => ?_) AllReady.nil
          go_simp
          refine hK _ _ ?_
          clear hK K
          simp only [List.setIfInBounds_toArray, List.set_cons_succ, List.set_cons_zero]
          refine wpAny_take (i := 7) (v := ?_) rfl (by kernel_rfl) (by kernel_rfl) (by kernel_rfl) (fun _ _ _ h => h) (Or.inl ⟨by rfl, ?_⟩) ?_
          rotate_left
          · (intro w; go_simp; try (with_reducible rfl))
          simp only [Act.put, List.getElem_toArray, List.getElem_cons_succ, List.getElem_cons_zero, List.setIfInBounds_toArray, List.set_cons_succ, List.set_cons_zero]
          refine wpAny_take (i := 8) (v := ?_) rfl (by kernel_rfl) (by kernel_rfl) (by kernel_rfl) (fun _ _ _ h => h) (Or.inl ⟨by rfl, ?_⟩) ?_
          rotate_left
          · (intro w; go_simp; try (with_reducible rfl))
          simp only [Act.put, List.getElem_toArray, List.getElem_cons_succ, List.getElem_cons_zero, List.setIfInBounds_toArray, List.set_cons_succ, List.set_cons_zero]
          refine wpAny_take (i := 9) (v := ?_) rfl (by kernel_rfl) (by kernel_rfl) (by kernel_rfl) (fun _ _ _ h => h) (Or.inl ⟨by rfl, ?_⟩) ?_
          rotate_left
          · (intro w; go_simp; try (with_reducible rfl))
          simp only [Act.put, List.getElem_toArray, List.getElem_cons_succ, List.getElem_cons_zero, List.setIfInBounds_toArray, List.set_cons_succ, List.set_cons_zero]
          refine wpAny_ready (rs := [10]) (by kernel_rfl) (by simp) ?_
          refine AllReady.cons rfl (fun K hK => ?_) AllReady.nil
          refine step_app rfl _ _ 22 rfl rfl rfl hap ?_
          refine hK _ _ ?_
          clear hK K
          simp only [Act.put, List.getElem_toArray, List.getElem_cons_succ, List.getElem_cons_zero, List.setIfInBounds_toArray, List.set_cons_succ, List.set_cons_zero]
          refine wpAny_ready (rs := [11]) (by kernel_rfl) (by simp) ?_
          refine AllReady.cons rfl (fun K hK => ?_) AllReady.nil
          go_simp
          refine hK _ _ ?_
          clear hK K
          refine wpAny_done (by kernel_rfl) ?_ _
          exact REST.out
      · go_simp
        refine hK _ _ ?_
        clear hK K
        simp only [List.setIfInBounds_toArray, List.set_cons_succ, List.set_cons_zero]
        refine wpAny_ready (rs := [0, 5]) (by kernel_rfl) (by simp) ?_
        refine AllReady.cons rfl (fun K hK => ?_) (AllReady.cons rfl (fun K hK => ?_) AllReady.nil)
        · go_simp
          refine hK _ _ ?_
          clear hK K
          simp only [List.setIfInBounds_toArray, List.set_cons_zero]
          refine wpAny_ready (rs := [5]) (by kernel_rfl) (by simp) ?_
          refine AllReady.cons rfl (fun K hK => ?_) AllReady.nil
          go_simp
          refine hK _ _ ?_
          clear hK K
          simp only [List.setIfInBounds_toArray, List.set_cons_succ, List.set_cons_zero]
          refine wpAny_take (i := 6) (v := ?_) rfl (by kernel_rfl) (by kernel_rfl) (by kernel_rfl) (fun _ _ _ h => h) (Or.inl ⟨by rfl, ?_⟩) ?_
          rotate_left
          · (intro w; go_simp; try (with_reducible rfl))
          simp only [Act.put, List.getElem_toArray, List.getElem_cons_succ, List.getElem_cons_zero, List.setIfInBounds_toArray, List.set_cons_succ, List.set_cons_zero]
          refine wpAny_take (i := 7) (v := ?_) rfl (by kernel_rfl) (by kernel_rfl) (by kernel_rfl) (fun _ _ _ h => h) (Or.inl ⟨by rfl, ?_⟩) ?_
          rotate_left
          · (intro w; go_simp; try (with_reducible rfl))
          simp only [Act.put, List.getElem_toArray, List.getElem_cons_succ, List.getElem_cons_zero, List.setIfInBounds_toArray, List.set_cons_succ, List.set_cons_zero]
          refine wpAny_take (i := 8) (v := ?_) rfl (by kernel_rfl) (by kernel_rfl) (by kernel_rfl) (fun _ _ _ h => h) (Or.inl ⟨by rfl, ?_⟩) ?_
          rotate_left
          · (intro w; go_simp; try (with_reducible rfl))
          simp only [Act.put, List.getElem_toArray, List.getElem_cons_succ, List.getElem_cons_zero, List.setIfInBounds_toArray, List.set_cons_succ, List.set_cons_zero]
          refine wpAny_take (i := 9) (v := ?_) rfl (by kernel_rfl) (by kernel_rfl) (by kernel_rfl) (fun _ _ _ h => h) (Or.inl ⟨by rfl, ?_⟩) ?_
          rotate_left
          · (intro w; go_simp; try (with_reducible rfl))
          simp only [Act.put, List.getElem_toArray, List.getElem_cons_succ, List.getElem_cons_zero, List.setIfInBounds_toArray, List.set_cons_succ, List.set_cons_zero]
          refine wpAny_ready (rs := [10]) (by kernel_rfl) (by simp) ?_
          refine AllReady.cons rfl (fun K hK => ?_) AllReady.nil
          refine step_app rfl _ _ 22 rfl rfl rfl hap ?_
          refine hK _ _ ?_
          clear hK K
          simp only [Act.put, List.getElem_toArray, List.getElem_cons_succ, List.getElem_cons_zero, List.setIfInBounds_toArray, List.set_cons_succ, List.set_cons_zero]
          refine wpAny_ready (rs := [11]) (by kernel_rfl) (by simp) ?_
          refine AllReady.cons rfl (fun K hK => ?_) AllReady.nil
          go_simp
          refine hK _ _ ?_
          clear hK K
          refine wpAny_done (by kernel_rfl) ?_ _
          exact REST.out
        · go_simp
          refine hK _ _ ?_
          clear hK K
          simp only [List.setIfInBounds_toArray, List.set_cons_succ, List.set_cons_zero]
          refine wpAny_take (i := 6) (v := ?_) rfl (by kernel_rfl) (by kernel_rfl) (by kernel_rfl) (fun _ _ _ h => h) (Or.inl ⟨by rfl, ?_⟩) ?_
          rotate_left
          · (intro w; go_simp; try (with_reducible rfl))
          simp only [Act.put, List.getElem_toArray, List.getElem_cons_succ, List.getElem_cons_zero, List.setIfInBounds_toArray, List.set_cons_succ, List.set_cons_zero]
          refine wpAny_take (i := 7) (v := ?_) rfl (by kernel_rfl) (by kernel_rfl) (by kernel_rfl) (fun _ _ _ h => h) (Or.inl ⟨by rfl, ?_⟩) ?_
          rotate_left
          · (intro w; go_simp; try (with_reducible rfl))
          simp only [Act.put, List.getElem_toArray, List.getElem_cons_succ, List.getElem_cons_zero, List.setIfInBounds_toArray, List.set_cons_succ, List.set_cons_zero]
          refine wpAny_take (i := 8) (v := ?_) rfl (by kernel_rfl) (by kernel_rfl) (by kernel_rfl) (fun _ _ _ h => h) (Or.inl ⟨by rfl, ?_⟩) ?_
          rotate_left
          · (intro w; go_simp; try (with_reducible rfl))
          simp only [Act.put, List.getElem_toArray, List.getElem_cons_succ, List.getElem_cons_zero, List.setIfInBounds_toArray, List.set_cons_succ, List.set_cons_zero]
          refine wpAny_take (i := 9) (v := ?_) rfl (by kernel_rfl) (by kernel_rfl) (by kernel_rfl) (fun _ _ _ h => h) (Or.inl ⟨by rfl, ?_⟩) ?_
          rotate_left
          · (intro w; go_simp; try (with_reducible rfl))
          simp only [Act.put, List.getElem_toArray, List.getElem_cons_succ, List.getElem_cons_zero, List.setIfInBounds_toArray, List.set_cons_succ, List.set_cons_zero]
          refine wpAny_ready (rs := [0]) (by kernel_rfl) (by simp) ?_
          refine AllReady.cons rfl (fun K hK => ?_) AllReady.nil
          go_simp
          refine hK _ _ ?_
          clear hK K
          simp only [List.setIfInBounds_toArray, List.set_cons_zero]
          refine wpAny_ready (rs := [10]) (by kernel_rfl) (by simp) ?_
          refine AllReady.cons rfl (fun K hK => ?_) AllReady.nil
          refine step_app rfl _ _ 22 rfl rfl rfl hap ?_
          refine hK _ _ ?_
          clear hK K
          simp only [Act.put, List.getElem_toArray, List.getElem_cons_succ, List.getElem_cons_zero, List.setIfInBounds_toArray, List.set_cons_succ, List.set_cons_zero]
          refine wpAny_ready (rs := [11]) (by kernel_rfl) (by simp) ?_
          refine AllReady.cons rfl (fun K hK => ?_) AllReady.nil
          go_simp
          refine hK _ _ ?_
          clear hK K
          refine wpAny_done (by kernel_rfl) ?_ _
          exact REST.out
      · go_simp
        refine hK _ _ ?_
        clear hK K
        simp only [List.setIfInBounds_toArray, List.set_cons_succ, List.set_cons_zero]
        refine wpAny_take (i := 6) (v := ?_) rfl (by kernel_rfl) (by kernel_rfl) (by kernel_rfl) (fun _ _ _ h => h) (Or.inl ⟨by rfl, ?_⟩) ?_
        rotate_left
        · (intro w; go_simp; try (with_reducible rfl))
        simp only [Act.put, List.getElem_toArray, List.getElem_cons_succ, List.getElem_cons_zero, List.setIfInBounds_toArray, List.set_cons_succ, List.set_cons_zero]
        refine wpAny_ready (rs := [0, 4]) (by kernel_rfl) (by simp) ?_
        refine AllReady.cons rfl (fun K hK => ?_) (AllReady.cons rfl (fun K hK => ?_) AllReady.nil)
        · go_simp
          refine hK _ _ ?_
          clear hK K
          simp only [List.setIfInBounds_toArray, List.set_cons_zero]
          refine wpAny_ready (rs := [4]) (by kernel_rfl) (by simp) ?_
          refine AllReady.cons rfl (fun K hK => ?_) AllReady.nil
          go_simp
          refine hK _ _ ?_
          clear hK K
          simp only [List.setIfInBounds_toArray, List.set_cons_succ, List.set_cons_zero]
          refine wpAny_take (i := 7) (v := ?_) rfl (by kernel_rfl) (by kernel_rfl) (by kernel_rfl) (fun _ _ _ h => h) (Or.inl ⟨by rfl, ?_⟩) ?_
          rotate_left
          · (intro w; go_simp; try (with_reducible rfl))
          simp only [Act.put, List.getElem_toArray, List.getElem_cons_succ, List.getElem_cons_zero, List.setIfInBounds_toArray, List.set_cons_succ, List.set_cons_zero]
          refine wpAny_take (i := 8) (v := ?_) rfl (by kernel_rfl) (by kernel_rfl) (by kernel_rfl) (fun _ _ _ h => h) (Or.inl ⟨by rfl, ?_⟩) ?_
          rotate_left
          · (intro w; go_simp; try (with_reducible rfl))
          simp only [Act.put, List.getElem_toArray, List.getElem_cons_succ, List.getElem_cons_zero, List.setIfInBounds_toArray, List.set_cons_succ, List.set_cons_zero]
          refine wpAny_take (i := 9) (v := ?_) rfl (by kernel_rfl) (by kernel_rfl) (by kernel_rfl) (fun _ _ _ h => h) (Or.inl ⟨by rfl, ?_⟩) ?_
          rotate_left
          · (intro w; go_simp; try (with_reducible rfl))
          simp only [Act.put, List.getElem_toArray, List.getElem_cons_succ, List.getElem_cons_zero, List.setIfInBounds_toArray, List.set_cons_succ, List.set_cons_zero]
          refine wpAny_ready (rs := [10]) (by kernel_rfl) (by simp) ?_
          refine AllReady.cons rfl (fun K hK => ?_) AllReady.nil
          refine step_app rfl _ _ 22 rfl rfl rfl hap ?_
          refine hK _ _ ?_
          clear hK K
          simp only [Act.put, List.getElem_toArray, List.getElem_cons_succ, List.getElem_cons_zero, List.setIfInBounds_toArray, List.set_cons_succ, List.set_cons_zero]
          refine wpAny_ready (rs := [11]) (by kernel_rfl) (by simp) ?_
          refine AllReady.cons rfl (fun K hK => ?_) AllReady.nil
          go_simp
          refine hK _ _ ?_
          clear hK K
          refine wpAny_done (by kernel_rfl) ?_ _
          exact REST.out
        · go_simp
          refine hK _ _ ?_
          clear hK K
          simp only [List.setIfInBounds_toArray, List.set_cons_succ, List.set_cons_zero]
          refine wpAny_take (i := 7) (v := ?_) rfl (by kernel_rfl) (by kernel_rfl) (by kernel_rfl) (fun _ _ _ h => h) (Or.inl ⟨by rfl, ?_⟩) ?_
          rotate_left
          · (intro w; go_simp; try (with_reducible rfl))
          simp only [Act.put, List.getElem_toArray, List.getElem_cons_succ, List.getElem_cons_zero, List.setIfInBounds_toArray, List.set_cons_succ, List.set_cons_zero]
          refine wpAny_take (i := 8) (v := ?_) rfl (by kernel_rfl) (by kernel_rfl) (by kernel_rfl) (fun _ _ _ h => h) (Or.inl ⟨by rfl, ?_⟩) ?_
          rotate_left
          · (intro w; go_simp; try (with_reducible rfl))
          simp only [Act.put, List.getElem_toArray, List.getElem_cons_succ, List.getElem_cons_zero, List.setIfInBounds_toArray, List.set_cons_succ, List.set_cons_zero]
          refine wpAny_take (i := 9) (v := ?_) rfl (by kernel_rfl) (by kernel_rfl) (by kernel_rfl) (fun _ _ _ h => h) (Or.inl ⟨by rfl, ?_⟩) ?_
          rotate_left
          · (intro w; go_simp; try (with_reducible rfl))
          simp only [Act.put, List.getElem_toArray, List.getElem_cons_succ, List.getElem_cons_zero, List.setIfInBounds_toArray, List.set_cons_succ, List.set_cons_zero]
          refine wpAny_ready (rs := [0]) (by kernel_rfl) (by simp) ?_
          refine AllReady.cons rfl (fun K hK => ?_) AllReady.nil
          go_simp
          refine hK _ _ ?_
          clear hK K
          simp only [List.setIfInBounds_toArray, List.set_cons_zero]
          refine wpAny_ready (rs := [10]) (by kernel_rfl) (by simp) ?_
          refine AllReady.cons rfl (fun K hK => ?_) AllReady.nil
          refine step_app rfl _ _ 22 rfl rfl rfl hap ?_
          refine hK _ _ ?_
          clear hK K
          simp only [Act.put, List.getElem_toArray, List.getElem_cons_succ, List.getElem_cons_zero, List.setIfInBounds_toArray, List.set_cons_succ, List.set_cons_zero]
          refine wpAny_ready (rs := [11]) (by kernel_rfl) (by simp) ?_
          refine AllReady.cons rfl (fun K hK => ?_) AllReady.nil
          go_simp
          refine hK _ _ ?_
          clear hK K
          refine wpAny_done (by kernel_rfl) ?_ _
          exact REST.out

    case stop =>
      rintro D c W hD ⟨rfl, pv, h⟩ hK
      refine wpIn_exit ?_
      exact ⟨rfl, D, ⟨hD, ⟨pv, h⟩, hK⟩, rfl⟩
  case rest =>
    rintro D W ⟨hD, ⟨pv, h⟩, hK⟩
    have hq := (qp_spec a N).1
    have eo : ovq (w.heap.size + 1) a N (qp a N) = .slice (some ⟨w.heap.size + 1, 0, none⟩) N N := by unfold ovq; rw [Nat.min_eq_right hq]
    rw [eo] at h
    have o1 := h.co.cell 0 _ rfl
    have G := hid h
    have HK := hid hK
    have HD := hid hD
    have HQ := hid hq
    clear h hK hD eo hq
    rename_i K1 cont
    refine cont _ _ ?_
    clear cont
    dsimp only
    gi_wp2
    refine ⟨by simp, .inl ⟨_, _, rfl, run_takeDeferred HK.out, ?_⟩⟩
    refine ⟨_, results_tmp rfl _ _ _, _, rfl, ?_⟩
    have g2 := G.out.put (o' := .deferred none) (Nat.le_trans hz0 HD.out) HK.out rfl
    have e2 := g2.oo
    rw [Nat.min_eq_right HQ.out] at e2
    exact ⟨e2, g2.lg, g2.kp⟩
end
end Go.Proofs.YtkmkbofokoimkaaDoor.Dg
