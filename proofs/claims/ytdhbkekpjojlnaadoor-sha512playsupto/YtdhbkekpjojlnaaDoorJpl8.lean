/- The law Sha512Plays: one step: New, and no call. -/
import Derived.Test.YtdhbkekpjojlnaaDoorJpl5
import Derived.Deep.RegionHeld3
namespace Go.Proofs.YtdhbkekpjojlnaaDoor.Sg
open Go.ChangeShapes Go.WideShapes Go.ChangeAt Go.RowKit
open Go.Proofs.YtdhbkekpjojlnaaDoor.By Go.Proofs.YtdhbkekpjojlnaaDoor.Wd
set_option maxRecDepth 100000 in
set_option maxHeartbeats 1000000 in
theorem step_new (B xb lb mb T tn ln q : Nat) (tt : Int) (pa : Option Addr) (pn pc : Nat) (w0 w : World) (hq : q < 256) (h : PG w0 B xb lb mb T tn tt ln w) :
    Calls Tryd.prog 8 #[.pointer (some ⟨xb, 0, none⟩), .agg #[.int .i64 7, .int .u8 q, .slice pa pn pc]] w fun r w' => r = .returned (.bool true) ∧ PG w0 B xb lb mb T tn tt ln w' := by
  obtain ⟨sts, rts, tl, L, sv, rv, tv, wv, lv, mv, hP, hev, h3, h12, htl, hT, hL1, hL2⟩ := h
  obtain ⟨ns, hns⟩ : ∃ n, sts.length = n := ⟨_, rfl⟩
  rw [hns] at h3 h12
  obtain ⟨k, hk⟩ : ∃ k, q % ns = k := ⟨_, rfl⟩
  have hkn : k < ns := by rw [← hk]; exact Nat.mod_lt _ (by omega)
  obtain ⟨hrl, e, e', he, he', hkk⟩ := kinds_at hev (i := k) (by omega)
  rw [hns] at hrl
  have hki : Hid ((q : Int) % ns = (k : Int)) := by show (q : Int) % ns = (k : Int); rw [← hk]; rfl
  have hlt : (k : Int) < ns := by omega
  have hn0 : ¬ (ns : Int) = 0 := by omega
  have HE := hid he
  have HE' := hid he'
  have HEV := hid hev
  have HT := hid hT
  have HKK := hid hkk
  have HP := hid hP
  clear hP
  go_enter Tryd.func8, Tryd.ntmps8
  go_wp2
  obtain ⟨W, hW⟩ : ∃ x, w.alloc (.cells #[.int .i64 7, .int .u8 q, .slice pa pn pc] 47) = x := ⟨_, rfl⟩
  rw [hW]
  have bW : Below w.heap.size w W := by rw [← hW]; exact below_alloc _ _
  have hC : Blk W w.heap.size [.int .i64 7, .int .u8 q, .slice pa pn pc] 47 := by rw [← hW]; exact Blk.newAt w _ _ _ _ rfl rfl
  have a0 := hC.cell 0 _ rfl
  have a1 := hC.cell 1 _ rfl
  have a2 := hC.cell 2 _ rfl
  have HC := hid hC
  have H := hid (HP.out.below bW)
  have BW := hid bW
  obtain ⟨gs, cs, rfl, hcs⟩ := H.out.viewS hns (by omega)
  obtain ⟨gr, cr, rfl, hcr⟩ := H.out.viewR hrl (by omega)
  have c0 := H.out.four.here.cell 0 _ rfl
  have c1 := H.out.four.here.cell 1 _ rfl
  have c2 := H.out.four.here.cell 2 _ rfl
  have c3 := H.out.four.here.cell 3 _ rfl
  have x1 : W.cell? ⟨gs, k, none⟩ = some (sp e) := hcs k e he
  have x2 : W.cell? ⟨gr, k, none⟩ = some (sp e') := hcr k e' he'
  clear HP hcs hcr hW bW hC he he' hev hT hkk
  go_quiet (fail)
  go_wp2
  rw [hki.out]
  go_region_held3 (fun w' => w'.cell? ⟨xb, 2, none⟩ = some (.slice (some ⟨gs, 0, none⟩) ns cs) ∧ w'.cell? ⟨xb, 3, none⟩ = some (.slice (some ⟨gr, 0, none⟩) ns cr) ∧ w'.cell? ⟨gs, k, none⟩ = some (sp e) ∧ w'.cell? ⟨gr, k, none⟩ = some (sp e')) (go_keep) (fail)
  go_wp2_with fail
  have hv := H.out.below (below_drewN W (nq + 1))
  obtain ⟨V, hV⟩ : ∃ x, W.drewN (nq + 1) = x := ⟨_, rfl⟩
  rw [hV] at hv
  rw [hV]
  have HV := hid hv
  have d0 := hv.four.here.cell 0 _ rfl
  have d1 := hv.four.here.cell 1 _ rfl
  have d2 := hv.four.here.cell 2 _ rfl
  have d3 := hv.four.here.cell 3 _ rfl
  have hpos := hid hv.lled.pos
  have hek := hid (lens_at HT.out HE.out)
  have hek' := hid (show lk (kd e') ≤ T by rw [HKK.out]; exact hek.out)
  clear hv hV a0 a1 a2 c0 c1 c2 c3 x1 x2 H HC BW
  refine (new12 V).mono ?_
  rintro r2 w2 ⟨rfl, s1, hb1⟩
  have S1 := hid s1
  have B2 := hid hb1
  have H2 := hid (HV.out.below hb1)
  obtain ⟨cv, hcv⟩ : ∃ x, V.heap.size = x := ⟨_, rfl⟩
  have HCV := hid hcv
  rw [hcv]
  have e2' := H2.out.four.here.cell 2 _ rfl
  clear s1 hb1 hcv d0 d1 d2 d3
  by_cases hlt12 : ns < 12
  · skip
    have R1 : Hid (w2.ownsRow B 33 1 (.slice (some ⟨gs, 0, none⟩) ns cs) ns (sts.map sp)) := by have := H2.out.four.r1; rw [List.length_map, hns] at this; exact this
    have e2 := H2.out.four.here.cell 2 _ rfl
    have e3 := H2.out.four.here.cell 3 _ rfl
    have f2 := H2.out.four.here.frozen 2
    have f3 := H2.out.four.here.frozen 3
    have hltx := H2.out.four.here.lt
    have hBw := H2.out.gs.hB
    have l12 : (ns : Int) < 12 := by omega
    go_wp2_with (at_builtin; go_must (refine wpList_pushG 28 33 (.pointer none) 8 Tryd.underlying28 infoP rfl (by decide) rfl _ _ rfl B _ ns (sts.map sp) _ (rowG_kept R1.out (Kp.of_below (fun _ => False) (below_alloc _ _)) (fun _ _ => id)) rfl ?c1 ?c2 ⟨_, 0, none⟩ rfl rfl (cell_newG _ _ _ _ rfl) ?_))
    case c1 => simp; omega
    case c2 => omega
    intro u1 w3 hown hkp hson
    obtain ⟨b3, t3, k3, s3⟩ := H2.out.four.pushS (below_alloc w2 _) (by rw [List.length_map, hns]; exact hown) hkp hson
    obtain ⟨ua, uc, rfl⟩ := rowG_slice hown
    have hsz3 := hkp.size
    have hz3 : w2.heap.size ≤ w3.heap.size := by simp at hsz3; omega
    have g2 := b3.cell 2 _ rfl
    have g3 := b3.cell 3 _ rfl
    have i2 := b3.frozen 2
    have hlt3 := b3.lt
    have T3 := hid t3
    have K3 := hid k3
    have j3 := t3.here.cell 3 _ rfl
    have hset : (w3.setCell ⟨xb, 2, none⟩ (.slice ua (ns + 1) uc)).heap.size = w3.heap.size := by simp [World.setCell]
    have R2 : Hid ((w3.setCell ⟨xb, 2, none⟩ (.slice ua (ns + 1) uc)).ownsRow B 40 1 (.slice (some ⟨gr, 0, none⟩) ns cr) ns (rts.map sp)) := by have := t3.r2; rw [List.length_map, hrl] at this; exact this
    clear hown hkp hson b3 t3 k3 s3 hsz3 R1
    obtain ⟨U, hU⟩ : ∃ x, w3.setCell ⟨xb, 2, none⟩ (.slice ua (ns + 1) uc) = x := ⟨_, rfl⟩
    have hU' := hid hU
    rw [hU] at j3 hset
    have R2' : Hid (U.ownsRow B 40 1 (.slice (some ⟨gr, 0, none⟩) ns cr) ns (rts.map sp)) := by have := R2.out; rw [hU] at this; exact this
    have T3' := hid T3.out
    have K3' := hid K3.out
    rw [hU] at T3' K3'
    have TU := hid T3'.out
    have KU := hid K3'.out
    have fU := TU.out.here.frozen 3
    clear R2 T3 K3 T3' K3'
    obtain ⟨i0, hi, hz0, hz1, hz2⟩ := info_parts infoQ
    go_wp2_with fail
    try rw [hU]
    have szU : w2.heap.size ≤ U.heap.size := by omega
    have hBU : B ≤ U.heap.size := by omega
    clear hU g2 g3 i2 hlt3 e2 e3 f2 f3 e2' hltx hset hz3
    go_region_law (first | (refine step_append_lies _ rfl (.tmp 223) (.tmp 225) 29 rfl B 40 i0 (.pointer none) 1 8 Tryd.underlying29 hi hz0 hz1 hz2 rfl (by decide) _ ns (rts.map sp) rfl (R4.out.alloc _) ⟨_, 0, none⟩ 1 1 [.pointer (some ⟨U.heap.size, 0, none⟩)] rfl rfl (cell_newG w4 _ _ _ rfl) (by intro v hv; simp at hv; subst hv; rfl) (by decide) (by simp [maxLen]; omega) (by omega) (by simp; omega) _ rfl ?_; intro gq cq w5 hown hgrow hat hltq; have TT := hid (TU.out.below B4.out); have PR := hid (TT.out.pushR (below_alloc w4 _) (by rw [List.length_map, hrl]; exact hown) (Kp.of_grown hgrow) (by rcases hat with e | e; exact .inl e.symm; exact .inr (fun g hg => by simp [Value.ownBlock] at hg; simp at e ⊢; omega))); have o3 := PR.out.1.cell 3 _ rfl; have p3 := PR.out.1.frozen 3; clear hown hgrow hat hltq) | (go_simp; go_at_call 7; refine (rnew11 _).mono ?_; rintro r4 w4 ⟨rfl, s4, hb4⟩; have S4 := hid s4; have B4 := hid (show Below U.heap.size U w4 from ⟨hb4.os, hb4.tape, hb4.output, hb4.size, hb4.block⟩); have j4 : w4.cell? ⟨xb, 3, none⟩ = some (.slice (some ⟨gr, 0, none⟩) ns cr) := (TU.out.below B4.out).here.cell 3 _ rfl; have R4 := hid (rowG_kept R2'.out (Kp.of_below (fun _ => False) B4.out) (fun _ _ => id)); have sz4 : U.heap.size ≤ w4.heap.size := B4.out.size; have hl4 : xb < w4.heap.size := (TU.out.below B4.out).here.lt; clear s4 hb4))
    all_goals go_wp2
    all_goals go_ret
    all_goals (
      have F := PR.out.2.1
      have KK := (KU.out.mono (fun j _ e => (show j = xb ∨ (Value.slice (some ⟨gs, 0, none⟩) ns cs).ownBlock = some j ∨ (Value.slice (some ⟨gr, 0, none⟩) ns cr).ownBlock = some j from e.elim .inl (fun e => .inr (.inl e))))).trans ((Kp.of_below (fun j => j = xb ∨ (Value.slice (some ⟨gr, 0, none⟩) ns cr).ownBlock = some j) B4.out).trans PR.out.2.2.1 (fun _ _ e => e)) (fun j _ e => e.elim .inl (fun e => .inr (.inr e)))
      have T4 := TU.out.below B4.out
      obtain ⟨cp, hcp⟩ := S4.out.blk
      have ap : ∀ g cs t, Blk w4 g cs t → t ≠ 32 → t ≠ 33 → t ≠ 40 → t ≠ 41 → ¬ (g = xb ∨ (Value.slice (some ⟨gr, 0, none⟩) ns cr).ownBlock = some g) := fun g cs t hg q1 q2 q3 q4 hs => T4.apart hg q1 q2 q3 q4 (hs.elim .inl (fun e => .inr (.inr (.inl e))))
      have hr := S4.out.kept PR.out.2.2.1 (ap _ _ _ hcp (by decide) (by decide) (by decide) (by decide)) (fun g cs hg => ap g cs _ hg (by decide) (by decide) (by decide) (by decide))
      have szV := B2.out.size
      refine ⟨rfl, _, _, _, _, _, _, _, _, _, _, HV.out.grow2 (k := some (0, fun _ => 0)) B2.out S1.out (Nat.le_refl _) hr (Nat.le_trans szV szU) (by rw [HCV.out]; exact F) KK, ?_, ?_, ?_, htl, ?_, hL1, hL2⟩
      · rw [List.map_append, List.map_append, HEV.out]; rfl
      · simp; omega
      · simp; omega
      · intro k' hk'
        rw [List.map_append] at hk'
        rcases List.mem_append.1 hk' with hk' | hk'
        · exact HT.out k' hk'
        · rw [show List.map kd [some (V.heap.size, some (0, fun _ => 0))] = [some (0, fun _ => 0)] from rfl] at hk'
          rw [List.mem_singleton.1 hk']
          exact Nat.zero_le _)
  · have hlt12' : ¬ (ns : Int) < 12 := by omega
    go_wp2
    go_ret
    exact ⟨rfl, _, _, _, _, _, _, _, _, _, _, H2.out, HEV.out, by omega, by omega, htl, HT.out, hL1, hL2⟩
set_option maxRecDepth 100000 in
set_option maxHeartbeats 1000000 in
theorem step_else (B xb lb mb T tn ln q : Nat) (d : Int) (hd : ¬ d = 1 ∧ ¬ d = 2 ∧ ¬ d = 3 ∧ ¬ d = 4 ∧ ¬ d = 5 ∧ ¬ d = 6 ∧ ¬ d = 7) (tt : Int) (pa : Option Addr) (pn pc : Nat) (w0 w : World) (hq : q < 256) (h : PG w0 B xb lb mb T tn tt ln w) :
    Calls Tryd.prog 8 #[.pointer (some ⟨xb, 0, none⟩), .agg #[.int .i64 d, .int .u8 q, .slice pa pn pc]] w fun r w' => r = .returned (.bool true) ∧ PG w0 B xb lb mb T tn tt ln w' := by
  obtain ⟨q1, q2, q3, q4, q5, q6, q7⟩ := hd
  obtain ⟨sts, rts, tl, L, sv, rv, tv, wv, lv, mv, hP, hev, h3, h12, htl, hT, hL1, hL2⟩ := h
  obtain ⟨ns, hns⟩ : ∃ n, sts.length = n := ⟨_, rfl⟩
  rw [hns] at h3 h12
  obtain ⟨k, hk⟩ : ∃ k, q % ns = k := ⟨_, rfl⟩
  have hkn : k < ns := by rw [← hk]; exact Nat.mod_lt _ (by omega)
  obtain ⟨hrl, e, e', he, he', hkk⟩ := kinds_at hev (i := k) (by omega)
  rw [hns] at hrl
  have hki : Hid ((q : Int) % ns = (k : Int)) := by show (q : Int) % ns = (k : Int); rw [← hk]; rfl
  have hlt : (k : Int) < ns := by omega
  have hn0 : ¬ (ns : Int) = 0 := by omega
  have HE := hid he
  have HE' := hid he'
  have HEV := hid hev
  have HT := hid hT
  have HKK := hid hkk
  have HP := hid hP
  clear hP
  go_enter Tryd.func8, Tryd.ntmps8
  go_wp2
  obtain ⟨W, hW⟩ : ∃ x, w.alloc (.cells #[.int .i64 d, .int .u8 q, .slice pa pn pc] 47) = x := ⟨_, rfl⟩
  rw [hW]
  have bW : Below w.heap.size w W := by rw [← hW]; exact below_alloc _ _
  have hC : Blk W w.heap.size [.int .i64 d, .int .u8 q, .slice pa pn pc] 47 := by rw [← hW]; exact Blk.newAt w _ _ _ _ rfl rfl
  have a0 := hC.cell 0 _ rfl
  have a1 := hC.cell 1 _ rfl
  have a2 := hC.cell 2 _ rfl
  have HC := hid hC
  have H := hid (HP.out.below bW)
  have BW := hid bW
  obtain ⟨gs, cs, rfl, hcs⟩ := H.out.viewS hns (by omega)
  obtain ⟨gr, cr, rfl, hcr⟩ := H.out.viewR hrl (by omega)
  have c0 := H.out.four.here.cell 0 _ rfl
  have c1 := H.out.four.here.cell 1 _ rfl
  have c2 := H.out.four.here.cell 2 _ rfl
  have c3 := H.out.four.here.cell 3 _ rfl
  have x1 : W.cell? ⟨gs, k, none⟩ = some (sp e) := hcs k e he
  have x2 : W.cell? ⟨gr, k, none⟩ = some (sp e') := hcr k e' he'
  clear HP hcs hcr hW bW hC he he' hev hT hkk
  go_quiet (fail)
  go_wp2
  rw [hki.out]
  go_region_held3 (fun w' => w'.cell? ⟨xb, 2, none⟩ = some (.slice (some ⟨gs, 0, none⟩) ns cs) ∧ w'.cell? ⟨xb, 3, none⟩ = some (.slice (some ⟨gr, 0, none⟩) ns cr) ∧ w'.cell? ⟨gs, k, none⟩ = some (sp e) ∧ w'.cell? ⟨gr, k, none⟩ = some (sp e')) (go_keep) (fail)
  go_wp2
  go_ret
  exact ⟨rfl, _, _, _, _, _, _, _, _, _, _, H.out.below (below_drewN _ _), HEV.out, by omega, by omega, htl, HT.out, hL1, hL2⟩
end Go.Proofs.YtdhbkekpjojlnaaDoor.Sg
