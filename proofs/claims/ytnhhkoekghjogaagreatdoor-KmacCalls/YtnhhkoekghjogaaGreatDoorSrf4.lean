/- What a sponge of the document answers: Read. -/
import Derived.Test.YtnhhkoekghjogaaGreatDoorKg
import Derived.Deep.RegionHeld3
import Derived.Deep.AppendLies
namespace Go.Proofs.YtnhhkoekghjogaaGreatDoor.Kc
open Go.ChangeShapes Go.WideShapes Go.ChangeAt Go.RowKit
open Go.Proofs.YtnhhkoekghjogaaGreatDoor.By Go.Proofs.YtnhhkoekghjogaaGreatDoor.Wd
theorem kz_own {W W' : World} (h : Kz W W') {base n : Nat} {v : Value} {f : Nat → Int} (ho : By.Own W base v n f) : By.Own W' base v n f := by
  obtain ⟨hf, hl, h' | ⟨g, cap, cur, rfl, hb, hc, h1, h2, h3, h4⟩⟩ := ho
  · exact ⟨hf, hl, .inl h'⟩
  · refine ⟨hf, hl, .inr ⟨g, cap, cur, rfl, hb, ?_, h1, h2, h3, h4⟩⟩
    exact h g cur.toList 5 (by show W.heap[g]? = _; rw [hc]) (by decide) (by decide) (by decide)
theorem own8t {w : World} {base n : Nat} {v : Value} {f : Nat → Int} (h : By.Own w base v n f) {g : Nat} (hg : v.ownBlock = some g) : ∃ cs, w.heap[g]? = some (.cells cs 5 (0, 0)) := by
  obtain ⟨_, _, h | ⟨g', cap, cur, rfl, _, hc, _⟩⟩ := h
  · obtain ⟨rfl, _⟩ := h; simp [Value.ownBlock] at hg
  · simp [Value.ownBlock] at hg; subst hg; exact ⟨cur, hc⟩
/-- A block of another kind stays when a list of bytes is gone on with. -/
theorem rkept_grow {W W1 W2 : World} {b base n : Nat} {cs : List Value} {v : Value} {f : Nat → Int} (h : Blk W1 b cs 114) (ho : By.Own W base v n f) (hg : W1.grownBy W2 v.ownBlock) (hW : ∀ g, g < W.heap.size → W1.heap[g]? = W.heap[g]?) : Blk W2 b cs 114 := by
  refine h.kept (Kp.of_grown hg) (fun e => ?_)
  obtain ⟨c, hc⟩ := own8t ho e
  have : Blk W1 b c.toList 5 := by show W1.heap[b]? = _; rw [hW b (Array.getElem?_eq_some_iff.1 hc).1, hc]
  exact Blk.ne h this (by decide) rfl
/-- A list of bytes stays when a sponge's cell is written. -/
theorem rown_set {W : World} {base n b i : Nat} {cs : List Value} {v u : Value} {f : Nat → Int} (h : By.Own W base v n f) (hb : Blk W b cs 114) : By.Own (W.setCell ⟨b, i, none⟩ u) base v n f := by
  obtain ⟨hf, hl, h' | ⟨g, cap, cur, rfl, hbs, hc, h1, h2, h3, h4⟩⟩ := h
  · exact ⟨hf, hl, .inl h'⟩
  · refine ⟨hf, hl, .inr ⟨g, cap, cur, rfl, hbs, ?_, h1, h2, h3, h4⟩⟩
    have hg : Blk W g cur.toList 5 := by show W.heap[g]? = _; rw [hc]
    exact hg.other (Blk.ne hg hb (by decide)) i u
set_option maxRecDepth 4000 in
set_option maxHeartbeats 8000000 in
theorem rread_shut (b r n : Nat) (sf : Int) (y : Z) (lo : Option Nat) (L0 : List Rn) (S : Nat → Prop) (w : World) (hst : RSp w b r sf y true) (hSb : S b) (hl : RG S w w lo L0) (hp : Pos L0) (hmn : n ≤ 65536) (hroom : Big L0) :
    Calls Tryz.prog 61 #[.pointer (some ⟨b, 0, none⟩), lpv lo, .int .i64 n] w fun e w' => ∃ v, e = .returned (.tuple #[v, .int .i64 0]) ∧ RSp w' b r sf (Z.out r y n) true ∧ By.Own w' w.heap.size v n (Z.say r y) ∧ RG S w w' lo (evk L0 ((Z.out r y n).c - y.c)) ∧ Kp S w w' := by
  obtain ⟨i0, hi, hz0, hz1, hz2⟩ := info_parts info5
  have h0 := hst.cg
  have h3 := hst.cs
  have H0 := hid hst
  have HS := hid hSb
  have HL := hid hl
  have hr8 := hst.lo
  have h192 := hst.hi
  have n1 : ¬ (n : Int) < 0 := by omega
  have n2 : ¬ (65536 : Int) < n := by omega
  have HP := hid hp
  have HM : Hid (tot L0 ≤ 2305843009213693953 ∧ L0.length ≤ 10000001) := ⟨by have := hroom.1; omega, by have := hroom.2; omega⟩
  clear hst hSb hl hp hroom
  go_enter Tryz.func61, Tryz.ntmps61
  go_wp2_with (first | (go_at_call 76; refine (none_is _ _ _ h0).mono ?_; rintro e w ⟨rfl, rfl⟩))
  have SM := hid H0.out
  have LM := hid HL.out
  have PM := hid (Kp.refl S w)
  clear h0 h3
  have HOK := hid SM.out.ok
  have HSF := hid SM.out.sf
  go_loopw [8, 9] (fun o i wr => ∃ k : Nat, k ≤ n ∧ i = .int .i64 k ∧ RSp wr b r sf (Z.out r y k) true ∧ By.Own wr w.heap.size o k (Z.say r y) ∧ RG S w wr lo (evk L0 ((Z.out r y k).c - y.c)) ∧ Kp S w wr) (fun _ i _ => n - (intOf i).toNat)
  case atStart =>
    refine ⟨0, Nat.zero_le _, rfl, SM.out, own_nil _ _ _ (say_b HOK.out (by omega)), ?_, PM.out⟩
    rw [show (Z.out r y 0).c - y.c = 0 from Nat.sub_self _]; exact LM.out
  case round =>
    obtain ⟨k, hk, rfl, hst, hob, hlg, hkp⟩ := hrel
    have HS1 := hid hst
    have HO1 := hid hob
    have HLG := hid hlg
    have HKP := hid hkp
    clear hst hob hlg hkp SM LM PM
    by_cases hlt : k < n
    · have c0 := HS1.out.cr
      have cp := HS1.out.cp
      have HYP := hid ((HS1.out.ok.rdy (show 0 < r by omega)).o rfl)
      have HYB := hid ((HS1.out.ok.rdy (show 0 < r by omega)).b)
      have HCB := hid (out_c_le r y k)
      have HCU := hid (out_c_up r y k)
      obtain ⟨x, hx⟩ : ∃ x, Z.out r y k = x := ⟨_, rfl⟩
      rw [hx] at HS1 HLG HYP HYB cp HCB HCU
      obtain ⟨Y, hY⟩ : ∃ Y, Z.rdy r x = Y := ⟨_, rfl⟩
      rw [hY] at HYP HYB
      have HY : Hid (Z.rdy r (Z.out r y k) = Y) := by rw [hx]; exact hY
      by_cases hfull : x.p = r
      · have he : (x.p : Int) = (r : Int) := by omega
        have eY : Y = ⟨psp x.f, 0, x.c + 1⟩ := by rw [← hY]; unfold Z.rdy; rw [if_pos hfull]; rfl
        have HEY := hid eY
        clear hx hY eY
        go_wp2_with fail
        go_region
        have B2 := hid (HS1.out.here.drewN 1)
        have L2 := hid (HLG.out.below (below_drewN wr 1))
        have K2 := hid (HKP.out.trans (Kp.of_below S (below_drewN wr 1)) (fun _ _ e => e))
        have O2 := hid (own_below HO1.out (below_drewN wr 1))
        clear c0 cp HO1 HLG HKP
        go_wp2_with fail
        refine (rpermuted_sp S w wr.drew lo _ b r sf _ _ true HS1.out.ok.b L2.out K2.out (evk_room2 HP.out HM.out.1 HM.out.2 _ (by have := HCU.out; omega)) HS.out B2.out).mono ?_
        rintro e WX ⟨rfl, hb3, hl3, hp3, ht3⟩
        have HX : Hid (Blk WX b (rsc Y.f r sf Y.p true) 114) := by rw [HEY.out]; exact hb3
        have LX : Hid (RG S w WX lo (evk L0 (Y.c - y.c))) := by
          rw [HEY.out]
          show RG S w WX lo (evk L0 (x.c + 1 - y.c))
          rw [show x.c + 1 - y.c = (x.c - y.c) + 1 from by have := HCB.out; omega]; exact hl3
        have PX := hid hp3
        have OX := hid (kz_own ht3 O2.out)
        clear hb3 hl3 hp3 ht3 B2 L2 K2 O2
        go_wp2_with fail
        have HX2 := HX.out.cell 202 _ (rsc_p _ _ _ _ _)
        have HX3 := HX.out.cell Y.p _ (rsc_at _ _ _ _ _ Y.p (by have := HYP.out; omega))
        have i9 : Y.p < 200 := by have := HYP.out; omega
        obtain ⟨bx, hbx⟩ : ∃ x, Y.f Y.p = x := ⟨_, rfl⟩
        rw [hbx] at HX3
        have HBX := hid hbx
        clear hbx
        have N1 : Hid (∀ q, u8.ownBlock = some q → w.heap.size ≤ q) := own_row OX.out
        have q3 : Hid (∀ u ∈ [Value.int .u8 bx], u.oneCell' = true) := fun u hu => by simp at hu; subst hu; rfl
        have q5 : Hid (k + 1 ≤ maxLen) := by show k + 1 ≤ maxLen; simp only [maxLen]; omega
        have q6 : Hid ((k + 1) * 1 ≤ 140737488355328) := by show (k + 1) * 1 ≤ 140737488355328; omega
        have q7 : Hid (w.heap.size ≤ (WX.alloc (.cells #[Value.int .u8 bx] 5)).heap.size) := by show w.heap.size ≤ (WX.alloc (.cells #[Value.int .u8 bx] 5)).heap.size; rw [size_alloc]; have := PX.out.size; omega
        have BA := hid ((HX.out.alloc (.cells #[Value.int .u8 bx] 5)).drewN 1)
        have GW := hid (below_drew' (below_alloc WX (.cells #[Value.int .u8 bx] 5)) 1).block
        have i10 : (Y.p : Int) < 200 := by omega
        have i11 : (0 : Int) ≤ (Y.p : Int) := by omega
        go_region_held3 (fun W => W.cell? ⟨b, 202, none⟩ = some (.int .i64 (Y.p : Int)) ∧ W.cell? ⟨b, Y.p, none⟩ = some (.int .u8 bx)) (go_keep) (first | (refine step_append_lies _ rfl (.tmp 43) (.tmp 53) 22 rfl w.heap.size 5 i0 (.int .u8 0) 1 1 Tryz.underlying22 hi hz0 hz1 hz2 rfl (by decide) u8 k (bl k (Z.say r y)) rfl (World.ownsRow.alloc OX.out.2 (.cells #[.int .u8 bx] 5)) ⟨WX.heap.size, 0, none⟩ 1 1 [.int .u8 bx] rfl rfl (cell_one_new _ _ _) q3.out (by decide) q5.out q6.out q7.out _ rfl ?_; intro gq cq w1 hown hgrow hat hltq; have KB := hid (rkept_grow BA.out OX.out hgrow GW.out); have kc1 := KB.out.cell 202 _ (rsc_p _ _ _ _ _); have kc2 : w1.cell? ⟨b, Y.p, none⟩ = some (.int .u8 bx) := (by rw [← HBX.out]; exact KB.out.cell Y.p _ (rsc_at _ _ _ _ _ Y.p (by have := HYP.out; omega))); have HW := hid hown; have HGr := hid hgrow; clear hown hgrow hat hltq))
        have R1 : Hid (By.Own w1 w.heap.size (.slice (some ⟨gq, 0, none⟩) (k + 1) cq) (k + 1) (Z.say r y)) := by
          refine ⟨say_b HOK.out (by omega), ?_⟩
          have hw := HW.out
          have e : bl (k + 1) (Z.say r y) = bl k (Z.say r y) ++ [.int .u8 bx] := by
            rw [bl_singleton, bl_append]
            refine bl_congr _ _ _ (fun i hi => ?_)
            by_cases h9 : i < k
            · rw [if_pos h9]
            · rw [if_neg h9, ← HBX.out]
              obtain rfl : i = k := by omega
              unfold Z.say
              rw [HY.out]
          rw [e]
          exact hw
        have R2 : Hid (Kp S w w1) := (PX.out.trans (Kp.of_below S (below_drew' (below_alloc WX (.cells #[Value.int .u8 bx] 5)) 1)) (fun _ _ e => e)).trans (Kp.of_grown HGr.out) (fun i hi e => by have := N1.out i e; omega)
        have R3 : Hid (RG S w w1 lo (evk L0 (Y.c - y.c))) := (LX.out.below (below_drew' (below_alloc WX (.cells #[Value.int .u8 bx] 5)) 1)).kept (Kp.of_grown HGr.out) (fun g e => by
          obtain ⟨c, hc⟩ := own8t OX.out e
          exact ⟨c.toList, 5, (by show ((WX.alloc (.cells #[Value.int .u8 bx] 5)).drewN 1).heap[g]? = _; rw [GW.out g (Array.getElem?_eq_some_iff.1 hc).1, hc]), by decide, by decide⟩)
        have fp := KB.out.frozen 202
        have hw : IntKind.i64.wrap ((Y.p : Int) + 1) = (Y.p : Int) + 1 := by rw [IntKind.wrap_i64]; omega
        clear HW HGr kc2 OX LX PX HX HX2 HX3 BA N1 GW q7
        go_wp2_with fail
        have b9 := KB.out.set 202 (.int .i64 ((Y.p : Int) + 1))
        rw [rsc_setp] at b9
        have e9 : Z.out r y (k + 1) = ⟨Y.f, Y.p + 1, Y.c⟩ := by show (⟨(Z.rdy r (Z.out r y k)).f, (Z.rdy r (Z.out r y k)).p + 1, (Z.rdy r (Z.out r y k)).c⟩ : Z) = _; rw [HY.out]
        refine ⟨⟨k + 1, by omega, by go_num, ⟨by rw [e9]; exact b9, HOK.out.out (by omega) (k + 1), hr8, h192, HSF.out⟩, ?_, ?_, R2.out.trans (Kp.setCell b 202 _) (fun i _ e => by have : i = b := e; rw [this]; exact HS.out)⟩, by simp [intOf]; omega⟩
        · exact rown_set R1.out KB.out
        · rw [e9]; exact R3.out.kept (Kp.setCell b 202 _) (fun g e => by subst e; exact ⟨_, _, KB.out, by decide, by decide⟩)
      · have he : ¬ (x.p : Int) = (r : Int) := by omega
        have eY : Y = x := by rw [← hY]; unfold Z.rdy; rw [if_neg hfull]
        have HEY := hid eY
        clear hx hY eY
        go_wp2_with fail
        go_region
        have HX : Hid (Blk wr.drew b (rsc Y.f r sf Y.p true) 114) := by rw [HEY.out]; exact HS1.out.here.drewN 1
        have LX : Hid (RG S w wr.drew lo (evk L0 (Y.c - y.c))) := by rw [HEY.out]; exact HLG.out.below (below_drewN wr 1)
        have PX : Hid (Kp S w wr.drew) := HKP.out.trans (Kp.of_below S (below_drewN wr 1)) (fun _ _ e => e)
        have OX : Hid (By.Own wr.drew w.heap.size u8 k (Z.say r y)) := own_below HO1.out (below_drewN wr 1)
        obtain ⟨WX, hWX⟩ : ∃ x, wr.drew = x := ⟨_, rfl⟩
        rw [hWX] at HX LX PX OX
        rw [hWX]
        clear hWX c0 cp HO1 HLG HKP
        go_wp2_with fail
        have HX2 := HX.out.cell 202 _ (rsc_p _ _ _ _ _)
        have HX3 := HX.out.cell Y.p _ (rsc_at _ _ _ _ _ Y.p (by have := HYP.out; omega))
        have i9 : Y.p < 200 := by have := HYP.out; omega
        obtain ⟨bx, hbx⟩ : ∃ x, Y.f Y.p = x := ⟨_, rfl⟩
        rw [hbx] at HX3
        have HBX := hid hbx
        clear hbx
        have N1 : Hid (∀ q, u8.ownBlock = some q → w.heap.size ≤ q) := own_row OX.out
        have q3 : Hid (∀ u ∈ [Value.int .u8 bx], u.oneCell' = true) := fun u hu => by simp at hu; subst hu; rfl
        have q5 : Hid (k + 1 ≤ maxLen) := by show k + 1 ≤ maxLen; simp only [maxLen]; omega
        have q6 : Hid ((k + 1) * 1 ≤ 140737488355328) := by show (k + 1) * 1 ≤ 140737488355328; omega
        have q7 : Hid (w.heap.size ≤ (WX.alloc (.cells #[Value.int .u8 bx] 5)).heap.size) := by show w.heap.size ≤ (WX.alloc (.cells #[Value.int .u8 bx] 5)).heap.size; rw [size_alloc]; have := PX.out.size; omega
        have BA := hid ((HX.out.alloc (.cells #[Value.int .u8 bx] 5)).drewN 1)
        have GW := hid (below_drew' (below_alloc WX (.cells #[Value.int .u8 bx] 5)) 1).block
        have i10 : (Y.p : Int) < 200 := by omega
        have i11 : (0 : Int) ≤ (Y.p : Int) := by omega
        go_region_held3 (fun W => W.cell? ⟨b, 202, none⟩ = some (.int .i64 (Y.p : Int)) ∧ W.cell? ⟨b, Y.p, none⟩ = some (.int .u8 bx)) (go_keep) (first | (refine step_append_lies _ rfl (.tmp 43) (.tmp 53) 22 rfl w.heap.size 5 i0 (.int .u8 0) 1 1 Tryz.underlying22 hi hz0 hz1 hz2 rfl (by decide) u8 k (bl k (Z.say r y)) rfl (World.ownsRow.alloc OX.out.2 (.cells #[.int .u8 bx] 5)) ⟨WX.heap.size, 0, none⟩ 1 1 [.int .u8 bx] rfl rfl (cell_one_new _ _ _) q3.out (by decide) q5.out q6.out q7.out _ rfl ?_; intro gq cq w1 hown hgrow hat hltq; have KB := hid (rkept_grow BA.out OX.out hgrow GW.out); have kc1 := KB.out.cell 202 _ (rsc_p _ _ _ _ _); have kc2 : w1.cell? ⟨b, Y.p, none⟩ = some (.int .u8 bx) := (by rw [← HBX.out]; exact KB.out.cell Y.p _ (rsc_at _ _ _ _ _ Y.p (by have := HYP.out; omega))); have HW := hid hown; have HGr := hid hgrow; clear hown hgrow hat hltq))
        have R1 : Hid (By.Own w1 w.heap.size (.slice (some ⟨gq, 0, none⟩) (k + 1) cq) (k + 1) (Z.say r y)) := by
          refine ⟨say_b HOK.out (by omega), ?_⟩
          have hw := HW.out
          have e : bl (k + 1) (Z.say r y) = bl k (Z.say r y) ++ [.int .u8 bx] := by
            rw [bl_singleton, bl_append]
            refine bl_congr _ _ _ (fun i hi => ?_)
            by_cases h9 : i < k
            · rw [if_pos h9]
            · rw [if_neg h9, ← HBX.out]
              obtain rfl : i = k := by omega
              unfold Z.say
              rw [HY.out]
          rw [e]
          exact hw
        have R2 : Hid (Kp S w w1) := (PX.out.trans (Kp.of_below S (below_drew' (below_alloc WX (.cells #[Value.int .u8 bx] 5)) 1)) (fun _ _ e => e)).trans (Kp.of_grown HGr.out) (fun i hi e => by have := N1.out i e; omega)
        have R3 : Hid (RG S w w1 lo (evk L0 (Y.c - y.c))) := (LX.out.below (below_drew' (below_alloc WX (.cells #[Value.int .u8 bx] 5)) 1)).kept (Kp.of_grown HGr.out) (fun g e => by
          obtain ⟨c, hc⟩ := own8t OX.out e
          exact ⟨c.toList, 5, (by show ((WX.alloc (.cells #[Value.int .u8 bx] 5)).drewN 1).heap[g]? = _; rw [GW.out g (Array.getElem?_eq_some_iff.1 hc).1, hc]), by decide, by decide⟩)
        have fp := KB.out.frozen 202
        have hw : IntKind.i64.wrap ((Y.p : Int) + 1) = (Y.p : Int) + 1 := by rw [IntKind.wrap_i64]; omega
        clear HW HGr kc2 OX LX PX HX HX2 HX3 BA N1 GW q7
        go_wp2_with fail
        have b9 := KB.out.set 202 (.int .i64 ((Y.p : Int) + 1))
        rw [rsc_setp] at b9
        have e9 : Z.out r y (k + 1) = ⟨Y.f, Y.p + 1, Y.c⟩ := by show (⟨(Z.rdy r (Z.out r y k)).f, (Z.rdy r (Z.out r y k)).p + 1, (Z.rdy r (Z.out r y k)).c⟩ : Z) = _; rw [HY.out]
        refine ⟨⟨k + 1, by omega, by go_num, ⟨by rw [e9]; exact b9, HOK.out.out (by omega) (k + 1), hr8, h192, HSF.out⟩, ?_, ?_, R2.out.trans (Kp.setCell b 202 _) (fun i _ e => by have : i = b := e; rw [this]; exact HS.out)⟩, by simp [intOf]; omega⟩
        · exact rown_set R1.out KB.out
        · rw [e9]; exact R3.out.kept (Kp.setCell b 202 _) (fun g e => by subst e; exact ⟨_, _, KB.out, by decide, by decide⟩)
    · have ek : k = n := by omega
      subst ek
      go_wp2
      go_ret2
      exact ⟨_, rfl, HS1.out, HO1.out, HLG.out, HKP.out⟩

set_option maxRecDepth 4000 in
set_option maxHeartbeats 8000000 in
theorem rread_open (b r n : Nat) (sf : Int) (z y : Z) (lo : Option Nat) (L : List Rn) (S : Nat → Prop) (w : World) (hst : RSp w b r sf z false) (hSb : S b) (hl : RG S w w lo L) (hp : Pos L) (hmn : n ≤ 65536) (hroom : Big L) (L0 : List Rn) (ey : y = Z.fin r sf z) (eL : L0 = evk L 1) :
    Calls Tryz.prog 61 #[.pointer (some ⟨b, 0, none⟩), lpv lo, .int .i64 n] w fun e w' => ∃ v, e = .returned (.tuple #[v, .int .i64 0]) ∧ RSp w' b r sf (Z.out r y n) true ∧ By.Own w' w.heap.size v n (Z.say r y) ∧ RG S w w' lo (evk L0 ((Z.out r y n).c - y.c)) ∧ Kp S w w' := by
  obtain ⟨i0, hi, hz0, hz1, hz2⟩ := info_parts info5
  have h0 := hst.cg
  have h3 := hst.cs
  have H0 := hid hst
  have HS := hid hSb
  have HL := hid hl
  have hr8 := hst.lo
  have h192 := hst.hi
  have n1 : ¬ (n : Int) < 0 := by omega
  have n2 : ¬ (65536 : Int) < n := by omega
  have HP := hid (eL ▸ evk_pos hp 1 : Pos L0)
  have HM : Hid (tot L0 ≤ 2305843009213693953 ∧ L0.length ≤ 10000001) := by
    have e1 := evk_tot hp 1 (by have := hroom.1; omega)
    have e2 := evk_len L 1
    have e3 := hroom.1
    have e4 := hroom.2
    rw [eL]
    exact ⟨by omega, by omega⟩
  have HE := hid (rclose_sp b r sf z lo L S w hst hSb hl hroom)
  have EY := hid ey
  have EL := hid eL
  clear ey eL hst hSb hl hp hroom
  go_enter Tryz.func61, Tryz.ntmps61
  go_wp2_with (first | (go_at_call 76; refine (none_is _ _ _ h0).mono ?_; rintro e w ⟨rfl, rfl⟩))
  refine HE.out.mono ?_
  rintro e w1 ⟨rfl, hb1, hl1, hp1⟩
  have SM : Hid (RSp w1 b r sf y true) := by rw [EY.out]; exact hb1
  have LM : Hid (RG S w w1 lo L0) := by rw [EL.out]; exact hl1
  have PM := hid hp1
  clear hb1 hl1 hp1 HE h0 h3
  go_wp2_with fail
  have HOK := hid SM.out.ok
  have HSF := hid SM.out.sf
  go_loopw [8, 9] (fun o i wr => ∃ k : Nat, k ≤ n ∧ i = .int .i64 k ∧ RSp wr b r sf (Z.out r y k) true ∧ By.Own wr w.heap.size o k (Z.say r y) ∧ RG S w wr lo (evk L0 ((Z.out r y k).c - y.c)) ∧ Kp S w wr) (fun _ i _ => n - (intOf i).toNat)
  case atStart =>
    refine ⟨0, Nat.zero_le _, rfl, SM.out, own_nil _ _ _ (say_b HOK.out (by omega)), ?_, PM.out⟩
    rw [show (Z.out r y 0).c - y.c = 0 from Nat.sub_self _]; exact LM.out
  case round =>
    obtain ⟨k, hk, rfl, hst, hob, hlg, hkp⟩ := hrel
    have HS1 := hid hst
    have HO1 := hid hob
    have HLG := hid hlg
    have HKP := hid hkp
    clear hst hob hlg hkp SM LM PM
    by_cases hlt : k < n
    · have c0 := HS1.out.cr
      have cp := HS1.out.cp
      have HYP := hid ((HS1.out.ok.rdy (show 0 < r by omega)).o rfl)
      have HYB := hid ((HS1.out.ok.rdy (show 0 < r by omega)).b)
      have HCB := hid (out_c_le r y k)
      have HCU := hid (out_c_up r y k)
      obtain ⟨x, hx⟩ : ∃ x, Z.out r y k = x := ⟨_, rfl⟩
      rw [hx] at HS1 HLG HYP HYB cp HCB HCU
      obtain ⟨Y, hY⟩ : ∃ Y, Z.rdy r x = Y := ⟨_, rfl⟩
      rw [hY] at HYP HYB
      have HY : Hid (Z.rdy r (Z.out r y k) = Y) := by rw [hx]; exact hY
      by_cases hfull : x.p = r
      · have he : (x.p : Int) = (r : Int) := by omega
        have eY : Y = ⟨psp x.f, 0, x.c + 1⟩ := by rw [← hY]; unfold Z.rdy; rw [if_pos hfull]; rfl
        have HEY := hid eY
        clear hx hY eY
        go_wp2_with fail
        go_region
        have B2 := hid (HS1.out.here.drewN 1)
        have L2 := hid (HLG.out.below (below_drewN wr 1))
        have K2 := hid (HKP.out.trans (Kp.of_below S (below_drewN wr 1)) (fun _ _ e => e))
        have O2 := hid (own_below HO1.out (below_drewN wr 1))
        clear c0 cp HO1 HLG HKP
        go_wp2_with fail
        refine (rpermuted_sp S w wr.drew lo _ b r sf _ _ true HS1.out.ok.b L2.out K2.out (evk_room2 HP.out HM.out.1 HM.out.2 _ (by have := HCU.out; omega)) HS.out B2.out).mono ?_
        rintro e WX ⟨rfl, hb3, hl3, hp3, ht3⟩
        have HX : Hid (Blk WX b (rsc Y.f r sf Y.p true) 114) := by rw [HEY.out]; exact hb3
        have LX : Hid (RG S w WX lo (evk L0 (Y.c - y.c))) := by
          rw [HEY.out]
          show RG S w WX lo (evk L0 (x.c + 1 - y.c))
          rw [show x.c + 1 - y.c = (x.c - y.c) + 1 from by have := HCB.out; omega]; exact hl3
        have PX := hid hp3
        have OX := hid (kz_own ht3 O2.out)
        clear hb3 hl3 hp3 ht3 B2 L2 K2 O2
        go_wp2_with fail
        have HX2 := HX.out.cell 202 _ (rsc_p _ _ _ _ _)
        have HX3 := HX.out.cell Y.p _ (rsc_at _ _ _ _ _ Y.p (by have := HYP.out; omega))
        have i9 : Y.p < 200 := by have := HYP.out; omega
        obtain ⟨bx, hbx⟩ : ∃ x, Y.f Y.p = x := ⟨_, rfl⟩
        rw [hbx] at HX3
        have HBX := hid hbx
        clear hbx
        have N1 : Hid (∀ q, u8.ownBlock = some q → w.heap.size ≤ q) := own_row OX.out
        have q3 : Hid (∀ u ∈ [Value.int .u8 bx], u.oneCell' = true) := fun u hu => by simp at hu; subst hu; rfl
        have q5 : Hid (k + 1 ≤ maxLen) := by show k + 1 ≤ maxLen; simp only [maxLen]; omega
        have q6 : Hid ((k + 1) * 1 ≤ 140737488355328) := by show (k + 1) * 1 ≤ 140737488355328; omega
        have q7 : Hid (w.heap.size ≤ (WX.alloc (.cells #[Value.int .u8 bx] 5)).heap.size) := by show w.heap.size ≤ (WX.alloc (.cells #[Value.int .u8 bx] 5)).heap.size; rw [size_alloc]; have := PX.out.size; omega
        have BA := hid ((HX.out.alloc (.cells #[Value.int .u8 bx] 5)).drewN 1)
        have GW := hid (below_drew' (below_alloc WX (.cells #[Value.int .u8 bx] 5)) 1).block
        have i10 : (Y.p : Int) < 200 := by omega
        have i11 : (0 : Int) ≤ (Y.p : Int) := by omega
        go_region_held3 (fun W => W.cell? ⟨b, 202, none⟩ = some (.int .i64 (Y.p : Int)) ∧ W.cell? ⟨b, Y.p, none⟩ = some (.int .u8 bx)) (go_keep) (first | (refine step_append_lies _ rfl (.tmp 43) (.tmp 53) 22 rfl w.heap.size 5 i0 (.int .u8 0) 1 1 Tryz.underlying22 hi hz0 hz1 hz2 rfl (by decide) u8 k (bl k (Z.say r y)) rfl (World.ownsRow.alloc OX.out.2 (.cells #[.int .u8 bx] 5)) ⟨WX.heap.size, 0, none⟩ 1 1 [.int .u8 bx] rfl rfl (cell_one_new _ _ _) q3.out (by decide) q5.out q6.out q7.out _ rfl ?_; intro gq cq w1 hown hgrow hat hltq; have KB := hid (rkept_grow BA.out OX.out hgrow GW.out); have kc1 := KB.out.cell 202 _ (rsc_p _ _ _ _ _); have kc2 : w1.cell? ⟨b, Y.p, none⟩ = some (.int .u8 bx) := (by rw [← HBX.out]; exact KB.out.cell Y.p _ (rsc_at _ _ _ _ _ Y.p (by have := HYP.out; omega))); have HW := hid hown; have HGr := hid hgrow; clear hown hgrow hat hltq))
        have R1 : Hid (By.Own w1 w.heap.size (.slice (some ⟨gq, 0, none⟩) (k + 1) cq) (k + 1) (Z.say r y)) := by
          refine ⟨say_b HOK.out (by omega), ?_⟩
          have hw := HW.out
          have e : bl (k + 1) (Z.say r y) = bl k (Z.say r y) ++ [.int .u8 bx] := by
            rw [bl_singleton, bl_append]
            refine bl_congr _ _ _ (fun i hi => ?_)
            by_cases h9 : i < k
            · rw [if_pos h9]
            · rw [if_neg h9, ← HBX.out]
              obtain rfl : i = k := by omega
              unfold Z.say
              rw [HY.out]
          rw [e]
          exact hw
        have R2 : Hid (Kp S w w1) := (PX.out.trans (Kp.of_below S (below_drew' (below_alloc WX (.cells #[Value.int .u8 bx] 5)) 1)) (fun _ _ e => e)).trans (Kp.of_grown HGr.out) (fun i hi e => by have := N1.out i e; omega)
        have R3 : Hid (RG S w w1 lo (evk L0 (Y.c - y.c))) := (LX.out.below (below_drew' (below_alloc WX (.cells #[Value.int .u8 bx] 5)) 1)).kept (Kp.of_grown HGr.out) (fun g e => by
          obtain ⟨c, hc⟩ := own8t OX.out e
          exact ⟨c.toList, 5, (by show ((WX.alloc (.cells #[Value.int .u8 bx] 5)).drewN 1).heap[g]? = _; rw [GW.out g (Array.getElem?_eq_some_iff.1 hc).1, hc]), by decide, by decide⟩)
        have fp := KB.out.frozen 202
        have hw : IntKind.i64.wrap ((Y.p : Int) + 1) = (Y.p : Int) + 1 := by rw [IntKind.wrap_i64]; omega
        clear HW HGr kc2 OX LX PX HX HX2 HX3 BA N1 GW q7
        go_wp2_with fail
        have b9 := KB.out.set 202 (.int .i64 ((Y.p : Int) + 1))
        rw [rsc_setp] at b9
        have e9 : Z.out r y (k + 1) = ⟨Y.f, Y.p + 1, Y.c⟩ := by show (⟨(Z.rdy r (Z.out r y k)).f, (Z.rdy r (Z.out r y k)).p + 1, (Z.rdy r (Z.out r y k)).c⟩ : Z) = _; rw [HY.out]
        refine ⟨⟨k + 1, by omega, by go_num, ⟨by rw [e9]; exact b9, HOK.out.out (by omega) (k + 1), hr8, h192, HSF.out⟩, ?_, ?_, R2.out.trans (Kp.setCell b 202 _) (fun i _ e => by have : i = b := e; rw [this]; exact HS.out)⟩, by simp [intOf]; omega⟩
        · exact rown_set R1.out KB.out
        · rw [e9]; exact R3.out.kept (Kp.setCell b 202 _) (fun g e => by subst e; exact ⟨_, _, KB.out, by decide, by decide⟩)
      · have he : ¬ (x.p : Int) = (r : Int) := by omega
        have eY : Y = x := by rw [← hY]; unfold Z.rdy; rw [if_neg hfull]
        have HEY := hid eY
        clear hx hY eY
        go_wp2_with fail
        go_region
        have HX : Hid (Blk wr.drew b (rsc Y.f r sf Y.p true) 114) := by rw [HEY.out]; exact HS1.out.here.drewN 1
        have LX : Hid (RG S w wr.drew lo (evk L0 (Y.c - y.c))) := by rw [HEY.out]; exact HLG.out.below (below_drewN wr 1)
        have PX : Hid (Kp S w wr.drew) := HKP.out.trans (Kp.of_below S (below_drewN wr 1)) (fun _ _ e => e)
        have OX : Hid (By.Own wr.drew w.heap.size u8 k (Z.say r y)) := own_below HO1.out (below_drewN wr 1)
        obtain ⟨WX, hWX⟩ : ∃ x, wr.drew = x := ⟨_, rfl⟩
        rw [hWX] at HX LX PX OX
        rw [hWX]
        clear hWX c0 cp HO1 HLG HKP
        go_wp2_with fail
        have HX2 := HX.out.cell 202 _ (rsc_p _ _ _ _ _)
        have HX3 := HX.out.cell Y.p _ (rsc_at _ _ _ _ _ Y.p (by have := HYP.out; omega))
        have i9 : Y.p < 200 := by have := HYP.out; omega
        obtain ⟨bx, hbx⟩ : ∃ x, Y.f Y.p = x := ⟨_, rfl⟩
        rw [hbx] at HX3
        have HBX := hid hbx
        clear hbx
        have N1 : Hid (∀ q, u8.ownBlock = some q → w.heap.size ≤ q) := own_row OX.out
        have q3 : Hid (∀ u ∈ [Value.int .u8 bx], u.oneCell' = true) := fun u hu => by simp at hu; subst hu; rfl
        have q5 : Hid (k + 1 ≤ maxLen) := by show k + 1 ≤ maxLen; simp only [maxLen]; omega
        have q6 : Hid ((k + 1) * 1 ≤ 140737488355328) := by show (k + 1) * 1 ≤ 140737488355328; omega
        have q7 : Hid (w.heap.size ≤ (WX.alloc (.cells #[Value.int .u8 bx] 5)).heap.size) := by show w.heap.size ≤ (WX.alloc (.cells #[Value.int .u8 bx] 5)).heap.size; rw [size_alloc]; have := PX.out.size; omega
        have BA := hid ((HX.out.alloc (.cells #[Value.int .u8 bx] 5)).drewN 1)
        have GW := hid (below_drew' (below_alloc WX (.cells #[Value.int .u8 bx] 5)) 1).block
        have i10 : (Y.p : Int) < 200 := by omega
        have i11 : (0 : Int) ≤ (Y.p : Int) := by omega
        go_region_held3 (fun W => W.cell? ⟨b, 202, none⟩ = some (.int .i64 (Y.p : Int)) ∧ W.cell? ⟨b, Y.p, none⟩ = some (.int .u8 bx)) (go_keep) (first | (refine step_append_lies _ rfl (.tmp 43) (.tmp 53) 22 rfl w.heap.size 5 i0 (.int .u8 0) 1 1 Tryz.underlying22 hi hz0 hz1 hz2 rfl (by decide) u8 k (bl k (Z.say r y)) rfl (World.ownsRow.alloc OX.out.2 (.cells #[.int .u8 bx] 5)) ⟨WX.heap.size, 0, none⟩ 1 1 [.int .u8 bx] rfl rfl (cell_one_new _ _ _) q3.out (by decide) q5.out q6.out q7.out _ rfl ?_; intro gq cq w1 hown hgrow hat hltq; have KB := hid (rkept_grow BA.out OX.out hgrow GW.out); have kc1 := KB.out.cell 202 _ (rsc_p _ _ _ _ _); have kc2 : w1.cell? ⟨b, Y.p, none⟩ = some (.int .u8 bx) := (by rw [← HBX.out]; exact KB.out.cell Y.p _ (rsc_at _ _ _ _ _ Y.p (by have := HYP.out; omega))); have HW := hid hown; have HGr := hid hgrow; clear hown hgrow hat hltq))
        have R1 : Hid (By.Own w1 w.heap.size (.slice (some ⟨gq, 0, none⟩) (k + 1) cq) (k + 1) (Z.say r y)) := by
          refine ⟨say_b HOK.out (by omega), ?_⟩
          have hw := HW.out
          have e : bl (k + 1) (Z.say r y) = bl k (Z.say r y) ++ [.int .u8 bx] := by
            rw [bl_singleton, bl_append]
            refine bl_congr _ _ _ (fun i hi => ?_)
            by_cases h9 : i < k
            · rw [if_pos h9]
            · rw [if_neg h9, ← HBX.out]
              obtain rfl : i = k := by omega
              unfold Z.say
              rw [HY.out]
          rw [e]
          exact hw
        have R2 : Hid (Kp S w w1) := (PX.out.trans (Kp.of_below S (below_drew' (below_alloc WX (.cells #[Value.int .u8 bx] 5)) 1)) (fun _ _ e => e)).trans (Kp.of_grown HGr.out) (fun i hi e => by have := N1.out i e; omega)
        have R3 : Hid (RG S w w1 lo (evk L0 (Y.c - y.c))) := (LX.out.below (below_drew' (below_alloc WX (.cells #[Value.int .u8 bx] 5)) 1)).kept (Kp.of_grown HGr.out) (fun g e => by
          obtain ⟨c, hc⟩ := own8t OX.out e
          exact ⟨c.toList, 5, (by show ((WX.alloc (.cells #[Value.int .u8 bx] 5)).drewN 1).heap[g]? = _; rw [GW.out g (Array.getElem?_eq_some_iff.1 hc).1, hc]), by decide, by decide⟩)
        have fp := KB.out.frozen 202
        have hw : IntKind.i64.wrap ((Y.p : Int) + 1) = (Y.p : Int) + 1 := by rw [IntKind.wrap_i64]; omega
        clear HW HGr kc2 OX LX PX HX HX2 HX3 BA N1 GW q7
        go_wp2_with fail
        have b9 := KB.out.set 202 (.int .i64 ((Y.p : Int) + 1))
        rw [rsc_setp] at b9
        have e9 : Z.out r y (k + 1) = ⟨Y.f, Y.p + 1, Y.c⟩ := by show (⟨(Z.rdy r (Z.out r y k)).f, (Z.rdy r (Z.out r y k)).p + 1, (Z.rdy r (Z.out r y k)).c⟩ : Z) = _; rw [HY.out]
        refine ⟨⟨k + 1, by omega, by go_num, ⟨by rw [e9]; exact b9, HOK.out.out (by omega) (k + 1), hr8, h192, HSF.out⟩, ?_, ?_, R2.out.trans (Kp.setCell b 202 _) (fun i _ e => by have : i = b := e; rw [this]; exact HS.out)⟩, by simp [intOf]; omega⟩
        · exact rown_set R1.out KB.out
        · rw [e9]; exact R3.out.kept (Kp.setCell b 202 _) (fun g e => by subst e; exact ⟨_, _, KB.out, by decide, by decide⟩)
    · have ek : k = n := by omega
      subst ek
      go_wp2
      go_ret2
      exact ⟨_, rfl, HS1.out, HO1.out, HLG.out, HKP.out⟩

end Go.Proofs.YtnhhkoekghjogaaGreatDoor.Kc
