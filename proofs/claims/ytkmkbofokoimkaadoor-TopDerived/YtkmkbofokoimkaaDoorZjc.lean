/- The program's take and goOn, walked. What a state of the program answers: Write, Sum, Clone, Reset, Wipe; and the function Sum. -/
import Derived.Test.YtkmkbofokoimkaaDoorZjb
import Derived.Deep.Cut
namespace Go.Proofs.YtkmkbofokoimkaaDoor.Sg
open Go.ChangeShapes Go.WideShapes Go.ChangeAt Go.RowKit
open Go.Proofs.YtkmkbofokoimkaaDoor.By Go.Proofs.YtkmkbofokoimkaaDoor.Wd

set_option maxRecDepth 4000 in
set_option maxHeartbeats 2000000 in
theorem take61 (b : Nat) (h : Nat → Int) (x : Int) (q f : Nat → Int) (lo : Option Nat) (L : List Rn) (S : Nat → Prop) (w0 w : World) (hb : Blk w b (sc h x q) 97) (hh : ∀ i, W64 (h i)) (hf : ∀ i, 0 ≤ f i ∧ f i < 256) (hk : KT w) (hSb : S b)
    (hl : LG S w0 w lo L) (h0 : Kp S w0 w) (hr : Room L) :
    Calls Tryd.prog 50 #[.pointer (some ⟨b, 0, none⟩), lpv lo, .agg (bl 128 f).toArray] w fun e w' => e = .returned (.tuple #[]) ∧ Blk w' b (sc (comp h f) x q) 97 ∧ LG S w0 w' lo (putL L ⟨2, 128, 1⟩) ∧ Kp S w0 w' := by
  have B := hid hb
  have HH := hid hh
  have HF := hid hf
  have HK := hid hk
  have HS := hid hSb
  have HL := hid hl
  have H0 := hid h0
  have HR := hid hr
  clear hb hh hf hk hSb hl h0 hr
  go_enter Tryd.func50, Tryd.ntmps50
  go_wp2_with fail
  obtain ⟨W, hW⟩ : ∃ x, w.alloc (.cells (bl 128 f).toArray 95) = x := ⟨_, rfl⟩
  have a1 : Blk W b (sc h x q) 97 := by rw [← hW]; exact B.out.alloc _
  have a2 : Blk W w.heap.size (bl 128 f) 95 := by rw [← hW]; exact Blk.new w _ _
  have a3 : KT W := by rw [← hW]; exact HK.out.below (below_alloc _ _)
  have a4 : LG S w0 W lo L := by rw [← hW]; exact HL.out.below (below_alloc _ _)
  have a5 : Kp S w0 W := by rw [← hW]; exact H0.out.trans (Kp.of_below S (below_alloc _ _)) (fun _ _ e => e)
  rw [hW]
  have x1 := LDh_run (w := W.drew) ((a1.drewN 1).range 1 _ (fun j v hj => sc_h _ _ _ j v hj)) (wl_length _ _)
  have x2 := LDb_run (w := W.drew) ((a2.drewN 1).range 0 _ (fun j v hj => by rw [Nat.zero_add]; exact hj)) (bl_length _ _)
  have B1 := hid a1
  have K1 := hid a3
  have L1 := hid a4
  have H1 := hid a5
  clear hW a1 a2 a3 a4 a5 B HK HL H0
  go_region_with (first | (go_at_call 59; go_must (refine (compress64 _ _ HH.out HF.out _ (K1.out.drewN 1)).mono ?_; rintro e w3 ⟨rfl, hb3⟩; have B3 := hid ((B1.out.drewN 1).below hb3); have H3 := hid hb3; have y3 := SVh_run (cs := wl 8 (comp h f)) (B3.out.there 1 8 (by rw [sc_length]; omega)) (wl_length _ _) (wl_one _ _); clear hb3)))
  all_goals obtain ⟨W3, hW3⟩ : ∃ x, w3.setCells b 1 (wl 8 (comp h f)) = x := ⟨_, rfl⟩
  all_goals have hB4 : Blk W3 b (sc (comp h f) x q) 97 := by rw [← hW3, ← sc_puth h]; exact B3.out.put 1 _
  all_goals have hK4 : Kp S w0 W3 := by rw [← hW3]; exact (H1.out.trans (Kp.of_below S (below_next (below_drewN W 1) H3.out)) (fun _ _ e => e)).trans (Kp.setCells b _ _) (fun i _ e => by have : i = b := e; rw [this]; exact HS.out)
  all_goals have hL4 : LG S w0 W3 lo L := by rw [← hW3]; exact (L1.out.below (below_next (below_drewN W 1) H3.out)).state B3.out (Kp.setCells b _ _)
  all_goals rw [hW3]
  all_goals have B4 := hid hB4
  all_goals have K4 := hid hK4
  all_goals have L4 := hid hL4
  all_goals clear hW3 hB4 hK4 hL4 x1 x2 y3
  all_goals go_wp2_with fail
  all_goals refine (note_lg S w0 W3 lo L 2 128 (by decide) (by decide) L4.out K4.out HR.out).mono ?_
  all_goals rintro e W6 ⟨rfl, hl6, hk6, ht6⟩
  all_goals have B6 := hid (ht6.blk B4.out)
  all_goals have K6 := hid hk6
  all_goals have L6 := hid hl6
  all_goals clear hl6 hk6 ht6
  all_goals go_wp2
  all_goals go_end0
  all_goals exact ⟨rfl, B6.out, L6.out, K6.out⟩

theorem st_len {w : World} {b m : Nat} {f g : Nat → Int} (h : Blk w b (stc m f) 97) (hg : ∀ i, i < m → f i = g i) : Blk w b (sc (hw g (m / 128)) m (wt m g)) 97 := by
  rw [stc_congr m f g hg] at h; exact h
theorem sub_whole (pb p : Nat) (n cap : Nat) (w : World) (hn : 128 ≤ n) (hc : n ≤ cap) : (Instr.sliceAt 22 (.slice (some ⟨pb, p, none⟩) n cap) none (some (.int .i64 128)) none).run Tryd.prog w = .ok (.slice (some ⟨pb, p, none⟩) 128 cap) w := by
  have h1 : (128 : Int) ≤ cap := by omega
  simp [Instr.sliceAt, Instr.slice, go_sem, h1]
theorem copy_run0 (W : World) (b k C pb po : Nat) (ty : TypeId) (cells : List Value) (g : Nat → Int) (hb : Blk W b cells 97) (hl : cells.length = 138) (hk : k < 128) (hs : ∀ i, i < k → W.cell? ⟨pb, po + i, none⟩ = some (.int .u8 (g i))) :
    (Builtin.copy_ #[22, 22] ty #[.slice (some ⟨b, 10, none⟩) 128 128, .slice (some ⟨pb, po, none⟩) k C]).run Tryd.prog W = .ok (.int .i64 k) (W.setCells b 10 (bl k g)) :=
  copy_run W b 0 k k C pb po ty cells g hb hl (by omega) (Nat.min_eq_left (by omega)).symm hs
set_option maxRecDepth 4000 in
set_option maxHeartbeats 2000000 in
theorem goOn_some (b m n pb po cap : Nat) (f g : Nat → Int) (lo : Option Nat) (L : List Rn) (S : Nat → Prop) (w : World) (hst : St w b m f) (hk : KT w) (hS0 : ¬ S 1) (hSb : S b) (hl : LG S w w lo L) (hg : ∀ i, 0 ≤ g i ∧ g i < 256) (hp : Pos L)
    (hr : ∀ w', Kp S w w' → ∀ i, i < n → w'.cell? ⟨pb, po + i, none⟩ = some (.int .u8 (g i))) (hn : 0 < n) (hc : n ≤ cap) (hcap : cap ≤ maxLen) (hmn : m + n ≤ 281474976710656) (hroom : Big L) :
    Calls Tryd.prog 42 #[.pointer (some ⟨b, 0, none⟩), lpv lo, .slice (some ⟨pb, po, none⟩) n cap] w fun e w' => e = .returned (.tuple #[]) ∧ St w' b (m + n) (cat m f g) ∧ LG S w w' lo (evs512 L ((m + n) / 128 - m / 128)) ∧ Kp S w w' := by
  have hF := cat_bound (n := m) hst.byte hg
  have B0 := hid (st_len hst.here (g := cat m f g) (fun i hi => by unfold cat; rw [if_pos hi]))
  have HF := hid hF
  have HK := hid hk
  have HS0 := hid hS0
  have HSb := hid hSb
  have HL := hid hl
  have HG := hid hg
  have HP := hid hp
  have HR := hid hr
  have HC := hid hcap
  have HM := hid hroom
  clear hst hk hS0 hSb hl hg hp hr hcap hroom hF
  obtain ⟨F, hF⟩ : ∃ F, cat m f g = F := ⟨_, rfl⟩
  have HFe := hid hF
  rw [hF] at B0 HF
  rw [hF]
  clear hF
  have c9 := B0.out.cell 9 _ (sc_9 _ _ _)
  have f9 := B0.out.frozen 9
  obtain ⟨o, ho⟩ : ∃ o, m % 128 = o := ⟨_, rfl⟩
  have ho128 : o < 128 := by omega
  have hmod : ((m : Int) % 128) = (o : Int) := by omega
  obtain ⟨k, hkk⟩ : ∃ k, Nat.min n (128 - o) = k := ⟨_, rfl⟩
  have hk1 : k ≤ n := by rw [← hkk]; exact Nat.min_le_left _ _
  have hk2 : k ≤ 128 - o := by rw [← hkk]; exact Nat.min_le_right _ _
  have hk3 : o + k < 128 → k = n := fun h => by
    rcases Nat.le_total n (128 - o) with h1 | h1
    · rw [← hkk]; exact Nat.min_eq_left h1
    · have : k = 128 - o := by rw [← hkk]; exact Nat.min_eq_right h1
      omega
  have hsl := sliceA b o ho128
  have B1 := hid (show Blk (w.setCell ⟨b, 9, none⟩ (.int .u64 ((m : Int) + n))) b (sc (hw F (m / 128)) ((m : Int) + n) (wt m F)) 97 from by rw [← sc_set9 _ (m : Int)]; exact B0.out.set 9 _)
  have K1 := hid (show Kp S w (w.setCell ⟨b, 9, none⟩ (.int .u64 ((m : Int) + n))) from (Kp.setCell b 9 _).mono (fun i _ e => by have : i = b := e; rw [this]; exact HSb.out))
  have L1 := hid (show LG S w (w.setCell ⟨b, 9, none⟩ (.int .u64 ((m : Int) + n))) lo L from HL.out.state B0.out (Kp.setCell b 9 _))
  have hcp := fun ty => copy_run (w.setCell ⟨b, 9, none⟩ (.int .u64 ((m : Int) + n))) b o k n cap pb po ty _ g B1.out (sc_length _ _ _) (by omega) hkk.symm (fun i hi => HR.out _ K1.out i (by omega))
  have HKK := hid hkk
  have HO := hid ho
  clear hkk ho
  go_enter Tryd.func42, Tryd.ntmps42
  by_cases hpart : o + k < 128
  · obtain rfl := hk3 hpart
    have hlt : (o : Int) + k < 128 := by omega
    go_wp2
    refine bodyPost_ret (results_none rfl _ _ _) rfl ?_
    have e := HFe.out
    refine ⟨rfl, ⟨?_, HF.out, by omega⟩, ?_, ?_⟩
    · rw [← e, ← stc_part m k o f g HO.out.symm hpart ((m : Int) + k) (by omega), e]
      exact e ▸ blk_mix (e.symm ▸ B1.out) (by omega)
    · rw [show (m + k) / 128 - m / 128 = 0 from by have := HO.out; omega]
      exact L1.out.state B1.out (Kp.setCells b _ _)
    · exact K1.out.trans (Kp.setCells b _ _) (fun i _ e => by have : i = b := e; rw [this]; exact HSb.out)
  · have hlt : ¬ (o : Int) + k < 128 := by omega
    have hfull : o + k = 128 := by omega
    obtain ⟨W2, hW2⟩ : ∃ x, (w.setCell ⟨b, 9, none⟩ (.int .u64 ((m : Int) + n))).setCells b (10 + o) (bl k g) = x := ⟨_, rfl⟩
    have a1 : Blk W2 b (sc (hw F (m / 128)) ((m : Int) + n) (mix m o k F g)) 97 := by
      have e := HFe.out
      rw [← hW2]; exact e ▸ blk_mix (e.symm ▸ B1.out) (by omega)
    have a2 : LG S w W2 lo L := by rw [← hW2]; exact L1.out.state B1.out (Kp.setCells b _ _)
    have a3 : Kp S w W2 := by rw [← hW2]; exact K1.out.trans (Kp.setCells b _ _) (fun i _ e => by have : i = b := e; rw [this]; exact HSb.out)
    rw [hW2] at hcp
    have x2 := LDb_run (a1.range 10 _ (fun j v hj => sc_b _ _ _ j v hj)) (bl_length _ _)
    have B2 := hid a1
    have L2 := hid a2
    have K2 := hid a3
    have KT2 := hid (HK.out.kept a3 HS0.out)
    have hkn : (k : Int) ≤ (n : Int) := by omega
    clear a1 a2 a3 hW2 B0 B1 K1 L1
    go_wp2_with fail
    refine (take61 b _ _ _ _ lo L S w W2 B2.out (hw_w _ _) (mix_bound _ _ _ _ _ HF.out HG.out) KT2.out HSb.out L2.out K2.out HM.out.room).mono ?_
    rintro e W3 ⟨rfl, hb3, hl3, hk3'⟩
    have B3 := hid (show Blk W3 b (sc (hw F ((m + k) / 128)) ((m : Int) + n) (mix m o k F g)) 97 from by
      have e := HFe.out
      have h := hw_full m k o f g HO.out.symm hfull
      rw [e] at h
      rw [← h]; exact hb3)
    have L3 := hid (show LG S w W3 lo (evs512 L ((m + k) / 128 - m / 128)) from by
      rw [show (m + k) / 128 - m / 128 = 1 from by have := HO.out; omega]; exact hl3)
    have K3 := hid hk3'
    obtain ⟨q, hq⟩ : ∃ q, mix m o k F g = q := ⟨_, rfl⟩
    rw [hq] at B3
    clear hb3 hl3 hk3' hcp x2 B2 L2 K2 KT2 hq c9 f9
    obtain ⟨A0, eA0, hA0⟩ := sub_next pb po n cap k hc
    go_wp2_with fail
    go_loopw [2] (fun p wr => ∃ j A, k ≤ j ∧ j ≤ n ∧ (m + j) % 128 = 0 ∧ p = .slice A (n - j) (cap - j) ∧ (j < n → A = some ⟨pb, po + j, none⟩) ∧ Blk wr b (sc (hw F ((m + j) / 128)) ((m : Int) + n) q) 97 ∧ LG S w wr lo (evs512 L ((m + j) / 128 - m / 128)) ∧ Kp S w wr) (fun p _ => slLen p)
    case atStart => exact ⟨k, A0, by omega, by omega, by have := HO.out; omega, rfl, hA0, B3.out, L3.out, K3.out⟩
    case round =>
      clear B3 L3 K3 eA0 hA0
      obtain ⟨j, A, hj0, hj, hmj, rfl, hA, hb, hl, hk'⟩ := hrel
      have B := hid hb
      have LL := hid hl
      have KK := hid hk'
      have MJ := hid hmj
      clear hb hl hk' hmj
      by_cases hlt2 : 128 ≤ n - j
      · obtain rfl := hA (by omega)
        clear hA
        have hsw := fun w => sub_whole pb (po + j) (n - j) (cap - j) w hlt2 (by omega)
        have har := fun w => run_arrayAt (P := Tryd.prog) (w := w) 95 5 128 (some ⟨pb, po + j, none⟩) 128 (cap - j) Tryd.underlying95 (Nat.le_refl _)
        have x2 := LDb_run (w := wr) (g := pb) (o := po + j) (cs := bl 128 (fun i => g (j + i))) (fun i v hi => by obtain ⟨hi1, rfl⟩ := bl_get_inv _ _ _ _ hi; rw [Nat.add_assoc]; exact HR.out wr KK.out (j + i) (by omega)) (bl_length _ _)
        have h128 : (128 : Int) ≤ ((n - j : Nat) : Int) := by omega
        go_wp2_with fail
        refine (take61 b _ _ _ _ lo _ S w wr B.out (hw_w _ _) (fun i => HG.out (j + i)) (HK.out.kept KK.out HS0.out) HSb.out LL.out KK.out (evs512_room HP.out HM.out _ (by omega))).mono ?_
        rintro e W4 ⟨rfl, hb4, hl4, hk4⟩
        have B4 := hid (show Blk W4 b (sc (hw F ((m + (j + 128)) / 128)) ((m : Int) + n) q) 97 from by
          have e := HFe.out
          have h := hw_next m j f g MJ.out
          rw [e] at h
          rw [← h]; exact hb4)
        have L4 := hid (show LG S w W4 lo (evs512 L ((m + (j + 128)) / 128 - m / 128)) from by
          rw [show (m + (j + 128)) / 128 - m / 128 = ((m + j) / 128 - m / 128) + 1 from by have := MJ.out; omega]; exact hl4)
        have K4 := hid hk4
        obtain ⟨A4, eA4, hA4⟩ := sub_next pb (po + j) (n - j) (cap - j) 128 (by omega)
        have eA5 : sub (some ⟨pb, po + j, none⟩) (cap - j) 128 ((n - j : Nat) : Int) = .slice A4 (n - j - 128) (cap - j - 128) := eA4
        clear hb4 hl4 hk4 B LL KK x2 hsw har eA4
        go_wp2
        refine ⟨⟨j + 128, A4, by omega, by omega, by have := MJ.out; omega, by rw [Nat.sub_sub, Nat.sub_sub], fun h => by rw [hA4 (by omega), Nat.add_assoc], B4.out, L4.out, K4.out⟩, by simp [slLen]; omega⟩
      · have h128 : ¬ (128 : Int) ≤ ((n - j : Nat) : Int) := by omega
        have z3 := SVb_run (cs := bl 128 (fun _ => 0)) (B.out.there 10 128 (by rw [sc_length]; omega)) (bl_length _ _) (bl_one _ _)
        rw [← wz8] at z3
        have b5 := B.out.put 10 (bl 128 (fun _ => 0))
        rw [sc_zero] at b5
        obtain ⟨W5, hW5⟩ : ∃ x, wr.setCells b 10 (bl 128 (fun _ => 0)) = x := ⟨_, rfl⟩
        have hK5 : Kp S w W5 := by rw [← hW5]; exact KK.out.trans (Kp.setCells b _ _) (fun i _ e => by have : i = b := e; rw [this]; exact HSb.out)
        have hL5 : LG S w W5 lo (evs512 L ((m + j) / 128 - m / 128)) := by rw [← hW5]; exact LL.out.state B.out (Kp.setCells b _ _)
        rw [hW5] at z3 b5
        have B5 := hid b5
        have K5 := hid hK5
        have L5 := hid hL5
        have EL : Hid ((m + j) / 128 - m / 128 = (m + n) / 128 - m / 128) := by show (m + j) / 128 - m / 128 = (m + n) / 128 - m / 128; have := MJ.out; omega
        clear hW5 hK5 hL5 b5 B LL KK
        by_cases hj2 : j < n
        · obtain rfl := hA hj2
          clear hA
          have hcp := fun ty => copy_run0 W5 b (n - j) (cap - j) pb (po + j) ty _ (fun i => g (j + i)) B5.out (sc_length _ _ _) (by omega) (fun i hi => by rw [Nat.add_assoc]; exact HR.out W5 K5.out (j + i) (by omega))
          go_wp2
          go_end0
          have e := HFe.out
          refine ⟨rfl, ⟨?_, HF.out, by omega⟩, ?_, ?_⟩
          · have b6 := B5.out.put (10 + 0) (bl (n - j) (fun i => g (j + i)))
            rw [sc_putb _ _ _ 0 (n - j) _ (by omega)] at b6
            have h := stc_end m n j (n - j) f g MJ.out (by omega) (by omega) ((m : Int) + n) (by omega)
            rw [e] at h
            rw [← h]
            exact b6
          · rw [← EL.out]
            exact L5.out.state B5.out (Kp.setCells b _ _)
          · exact K5.out.trans (Kp.setCells b _ _) (fun i _ e => by have : i = b := e; rw [this]; exact HSb.out)
        · have ej : j = n := by omega
          subst ej
          clear hA
          have e0 : j - j = 0 := by omega
          have hcp := fun ty => copy_no W5 (some ⟨b, 10, none⟩) A 128 128 (cap - j) ty
          rw [e0]
          go_wp2
          go_end0
          have e := HFe.out
          refine ⟨rfl, ⟨?_, HF.out, by omega⟩, ?_, K5.out⟩
          · have h := stc_end m j j 0 f g MJ.out (by omega) (by omega) ((m : Int) + j) (by omega)
            rw [e] at h
            rw [← h]
            have h2 : (fun i => if 0 ≤ i ∧ i < 0 + 0 then g (j + (i - 0)) else 0) = fun _ : Nat => (0 : Int) := by funext i; rw [if_neg (by omega)]
            rw [h2]
            exact B5.out
          · exact L5.out
set_option maxRecDepth 4000 in
theorem goOn_none (b m : Nat) (a : Option Addr) (cap : Nat) (f g : Nat → Int) (lo : Option Nat) (L : List Rn) (S : Nat → Prop) (w : World) (hst : St w b m f) (hSb : S b) (hl : LG S w w lo L) (hg : ∀ i, 0 ≤ g i ∧ g i < 256) :
    Calls Tryd.prog 42 #[.pointer (some ⟨b, 0, none⟩), lpv lo, .slice a 0 cap] w fun e w' => e = .returned (.tuple #[]) ∧ St w' b (m + 0) (cat m f g) ∧ LG S w w' lo (evs512 L ((m + 0) / 128 - m / 128)) ∧ Kp S w w' := by
  have S1 := hid (hst.congr (cat_bound (n := m) hst.byte hg) (fun i hi => by unfold cat; rw [if_pos hi]))
  have HL := hid hl
  have HS := hid hSb
  have c9 := hst.c9
  have f9 := hst.here.frozen 9
  have hm := hst.few
  obtain ⟨o, ho⟩ : ∃ o, m % 128 = o := ⟨_, rfl⟩
  have ho128 : o < 128 := by omega
  have hmod : ((m : Int) % 128) = (o : Int) := by omega
  have hlt : (o : Int) < 128 := by omega
  have hsl := sliceA b o ho128
  have hcp := fun W ty => copy_no W (some ⟨b, 10 + o, none⟩) a (128 - o) (128 - o) cap ty
  clear hst hSb hl hg ho
  go_enter Tryd.func42, Tryd.ntmps42
  go_wp2
  refine bodyPost_ret (results_none rfl _ _ _) rfl ?_
  rw [show (m + 0) / 128 - m / 128 = 0 from by omega]
  refine ⟨rfl, ⟨?_, S1.out.byte, S1.out.few⟩, HL.out.state S1.out.here (Kp.setCell b 9 _), (Kp.setCell b 9 _).mono (fun i _ e => by have : i = b := e; rw [this]; exact HS.out)⟩
  have := S1.out.here.set 9 (.int .u64 (m : Int))
  unfold stc at this
  rw [sc_set9] at this
  exact this
end Go.Proofs.YtkmkbofokoimkaaDoor.Sg
namespace Go.Proofs.YtkmkbofokoimkaaDoor.Sg
open Go.ChangeShapes Go.WideShapes Go.ChangeAt Go.RowKit
open Go.Proofs.YtkmkbofokoimkaaDoor.By Go.Proofs.YtkmkbofokoimkaaDoor.Wd

theorem goOn50 (b m n : Nat) (v : Value) (f g : Nat → Int) (lo : Option Nat) (L : List Rn) (S : Nat → Prop) (w : World) (hst : St w b m f) (hk : KT w) (hS0 : ¬ S 1) (hSb : S b) (hl : LG S w w lo L) (hp : Pos L)
    (hr : ∀ w', Kp S w w' → By.RB w' v n g) (hmn : m + n ≤ 281474976710656) (hroom : Big L) :
    Calls Tryd.prog 42 #[.pointer (some ⟨b, 0, none⟩), lpv lo, v] w fun e w' => e = .returned (.tuple #[]) ∧ St w' b (m + n) (cat m f g) ∧ LG S w w' lo (evs512 L ((m + n) / 128 - m / 128)) ∧ Kp S w w' := by
  have h0 := hr w (Kp.refl _ _)
  have hg := h0.1
  obtain ⟨_, a, cap, rfl, h1, h2, hc⟩ := h0
  by_cases hn : 0 < n
  · rcases hc with ⟨e, _⟩ | ⟨pb, po, rfl, _⟩
    · omega
    · refine goOn_some b m n pb po cap f g lo L S w hst hk hS0 hSb hl hg hp (fun w' hw => ?_) hn h1 h2 hmn hroom
      obtain ⟨_, a', cap', he, _, _, hc⟩ := hr w' hw
      simp only [Value.slice.injEq] at he
      obtain ⟨rfl, _, rfl⟩ := he
      rcases hc with ⟨e, _⟩ | ⟨pb', po', e, hc⟩
      · omega
      · simp only [Option.some.injEq, Addr.mk.injEq] at e
        obtain ⟨rfl, rfl, _⟩ := e
        exact hc
  · have en : n = 0 := by omega
    subst en
    exact goOn_none b m a cap f g lo L S w hst hSb hl hg

theorem stc_length (m : Nat) (f : Nat → Int) : (stc m f).length = 138 := sc_length _ _ _
theorem stc_one (m : Nat) (f : Nat → Int) : ∀ u ∈ stc m f, u.oneCell' = true := sc_one _ _ _
/-- A state's cells where nobody made one. -/
def zc : List Value := .bool false :: (wl 8 (fun _ => 0) ++ .int .u64 0 :: bl 128 (fun _ => 0))
theorem zc_length : zc.length = 138 := by kernel_rfl
theorem zero75 : ∀ w, (zeroValue 97).run Tryd.prog w = .ok (.agg zc.toArray) w := (zero_of_info (t := 97) (v := .agg zc.toArray) (n := 138) (by kernel_rfl)).1
theorem zc_one : ∀ u ∈ zc, u.oneCell' = true := by
  intro u hu
  simp only [zc, List.mem_cons, List.mem_append] at hu
  rcases hu with rfl | hu | rfl | hu
  · rfl
  · exact wl_one _ _ u hu
  · rfl
  · exact bl_one _ _ u hu
theorem write26 (b m n : Nat) (v : Value) (f g : Nat → Int) (lo : Option Nat) (L : List Rn) (S : Nat → Prop) (w : World) (hst : St w b m f) (hk : KT w) (hS0 : ¬ S 1) (hSb : S b) (hl : LG S w w lo L) (hp : Pos L)
    (hr : ∀ w', Kp S w w' → By.RB w' v n g) (hmn : m + n ≤ 281474976710656) (hroom : Big L) :
    Calls Tryd.prog 101 #[.pointer (some ⟨b, 0, none⟩), lpv lo, v] w fun e w' => e = .returned (.int .i64 0) ∧ St w' b (m + n) (cat m f g) ∧ LG S w w' lo (evs512 L ((m + n) / 128 - m / 128)) ∧ Kp S w w' := by
  have h0 := hst.c0
  have HG := hid (goOn50 b m n v f g lo L S w hst hk hS0 hSb hl hp hr hmn hroom)
  clear hst hk hS0 hSb hl hp hr hmn hroom
  go_enter Tryd.func101, Tryd.ntmps101
  go_wp2_with (first | (go_at_call 51; refine (isNone_st _ _ true h0).mono ?_; rintro e w ⟨rfl, rfl⟩) | (go_at_call 42; refine HG.out.mono ?_; rintro e w1 ⟨rfl, h1, h2, h3⟩; have H1 := hid h1; have H2 := hid h2; have H3 := hid h3; clear h1 h2 h3))
  go_ret
  exact ⟨rfl, H1.out, H2.out, H3.out⟩
theorem write26n (b : Nat) (v lp : Value) (w : World) (h : NoSt w b) : Calls Tryd.prog 101 #[.pointer (some ⟨b, 0, none⟩), lp, v] w fun e w' => e = .returned (.int .i64 1) ∧ w' = w := by
  have h0 := h.c0
  clear h
  go_enter Tryd.func101, Tryd.ntmps101
  go_wp2_with (go_at_call 51; refine (isNone_st _ _ false h0).mono ?_; rintro e w' ⟨rfl, rfl⟩)
  go_ret
  exact ⟨rfl, rfl⟩
theorem write26z (v lp : Value) (w : World) : Calls Tryd.prog 101 #[.pointer none, lp, v] w fun e w' => e = .returned (.int .i64 1) ∧ w' = w := by
  go_enter Tryd.func101, Tryd.ntmps101
  go_wp2_with (go_at_call 51; refine (isNone_nil _).mono ?_; rintro e w' ⟨rfl, rfl⟩)
  go_ret
  exact ⟨rfl, rfl⟩
set_option maxRecDepth 4000 in
theorem clone28 (b m : Nat) (f : Nat → Int) (w : World) (h : St w b m f) :
    Calls Tryd.prog 103 #[.pointer (some ⟨b, 0, none⟩)] w fun e w' => e = .returned (.tuple #[.pointer (some ⟨w.heap.size, 0, none⟩), .int .i64 0]) ∧ St w' w.heap.size m f ∧ Below w.heap.size w w' := by
  have H := hid h
  have h0 := h.c0
  have x1 := LDs_run (h.here.range 0 (stc m f) (fun j v hj => by rw [Nat.zero_add]; exact hj)) (stc_length _ _)
  have hz := zero75
  have bn := Blk.new w zc 97
  have x2 := SVs_run (cs := stc m f) (bn.there 0 138 (by rw [zc_length]; omega)) (stc_length _ _) (stc_one _ _)
  have B := hid bn
  clear bn h
  go_enter Tryd.func103, Tryd.ntmps103
  go_wp2_with (go_at_call 51; refine (isNone_st _ _ true h0).mono ?_; rintro e w ⟨rfl, rfl⟩)
  go_ret2
  have b2 := B.out.put 0 (stc m f)
  rw [put_all _ _ (by rw [zc_length]; exact (stc_length _ _).symm)] at b2
  exact ⟨rfl, ⟨b2, H.out.byte, H.out.few⟩, below_cells (below_alloc _ _) _ _ _ (Nat.le_refl _) (by rw [size_alloc]; omega)⟩
theorem clone28n (b : Nat) (w : World) (h : NoSt w b) : Calls Tryd.prog 103 #[.pointer (some ⟨b, 0, none⟩)] w fun e w' => e = .returned (.tuple #[.pointer none, .int .i64 1]) ∧ w' = w := by
  have h0 := h.c0
  clear h
  go_enter Tryd.func103, Tryd.ntmps103
  go_wp2_with (go_at_call 51; refine (isNone_st _ _ false h0).mono ?_; rintro e w' ⟨rfl, rfl⟩)
  go_ret2
  exact ⟨rfl, rfl⟩
theorem clone28z (w : World) : Calls Tryd.prog 103 #[.pointer none] w fun e w' => e = .returned (.tuple #[.pointer none, .int .i64 1]) ∧ w' = w := by
  go_enter Tryd.func103, Tryd.ntmps103
  go_wp2_with (go_at_call 51; refine (isNone_nil _).mono ?_; rintro e w' ⟨rfl, rfl⟩)
  go_ret2
  exact ⟨rfl, rfl⟩
theorem LG.start {S S' : Nat → Prop} {w w1 : World} {lo : Option Nat} {L : List Rn} (h : LG S w w lo L) (hb : Below w.heap.size w w1) (hs : ∀ i, i < w.heap.size → S i → S' i) : LG S' w1 w1 lo L := by
  cases lo with
  | none => exact trivial
  | some lb =>
    obtain ⟨h1, rv, hl, ho⟩ := h
    exact ⟨hs _ hl.lt h1, rv, hl.below hb, fun g hg _ => hs _ (hl.own.lt g hg).2 (ho g hg (hl.own.lt g hg).2)⟩
theorem LG.back {S S' : Nat → Prop} {w w1 w' : World} {lo : Option Nat} {L L0 : List Rn} (h : LG S' w1 w' lo L) (h0 : LG S w w lo L0) (hz : w.heap.size ≤ w1.heap.size) (hs : ∀ i, i < w.heap.size → S' i → S i) : LG S w w' lo L := by
  cases lo with
  | none => exact trivial
  | some lb =>
    obtain ⟨_, rv, hl, ho⟩ := h
    exact ⟨h0.1, rv, hl, fun g hg hlt => hs g hlt (ho g hg (by omega))⟩
/-- The digest of a message of m bytes; how many blocks it takes besides those that are whole. -/
def dig (m : Nat) (f : Nat → Int) : Nat → Int := lf (hw (cat m f (endf m)) ((m + (1 + zs m + 16)) / 128))
def last (m : Nat) : Nat := (m + (1 + zs m + 16)) / 128 - m / 128
end Go.Proofs.YtkmkbofokoimkaaDoor.Sg
