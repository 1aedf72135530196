/- The program's goOn, walked. What a state of the program answers: Write, Sum, Clone, Reset, Wipe; and the function Sum. -/
import Derived.Test.YtkmkbofokoimkaaDoorZhb
namespace Go.Proofs.YtkmkbofokoimkaaDoor.Sh
open Go.ChangeShapes Go.WideShapes Go.ChangeAt Go.RowKit
open Go.Proofs.YtkmkbofokoimkaaDoor.By Go.Proofs.YtkmkbofokoimkaaDoor.Wd

set_option maxRecDepth 4000 in
set_option maxHeartbeats 4000000 in
theorem goOn_some (b m n pb po cap : Nat) (f g : Nat → Int) (lo : Option Nat) (L : List Rn) (S : Nat → Prop) (w : World) (hst : St w b m f) (hk : KT w) (hS0 : ¬ S 0) (hSb : S b) (hl : LG S w w lo L) (hg : ∀ i, 0 ≤ g i ∧ g i < 256) (hp : Pos L)
    (hr : ∀ w', Kp S w w' → ∀ i, i < n → w'.cell? ⟨pb, po + i, none⟩ = some (.int .u8 (g i))) (hn : 0 < n) (hc : n ≤ cap) (hcap : cap ≤ maxLen) (hmn : m + n ≤ 140737488354328) (hroom : tq L + (n / 64 : Nat) ≤ 5000000000000) :
    Calls Tryd.prog 39 #[.pointer (some ⟨b, 0, none⟩), lpv lo, .slice (some ⟨pb, po, none⟩) n cap] w fun e w' => e = .returned (.tuple #[]) ∧ St w' b (m + n) (cat m f g) ∧ LG S w w' lo (evs256 L ((m + n) / 64 - m / 64)) ∧ Kp S w w' := by
  have H0 := hid (hst.congr (cat_bound (n := m) hst.byte hg) (fun i hi => by unfold cat; rw [if_pos hi]))
  have HK := hid hk
  have HS0 := hid hS0
  have HSb := hid hSb
  have HL := hid hl
  have HG := hid hg
  have HP := hid hp
  have HR := hid hr
  have HC := hid hcap
  have HM := hid hroom
  clear hst hk hS0 hSb hl hg hp hr hcap hroom
  go_enter Tryd.func39, Tryd.ntmps39
  go_wp2_with fail
  go_loopw [2] (fun p wr => ∃ j A, j ≤ n ∧ p = .slice A (n - j) (cap - j) ∧ (j < n → A = some ⟨pb, po + j, none⟩) ∧ St wr b (m + j) (cat m f g) ∧ LG S w wr lo (evs256 L ((m + j) / 64 - m / 64)) ∧ Kp S w wr) (fun p _ => slLen p)
  case atStart =>
    refine ⟨0, _, by omega, rfl, fun _ => rfl, H0.out, ?_, Kp.refl _ _⟩
    rw [show (m + 0) / 64 - m / 64 = 0 from by omega]; exact HL.out
  case round =>
    obtain ⟨j, A, hj, rfl, hA, hst, hlg, hkp⟩ := hrel
    have HS := hid hst
    have HLG := hid hlg
    have HKP := hid hkp
    clear hst hlg hkp
    by_cases hlt : j < n
    · obtain rfl := hA hlt
      clear hA
      obtain ⟨M, hM⟩ : ∃ M, m + j = M := ⟨_, rfl⟩
      obtain ⟨o, ho⟩ : ∃ o, M % 64 = o := ⟨_, rfl⟩
      obtain ⟨k, hkk⟩ : ∃ k, Nat.min (n - j) (64 - o) = k := ⟨_, rfl⟩
      have ho64 : o < 64 := by omega
      have hk0 : 0 < k := by rw [← hkk]; exact Nat.lt_min.2 ⟨by omega, by omega⟩
      have hk1 : k ≤ n - j := by rw [← hkk]; exact Nat.min_le_left _ _
      have hk2 : k ≤ 64 - o := by rw [← hkk]; exact Nat.min_le_right _ _
      have c9 := HS.out.c9
      rw [hM] at c9
      have hcp := fun ty => copy_run wr.drew b o k (n - j) (cap - j) pb (po + j) ty _ (fun i => g (j + i)) (HS.out.here.drewN 1) (sc_length _ _ _) (by omega) hkk.symm (fun i hi => by rw [Nat.add_assoc]; exact HR.out wr.drew (HKP.out.trans (Kp.of_below S (below_drewN wr 1)) (fun _ _ e => e)) (j + i) (by omega))
      have hlen : 0 < n - j := by omega
      have hmod : ((M : Int) % 64) = (o : Int) := by omega
      have HM1 := hid hM
      have HO1 := hid ho
      have HKK := hid hkk
      clear hM ho hkk
      have s1 : (o : Int) ≤ 64 := by omega
      have s2 : ¬ 64 = o := by omega
      go_wp2_with fail
      go_region
      have HW := hid HS.out.byte
      obtain ⟨W1, hW1⟩ : ∃ x, wr.drew.setCells b (10 + o) (bl k fun i => g (j + i)) = x := ⟨_, rfl⟩
      have hB1 := blk_mix (W := wr.drew) (b := b) (m := m) (j := j) (o := o) (k := k) (f := f) (g := g) ⟨HS.out.here.drewN 1, HS.out.byte, HS.out.few⟩ (by omega)
      have hK1 : Kp S w W1 := by
        rw [← hW1]
        exact (HKP.out.trans (Kp.of_below S (below_drewN wr 1)) (fun _ _ e => e)).trans (Kp.setCells b _ _) (fun i _ e => by rw [e]; exact HSb.out)
      have hL1 : LG S w W1 lo (evs256 L ((m + j) / 64 - m / 64)) := by
        rw [← hW1]
        exact (HLG.out.below (below_drewN wr 1)).state (HS.out.here.drewN 1) (Kp.setCells b _ _)
      rw [hW1] at hB1
      rw [hW1]
      have B1 := hid hB1
      have K1 := hid hK1
      have L1 := hid hL1
      clear hW1 hB1 hK1 hL1 hcp c9
      have k9 := B1.out.cell 9 _ (sc_9 _ _ _)
      rw [HM1.out] at k9
      have f9 := B1.out.frozen 9
      have hk1' : (k : Int) ≤ ((n - j : Nat) : Int) := by omega
      have hMk : M + k ≤ 140737488354328 := by have := HM1.out; omega
      by_cases hfull : o + k = 64
      · have he : ((M : Int) + k) % 64 = 0 := by have := HO1.out; omega
        go_wp2_with fail
        obtain ⟨W2, hW2⟩ : ∃ x, W1.setCell ⟨b, 9, none⟩ (.int .u64 ((M : Int) + k)) = x := ⟨_, rfl⟩
        have hB2 : Blk W2 b (sc (hw (cat m f g) ((m + j) / 64)) ((M : Int) + k) (mix (m + j) o k j (cat m f g) g)) 89 := by
          rw [← hW2, ← sc_set9 _ ((m + j : Nat) : Int)]; exact B1.out.set 9 _
        have hK2 : Kp S w W2 := by rw [← hW2]; exact K1.out.trans (Kp.setCell b 9 _) (fun i _ e => by have : i = b := e; rw [this]; exact HSb.out)
        have hL2 : LG S w W2 lo (evs256 L ((m + j) / 64 - m / 64)) := by rw [← hW2]; exact L1.out.state B1.out (Kp.setCell b 9 _)
        rw [hW2]
        have B2 := hid hB2
        have K2 := hid hK2
        have L2 := hid hL2
        clear hW2 hB2 hK2 hL2 k9 f9
        have x1 := LDh_run (w := W2.drew) ((B2.out.drewN 1).range 1 _ (fun j v hj => sc_h _ _ _ j v hj)) (wl_length _ _)
        have x2 := LDb_run (w := W2.drew) ((B2.out.drewN 1).range 10 _ (fun j v hj => sc_b _ _ _ j v hj)) (bl_length _ _)
        have KT2 := hid (HK.out.kept K2.out HS0.out)
        go_region_with (first | (go_at_call 45; go_must (refine (compress64 _ _ (hw_w _ _) (mix_bound _ _ _ _ _ _ HW.out HG.out) _ (KT2.out.drewN 1)).mono ?_; rintro e w3 ⟨rfl, hb3⟩; have B3 := hid ((B2.out.drewN 1).below hb3); have H3 := hid hb3; have y3 := SVh_run (cs := wl 8 (comp (hw (cat m f g) ((m + j) / 64)) (mix (m + j) o k j (cat m f g) g))) (B3.out.there 1 8 (by rw [sc_length]; omega)) (wl_length _ _) (wl_one _ _); clear hb3)))
        all_goals obtain ⟨W3, hW3⟩ : ∃ x, w3.setCells b 1 (wl 8 (comp (hw (cat m f g) ((m + j) / 64)) (mix (m + j) o k j (cat m f g) g))) = x := ⟨_, rfl⟩
        all_goals have hB4 : Blk W3 b (sc (comp (hw (cat m f g) ((m + j) / 64)) (mix (m + j) o k j (cat m f g) g)) ((M : Int) + k) (mix (m + j) o k j (cat m f g) g)) 89 := by rw [← hW3, ← sc_puth (hw (cat m f g) ((m + j) / 64))]; exact B3.out.put 1 _
        all_goals have hK4 : Kp S w W3 := by rw [← hW3]; exact (K2.out.trans (Kp.of_below S (below_next (below_drewN W2 1) H3.out)) (fun _ _ e => e)).trans (Kp.setCells b _ _) (fun i _ e => by have : i = b := e; rw [this]; exact HSb.out)
        all_goals have hL4 : LG S w W3 lo (evs256 L ((m + j) / 64 - m / 64)) := by rw [← hW3]; exact (L2.out.below (below_next (below_drewN W2 1) H3.out)).state B3.out (Kp.setCells b _ _)
        all_goals rw [hW3]
        all_goals have B4 := hid hB4
        all_goals have K4 := hid hK4
        all_goals have L4 := hid hL4
        all_goals clear hW3 hB4 hK4 hL4 x1 x2 y3
        all_goals have z3 := SVb_run (cs := bl 64 (fun _ => 0)) (B4.out.there 10 64 (by rw [sc_length]; omega)) (bl_length _ _) (bl_one _ _)
        all_goals rw [← wz8] at z3
        all_goals go_wp2_with fail
        all_goals obtain ⟨W5, hW5⟩ : ∃ x, W3.setCells b 10 (bl 64 (fun _ => 0)) = x := ⟨_, rfl⟩
        all_goals have hB5 : Blk W5 b (stc (m + (j + k)) (cat m f g)) 89 := by rw [← hW5, ← stc_full m j k o f g (by rw [HM1.out]; exact HO1.out.symm) hfull ((M : Int) + k) (by rw [← HM1.out]; omega), ← sc_zero _ _ (mix (m + j) o k j (cat m f g) g)]; exact B4.out.put 10 _
        all_goals have hK5 : Kp S w W5 := by rw [← hW5]; exact K4.out.trans (Kp.setCells b _ _) (fun i _ e => by have : i = b := e; rw [this]; exact HSb.out)
        all_goals have hL5 : LG S w W5 lo (evs256 L ((m + j) / 64 - m / 64)) := by rw [← hW5]; exact L4.out.state B4.out (Kp.setCells b _ _)
        all_goals rw [hW5]
        all_goals have B5 := hid hB5
        all_goals have K5 := hid hK5
        all_goals have L5 := hid hL5
        all_goals clear hW5 hB5 hK5 hL5 z3
        all_goals refine (note_lg S w W5 lo _ 1 64 (by decide) (by decide) L5.out K5.out (by unfold Room; have q0 := evs256_tot HP.out ((m + j) / 64 - m / 64) (by have := HM.out; omega); have := HM.out; omega)).mono ?_
        all_goals rintro e W6 ⟨rfl, hl6, hk6, ht6⟩
        all_goals have B6 := hid (ht6.blk B5.out)
        all_goals have K6 := hid hk6
        all_goals have L6 := hid hl6
        all_goals clear hl6 hk6 ht6
        all_goals go_wp2
        all_goals obtain ⟨A, eA, hA⟩ := sub_next pb (po + j) (n - j) (cap - j) k (by omega)
        all_goals refine ⟨⟨j + k, A, by omega, by rw [eA, Nat.sub_sub, Nat.sub_sub], fun h => by rw [hA (by omega), Nat.add_assoc], ⟨B6.out, HW.out, by omega⟩, ?_, K6.out⟩, by rw [eA]; simp [slLen]; omega⟩
        all_goals rw [show (m + (j + k)) / 64 - m / 64 = (m + j) / 64 - m / 64 + 1 from by have := HO1.out; have := HM1.out; omega]
        all_goals exact L6.out
      · have he : ¬ ((M : Int) + k) % 64 = 0 := by have := HO1.out; omega
        go_wp2_with fail
        obtain ⟨A, eA, hA⟩ := sub_next pb (po + j) (n - j) (cap - j) k (by omega)
        refine ⟨⟨j + k, A, by omega, by rw [eA, Nat.sub_sub, Nat.sub_sub], fun h => by rw [hA (by omega), Nat.add_assoc], ?_⟩, ?_⟩
        · have e := HM1.out
          have hB2 : Blk (W1.setCell ⟨b, 9, none⟩ (.int .u64 ((M : Int) + k))) b (stc (m + (j + k)) (cat m f g)) 89 := by
            rw [← stc_part m j k o f g (by rw [e]; exact HO1.out.symm) (by omega) ((M : Int) + k) (by rw [← e]; omega), ← sc_set9 _ ((m + j : Nat) : Int)]; exact B1.out.set 9 _
          refine ⟨⟨hB2, HW.out, by omega⟩, ?_, ?_⟩
          · have := L1.out.state B1.out (Kp.setCell b 9 (.int .u64 ((M : Int) + k)))
            rw [show (m + (j + k)) / 64 - m / 64 = (m + j) / 64 - m / 64 from by have := HO1.out; omega]; exact this
          · exact K1.out.trans (Kp.setCell b 9 _) (fun i _ e => by have : i = b := e; rw [this]; exact HSb.out)
        · rw [eA]; simp [slLen]; omega
    · have ej : j = n := by omega
      subst ej
      go_wp2
      go_end0
      exact ⟨rfl, HS.out, HLG.out, HKP.out⟩
end Go.Proofs.YtkmkbofokoimkaaDoor.Sh
namespace Go.Proofs.YtkmkbofokoimkaaDoor.Sh
open Go.ChangeShapes Go.WideShapes Go.ChangeAt Go.RowKit
open Go.Proofs.YtkmkbofokoimkaaDoor.By Go.Proofs.YtkmkbofokoimkaaDoor.Wd

theorem goOn50 (b m n : Nat) (v : Value) (f g : Nat → Int) (lo : Option Nat) (L : List Rn) (S : Nat → Prop) (w : World) (hst : St w b m f) (hk : KT w) (hS0 : ¬ S 0) (hSb : S b) (hl : LG S w w lo L) (hp : Pos L)
    (hr : ∀ w', Kp S w w' → By.RB w' v n g) (hmn : m + n ≤ 140737488354328) (hroom : tq L + (n / 64 : Nat) ≤ 5000000000000) :
    Calls Tryd.prog 39 #[.pointer (some ⟨b, 0, none⟩), lpv lo, v] w fun e w' => e = .returned (.tuple #[]) ∧ St w' b (m + n) (cat m f g) ∧ LG S w w' lo (evs256 L ((m + n) / 64 - m / 64)) ∧ Kp S w w' := by
  have h0 := hr w (Kp.refl _ _)
  have hg := h0.1
  obtain ⟨_, a, cap, rfl, h1, h2, hc⟩ := h0
  by_cases hn : 0 < n
  · rcases hc with ⟨e, _⟩ | ⟨pb, po, rfl, _⟩
    · omega
    · refine goOn_some b m n pb po cap f g lo L S w hst hk hS0 hSb hl hg hp (fun w' hw => ?_) hn h1 h2 hmn hroom
      obtain ⟨_, a', cap', he, _, _, hc⟩ := hr w' hw
      simp only [Value.slice.injEq] at he
      obtain ⟨rfl, _, rfl⟩ := he
      rcases hc with ⟨e, _⟩ | ⟨pb', po', e, hc⟩
      · omega
      · simp only [Option.some.injEq, Addr.mk.injEq] at e
        obtain ⟨rfl, rfl, _⟩ := e
        exact hc
  · have en : n = 0 := by omega
    subst en
    have R : St w b (m + 0) (cat m f g) ∧ LG S w w lo (evs256 L ((m + 0) / 64 - m / 64)) ∧ Kp S w w := by
      refine ⟨hst.congr (cat_bound (n := m) hst.byte hg) (fun i hi => by unfold cat; rw [if_pos hi]), ?_, Kp.refl _ _⟩
      rw [show (m + 0) / 64 - m / 64 = 0 from by omega]; exact hl
    have HR := hid R
    clear R hr hc hg hl hp hst hk hS0 hSb hroom h1 h2
    go_enter Tryd.func39, Tryd.ntmps39
    go_wp2_with fail
    refine wp_loop_rounds 1 ?_
    rw [rounds_succ]
    go_wp2
    go_end0
    exact ⟨rfl, HR.out⟩

theorem stc_length (m : Nat) (f : Nat → Int) : (stc m f).length = 74 := sc_length _ _ _
theorem stc_one (m : Nat) (f : Nat → Int) : ∀ u ∈ stc m f, u.oneCell' = true := sc_one _ _ _
/-- A state's cells where nobody made one. -/
def zc : List Value := .bool false :: (wl 8 (fun _ => 0) ++ .int .u64 0 :: bl 64 (fun _ => 0))
theorem zc_length : zc.length = 74 := by kernel_rfl
theorem zero75 : ∀ w, (zeroValue 89).run Tryd.prog w = .ok (.agg zc.toArray) w := (zero_of_info (t := 89) (v := .agg zc.toArray) (n := 74) (by kernel_rfl)).1
theorem zc_one : ∀ u ∈ zc, u.oneCell' = true := by
  intro u hu
  simp only [zc, List.mem_cons, List.mem_append] at hu
  rcases hu with rfl | hu | rfl | hu
  · rfl
  · exact wl_one _ _ u hu
  · rfl
  · exact bl_one _ _ u hu
theorem write26 (b m n : Nat) (v : Value) (f g : Nat → Int) (lo : Option Nat) (L : List Rn) (S : Nat → Prop) (w : World) (hst : St w b m f) (hk : KT w) (hS0 : ¬ S 0) (hSb : S b) (hl : LG S w w lo L) (hp : Pos L)
    (hr : ∀ w', Kp S w w' → By.RB w' v n g) (hmn : m + n ≤ 140737488354328) (hroom : tq L + (n / 64 : Nat) ≤ 5000000000000) :
    Calls Tryd.prog 95 #[.pointer (some ⟨b, 0, none⟩), lpv lo, v] w fun e w' => e = .returned (.int .i64 0) ∧ St w' b (m + n) (cat m f g) ∧ LG S w w' lo (evs256 L ((m + n) / 64 - m / 64)) ∧ Kp S w w' := by
  have h0 := hst.c0
  have HG := hid (goOn50 b m n v f g lo L S w hst hk hS0 hSb hl hp hr hmn hroom)
  clear hst hk hS0 hSb hl hp hr hmn hroom
  go_enter Tryd.func95, Tryd.ntmps95
  go_wp2_with (first | (go_at_call 47; refine (isNone_st _ _ true h0).mono ?_; rintro e w ⟨rfl, rfl⟩) | (go_at_call 39; refine HG.out.mono ?_; rintro e w1 ⟨rfl, h1, h2, h3⟩; have H1 := hid h1; have H2 := hid h2; have H3 := hid h3; clear h1 h2 h3))
  go_ret
  exact ⟨rfl, H1.out, H2.out, H3.out⟩
theorem write26n (b : Nat) (v lp : Value) (w : World) (h : NoSt w b) : Calls Tryd.prog 95 #[.pointer (some ⟨b, 0, none⟩), lp, v] w fun e w' => e = .returned (.int .i64 1) ∧ w' = w := by
  have h0 := h.c0
  clear h
  go_enter Tryd.func95, Tryd.ntmps95
  go_wp2_with (go_at_call 47; refine (isNone_st _ _ false h0).mono ?_; rintro e w' ⟨rfl, rfl⟩)
  go_ret
  exact ⟨rfl, rfl⟩
theorem write26z (v lp : Value) (w : World) : Calls Tryd.prog 95 #[.pointer none, lp, v] w fun e w' => e = .returned (.int .i64 1) ∧ w' = w := by
  go_enter Tryd.func95, Tryd.ntmps95
  go_wp2_with (go_at_call 47; refine (isNone_nil _).mono ?_; rintro e w' ⟨rfl, rfl⟩)
  go_ret
  exact ⟨rfl, rfl⟩
set_option maxRecDepth 4000 in
theorem clone28 (b m : Nat) (f : Nat → Int) (w : World) (h : St w b m f) :
    Calls Tryd.prog 97 #[.pointer (some ⟨b, 0, none⟩)] w fun e w' => e = .returned (.tuple #[.pointer (some ⟨w.heap.size, 0, none⟩), .int .i64 0]) ∧ St w' w.heap.size m f ∧ Below w.heap.size w w' := by
  have H := hid h
  have h0 := h.c0
  have x1 := LDs_run (h.here.range 0 (stc m f) (fun j v hj => by rw [Nat.zero_add]; exact hj)) (stc_length _ _)
  have hz := zero75
  have bn := Blk.new w zc 89
  have x2 := SVs_run (cs := stc m f) (bn.there 0 74 (by rw [zc_length]; omega)) (stc_length _ _) (stc_one _ _)
  have B := hid bn
  clear bn h
  go_enter Tryd.func97, Tryd.ntmps97
  go_wp2_with (go_at_call 47; refine (isNone_st _ _ true h0).mono ?_; rintro e w ⟨rfl, rfl⟩)
  go_ret2
  have b2 := B.out.put 0 (stc m f)
  rw [put_all _ _ (by rw [zc_length]; exact (stc_length _ _).symm)] at b2
  exact ⟨rfl, ⟨b2, H.out.byte, H.out.few⟩, below_cells (below_alloc _ _) _ _ _ (Nat.le_refl _) (by rw [size_alloc]; omega)⟩
theorem clone28n (b : Nat) (w : World) (h : NoSt w b) : Calls Tryd.prog 97 #[.pointer (some ⟨b, 0, none⟩)] w fun e w' => e = .returned (.tuple #[.pointer none, .int .i64 1]) ∧ w' = w := by
  have h0 := h.c0
  clear h
  go_enter Tryd.func97, Tryd.ntmps97
  go_wp2_with (go_at_call 47; refine (isNone_st _ _ false h0).mono ?_; rintro e w' ⟨rfl, rfl⟩)
  go_ret2
  exact ⟨rfl, rfl⟩
theorem clone28z (w : World) : Calls Tryd.prog 97 #[.pointer none] w fun e w' => e = .returned (.tuple #[.pointer none, .int .i64 1]) ∧ w' = w := by
  go_enter Tryd.func97, Tryd.ntmps97
  go_wp2_with (go_at_call 47; refine (isNone_nil _).mono ?_; rintro e w' ⟨rfl, rfl⟩)
  go_ret2
  exact ⟨rfl, rfl⟩
theorem LG.start {S S' : Nat → Prop} {w w1 : World} {lo : Option Nat} {L : List Rn} (h : LG S w w lo L) (hb : Below w.heap.size w w1) (hs : ∀ i, i < w.heap.size → S i → S' i) : LG S' w1 w1 lo L := by
  cases lo with
  | none => exact trivial
  | some lb =>
    obtain ⟨h1, rv, hl, ho⟩ := h
    exact ⟨hs _ hl.lt h1, rv, hl.below hb, fun g hg _ => hs _ (hl.own.lt g hg).2 (ho g hg (hl.own.lt g hg).2)⟩
theorem LG.back {S S' : Nat → Prop} {w w1 w' : World} {lo : Option Nat} {L L0 : List Rn} (h : LG S' w1 w' lo L) (h0 : LG S w w lo L0) (hz : w.heap.size ≤ w1.heap.size) (hs : ∀ i, i < w.heap.size → S' i → S i) : LG S w w' lo L := by
  cases lo with
  | none => exact trivial
  | some lb =>
    obtain ⟨_, rv, hl, ho⟩ := h
    exact ⟨h0.1, rv, hl, fun g hg hlt => hs g hlt (ho g hg (by omega))⟩
/-- The digest of a message of m bytes; how many blocks it takes besides those that are whole. -/
def dig (m : Nat) (f : Nat → Int) : Nat → Int := lf (hw (cat m f (endf m)) ((m + (1 + zs m + 8)) / 64))
def last (m : Nat) : Nat := (m + (1 + zs m + 8)) / 64 - m / 64
end Go.Proofs.YtkmkbofokoimkaaDoor.Sh
