/- Two lists held against each other, whatever they are; the statement AesForms, walked. -/
import Derived.Test.YtbommnigljmfkaaDoorAbk
namespace Go.Proofs.YtbommnigljmfkaaDoor.Ae
open Go.ChangeShapes Go.WideShapes Go.ChangeAt Go.RowKit
open Go.Proofs.YtbommnigljmfkaaDoor.By Go.Proofs.YtbommnigljmfkaaDoor.Gf
open Go.Proofs.YtbommnigljmfkaaDoor.Kc (own_kept own_mono own8_type cat cat_bound wpList_cat below_grow)
/-- Two lists are alike. -/
def Alk (n m : Nat) (f g : Nat → Int) : Prop := n = m ∧ ∀ i, i < n → f i = g i
/-- A bool is told: true just where P holds. -/
def Tells (P : Prop) (e : Ending) : Prop := ∃ t : Bool, e = .returned (.bool t) ∧ (t = true ↔ P)
theorem tells_yes {P : Prop} (h : P) : Tells P (.returned (.bool true)) := ⟨true, rfl, fun _ => h, fun _ => rfl⟩
theorem tells_no {P : Prop} (h : ¬ P) : Tells P (.returned (.bool false)) := ⟨false, rfl, fun e => (by cases e), fun e => absurd e h⟩
set_option maxHeartbeats 1000000 in
theorem same_any (a b : Value) (n m : Nat) (f g : Nat → Int) (w : World) (ha : By.RB w a n f) (hb : By.RB w b m g) (hn : n ≤ 140737488355999) :
    Calls Tryd.prog 12 #[a, b] w fun e w' => Tells (Alk n m f g) e ∧ ∃ k, w' = w.drewN k := by
  by_cases hnm : n = m
  · subst hnm
    obtain ⟨_, a, cap, rfl, h1, h2, hc⟩ := ha
    obtain ⟨_, b, cap', rfl, h1', h2', hc'⟩ := hb
    by_cases hz : n = 0
    · subst hz
      clear hc hc'
      go_enter Tryd.func12, Tryd.ntmps12
      go_wp2
      refine wp_loop_rounds 1 ?_
      rw [rounds_succ]
      go_wp2
      go_ret
      exact ⟨tells_yes ⟨rfl, fun i hi => by omega⟩, 0, rfl⟩
    · rcases hc with ⟨h, _⟩ | ⟨b1, o1, rfl, hc⟩
      · omega
      rcases hc' with ⟨h, _⟩ | ⟨b2, o2, rfl, hc'⟩
      · omega
      have HC : Hid (∀ i, i < n → w.cell? ⟨b1, o1 + i, none⟩ = some (.int .u8 (f i))) := hc
      have HC' : Hid (∀ i, i < n → w.cell? ⟨b2, o2 + i, none⟩ = some (.int .u8 (g i))) := hc'
      clear hc hc'
      go_enter Tryd.func12, Tryd.ntmps12
      go_wp2
      go_loopw [5] (fun i wr => ∃ k : Nat, k ≤ n ∧ i = .int .i64 k ∧ (∀ j, j < k → f j = g j) ∧ ∃ d, wr = w.drewN d) (fun i _ => n - (intOf i).toNat)
      case atStart => exact ⟨0, Nat.zero_le _, rfl, fun j hj => by omega, 0, rfl⟩
      case round =>
        obtain ⟨k, hk, rfl, hall, d, rfl⟩ := hrel
        have HA := hid hall
        clear hall
        by_cases hlt : k < n
        · have c1 := HC.out k hlt
          have c2 := HC'.out k hlt
          by_cases he : f k = g k
          · rw [← he] at c2
            have HE := hid he
            clear he
            go_wp2
            go_quiet (fail)
            go_wp2
            go_roundw
            case rel => exact ⟨k + 1, by omega, by go_num, fun j hj => by
              by_cases h : j < k
              · exact HA.out j h
              · obtain rfl : j = k := by omega
                exact HE.out, _, rfl⟩
            case measure => simp [intOf]; omega
          · obtain ⟨x, hx⟩ : ∃ x, f k = x := ⟨_, rfl⟩
            obtain ⟨y, hy⟩ : ∃ y, g k = y := ⟨_, rfl⟩
            have HX := hid hx
            have HY := hid hy
            rw [hx] at c1 he
            rw [hy] at c2 he
            have hb : (x != y) = true := by rw [bne_iff_ne]; exact he
            have HE := hid he
            clear hx hy he
            go_wp2
            go_quiet (fail)
            go_wp2
            go_ret
            exact ⟨tells_no (fun h => absurd (h.2 k hlt) (by rw [HX.out, HY.out]; exact HE.out)), _, drewN_two w d _⟩
        · go_wp2
          go_ret
          exact ⟨tells_yes ⟨rfl, fun i hi => HA.out i (by omega)⟩, d, rfl⟩
  · obtain ⟨_, a, cap, rfl, h1, h2, -⟩ := ha
    obtain ⟨_, b, cap', rfl, h1', h2', -⟩ := hb
    have hb : ((n : Int) != (m : Int)) = true := by rw [bne_iff_ne]; omega
    have HN := hid hnm
    clear hnm
    go_enter Tryd.func12, Tryd.ntmps12
    go_wp2
    go_ret
    exact ⟨tells_no (fun h => HN.out h.1), 0, rfl⟩
def sev (i : Nat) : Nat := if i = 0 then 7 else 0
theorem sev_b : B16 sev := fun i _ => by unfold sev; split <;> decide
theorem bvsev : Value.agg #[Value.int IntKind.u8 7, Value.int IntKind.u8 0, Value.int IntKind.u8 0, Value.int IntKind.u8 0, Value.int IntKind.u8 0, Value.int IntKind.u8 0, Value.int IntKind.u8 0, Value.int IntKind.u8 0, Value.int IntKind.u8 0, Value.int IntKind.u8 0, Value.int IntKind.u8 0, Value.int IntKind.u8 0, Value.int IntKind.u8 0, Value.int IntKind.u8 0, Value.int IntKind.u8 0, Value.int IntKind.u8 0] = bv sev := rfl
/-- Forms are alike just where keys are. -/
theorem forms_iff (k k' : Nat) (_ : k = 4 ∨ k = 6 ∨ k = 8) (_ : k' = 4 ∨ k' = 6 ∨ k' = 8) (f f' : Nat → Int) (hf : ∀ i, 0 ≤ f i ∧ f i < 256) (hf' : ∀ i, 0 ≤ f' i ∧ f' i < 256) :
    Alk (16 * (k + 7)) (16 * (k' + 7)) (cb (rk k (kf f))) (cb (rk k' (kf f'))) ↔ Alk (4 * k) (4 * k') f f' := by
  unfold Alk
  by_cases e : k = k'
  · subst e
    have h := wds_inj k (3 * k + 28) (by omega) (kf f) (kf f')
    refine ⟨fun ⟨_, h2⟩ => ⟨rfl, fun i hi => ?_⟩, fun ⟨_, h2⟩ => ⟨rfl, fun i hi => ?_⟩⟩
    · have h3 := h.2 (fun p hp => by
        have h4 := h2 p (by omega)
        have h5 : rk k (kf f) p = rk k (kf f') p := Int.ofNat_inj.1 h4
        unfold rk at h5
        rwa [upto_get _ _ _ (by omega), upto_get _ _ _ (by omega)] at h5) i hi
      rw [← kf_eq hf, ← kf_eq hf', h3]
    · have h3 := h.1 (fun p hp => by unfold kf; rw [h2 p hp]) i (by omega)
      show ((rk k (kf f) i : Nat) : Int) = ((rk k (kf f') i : Nat) : Int)
      unfold rk
      rw [upto_get _ _ _ (by omega), upto_get _ _ _ (by omega), h3]
  · exact ⟨fun ⟨h1, _⟩ => by omega, fun ⟨h1, _⟩ => by omega⟩
theorem Ci.kx {W W' : World} {g k x : Nat} {ws : Nat → Nat} (h : Ci W g k ws) (hk : Kx x W W') (hn : g ≠ x) : Ci W' g k ws := ⟨hk.2 _ _ _ hn h.here (by decide) (by decide), h.kk, h.lt⟩
theorem Blk.kx {W W' : World} {g x : Nat} {cs : List Value} (h : Blk W g cs 58) (hk : Kx x W W') (hn : g ≠ x) : Blk W' g cs 58 := hk.2 _ _ _ hn h (by decide) (by decide)
theorem Blk.off {W : World} {g g' : Nat} {cs cs' : List Value} {t t' : TypeId} (h : Blk W g cs t) (h' : Blk W g' cs' t') (ht : t ≠ t') : g ≠ g' := h.ne h' ht
theorem putL1 (n : Int) : putL [] ⟨8, n, 1⟩ = [⟨8, n, 1⟩] := rfl
/-- New, of any key, without a ledger. -/
def Nw (W : World) (n : Nat) (f : Nat → Int) (v : Value) (w' : World) : Prop :=
  (v = .tuple #[.pointer none, .int .i64 7] ∧ ¬ (n = 16 ∨ n = 24 ∨ n = 32)) ∨ ∃ g k, v = .tuple #[.pointer (some ⟨g, 0, none⟩), .int .i64 0] ∧ n = 4 * k ∧ (k = 4 ∨ k = 6 ∨ k = 8) ∧ Ci w' g k (rk k (kf f)) ∧ W.heap.size ≤ g
theorem new_any (v : Value) (n : Nat) (f : Nat → Int) (W : World) (h : By.RB W v n f) : Calls Tryd.prog 18 #[.pointer none, v] W fun e w' => ∃ u, e = .returned u ∧ Nw W n f u w' ∧ Below W.heap.size W w' := by
  by_cases hn : n = 16 ∨ n = 24 ∨ n = 32
  · obtain ⟨k, rfl, hk⟩ : ∃ k, n = 4 * k ∧ (k = 4 ∨ k = 6 ∨ k = 8) := by
      rcases hn with rfl | rfl | rfl
      · exact ⟨4, rfl, .inl rfl⟩
      · exact ⟨6, rfl, .inr (.inl rfl)⟩
      · exact ⟨8, rfl, .inr (.inr rfl)⟩
    obtain ⟨g, off, cap, rfl, hc, hcell⟩ := rb_at h (by omega)
    refine (newN k hk (kf f) (kf_lt h.1) g off cap hc W hcell).mono ?_
    rintro e w' ⟨g', rfl, c, hg, hb⟩
    exact ⟨_, rfl, .inr ⟨g', k, rfl, rfl, hk, c, hg⟩, hb⟩
  · obtain ⟨_, a, cap, rfl, _⟩ := h
    refine (new_bad _ a n cap W (by omega) (by omega) (by omega)).mono ?_
    rintro e w' ⟨rfl, rfl⟩
    exact ⟨_, rfl, .inl ⟨rfl, hn⟩, Below.refl _ _⟩
set_option maxRecDepth 8000 in
set_option maxHeartbeats 8000000 in
theorem forms_walk (p q : Value) (np nq : Nat) (fp fq : Nat → Int) (w : World) (hM : KM w) (hp : By.RB w p np fp) (hq : By.RB w q nq fq) :
    Calls Tryd.prog 6 #[p, q] w fun e w' => e = .returned (.bool true) ∧ Below w.heap.size w w' := by
  have HM := hid hM
  have PW := hid hp
  have QW := hid hq
  clear hM hp hq
  go_enter Tryd.func6, Tryd.ntmps6
  go_wp2_with fail
  refine (awake1 w HM.out).mono ?_
  rintro e W1 ⟨rfl, hb⟩
  have B := hid hb
  have B1s := hid hb.size
  clear hb
  go_wp2_with fail
  refine (new_any p np fp W1 (PW.out.below B.out)).mono ?_
  rintro e W2 ⟨u1, rfl, n1, hb⟩
  have B := hid (below_next B.out hb)
  have N1 := hid n1
  clear hb n1
  rcases N1.out with ⟨rfl, hbad⟩ | ⟨g, kk, rfl, hn, hkk, c1, hg1⟩
  · go_wp2_with fail
    refine (new_any q nq fq W2 (QW.out.below B.out)).mono ?_
    rintro e W3 ⟨u2, rfl, n2, hb⟩
    have B := hid (below_next B.out hb)
    clear hb
    rcases n2 with ⟨rfl, _⟩ | ⟨g2, k2, rfl, _⟩
    · go_wp2_with fail
      go_ret
      exact ⟨rfl, B.out⟩
    · go_wp2_with fail
      go_ret
      exact ⟨rfl, B.out⟩
  · have C := hid c1
    have HG := hid (show w.heap.size ≤ g from by
      have := B.out
      have h2 : W1.heap.size ≤ g := hg1
      have h3 := B1s.out
      omega)
    clear c1 hg1 N1
    go_wp2_with fail
    refine (new_any q nq fq W2 (QW.out.below B.out)).mono ?_
    rintro e W3 ⟨u2, rfl, n2, hb⟩
    have B := hid (below_next B.out hb)
    have C := hid (C.out.below hb)
    have HG2 := hid C.out.glt
    rcases n2 with ⟨rfl, _⟩ | ⟨g2, k2, rfl, hn2, hk2, c2, hg2⟩
    · clear hb
      go_wp2_with fail
      go_ret
      exact ⟨rfl, B.out⟩
    · have D := hid c2
      clear hb c2 hg2
      subst hn hn2
      have HK1 := hid hkk
      have HK2 := hid hk2
      have hk8 : kk ≤ 8 := by omega
      have hk4 : 4 ≤ kk := by omega
      have h28 : k2 ≤ 8 := by omega
      clear hkk hk2
      go_wp2_with fail
      refine (same_any p q (4 * kk) (4 * k2) fp fq W3 (PW.out.below B.out) (QW.out.below B.out) (by omega)).mono ?_
      rintro e W4 ⟨⟨t, rfl, ht⟩, d, rfl⟩
      have hb := below_drewN W3 d
      have C := hid (C.out.below hb)
      have D := hid (D.out.below hb)
      have B := hid (below_next B.out hb)
      have HT := hid ht
      clear ht
      clear hb
      generalize W3.drewN d = W4 at *
      have WSL := hid C.out.lt
      have FI := hid (forms_iff kk k2 HK1.out HK2.out fp fq PW.out.1 QW.out.1)
      obtain ⟨ws, ews⟩ : ∃ x, rk kk (kf fp) = x := ⟨_, rfl⟩
      obtain ⟨ws2, ews2⟩ : ∃ x, rk k2 (kf fq) = x := ⟨_, rfl⟩
      rw [ews] at C WSL FI
      rw [ews2] at D FI
      clear ews ews2
      have CL := hid C.out.glt
      go_wp2_with fail
      refine (clone_ci g kk ws W4 C.out).mono ?_
      rintro e W5 ⟨rfl, c, hb⟩
      have C := hid (C.out.below hb)
      have D := hid (D.out.below hb)
      have B := hid (below_next B.out hb)
      have X := hid c
      clear c
      clear hb
      obtain ⟨gx, egx⟩ : ∃ x, W4.heap.size = x := ⟨_, rfl⟩
      rw [egx] at X
      rw [egx]
      have HX := hid (show gx ≠ g from by have := CL.out; omega)
      clear egx
      go_wp2_with fail
      refine (form_ci g kk ws W5 C.out).mono ?_
      rintro e W6 ⟨v1, rfl, o1, hb⟩
      have C := hid (C.out.below hb)
      have D := hid (D.out.below hb)
      have X := hid (X.out.below hb)
      have B := hid (below_next B.out hb)
      have R1 := hid o1.reads
      clear o1
      clear hb
      go_wp2_with fail
      refine (form_ci g2 k2 ws2 W6 D.out).mono ?_
      rintro e W7 ⟨v2, rfl, o2, hb⟩
      have C := hid (C.out.below hb)
      have D := hid (D.out.below hb)
      have X := hid (X.out.below hb)
      have R1 := hid (R1.out.below hb)
      have B := hid (below_next B.out hb)
      have R2 := hid o2.reads
      clear o2
      clear hb
      go_wp2_with fail
      refine (same_any v1 v2 (16 * (kk + 7)) (16 * (k2 + 7)) (cb ws) (cb ws2) W7 R1.out R2.out (by omega)).mono ?_
      rintro e W8 ⟨⟨t', rfl, ht'⟩, d, rfl⟩
      have hb := below_drewN W7 d
      have C := hid (C.out.below hb)
      have D := hid (D.out.below hb)
      have X := hid (X.out.below hb)
      have R1 := hid (R1.out.below hb)
      have R2 := hid (R2.out.below hb)
      have B := hid (below_next B.out hb)
      obtain rfl : t' = t := by
        have h := ht'.trans (FI.out.trans HT.out.symm)
        cases t' <;> cases t <;> simp at h ⊢
      clear ht'
      clear hb
      generalize W7.drewN d = W8 at *
      have tn : (t' != t') = false := bne_self_eq_false _
      go_wp2_with fail
      refine (form_ci gx kk ws W8 X.out).mono ?_
      rintro e W9 ⟨v3, rfl, o3, hb⟩
      have C := hid (C.out.below hb)
      have X := hid (X.out.below hb)
      have B := hid (below_next B.out hb)
      have R3 := hid o3.reads
      clear o3
      clear hb
      go_wp2_with fail
      refine (form_ci g kk ws W9 C.out).mono ?_
      rintro e W10 ⟨v4, rfl, o4, hb⟩
      have C := hid (C.out.below hb)
      have X := hid (X.out.below hb)
      have R3 := hid (R3.out.below hb)
      have B := hid (below_next B.out hb)
      have R4 := hid o4.reads
      clear o4
      clear hb
      go_wp2_with fail
      refine (By.same_true v3 v4 (16 * (kk + 7)) (cb ws) (cb ws) W10 R3.out R4.out (by omega) (fun _ _ => rfl)).mono ?_
      rintro e W11 ⟨rfl, d, rfl⟩
      have hb := below_drewN W10 d
      have C := hid (C.out.below hb)
      have X := hid (X.out.below hb)
      have R3 := hid (R3.out.below hb)
      have R4 := hid (R4.out.below hb)
      have B := hid (below_next B.out hb)
      
      clear hb
      generalize W10.drewN d = W11 at *
      clear R1 R2 R3 R4
      go_wp2_with fail
      refine (encN g kk ws sev W11 sev_b C.out (HM.out.kept (Kp.of_below (fun _ => False) B.out) id)).mono ?_
      rintro e W12 ⟨rfl, hb⟩
      have C := hid (C.out.below hb)
      have X := hid (X.out.below hb)
      have B := hid (below_next B.out hb)
      clear hb
      obtain ⟨EZ, eEZ⟩ : ∃ x, enc ws (kk + 6) sev = x := ⟨_, rfl⟩
      rw [eEZ]
      have FZ := hid eEZ
      clear eEZ
      have hb := bx_bel W12 EZ
      have C := hid (C.out.below hb)
      have X := hid (X.out.below hb)
      have B := hid (below_next B.out hb)
      have ZA := hid (bx_b W12 EZ)
      have s13 := bx_s W12 EZ
      obtain ⟨aZA, ea⟩ : ∃ a, W12.heap.size = a := ⟨_, rfl⟩
      rw [ea] at ZA s13
      clear hb
      go_wp2_with fail
      generalize Bx W12 EZ = W13 at *
      clear ea s13
      refine (newL w W13 B.out).mono ?_
      rintro e W14 ⟨rfl, gl, hb⟩
      have C := hid (C.out.below hb)
      have X := hid (X.out.below hb)
      have ZA := hid (ZA.out.below hb)
      have G := hid gl
      clear hb gl
      obtain ⟨lb, elb⟩ : ∃ x, W13.heap.size = x := ⟨_, rfl⟩
      rw [elb] at G
      rw [elb]
      clear elb
      go_wp2_with fail
      refine (form_ci g kk ws W14 C.out).mono ?_
      rintro e W15 ⟨v5, rfl, o5, hb⟩
      have C := hid (C.out.below hb)
      have X := hid (X.out.below hb)
      have ZA := hid (ZA.out.below hb)
      have G := hid (G.out.below hb)
      obtain ⟨a5, c5, rfl⟩ : ∃ a c, v5 = .slice a (16 * (kk + 7)) c := by
        rcases o5.shape with ⟨_, h0⟩ | ⟨g', cap', rfl, _⟩
        · omega
        · exact ⟨_, _, rfl⟩
      clear hb o5
      go_wp2_with fail
      refine (G.out.wipe room0 g kk ws C.out HG.out).mono ?_
      rintro e W16 ⟨rfl, gl, nl, hx⟩
      have X := hid (X.out.kx hx HX.out)
      have ZA := hid (ZA.out.kx hx (ZA.out.off C.out.here (by decide)))
      have N := hid nl
      have G := hid (show Lg w W16 lb [⟨8, ((16 * (kk + 7) : Nat) : Int), 1⟩] from gl)
      clear gl nl hx C
      go_wp2_with fail
      refine (form_nn _ W16 (.inr ⟨g, rfl, N.out⟩)).mono ?_
      rintro e w' ⟨rfl, hw'⟩
      subst w'
      go_wp2_with fail
      refine (encN gx kk ws sev W16 sev_b X.out (G.out.km HM.out)).mono ?_
      rintro e W17 ⟨rfl, hb⟩
      have X := hid (X.out.below hb)
      have ZA := hid (ZA.out.below hb)
      have G := hid (G.out.below hb)
      clear hb
      rw [FZ.out]
      have hb := bx_bel W17 EZ
      have X := hid (X.out.below hb)
      have ZA := hid (ZA.out.below hb)
      have G := hid (G.out.below hb)
      have ZB := hid (bx_b W17 EZ)
      have s18 := bx_s W17 EZ
      obtain ⟨aZB, ea⟩ : ∃ a, W17.heap.size = a := ⟨_, rfl⟩
      rw [ea] at ZB s18
      clear hb
      have la := ld_blk ZA.out
      have lb2 := ld_blk ZB.out
      have eqz : eqb EZ EZ = true := eqb_true (E16.refl _)
      go_wp2_with fail
      generalize Bx W17 EZ = W18 at *
      clear ea s18
      refine (G.out.runs (by simp)).mono ?_
      rintro e W19 ⟨v6, rfl, r6, hb⟩
      have R6 := hid r6
      have G := hid (G.out.below hb)
      clear hb r6 la lb2
      have O7 := hid (own_lit W19 [⟨8, ((16 * (kk + 7) : Nat) : Int), 1⟩] #[.int .u8 8, .int .i64 ((16 * (kk + 7) : Nat) : Int), .int .i64 1] (fun r hr => by simp at hr; subst hr; exact ev_ok 8 _ 1 (by omega) (by omega) (by omega)) rfl (by simp [maxLen]))
      have R7 := hid (R6.out.below (below_alloc W19 (.cells #[.int .u8 8, .int .i64 ((16 * (kk + 7) : Nat) : Int), .int .i64 1] 70)))
      have G7 := hid (G.out.below (below_alloc W19 (.cells #[.int .u8 8, .int .i64 ((16 * (kk + 7) : Nat) : Int), .int .i64 1] 70)))
      go_wp2_with fail
      refine (sameL v6 _ [⟨8, ((16 * (kk + 7) : Nat) : Int), 1⟩] _ R7.out O7.out.reads (by simp)).mono ?_
      rintro e WE ⟨rfl, d, rfl⟩
      go_wp2_with fail
      go_ret
      exact ⟨rfl, bel_drew G7.out.bel d⟩
end Go.Proofs.YtbommnigljmfkaaDoor.Ae
