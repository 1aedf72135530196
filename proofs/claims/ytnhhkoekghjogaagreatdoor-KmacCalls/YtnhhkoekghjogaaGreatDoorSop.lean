/- What a sponge of the program answers: Write. -/
import Derived.Test.YtnhhkoekghjogaaGreatDoorSpm
namespace Go.Proofs.YtnhhkoekghjogaaGreatDoor.Kc
open Go.ChangeShapes Go.WideShapes Go.ChangeAt Go.RowKit
open Go.Proofs.YtnhhkoekghjogaaGreatDoor.By Go.Proofs.YtnhhkoekghjogaaGreatDoor.Wd
/-- So many permutations recorded. -/
def evk (L : List Rn) : Nat → List Rn
  | 0 => L
  | c + 1 => putL (evk L c) ⟨3, 200, 1⟩
theorem evk_pos {L : List Rn} (h : Pos L) (c : Nat) : Pos (evk L c) := by
  induction c with
  | zero => exact h
  | succ c ih => exact putL_pos ih
theorem evk_len (L : List Rn) (c : Nat) : (evk L c).length ≤ L.length + c := by
  induction c with
  | zero => exact Nat.le_refl _
  | succ c ih =>
    have := (putL_len (L := evk L c) (r := ⟨3, 200, 1⟩)).1
    show (putL (evk L c) _).length ≤ _
    omega
theorem evk_tot {L : List Rn} (h : Pos L) (c : Nat) (hb : tot L + c ≤ 9000000000000000000) : tot (evk L c) = tot L + c := by
  induction c with
  | zero => show tot L = _; omega
  | succ c ih =>
    show tot (putL (evk L c) _) = _
    rw [putL_tot (evk_pos h c) rfl (by rw [ih (by omega)]; omega), ih (by omega)]; omega
theorem evk_add (L : List Rn) (a b : Nat) : evk L (a + b) = evk (evk L a) b := by
  induction b with
  | zero => rfl
  | succ b ih => show putL (evk L (a + b)) _ = _; rw [ih]; rfl
theorem evk_room {L : List Rn} (h : Pos L) (hb : Big L) (c : Nat) (hc : c ≤ 10000000) : Room (evk L c) := by
  have h1 := hb.1
  have h2 := hb.2
  have h3 := evk_len L c
  refine ⟨?_, by omega⟩
  rw [evk_tot h c (by omega)]; omega
/-- A part of a slice of bytes. -/
def sub (a : Option Addr) (cap : Nat) (l h : Int) : Value := .slice (if cap = l.toNat then a else a.map (·.add (l.toNat * 1))) (h.toNat - l.toNat) (cap - l.toNat)
theorem size5 (w : World) : (sizeOf (Tryz.prog.elem 22)).run Tryz.prog w = .ok 1 w := by kernel_rfl
theorem elem22 : Tryz.prog.underlying 22 = some (.slice (Tryz.prog.elem 22)) := by kernel_rfl
@[go_sem high] theorem sub_l (w : World) (a : Option Addr) (n cap : Nat) (l : Int) (h0 : 0 ≤ l) (h1 : l ≤ n) : (Instr.sliceAt 22 (.slice a n cap) (some (.int .i64 l)) none none).run Tryz.prog w = .ok (sub a cap l n) w := by
  rw [run_sliceAt_slice w 22 _ _ _ _ elem22, run_slice_l w 22 a n cap elem22 .i64 l h0 h1, size5]
  rfl
def slLen : Value → Nat
  | .slice _ n _ => n
  | _ => 0
theorem sub_next (pb p n cap k : Nat) (hn : n ≤ cap) : ∃ A, sub (some ⟨pb, p, none⟩) cap k n = .slice A (n - k) (cap - k) ∧ (k < n → A = some ⟨pb, p + k, none⟩) := by
  refine ⟨if cap = ((k : Int)).toNat then some ⟨pb, p, none⟩ else (some (⟨pb, p, none⟩ : Addr)).map (·.add (((k : Int)).toNat * 1)), by unfold sub; rw [Int.toNat_natCast, Int.toNat_natCast], fun h => ?_⟩
  rw [Int.toNat_natCast, if_neg (by omega), Nat.mul_one, Option.map_some, By.add_plain]
theorem ins_c {r : Nat} {z : Z} (h : z.p < r) (g : Nat → Int) (n : Nat) : (Z.ins r z g n).c - z.c = (z.p + n) / r := by
  rw [(ins_count h g n).1]; exact Nat.add_sub_cancel_left _ _
set_option maxRecDepth 4000 in
set_option maxHeartbeats 4000000 in
theorem write_some (b r n pb po cap : Nat) (sf : Int) (z : Z) (g : Nat → Int) (lo : Option Nat) (L : List Rn) (S : Nat → Prop) (w : World) (hst : Sp w b r sf z false) (hk : KT w) (hS0 : ¬ S 0) (hS1 : ¬ S 1) (hSb : S b) (hl : LG S w w lo L) (hp : Pos L)
    (hr : ∀ w', Kp S w w' → ∀ i, i < n → w'.cell? ⟨pb, po + i, none⟩ = some (.int .u8 (g i))) (hn : 0 < n) (hc : n ≤ cap) (hcap : cap ≤ maxLen) (hmn : n ≤ 9000000) (hroom : Big L) :
    Calls Tryz.prog 48 #[.pointer (some ⟨b, 0, none⟩), lpv lo, .slice (some ⟨pb, po, none⟩) n cap] w fun e w' => e = .returned (.int .i64 0) ∧ Sp w' b r sf (Z.ins r z g n) false ∧ LG S w w' lo (evk L ((Z.ins r z g n).c - z.c)) ∧ Kp S w w' := by
  have h0 := hst.c0
  have h3 := hst.cs
  have H0 := hid hst
  have HK := hid hk
  have HS : Hid (¬ S 0 ∧ ¬ S 1 ∧ S b) := ⟨hS0, hS1, hSb⟩
  have HL := hid hl
  have HP := hid hp
  have HR := hid hr
  have HC := hid hcap
  have HM := hid hroom
  have hr8 := hst.lo
  have hr192 := hst.hi
  clear hst hk hS0 hS1 hSb hl hp hr hcap hroom
  go_enter Tryz.func48, Tryz.ntmps48
  go_wp2_with (go_at_call 71; refine (isNone_sp _ _ r h0 hr8).mono ?_; rintro e w ⟨rfl, rfl⟩)
  go_loopw [2] (fun p wr => ∃ j A, j ≤ n ∧ p = .slice A (n - j) (cap - j) ∧ (j < n → A = some ⟨pb, po + j, none⟩) ∧ Sp wr b r sf (Z.ins r z g j) false ∧ LG S w wr lo (evk L ((Z.ins r z g j).c - z.c)) ∧ Kp S w wr) (fun p _ => slLen p)
  case atStart =>
    refine ⟨0, _, by omega, rfl, fun _ => rfl, H0.out, ?_, Kp.refl _ _⟩
    rw [show (Z.ins r z g 0).c - z.c = 0 from Nat.sub_self _]; exact HL.out
  case round =>
    obtain ⟨j, A, hj, rfl, hA, hst, hlg, hkp⟩ := hrel
    have HS1 := hid hst
    have HLG := hid hlg
    have HKP := hid hkp
    clear hst hlg hkp h0 h3
    by_cases hlt : j < n
    · obtain rfl := hA hlt
      clear hA
      have hp0 : (Z.ins r z g j).p < r := HS1.out.ok.o rfl
      obtain ⟨y, hy⟩ : ∃ y, Z.ins r z g j = y := ⟨_, rfl⟩
      rw [hy] at HS1 HLG hp0
      obtain ⟨K, hK⟩ : ∃ K, Nat.min (n - j) (r - y.p) = K := ⟨_, rfl⟩
      have hK0 : 0 < K := by rw [← hK]; exact Nat.lt_min.2 ⟨by omega, by omega⟩
      have hK1 : K ≤ n - j := by rw [← hK]; exact Nat.min_le_left _ _
      have hK2 : K ≤ r - y.p := by rw [← hK]; exact Nat.min_le_right _ _
      have HT := hid (takeIn1 b r (n - j) pb (po + j) (cap - j) sf y.f y.p false (fun i => g (j + i)) wr HS1.out.here hp0 hr192 (fun w' hw i hi => by rw [Nat.add_assoc]; exact HR.out w' (HKP.out.trans hw (fun k _ e => by rw [e]; exact HS.out.2.2)) (j + i) (by omega)) (by omega) (Nat.le_trans (Nat.sub_le _ _) HC.out))
      rw [hK] at HT
      have hlen : 0 < n - j := by omega
      have HY := hid hy
      have HKK := hid hK
      clear hy hK
      go_wp2_with fail
      refine HT.out.mono ?_
      rintro e w1 ⟨rfl, hb1, hk1⟩
      have B1 := hid hb1
      have K1 := hid (HKP.out.trans hk1 (fun k _ e => by rw [e]; exact HS.out.2.2))
      have L1 := hid (HLG.out.kept hk1 (fun g e => by subst e; exact ⟨_, _, HS1.out.here, by decide, by decide⟩))
      have c0 := hb1.cell 0 _ rfl
      have cp := hb1.cell 202 _ (spc_p _ _ _ _ _)
      clear hb1 hk1 HT
      have hk1' : (K : Int) ≤ ((n - j : Nat) : Int) := by omega
      have HI := hid (ins_add r z g j K)
      by_cases hfull : y.p + K = r
      · have he : ((y.p + K : Nat) : Int) = (r : Int) := by omega
        go_wp2_with fail
        go_region
        have B2 := hid (B1.out.drewN 1)
        have L2 := hid (L1.out.below (below_drewN w1 1))
        have K2 := hid (K1.out.trans (Kp.of_below S (below_drewN w1 1)) (fun _ _ e => e))
        clear B1 L1 K1 c0 cp
        go_wp2_with fail
        refine (permute_sp S w w1.drew lo _ b r sf _ _ false (mxs_b HS1.out.ok.b _ _ _) L2.out K2.out (evk_room HP.out HM.out _ ?_) HK.out HS.out.1 HS.out.2.1 HS.out.2.2 B2.out).mono ?_
        · rw [← HY.out, ins_c (H0.out.ok.o rfl)]
          exact Nat.le_trans (Nat.div_le_self _ _) (by have := H0.out.ok.o rfl; omega)
        rintro e w3 ⟨rfl, hb3, hl3, hp3, -⟩
        have B3 := hid hb3
        have L3 := hid hl3
        have P3 := hid hp3
        clear hb3 hl3 hp3 B2 L2 K2
        go_wp2
        obtain ⟨A, eA, hA⟩ := sub_next pb (po + j) (n - j) (cap - j) K (by omega)
        have e3 : Z.ins r z g (j + K) = ⟨psp (mxs y.f y.p (fun i => g (j + i)) K), 0, y.c + 1⟩ := by rw [HI.out, HY.out, ins_full r y _ K hfull hK0]
        have hc3 : z.c ≤ y.c := by rw [← HY.out, (ins_count (H0.out.ok.o rfl) g j).1]; exact Nat.le_add_right _ _
        refine ⟨⟨j + K, A, by omega, by rw [eA, Nat.sub_sub, Nat.sub_sub], fun h => by rw [hA (by omega), Nat.add_assoc], ⟨by rw [e3]; exact B3.out, H0.out.ok.ins (by omega) g (j + K), H0.out.lo, H0.out.hi, H0.out.sf⟩, ?_, P3.out⟩, by rw [eA]; simp [slLen]; omega⟩
        rw [e3, show y.c + 1 - z.c = (y.c - z.c) + 1 from by omega]
        exact L3.out
      · have he : ¬ ((y.p + K : Nat) : Int) = (r : Int) := by omega
        have he2 : ¬ (y.p : Int) + (K : Int) = (r : Int) := by omega
        go_wp2_with fail
        go_region
        go_wp2_with fail
        obtain ⟨A, eA, hA⟩ := sub_next pb (po + j) (n - j) (cap - j) K (by omega)
        have e3 : Z.ins r z g (j + K) = ⟨mxs y.f y.p (fun i => g (j + i)) K, y.p + K, y.c⟩ := by rw [HI.out, HY.out, ins_part r y _ K (by omega)]
        refine ⟨⟨j + K, A, by omega, by rw [eA, Nat.sub_sub, Nat.sub_sub], fun h => by rw [hA (by omega), Nat.add_assoc], ⟨by rw [e3]; exact B1.out.drewN 1, H0.out.ok.ins (by omega) g (j + K), H0.out.lo, H0.out.hi, H0.out.sf⟩, ?_, K1.out.trans (Kp.of_below S (below_drewN w1 1)) (fun _ _ e => e)⟩, by rw [eA]; simp [slLen]; omega⟩
        rw [e3]
        exact L1.out.below (below_drewN w1 1)
    · have ej : j = n := by omega
      subst ej
      go_wp2
      go_ret
      exact ⟨rfl, HS1.out, HLG.out, HKP.out⟩
theorem write_sp (b r n : Nat) (sf : Int) (v : Value) (z : Z) (g : Nat → Int) (lo : Option Nat) (L : List Rn) (S : Nat → Prop) (w : World) (hst : Sp w b r sf z false) (hk : KT w) (hS0 : ¬ S 0) (hS1 : ¬ S 1) (hSb : S b) (hl : LG S w w lo L) (hp : Pos L)
    (hr : ∀ w', Kp S w w' → By.RB w' v n g) (hmn : n ≤ 9000000) (hroom : Big L) :
    Calls Tryz.prog 48 #[.pointer (some ⟨b, 0, none⟩), lpv lo, v] w fun e w' => e = .returned (.int .i64 0) ∧ Sp w' b r sf (Z.ins r z g n) false ∧ LG S w w' lo (evk L ((Z.ins r z g n).c - z.c)) ∧ Kp S w w' := by
  have h0 := hr w (Kp.refl _ _)
  obtain ⟨_, a, cap, rfl, h1, h2, hc⟩ := h0
  by_cases hn : 0 < n
  · rcases hc with ⟨e, _⟩ | ⟨pb, po, rfl, _⟩
    · omega
    · refine write_some b r n pb po cap sf z g lo L S w hst hk hS0 hS1 hSb hl hp (fun w' hw => ?_) hn h1 h2 hmn hroom
      obtain ⟨_, a', cap', he, _, _, hc⟩ := hr w' hw
      simp only [Value.slice.injEq] at he
      obtain ⟨rfl, _, rfl⟩ := he
      rcases hc with ⟨e, _⟩ | ⟨pb', po', e, hc⟩
      · omega
      · simp only [Option.some.injEq, Addr.mk.injEq] at e
        obtain ⟨rfl, rfl, _⟩ := e
        exact hc
  · have en : n = 0 := by omega
    subst en
    have R : Sp w b r sf (Z.ins r z g 0) false ∧ LG S w w lo (evk L ((Z.ins r z g 0).c - z.c)) ∧ Kp S w w := by
      refine ⟨hst, ?_, Kp.refl _ _⟩
      rw [show (Z.ins r z g 0).c - z.c = 0 from Nat.sub_self _]; exact hl
    have HR := hid R
    have h0 := hst.c0
    have h3 := hst.cs
    have hr8 := hst.lo
    clear R hr hc hl hp hst hk hS0 hS1 hSb hroom h1 h2
    go_enter Tryz.func48, Tryz.ntmps48
    go_wp2_with (go_at_call 71; refine (isNone_sp _ _ r h0 hr8).mono ?_; rintro e w ⟨rfl, rfl⟩)
    refine wp_loop_rounds 1 ?_
    rw [rounds_succ]
    go_wp2
    go_ret
    exact ⟨rfl, HR.out⟩
theorem write_shut (b r : Nat) (sf : Int) (z : Z) (v lp : Value) (w : World) (h : Sp w b r sf z true) : Calls Tryz.prog 48 #[.pointer (some ⟨b, 0, none⟩), lp, v] w fun e w' => e = .returned (.int .i64 180) ∧ w' = w := by
  have h0 := h.c0
  have h3 := h.cs
  have hr8 := h.lo
  clear h
  go_enter Tryz.func48, Tryz.ntmps48
  go_wp2_with (go_at_call 71; refine (isNone_sp _ _ r h0 hr8).mono ?_; rintro e w ⟨rfl, rfl⟩)
  go_ret
  exact ⟨rfl, rfl⟩
theorem write_no (b : Nat) (v lp : Value) (w : World) (h : NoSp w b) : Calls Tryz.prog 48 #[.pointer (some ⟨b, 0, none⟩), lp, v] w fun e w' => e = .returned (.int .i64 1) ∧ w' = w := by
  have h0 := h.c0
  clear h
  go_enter Tryz.func48, Tryz.ntmps48
  go_wp2_with (go_at_call 71; refine (isNone_no _ _ h0).mono ?_; rintro e w' ⟨rfl, rfl⟩)
  go_ret
  exact ⟨rfl, rfl⟩
theorem write_nil (v lp : Value) (w : World) : Calls Tryz.prog 48 #[.pointer none, lp, v] w fun e w' => e = .returned (.int .i64 1) ∧ w' = w := by
  go_enter Tryz.func48, Tryz.ntmps48
  go_wp2_with (go_at_call 71; refine (isNone_nil _).mono ?_; rintro e w' ⟨rfl, rfl⟩)
  go_ret
  exact ⟨rfl, rfl⟩
end Go.Proofs.YtnhhkoekghjogaaGreatDoor.Kc
