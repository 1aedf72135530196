/- The document's ledger that is handed in, or none; the document's Permute with it. What the document's Bytes answers. A sponge of the document: its cells; what New, none, Rate, Shut, Clone answer. What a sponge of the document answers: permuted, Write, Close. What a sponge of the document answers: Close, Clone, Wipe. -/
import Derived.Test.YtnhhkoekghjogaaGreatDoorQrp
import Derived.Test.YtnhhkoekghjogaaGreatDoorKd
import Derived.Test.YtnhhkoekghjogaaGreatDoorRref
import Derived.Test.YtnhhkoekghjogaaGreatDoorKc
import Derived.Test.YtnhhkoekghjogaaGreatDoorSfm
namespace Go.Proofs.YtnhhkoekghjogaaGreatDoor.Kc
open Go.ChangeShapes Go.WideShapes Go.ChangeAt Go.RowKit
open Go.Proofs.YtnhhkoekghjogaaGreatDoor.By Go.Proofs.YtnhhkoekghjogaaGreatDoor.Wd
/-- The document's ledger (if there is one) has L; of the blocks that were there in w0 it has only such as S names. -/
def RG (S : Nat → Prop) (w0 w : World) (lo : Option Nat) (L : List Rn) : Prop :=
  match lo with
  | none => True
  | some lb => S lb ∧ ∃ rv, RLed w lb rv L ∧ ∀ g, rv.ownBlock = some g → g < w0.heap.size → S g
theorem rled_apart {w : World} {lb : Nat} {rv : Value} {L : List Rn} (h : RLed w lb rv L) {g : Nat} {cs : List Value} {t : TypeId} (hg : Blk w g cs t) (h1 : t ≠ 61) (h2 : t ≠ 81) : ¬ (g = lb ∨ rv.ownBlock = some g) := by
  rintro (e | e)
  · subst e
    have := Option.some.inj (hg.symm.trans h.here)
    simp only [Obj.cells.injEq] at this
    exact h1 this.2.1
  · obtain ⟨c, hc⟩ := own_type h.own e
    have := Option.some.inj (hg.symm.trans hc)
    simp only [Obj.cells.injEq] at this
    exact h2 this.2.1
/-- Blocks that are no ledger's of the document's stay. -/
def Kr (w w' : World) : Prop := ∀ g cs t, Blk w g cs t → t ≠ 61 → t ≠ 81 → Blk w' g cs t
theorem RG.kept {S : Nat → Prop} {w0 w w' : World} {lo : Option Nat} {L : List Rn} {T : Nat → Prop} (h : RG S w0 w lo L) (hk : Kp T w w') (hT : ∀ g, T g → ∃ cs t, Blk w g cs t ∧ t ≠ 61 ∧ t ≠ 81) : RG S w0 w' lo L := by
  cases lo with
  | none => exact trivial
  | some lb =>
    obtain ⟨hs, rv, hl, ho⟩ := h
    refine ⟨hs, rv, hl.kept hk (fun e => ?_) (fun g hg e => ?_), ho⟩
    · obtain ⟨cs, t, hb, h1, h2⟩ := hT _ e
      exact rled_apart hl hb h1 h2 (.inl rfl)
    · obtain ⟨cs, t, hb, h1, h2⟩ := hT _ e
      exact rled_apart hl hb h1 h2 (.inr hg)
theorem RG.below {S : Nat → Prop} {w0 w w' : World} {lo : Option Nat} {L : List Rn} (h : RG S w0 w lo L) (hb : Below w.heap.size w w') : RG S w0 w' lo L := h.kept (Kp.of_below (fun _ => False) hb) (fun _ e => e.elim)
theorem rnote_lg (S : Nat → Prop) (w0 w : World) (lo : Option Nat) (L : List Rn) (k s : Int) (hk : 0 ≤ k ∧ k < 256) (hs : 0 ≤ s ∧ s ≤ 1000) (h : RG S w0 w lo L) (h0 : Kp S w0 w) (hr : Room L) :
    Calls Tryz.prog 84 #[lpv lo, .agg #[.int .u8 k, .int .i64 s]] w fun e w' => e = .returned (.tuple #[]) ∧ RG S w0 w' lo (putL L ⟨k, s, 1⟩) ∧ Kp S w0 w' ∧ Kr w w' := by
  cases lo with
  | none =>
    refine (refNoteN k s w).mono ?_
    rintro e w' ⟨rfl, hb⟩
    exact ⟨rfl, trivial, h0.trans (Kp.of_below S hb) (fun _ _ e => e), fun g cs t hg _ _ => hg.below hb⟩
  | some lb =>
    obtain ⟨hs1, rv, hl, ho⟩ := h
    have hrl := room_len hr
    have hrt := hr.1
    refine (refNote42 lb rv L k s w hl ⟨hk, ⟨by show -9223372036854775808 ≤ s; omega, by show s ≤ 9223372036854775807; omega⟩, by show -9223372036854775808 ≤ (1 : Int) ∧ (1 : Int) ≤ 9223372036854775807; omega⟩ (by omega) hrl).mono ?_
    rintro e w' ⟨rfl, rv', hl', hkp, hsn⟩
    refine ⟨rfl, ⟨hs1, rv', hl', fun g hg hlt => ?_⟩, h0.trans hkp ?_, fun g cs t hg h1 h2 => hg.kept hkp (rled_apart hl hg h1 h2)⟩
    · rcases hsn with e | e
      · exact ho g (by rw [← e]; exact hg) hlt
      · have := e g hg; have := h0.size; omega
    · rintro i hi (rfl | e)
      · exact hs1
      · exact ho i e hi
set_option maxRecDepth 4000 in
set_option maxHeartbeats 2000000 in
theorem rpermute1 (S : Nat → Prop) (w0 w : World) (lo : Option Nat) (L : List Rn) (a : Nat → Int) (ha : AW a) (h : RG S w0 w lo L) (h0 : Kp S w0 w) (hr : Room L) :
    Calls Tryz.prog 88 #[lpv lo, .agg (wl 25 a).toArray] w fun e w' => e = .returned (.agg (wl 25 (perm a)).toArray) ∧ RG S w0 w' lo (putL L ⟨3, 200, 1⟩) ∧ Kp S w0 w' ∧ Kr w w' := by
  have HA := hid ha
  have HL0 := hid h
  have HP0 := hid h0
  have HR := hid hr
  have hz0 := h0.size
  clear ha h h0 hr
  go_enter Tryz.func88, Tryz.ntmps88
  go_wp2_with fail
  have q1 : Below w.heap.size w ((w.alloc (.cells (wl 25 a).toArray 121)).alloc (.cells (wl 25 (fun _ => 0)).toArray 121)) := below_next (below_alloc w _) (below_alloc _ _)
  rw [← z25] at q1
  refine (rnote_lg S w0 _ lo L 3 200 (by omega) (by omega) (HL0.out.below q1) (HP0.out.trans (Kp.of_below S q1) (fun _ _ e => e)) HR.out).mono ?_
  rintro e w1 ⟨rfl, hl1, hp1, ht1⟩
  have B0 := hid (ht1 _ _ _ ((Blk.new w (wl 25 a) 121).alloc _) (by decide) (by decide))
  have B1 := hid (ht1 _ _ _ (Blk.newAt (w.alloc (.cells (wl 25 a).toArray 121)) _ (wl 25 (fun _ => 0)) 121 (w.heap.size + 1) (by rw [size_alloc]) z25) (by decide) (by decide))
  have HL := hid hl1
  have HP := hid hp1
  have HB : Hid (Kr w w1) := fun g cs t hg n1 n2 => ht1 g cs t (hg.below q1) n1 n2
  clear q1 hl1 hp1 ht1 HL0 HP0
  go_wp2_with fail
  go_loopw [5] (fun i wr => ∃ k : Nat, k ≤ 24 ∧ i = .int .i64 k ∧ Blk wr w.heap.size (wl 25 (rds a k)) 121 ∧ Blk wr (w.heap.size + 1) (wl 25 (fun _ => 0)) 121 ∧ RG S w0 wr lo (putL L ⟨3, 200, 1⟩) ∧ Kp S w0 wr ∧ Kr w wr) (fun i _ => 24 - (intOf i).toNat)
  case atStart => exact ⟨0, Nat.zero_le _, rfl, B0.out, B1.out, HL.out, HP.out, HB.out⟩
  case round =>
    clear B0 B1 HB HL HP
    obtain ⟨k, hk, rfl, b0, b1, hl, hp, hbel⟩ := hrel
    have HL := hid hl
    have HP := hid hp
    have B0 := hid b0
    have B1 := hid b1
    have HB := hid hbel
    have HZ := hid b1.lt
    clear b0 b1 hbel hl hp
    by_cases hlt : k < 24
    · have LS : Hid (∀ d, (LDt ⟨w.heap.size, 0, none⟩).run Tryz.prog (wr.drewN d) = .ok (.agg (wl 25 (rds a k)).toArray) (wr.drewN d)) := fun d => LDt_run ((B0.out.drewN d).range 0 _ (fun j v h => by rw [Nat.zero_add]; exact h)) (wl_length _ _)
      have l1 : (LDt ⟨w.heap.size, 0, none⟩).run Tryz.prog wr.drew = .ok (.agg (wl 25 (rds a k)).toArray) wr.drew := LS.out 1
      have HW := hid (rds_w HA.out k)
      go_wp2_with fail
      go_region_with (first | (go_at_call 96; go_must (refine (constant1 k hlt _).mono ?_; rintro e w' ⟨rfl, d, rfl⟩; have l3 := LS.out (1 + d); have l4 : (LDt ⟨w.heap.size, 0, none⟩).run Tryz.prog (wr.drew.drewN d) = .ok (.agg (wl 25 (rds a k)).toArray) (wr.drew.drewN d) := by rw [show wr.drew.drewN d = wr.drewN (1 + d) from drewN_two wr 1 d]; exact LS.out (1 + d))) | (go_at_call 95; go_must (refine (round1 (rds a k) HW.out (RC k) _).mono ?_; rintro e w2 ⟨rfl, hb2⟩; have hb := hid (show Below wr.heap.size wr w2 from ⟨hb2.os, hb2.tape, hb2.output, hb2.size, hb2.block⟩); have s1 := SVt_run (cs := wl 25 (rd (RC k) (rds a k))) ((B0.out.below hb.out).there 0 25 (by rw [wl_length]; omega)) (wl_length _ _) (wl_one _ _); clear hb2)))
      all_goals
        go_wp2_with fail
        have hz := HZ.out
        have b3 := (B0.out.below hb.out).put 0 (wl 25 (rd (RC k) (rds a k)))
        rw [put_all _ _ (by rw [wl_length, wl_length])] at b3
        exact ⟨⟨k + 1, by omega, by go_num, b3, (B1.out.below hb.out).kept (Kp.setCells _ 0 _) (by omega), (HL.out.below hb.out).kept (Kp.setCells _ 0 _) (fun g e => by subst e; exact ⟨_, _, B0.out.below hb.out, by decide, by decide⟩), (HP.out.trans (Kp.of_below S hb.out) (fun _ _ e => e)).trans (Kp.setCells _ 0 _) (fun i hi e => by omega), fun g cs t hg n1 n2 => ((HB.out g cs t hg n1 n2).below hb.out).kept (Kp.setCells _ 0 _) (by have := hg.lt; omega)⟩, by simp [intOf]; omega⟩
    · have ek : k = 24 := by omega
      subst ek
      have l1 := LDt_run (B0.out.range 0 _ (fun j v h => by rw [Nat.zero_add]; exact h)) (wl_length _ _)
      have s1 := SVt_run (cs := wl 25 (rds a 24)) (B1.out.there 0 25 (by rw [wl_length]; omega)) (wl_length _ _) (wl_one _ _)
      have b3 := B1.out.put 0 (wl 25 (rds a 24))
      rw [put_all _ _ (by rw [wl_length, wl_length])] at b3
      have l2 := hid (LDt_run (b3.range 0 _ (fun j v h => by rw [Nat.zero_add]; exact h)) (wl_length _ _))
      clear b3
      go_wp2
      have hz := HZ.out
      refine bodyPost_ret (v := .agg (wl 25 (rds a 24)).toArray) ?_ rfl ⟨rfl, HL.out.kept (Kp.setCells _ 0 _) (fun g e => by subst e; exact ⟨_, _, B1.out, by decide, by decide⟩), HP.out.trans (Kp.setCells _ 0 _) (fun i hi e => by omega), fun g cs t hg n1 n2 => (HB.out g cs t hg n1 n2).kept (Kp.setCells _ 0 _) (by have := hg.lt; omega)⟩
      exact results_cell1 Tryz.results88 rfl l2.out
end Go.Proofs.YtnhhkoekghjogaaGreatDoor.Kc
namespace Go.Proofs.YtnhhkoekghjogaaGreatDoor.Kc
open Go.ChangeShapes Go.WideShapes Go.ChangeAt Go.RowKit
open Go.Proofs.YtnhhkoekghjogaaGreatDoor.By Go.Proofs.YtnhhkoekghjogaaGreatDoor.Wd
/-- The first n bytes. -/
def bn (a : Nat → Int) (n i : Nat) : Int := if i < n then bf a i else 0
theorem bn_zero (a : Nat → Int) : bl 200 (fun _ => (0 : Int)) = bl 200 (bn a 0) := bl_congr 200 _ _ (fun i _ => by unfold bn; rw [if_neg (by omega)])
theorem bn_end (a : Nat → Int) : bl 200 (bn a 200) = bl 200 (bf a) := bl_congr 200 _ _ (fun i hi => by unfold bn; rw [if_pos hi])
theorem bn_next (a : Nat → Int) (n : Nat) (x : Int) (hx : x = bf a n) : (bl 200 (bn a n)).set n (.int .u8 x) = bl 200 (bn a (n + 1)) := by
  rw [bl_set]
  refine bl_congr 200 _ _ (fun i _ => ?_)
  unfold bn
  by_cases h : i = n
  · rw [if_pos h, if_pos (by omega), h, hx]
  · rw [if_neg h]
    by_cases h2 : i < n
    · rw [if_pos h2, if_pos (by omega)]
    · rw [if_neg h2, if_neg (by omega)]
theorem bn_val (a : Nat → Int) (n : Nat) : a (n / 8) / 2 ^ (8 * (n % 8)) % 256 = bf a n := by
  unfold bf leByte
  rw [Int.pow_mul]; rfl
set_option maxRecDepth 4000 in
set_option maxHeartbeats 2000000 in
theorem refBytes1 (a : Nat → Int) (ha : AW a) (w : World) :
    Calls Tryz.prog 87 #[.agg (wl 25 a).toArray] w fun e w' => e = .returned (.agg (bl 200 (bf a)).toArray) ∧ Below w.heap.size w w' := by
  have HA := hid ha
  clear ha
  go_enter Tryz.func87, Tryz.ntmps87
  go_wp2_with fail
  go_loopw [4] (fun i wr => ∃ n : Nat, n ≤ 200 ∧ i = .int .i64 n ∧ Blk wr w.heap.size (wl 25 a) 121 ∧ Blk wr (w.heap.size + 1) (bl 200 (fun _ => 0)) 107 ∧ Blk wr (w.heap.size + 1 + 1) (bl 200 (bn a n)) 107 ∧ Below w.heap.size w wr) (fun i _ => 200 - (intOf i).toNat)
  case atStart =>
    refine ⟨0, Nat.zero_le _, rfl, ((Blk.new w _ _).alloc _).alloc _, (Blk.newAt _ _ _ _ _ (by rw [size_alloc]) rfl).alloc _, Blk.newAt _ _ _ _ _ (by rw [size_alloc, size_alloc]) (by rw [← bn_zero]; rfl), ?_⟩
    exact below_next (below_next (below_alloc w _) (below_alloc _ _)) (below_alloc _ _)
  case round =>
    obtain ⟨n, hn, rfl, b0, b1, b2, hbel⟩ := hrel
    have B0 := hid b0
    have B1 := hid b1
    have B2 := hid b2
    have HB := hid hbel
    have HZ := hid b2.lt
    clear b0 b1 b2 hbel
    by_cases hlt : n < 200
    · have c0 := B0.out.cell (n / 8) _ (wl_get 25 a (n / 8) (by omega))
      have c2 := B2.out.cell n _ (bl_get 200 _ n hlt)
      have f2 := B2.out.frozen n
      have eq : ((n : Int)).tdiv 8 = ((n / 8 : Nat) : Int) := by rw [Int.tdiv_eq_ediv_of_nonneg (by omega)]; omega
      have er : ((n : Int)).tmod 8 = ((n % 8 : Nat) : Int) := by rw [Int.tmod_eq_emod_of_nonneg (by omega)]; omega
      have HN := hid (bn_next a n _ (bn_val a n))
      have hx := HA.out (n / 8)
      have hx0 := hx.1
      have hx1 := hx.2
      clear hx
      have hq : n / 8 < 25 := by omega
      have hr : n % 8 < 8 := by omega
      have i0 : ((n / 8 : Nat) : Int) < 25 := by omega
      obtain ⟨x, ex⟩ : ∃ z, a (n / 8) = z := ⟨_, rfl⟩
      rw [ex] at c0 HN hx0 hx1
      obtain ⟨m, em⟩ : ∃ z, bn a n n = z := ⟨_, rfl⟩
      rw [em] at c2
      clear ex em
      generalize n / 8 = q at *
      generalize n % 8 = r at *
      go_wp2_with fail
      have hz := HZ.out
      refine ⟨⟨n + 1, by omega, by go_num, B0.out.other (by omega) _ _, B1.out.other (by omega) _ _, ?_, below_set HB.out _ _ _ (by omega) (by omega)⟩, by simp [intOf]; omega⟩
      rw [← HN.out]
      exact B2.out.set _ _
    · have ek : n = 200 := by omega
      subst ek
      rw [bn_end] at B2
      have l1 := LDb_run (B2.out.range 0 _ (fun j v h => by rw [Nat.zero_add]; exact h)) (bl_length _ _)
      have s1 := SVb_run (cs := bl 200 (bf a)) (B1.out.there 0 200 (by rw [bl_length]; omega)) (bl_length _ _) (bl_one _ _)
      have b3 := B1.out.put 0 (bl 200 (bf a))
      rw [put_all _ _ (by rw [bl_length, bl_length])] at b3
      have l2 := hid (LDb_run (b3.range 0 _ (fun j v h => by rw [Nat.zero_add]; exact h)) (bl_length _ _))
      clear b3
      go_wp2
      have hz := HZ.out
      refine bodyPost_ret (v := .agg (bl 200 (bf a)).toArray) ?_ rfl ⟨rfl, below_cells HB.out _ _ _ (by omega) (by omega)⟩
      exact results_cell1 Tryz.results87 rfl l2.out
end Go.Proofs.YtnhhkoekghjogaaGreatDoor.Kc
namespace Go.Proofs.YtnhhkoekghjogaaGreatDoor.Kc
open Go.ChangeShapes Go.WideShapes Go.ChangeAt Go.RowKit
open Go.Proofs.YtnhhkoekghjogaaGreatDoor.By Go.Proofs.YtnhhkoekghjogaaGreatDoor.Wd
/-- A sponge's cells. -/
def rsc (f : Nat → Int) (r sf p : Int) (sh : Bool) : List Value := bl 200 f ++ [.int .i64 r, .int .u8 sf, .int .i64 p, .bool sh, .bool false]
section
variable (f : Nat → Int) (r sf p : Int) (sh : Bool)
theorem rsc_length : (rsc f r sf p sh).length = 205 := by simp [rsc, bl_length]
theorem rsc_b (i : Nat) (v : Value) (hv : (bl 200 f)[i]? = some v) : (rsc f r sf p sh)[i]? = some v := by
  have hi : i < 200 := by have := (List.getElem?_eq_some_iff.1 hv).1; rwa [bl_length] at this
  unfold rsc
  rw [List.getElem?_append_left (by rw [bl_length]; exact hi)]; exact hv
theorem rsc_at (i : Nat) (h : i < 200) : (rsc f r sf p sh)[i]? = some (.int .u8 (f i)) := rsc_b _ _ _ _ _ _ _ (bl_get 200 f i h)
theorem rsc_t (j : Nat) : (rsc f r sf p sh)[200 + j]? = [Value.int .i64 r, .int .u8 sf, .int .i64 p, .bool sh, .bool false][j]? := by
  unfold rsc
  rw [List.getElem?_append_right (by rw [bl_length]; omega), bl_length, Nat.add_sub_cancel_left]
theorem rsc_r : (rsc f r sf p sh)[200]? = some (.int .i64 r) := rsc_t f r sf p sh 0
theorem rsc_sf : (rsc f r sf p sh)[201]? = some (.int .u8 sf) := rsc_t f r sf p sh 1
theorem rsc_p : (rsc f r sf p sh)[202]? = some (.int .i64 p) := rsc_t f r sf p sh 2
theorem rsc_s : (rsc f r sf p sh)[203]? = some (.bool sh) := rsc_t f r sf p sh 3
theorem rsc_g : (rsc f r sf p sh)[204]? = some (.bool false) := rsc_t f r sf p sh 4
theorem rsc_one : ∀ u ∈ rsc f r sf p sh, u.oneCell' = true := by
  intro u hu
  simp only [rsc, List.mem_cons, List.mem_append, List.not_mem_nil, or_false] at hu
  rcases hu with hu | rfl | rfl | rfl | rfl | rfl
  · exact bl_one _ _ u hu
  all_goals rfl
theorem rsc_ext (cs : List Value) (hl : cs.length = 205) (hb : ∀ i, i < 200 → cs[i]? = some (.int .u8 (f i))) (h0 : cs[200]? = some (.int .i64 r)) (h1 : cs[201]? = some (.int .u8 sf)) (hp : cs[202]? = some (.int .i64 p)) (hs : cs[203]? = some (.bool sh)) (hg : cs[204]? = some (.bool false)) : cs = rsc f r sf p sh := by
  apply List.ext_getElem?
  intro i
  by_cases h : i < 205
  · by_cases e2 : i < 200
    · rw [hb i e2, rsc_at _ _ _ _ _ i e2]
    · obtain ⟨j, rfl⟩ : ∃ j, i = 200 + j := ⟨i - 200, by omega⟩
      have hj : j < 5 := by omega
      match j, hj with
      | 0, _ => rw [h0, rsc_r]
      | 1, _ => rw [h1, rsc_sf]
      | 2, _ => rw [hp, rsc_p]
      | 3, _ => rw [hs, rsc_s]
      | 4, _ => rw [hg, rsc_g]
  · rw [List.getElem?_eq_none (by omega), List.getElem?_eq_none (by rw [rsc_length]; omega)]
theorem rsc_setp (p' : Int) : (rsc f r sf p sh).set 202 (.int .i64 p') = rsc f r sf p' sh := by
  refine rsc_ext _ _ _ _ _ _ (by simp [rsc_length]) (fun i hi => ?_) ?_ ?_ ?_ ?_ ?_ <;> rw [List.getElem?_set]
  · rw [if_neg (by omega)]; exact rsc_at _ _ _ _ _ _ hi
  · rw [if_neg (by omega)]; exact rsc_r _ _ _ _ _
  · rw [if_neg (by omega)]; exact rsc_sf _ _ _ _ _
  · rw [if_pos rfl, if_pos (by rw [rsc_length]; omega)]
  · rw [if_neg (by omega)]; exact rsc_s _ _ _ _ _
  · rw [if_neg (by omega)]; exact rsc_g _ _ _ _ _
theorem rsc_sets (sh' : Bool) : (rsc f r sf p sh).set 203 (.bool sh') = rsc f r sf p sh' := by
  refine rsc_ext _ _ _ _ _ _ (by simp [rsc_length]) (fun i hi => ?_) ?_ ?_ ?_ ?_ ?_ <;> rw [List.getElem?_set]
  · rw [if_neg (by omega)]; exact rsc_at _ _ _ _ _ _ hi
  · rw [if_neg (by omega)]; exact rsc_r _ _ _ _ _
  · rw [if_neg (by omega)]; exact rsc_sf _ _ _ _ _
  · rw [if_neg (by omega)]; exact rsc_p _ _ _ _ _
  · rw [if_pos rfl, if_pos (by rw [rsc_length]; omega)]
  · rw [if_neg (by omega)]; exact rsc_g _ _ _ _ _
theorem rsc_setb (i : Nat) (x : Int) (h : i < 200) : (rsc f r sf p sh).set i (.int .u8 x) = rsc (fun j => if j = i then x else f j) r sf p sh := by
  refine rsc_ext _ _ _ _ _ _ (by simp [rsc_length]) (fun j hj => ?_) ?_ ?_ ?_ ?_ ?_ <;> rw [List.getElem?_set]
  · by_cases e : j = i
    · subst e; rw [if_pos rfl, if_pos (by rw [rsc_length]; omega), if_pos rfl]
    · rw [if_neg (by omega), if_neg e]; exact rsc_at _ _ _ _ _ _ hj
  · rw [if_neg (by omega)]; exact rsc_r _ _ _ _ _
  · rw [if_neg (by omega)]; exact rsc_sf _ _ _ _ _
  · rw [if_neg (by omega)]; exact rsc_p _ _ _ _ _
  · rw [if_neg (by omega)]; exact rsc_s _ _ _ _ _
  · rw [if_neg (by omega)]; exact rsc_g _ _ _ _ _
theorem rsc_put (g : Nat → Int) : put (rsc f r sf p sh) 0 (bl 200 g) = rsc g r sf p sh := by
  refine rsc_ext _ _ _ _ _ _ (by rw [put_length, rsc_length]) (fun i hi => ?_) ?_ ?_ ?_ ?_ ?_ <;> rw [put_get _ _ _ _ (by rw [rsc_length, bl_length]; omega), bl_length]
  · rw [if_pos (by omega), Nat.sub_zero]; exact bl_get 200 g i hi
  · rw [if_neg (by omega)]; exact rsc_r _ _ _ _ _
  · rw [if_neg (by omega)]; exact rsc_sf _ _ _ _ _
  · rw [if_neg (by omega)]; exact rsc_p _ _ _ _ _
  · rw [if_neg (by omega)]; exact rsc_s _ _ _ _ _
  · rw [if_neg (by omega)]; exact rsc_g _ _ _ _ _
end
/-- The document's sponge in block b. -/
structure RSp (w : World) (b r : Nat) (sf : Int) (z : Z) (sh : Bool) : Prop where
  here : Blk w b (rsc z.f r sf z.p sh) 114
  ok : z.Ok r sh
  lo : 8 ≤ r
  hi : r ≤ 192
  sf : 0 ≤ sf ∧ sf < 256
def NoRSp (w : World) (b : Nat) : Prop := ∃ cs, Blk w b cs 114 ∧ cs[204]? = some (.bool true)
section
variable {w w' : World} {b r : Nat} {sf : Int} {z : Z} {sh : Bool}
theorem RSp.kept {S : Nat → Prop} (h : RSp w b r sf z sh) (hk : Kp S w w') (hn : ¬ S b) : RSp w' b r sf z sh := ⟨h.here.kept hk hn, h.ok, h.lo, h.hi, h.sf⟩
theorem RSp.below (h : RSp w b r sf z sh) (hb : Below w.heap.size w w') : RSp w' b r sf z sh := ⟨h.here.below hb, h.ok, h.lo, h.hi, h.sf⟩
theorem RSp.cg (h : RSp w b r sf z sh) : w.cell? ⟨b, 204, none⟩ = some (.bool false) := h.here.cell 204 _ (rsc_g _ _ _ _ _)
theorem RSp.cr (h : RSp w b r sf z sh) : w.cell? ⟨b, 200, none⟩ = some (.int .i64 r) := h.here.cell 200 _ (rsc_r _ _ _ _ _)
theorem RSp.cp (h : RSp w b r sf z sh) : w.cell? ⟨b, 202, none⟩ = some (.int .i64 z.p) := h.here.cell 202 _ (rsc_p _ _ _ _ _)
theorem RSp.cs (h : RSp w b r sf z sh) : w.cell? ⟨b, 203, none⟩ = some (.bool sh) := h.here.cell 203 _ (rsc_s _ _ _ _ _)
theorem NoRSp.cg (h : NoRSp w b) : w.cell? ⟨b, 204, none⟩ = some (.bool true) := by
  obtain ⟨cs, h, h2⟩ := h; exact h.cell 204 _ h2
theorem NoRSp.below (h : NoRSp w b) (hb : Below w.heap.size w w') : NoRSp w' b := by
  obtain ⟨cs, h, h2⟩ := h; exact ⟨cs, h.below hb, h2⟩
end
theorem none_is (b : Nat) (x : Bool) (w : World) (h : w.cell? ⟨b, 204, none⟩ = some (.bool x)) : Calls Tryz.prog 76 #[.pointer (some ⟨b, 0, none⟩)] w fun e w' => e = .returned (.bool x) ∧ w' = w := by
  go_enter Tryz.func76, Tryz.ntmps76
  go_wp2
  go_ret
  exact ⟨rfl, rfl⟩
theorem none_nil (w : World) : Calls Tryz.prog 76 #[.pointer none] w fun e w' => e = .returned (.bool true) ∧ w' = w := by
  go_enter Tryz.func76, Tryz.ntmps76
  go_wp2
  go_ret
  exact ⟨rfl, rfl⟩
set_option maxRecDepth 4000 in
theorem rnewBad (rate sf : Int) (w : World) (h : rate < 8 ∨ 192 < rate ∨ ¬ rate % 8 = 0) : Calls Tryz.prog 74 #[.int .i64 rate, .int .u8 sf] w fun e w' => e = .returned (.tuple #[.pointer none, .int .i64 2]) ∧ w' = w := by
  by_cases h1 : rate < 8
  · go_enter Tryz.func74, Tryz.ntmps74
    go_wp2
    go_ret2
    exact ⟨rfl, rfl⟩
  · by_cases h2 : 192 < rate
    · go_enter Tryz.func74, Tryz.ntmps74
      go_wp2
      go_ret2
      exact ⟨rfl, rfl⟩
    · have h3 : ¬ rate % 8 = 0 := by omega
      have h4 : ¬ rate.tmod 8 = 0 := by rw [Int.tmod_eq_emod_of_nonneg (by omega)]; exact h3
      go_enter Tryz.func74, Tryz.ntmps74
      go_wp2
      go_ret2
      exact ⟨rfl, rfl⟩
set_option maxRecDepth 4000 in
theorem rzero_sp : Tryz.zeroCells114 = (rsc (fun _ => 0) 0 0 0 false).toArray := by kernel_rfl
set_option maxRecDepth 4000 in
theorem rnewA (r sf : Int) : (Tryz.zeroCells114.setIfInBounds 200 (Value.int IntKind.i64 r)).setIfInBounds 201 (Value.int IntKind.u8 sf) = (rsc (fun _ => 0) r sf 0 false).toArray := by
  rw [rzero_sp]
  simp only [List.setIfInBounds_toArray]
  congr 1
set_option maxRecDepth 4000 in
set_option maxHeartbeats 2000000 in
theorem rnewOk (r : Nat) (sf : Int) (w : World) (h1 : 8 ≤ r) (h2 : r ≤ 192) (h3 : r % 8 = 0) (hs : 0 ≤ sf ∧ sf < 256) : Calls Tryz.prog 74 #[.int .i64 r, .int .u8 sf] w fun e w' => e = .returned (.tuple #[.pointer (some ⟨w.heap.size, 0, none⟩), .int .i64 0]) ∧ RSp w' w.heap.size r sf ⟨fun _ => 0, 0, 0⟩ false ∧ Below w.heap.size w w' := by
  have e1 : ¬ (r : Int) < 8 := by omega
  have e2 : ¬ (192 : Int) < r := by omega
  have e3 : (r : Int).tmod 8 = 0 := by rw [Int.tmod_eq_emod_of_nonneg (by omega)]; omega
  have HS := hid hs
  clear hs
  go_enter Tryz.func74, Tryz.ntmps74
  go_wp2
  go_ret2
  exact ⟨rfl, ⟨Blk.newAt _ _ _ _ _ rfl (by rw [rnewA]; rfl), ⟨fun _ => by show (0 : Int) ≤ 0 ∧ (0 : Int) < 256; decide, Nat.zero_le _, fun _ => by show 0 < r; omega⟩, h1, h2, HS.out⟩, below_alloc _ _⟩
/-- No sponge of the document: a nil pointer, or a block without one. -/
def NoR (w : World) (sp : Value) : Prop := sp = .pointer none ∨ ∃ b, sp = .pointer (some ⟨b, 0, none⟩) ∧ NoRSp w b
theorem NoR.below {w w' : World} {sp : Value} (h : NoR w sp) (hb : Below w.heap.size w w') : NoR w' sp := by
  rcases h with h | ⟨b, e, h⟩
  · exact .inl h
  · exact .inr ⟨b, e, h.below hb⟩
section
variable {w : World} {sp : Value}
theorem NoR.isN (h : NoR w sp) : Calls Tryz.prog 76 #[sp] w fun e w' => e = .returned (.bool true) ∧ w' = w := by
  rcases h with rfl | ⟨b, rfl, h⟩
  · exact none_nil w
  · exact none_is b true w h.cg
theorem NoR.read (h : NoR w sp) (n lp : Value) : Calls Tryz.prog 61 #[sp, lp, n] w fun e w' => e = .returned (.tuple #[.slice none 0 0, .int .i64 1]) ∧ w' = w := by
  have H := hid h
  clear h
  go_enter Tryz.func61, Tryz.ntmps61
  go_wp2_with (go_at_call 76; refine H.out.isN.mono ?_; rintro e w' ⟨rfl, rfl⟩)
  go_ret2
  exact ⟨rfl, rfl⟩
theorem NoR.write (h : NoR w sp) (v lp : Value) : Calls Tryz.prog 53 #[sp, lp, v] w fun e w' => e = .returned (.int .i64 1) ∧ w' = w := by
  have H := hid h
  clear h
  go_enter Tryz.func53, Tryz.ntmps53
  go_wp2_with (go_at_call 76; refine H.out.isN.mono ?_; rintro e w' ⟨rfl, rfl⟩)
  go_ret
  exact ⟨rfl, rfl⟩
theorem NoR.close (h : NoR w sp) (lp : Value) : Calls Tryz.prog 82 #[sp, lp] w fun e w' => e = .returned (.int .i64 1) ∧ w' = w := by
  have H := hid h
  clear h
  go_enter Tryz.func82, Tryz.ntmps82
  go_wp2_with (go_at_call 76; refine H.out.isN.mono ?_; rintro e w' ⟨rfl, rfl⟩)
  go_ret
  exact ⟨rfl, rfl⟩
theorem NoR.wipe (h : NoR w sp) (lp : Value) : Calls Tryz.prog 63 #[sp, lp] w fun e w' => e = .returned (.int .i64 1) ∧ w' = w := by
  have H := hid h
  clear h
  go_enter Tryz.func63, Tryz.ntmps63
  go_wp2_with (go_at_call 76; refine H.out.isN.mono ?_; rintro e w' ⟨rfl, rfl⟩)
  go_ret
  exact ⟨rfl, rfl⟩
theorem NoR.clone (h : NoR w sp)  : Calls Tryz.prog 59 #[sp] w fun e w' => e = .returned (.tuple #[.pointer none, .int .i64 1]) ∧ w' = w := by
  have H := hid h
  clear h
  go_enter Tryz.func59, Tryz.ntmps59
  go_wp2_with (go_at_call 76; refine H.out.isN.mono ?_; rintro e w' ⟨rfl, rfl⟩)
  go_ret2
  exact ⟨rfl, rfl⟩
theorem NoR.form (h : NoR w sp)  : Calls Tryz.prog 65 #[sp] w fun e w' => e = .returned (.slice none 0 0) ∧ w' = w := by
  have H := hid h
  clear h
  go_enter Tryz.func65, Tryz.ntmps65
  go_wp2_with (go_at_call 76; refine H.out.isN.mono ?_; rintro e w' ⟨rfl, rfl⟩)
  go_ret
  exact ⟨rfl, rfl⟩
end
end Go.Proofs.YtnhhkoekghjogaaGreatDoor.Kc
namespace Go.Proofs.YtnhhkoekghjogaaGreatDoor.Kc
open Go.ChangeShapes Go.WideShapes Go.ChangeAt Go.RowKit
open Go.Proofs.YtnhhkoekghjogaaGreatDoor.By Go.Proofs.YtnhhkoekghjogaaGreatDoor.Wd
theorem Kr.below {w w' : World} (hb : Below w.heap.size w w') : Kr w w' := fun _ _ _ h _ _ => h.below hb
theorem Kr.trans {a b c : World} (h : Kr a b) (k : Kr b c) : Kr a c := fun g cs t hg h1 h2 => k g cs t (h g cs t hg h1 h2) h1 h2
/-- Blocks that are no sponge's and no ledger's of the document stay. -/
def Kz (w w' : World) : Prop := ∀ g cs t, Blk w g cs t → t ≠ 114 → t ≠ 61 → t ≠ 81 → Blk w' g cs t
set_option maxRecDepth 4000 in
set_option maxHeartbeats 4000000 in
theorem rpermuted_sp (S : Nat → Prop) (w0 w : World) (lo : Option Nat) (L : List Rn) (b r : Nat) (sf : Int) (f : Nat → Int) (p : Int) (sh : Bool) (hf : BB f) (h : RG S w0 w lo L) (h0 : Kp S w0 w) (hr : Room L) (hSb : S b) (hb : Blk w b (rsc f r sf p sh) 114) :
    Calls Tryz.prog 77 #[.pointer (some ⟨b, 0, none⟩), lpv lo] w fun e w' => e = .returned (.tuple #[]) ∧ Blk w' b (rsc (psp f) r sf 0 sh) 114 ∧ RG S w0 w' lo (putL L ⟨3, 200, 1⟩) ∧ Kp S w0 w' ∧ Kz w w' := by
  have HB := hid hb
  have HF := hid hf
  have HL := hid h
  have HP := hid h0
  have HR := hid hr
  have HS := hid hSb
  have l1 := LDb_run (hb.range 0 (bl 200 f) (fun j v h => by rw [Nat.zero_add]; exact rsc_b _ _ _ _ _ j v h)) (bl_length _ _)
  clear hb hf h h0 hr hSb
  go_enter Tryz.func77, Tryz.ntmps77
  go_wp2_with fail
  refine (refFrom1 f HF.out _).mono ?_
  rintro e w1 ⟨rfl, hb1⟩
  have BE1 := hid hb1
  clear hb1 l1
  go_wp2_with fail
  refine (rpermute1 S w0 w1 lo L (fl f) (fl_w HF.out) (HL.out.below BE1.out) (HP.out.trans (Kp.of_below S BE1.out) (fun _ _ e => e)) HR.out).mono ?_
  rintro e w2 ⟨rfl, hl2, hp2, ht2⟩
  have L2 := hid hl2
  have P2 := hid hp2
  have T2 := hid ((Kr.below BE1.out).trans ht2)
  clear hl2 hp2 ht2
  go_wp2_with fail
  refine (refBytes1 (perm (fl f)) (aw_perm (fl_w HF.out)) _).mono ?_
  rintro e w3 ⟨rfl, hb3⟩
  have L3 := hid (L2.out.below hb3)
  have P3 := hid (P2.out.trans (Kp.of_below S hb3) (fun _ _ e => e))
  have T3 := hid (T2.out.trans (Kr.below hb3))
  have B3 := hid (T3.out _ _ _ HB.out (by decide) (by decide))
  clear hb3 L2 P2 T2
  have x1 := SVb_run (cs := bl 200 (bf (perm (fl f)))) (B3.out.there 0 200 (by rw [rsc_length]; omega)) (bl_length _ _) (bl_one _ _)
  have b2 := B3.out.put 0 (bl 200 (bf (perm (fl f))))
  rw [rsc_put] at b2
  have x2 := b2.cell 202 _ (rsc_p _ _ _ _ _)
  have x3 := b2.frozen 202
  have B2 := hid b2
  clear b2
  go_wp2
  go_end0
  refine ⟨rfl, ?_, ?_, ?_, fun g cs t hg n0 n1 n2 => ?_⟩
  · have := B2.out.set 202 (.int .i64 0)
    rw [rsc_setp] at this
    exact this
  · exact (L3.out.kept (Kp.setCells b 0 _) (fun g e => by subst e; exact ⟨_, _, B3.out, by decide, by decide⟩)).kept (Kp.setCell b 202 _) (fun g e => by subst e; exact ⟨_, _, B2.out, by decide, by decide⟩)
  · exact (P3.out.trans (Kp.setCells b 0 _) (fun i _ e => by subst e; exact HS.out)).trans (Kp.setCell b 202 _) (fun i _ e => by have : i = b := e; rw [this]; exact HS.out)
  · have hne : g ≠ b := Blk.ne hg HB.out n0
    exact ((T3.out g cs t hg n1 n2).kept (Kp.setCells b 0 _) hne).kept (Kp.setCell b 202 _) hne
theorem ins_pn {r : Nat} {z : Z} (h : z.p < r) (g : Nat → Int) (k : Nat) : (Z.ins r z g k).p < r := by
  rw [(ins_count h g k).2]; exact Nat.mod_lt _ (by omega)
set_option maxRecDepth 4000 in
set_option maxHeartbeats 4000000 in
theorem rwrite_sp (b r n : Nat) (sf : Int) (v : Value) (z : Z) (g : Nat → Int) (lo : Option Nat) (L : List Rn) (S : Nat → Prop) (w : World) (hst : RSp w b r sf z false) (hSb : S b) (hl : RG S w w lo L) (hp : Pos L)
    (hr : ∀ w', Kp S w w' → By.RB w' v n g) (hmn : n ≤ 9000000) (hroom : Big L) :
    Calls Tryz.prog 53 #[.pointer (some ⟨b, 0, none⟩), lpv lo, v] w fun e w' => e = .returned (.int .i64 0) ∧ RSp w' b r sf (Z.ins r z g n) false ∧ RG S w w' lo (evk L ((Z.ins r z g n).c - z.c)) ∧ Kp S w w' := by
  have h0 := hst.cg
  have h3 := hst.cs
  have H0 := hid hst
  have HS := hid hSb
  have HL := hid hl
  have HP := hid hp
  have HR := hid hr
  have HM := hid hroom
  have hr8 := hst.lo
  have hr192 := hst.hi
  obtain ⟨_, va, vc, rfl, _, _, _⟩ := hr w (Kp.refl _ _)
  clear hst hSb hl hp hr hroom
  go_enter Tryz.func53, Tryz.ntmps53
  go_wp2_with (go_at_call 76; refine (none_is _ _ _ h0).mono ?_; rintro e w ⟨rfl, rfl⟩)
  go_loopw [7] (fun i wr => ∃ k : Nat, k ≤ n ∧ i = .int .i64 k ∧ RSp wr b r sf (Z.ins r z g k) false ∧ RG S w wr lo (evk L ((Z.ins r z g k).c - z.c)) ∧ Kp S w wr) (fun i _ => n - (intOf i).toNat)
  case atStart =>
    refine ⟨0, Nat.zero_le _, rfl, H0.out, ?_, Kp.refl _ _⟩
    rw [show (Z.ins r z g 0).c - z.c = 0 from Nat.sub_self _]; exact HL.out
  case round =>
    obtain ⟨k, hk, rfl, hst, hlg, hkp⟩ := hrel
    have HS1 := hid hst
    have HLG := hid hlg
    have HKP := hid hkp
    clear hst hlg hkp h0 h3
    by_cases hlt : k < n
    · obtain ⟨_, a', cap', he, hc1, hc2, hc⟩ := HR.out wr HKP.out
      simp only [Value.slice.injEq] at he
      obtain ⟨rfl, _, rfl⟩ := he
      rcases hc with ⟨e, _⟩ | ⟨pb, po, rfl, hc⟩
      · omega
      have xg := hc k hlt
      have hp0 : (Z.ins r z g k).p < r := HS1.out.ok.o rfl
      have HCB : Hid (z.c ≤ (Z.ins r z g k).c) := by show z.c ≤ _; rw [(ins_count (H0.out.ok.o rfl) g k).1]; exact Nat.le_add_right _ _
      have HCU : Hid ((Z.ins r z g k).c - z.c ≤ 9000200) := by show _ ≤ _; rw [ins_c (H0.out.ok.o rfl)]; exact Nat.le_trans (Nat.div_le_self _ _) (by have := H0.out.ok.o rfl; omega)
      have HN : Hid (Z.ins r z g (k + 1) = (Z.ins r z g k).inn r (g k)) := rfl
      have HOK := hid (H0.out.ok.ins (show 0 < r by omega) g (k + 1))
      obtain ⟨y, hy⟩ : ∃ y, Z.ins r z g k = y := ⟨_, rfl⟩
      rw [hy] at HS1 HLG hp0 HCB HCU HN
      clear hy hc
      have cp := HS1.out.cp
      have cr := HS1.out.cr
      have ci := HS1.out.here.cell y.p _ (rsc_at _ _ _ _ _ y.p (by omega))
      have fi := HS1.out.here.frozen y.p
      have i1 : y.p < 200 := by omega
      go_wp2_with fail
      go_region
      have b1 := (HS1.out.here.set y.p (.int .u8 (xb (y.f y.p) (g k)))).drewN 1
      rw [rsc_setb _ _ _ _ _ _ _ (by omega)] at b1
      have B1 : Hid (Blk (wr.setCell ⟨b, y.p, none⟩ (.int .u8 (bits BinOp.xor IntKind.u8 (y.f y.p) (g k)))).drew b (rsc (mx y.f y.p (g k)) r sf y.p false) 114) := b1
      have L1 : Hid (RG S w (wr.setCell ⟨b, y.p, none⟩ (.int .u8 (bits BinOp.xor IntKind.u8 (y.f y.p) (g k)))).drew lo (evk L (y.c - z.c))) := (HLG.out.kept (Kp.setCell b y.p _) (fun g e => by subst e; exact ⟨_, _, HS1.out.here, by decide, by decide⟩)).below (below_drewN _ 1)
      have P1 : Hid (Kp S w (wr.setCell ⟨b, y.p, none⟩ (.int .u8 (bits BinOp.xor IntKind.u8 (y.f y.p) (g k)))).drew) := (HKP.out.trans (Kp.setCell b y.p _) (fun i _ e => by have : i = b := e; rw [this]; exact HS.out)).trans (Kp.of_below S (below_drewN _ 1)) (fun _ _ e => e)
      obtain ⟨W1, hW1⟩ : ∃ x, (wr.setCell ⟨b, y.p, none⟩ (.int .u8 (bits BinOp.xor IntKind.u8 (y.f y.p) (g k)))).drew = x := ⟨_, rfl⟩
      rw [hW1] at B1 L1 P1
      rw [hW1]
      clear hW1 b1 cp cr ci fi xg
      obtain ⟨f1, hf1⟩ : ∃ x, mx y.f y.p (g k) = x := ⟨_, rfl⟩
      have HF1 : Hid (BB f1) := by rw [← hf1]; exact mx_b HS1.out.ok.b _ _
      rw [hf1] at B1
      have HE1 := hid hf1
      clear hf1 HS1 HLG HKP
      have cp := B1.out.cell 202 _ (rsc_p _ _ _ _ _)
      have fp := B1.out.frozen 202
      have hw : IntKind.i64.wrap ((y.p : Int) + 1) = (y.p : Int) + 1 := by rw [IntKind.wrap_i64]; omega
      go_wp2_with fail
      have b2 := B1.out.set 202 (.int .i64 ((y.p : Int) + 1))
      rw [rsc_setp] at b2
      have B2 := hid b2
      have L2 := hid (L1.out.kept (Kp.setCell b 202 (.int .i64 ((y.p : Int) + 1))) (fun g e => by subst e; exact ⟨_, _, B1.out, by decide, by decide⟩))
      have P2 := hid (P1.out.trans (Kp.setCell b 202 (.int .i64 ((y.p : Int) + 1))) (fun i _ e => by have : i = b := e; rw [this]; exact HS.out))
      obtain ⟨W2, hW2⟩ : ∃ x, W1.setCell ⟨b, 202, none⟩ (.int .i64 ((y.p : Int) + 1)) = x := ⟨_, rfl⟩
      rw [hW2] at B2 L2 P2
      rw [hW2]
      clear hW2 b2 cp fp B1 L1 P1
      have cp := B2.out.cell 202 _ (rsc_p _ _ _ _ _)
      have cr := B2.out.cell 200 _ (rsc_r _ _ _ _ _)
      by_cases hfull : y.p + 1 = r
      · have he : (y.p : Int) + 1 = (r : Int) := by omega
        go_region
        have B3 := hid (B2.out.drewN 1)
        have L3 := hid (L2.out.below (below_drewN W2 1))
        have P3 := hid (P2.out.trans (Kp.of_below S (below_drewN W2 1)) (fun _ _ e => e))
        clear B2 L2 P2 cp cr
        go_wp2_with fail
        refine (rpermuted_sp S w W2.drew lo _ b r sf f1 _ false HF1.out L3.out P3.out (evk_room HP.out HM.out _ (by have := HCU.out; omega)) HS.out B3.out).mono ?_
        rintro e w4 ⟨rfl, hb4, hl4, hp4, -⟩
        have e4 : Z.ins r z g (k + 1) = ⟨psp f1, 0, y.c + 1⟩ := by rw [HN.out, Z.inn, if_pos hfull, HE1.out]
        have B4 : Hid (RSp w4 b r sf (Z.ins r z g (k + 1)) false) := ⟨by rw [e4]; exact hb4, HOK.out, hr8, hr192, H0.out.sf⟩
        have L4 : Hid (RG S w w4 lo (evk L ((Z.ins r z g (k + 1)).c - z.c))) := by
          rw [e4]
          show RG S w w4 lo (evk L (y.c + 1 - z.c))
          rw [show y.c + 1 - z.c = (y.c - z.c) + 1 from by have := HCB.out; omega]; exact hl4
        have P4 := hid hp4
        clear hb4 hl4 hp4 B3 L3 P3
        go_wp2_with fail
        exact ⟨⟨k + 1, by omega, by go_num, B4.out, L4.out, P4.out⟩, by simp [intOf]; omega⟩
      · have he : ¬ (y.p : Int) + 1 = (r : Int) := by omega
        go_region
        have e4 : Z.ins r z g (k + 1) = ⟨f1, y.p + 1, y.c⟩ := by rw [HN.out, Z.inn, if_neg hfull, HE1.out]
        have B4 : Hid (RSp W2.drew b r sf (Z.ins r z g (k + 1)) false) := ⟨by rw [e4]; exact B2.out.drewN 1, HOK.out, hr8, hr192, H0.out.sf⟩
        have L4 : Hid (RG S w W2.drew lo (evk L ((Z.ins r z g (k + 1)).c - z.c))) := by rw [e4]; exact L2.out.below (below_drewN W2 1)
        have P4 : Hid (Kp S w W2.drew) := P2.out.trans (Kp.of_below S (below_drewN W2 1)) (fun _ _ e => e)
        clear B2 L2 P2 cp cr
        go_wp2_with fail
        exact ⟨⟨k + 1, by omega, by go_num, B4.out, L4.out, P4.out⟩, by simp [intOf]; omega⟩
    · have ek : k = n := by omega
      subst ek
      go_wp2
      go_ret
      exact ⟨rfl, HS1.out, HLG.out, HKP.out⟩
theorem rwrite_shut (b r : Nat) (sf : Int) (z : Z) (v lp : Value) (w : World) (h : RSp w b r sf z true) : Calls Tryz.prog 53 #[.pointer (some ⟨b, 0, none⟩), lp, v] w fun e w' => e = .returned (.int .i64 180) ∧ w' = w := by
  have h0 := h.cg
  have h3 := h.cs
  clear h
  go_enter Tryz.func53, Tryz.ntmps53
  go_wp2_with (go_at_call 76; refine (none_is _ _ _ h0).mono ?_; rintro e w ⟨rfl, rfl⟩)
  go_ret
  exact ⟨rfl, rfl⟩
theorem rclose_shut (b r : Nat) (sf : Int) (z : Z) (lp : Value) (w : World) (h : RSp w b r sf z true) : Calls Tryz.prog 82 #[.pointer (some ⟨b, 0, none⟩), lp] w fun e w' => e = .returned (.int .i64 180) ∧ w' = w := by
  have h0 := h.cg
  have h3 := h.cs
  clear h
  go_enter Tryz.func82, Tryz.ntmps82
  go_wp2_with (go_at_call 76; refine (none_is _ _ _ h0).mono ?_; rintro e w ⟨rfl, rfl⟩)
  go_ret
  exact ⟨rfl, rfl⟩
end Go.Proofs.YtnhhkoekghjogaaGreatDoor.Kc
namespace Go.Proofs.YtnhhkoekghjogaaGreatDoor.Kc
open Go.ChangeShapes Go.WideShapes Go.ChangeAt Go.RowKit
open Go.Proofs.YtnhhkoekghjogaaGreatDoor.By Go.Proofs.YtnhhkoekghjogaaGreatDoor.Wd
set_option maxRecDepth 4000 in
set_option maxHeartbeats 4000000 in
theorem rclose_sp (b r : Nat) (sf : Int) (z : Z) (lo : Option Nat) (L : List Rn) (S : Nat → Prop) (w : World) (hst : RSp w b r sf z false) (hSb : S b) (hl : RG S w w lo L) (hroom : Big L) :
    Calls Tryz.prog 82 #[.pointer (some ⟨b, 0, none⟩), lpv lo] w fun e w' => e = .returned (.int .i64 0) ∧ RSp w' b r sf (Z.fin r sf z) true ∧ RG S w w' lo (evk L 1) ∧ Kp S w w' := by
  have h0 := hst.cg
  have h3 := hst.cs
  have hp := hst.ok.o rfl
  have h192 := hst.hi
  have h8 := hst.lo
  have cp := hst.cp
  have c1 := hst.here.cell 201 _ (rsc_sf _ _ _ _ _)
  have ci := hst.here.cell z.p _ (rsc_at _ _ _ _ _ z.p (by omega))
  have fi := hst.here.frozen z.p
  have i1 : z.p < 200 := by omega
  have H := hid hst
  have HS := hid hSb
  have HL := hid hl
  have HM := hid hroom
  clear hst hSb hl hroom
  go_enter Tryz.func82, Tryz.ntmps82
  go_wp2_with (first | (go_at_call 76; refine (none_is _ _ _ h0).mono ?_; rintro e w ⟨rfl, rfl⟩))
  go_region
  have b1 := (H.out.here.set z.p (.int .u8 (xb (z.f z.p) sf))).drewN 1
  rw [rsc_setb _ _ _ _ _ _ _ (by omega)] at b1
  have B1 : Hid (Blk (w.setCell ⟨b, z.p, none⟩ (.int .u8 (bits BinOp.xor IntKind.u8 (z.f z.p) sf))).drew b (rsc (mx z.f z.p sf) r sf z.p false) 114) := b1
  have L1 : Hid (RG S w (w.setCell ⟨b, z.p, none⟩ (.int .u8 (bits BinOp.xor IntKind.u8 (z.f z.p) sf))).drew lo L) := (HL.out.kept (Kp.setCell b z.p _) (fun g e => by subst e; exact ⟨_, _, H.out.here, by decide, by decide⟩)).below (below_drewN _ 1)
  have P1 : Hid (Kp S w (w.setCell ⟨b, z.p, none⟩ (.int .u8 (bits BinOp.xor IntKind.u8 (z.f z.p) sf))).drew) := ((Kp.refl S w).trans (Kp.setCell b z.p _) (fun i _ e => by have : i = b := e; rw [this]; exact HS.out)).trans (Kp.of_below S (below_drewN _ 1)) (fun _ _ e => e)
  obtain ⟨W1, hW1⟩ : ∃ x, (w.setCell ⟨b, z.p, none⟩ (.int .u8 (bits BinOp.xor IntKind.u8 (z.f z.p) sf))).drew = x := ⟨_, rfl⟩
  rw [hW1] at B1 L1 P1
  rw [hW1]
  clear hW1 b1 h0 h3 c1 cp ci fi
  obtain ⟨f1, hf1⟩ : ∃ x, mx z.f z.p sf = x := ⟨_, rfl⟩
  have HF1 : Hid (BB f1) := by rw [← hf1]; exact mx_b H.out.ok.b _ _
  rw [hf1] at B1
  have HE1 := hid hf1
  clear hf1
  obtain ⟨q, hq⟩ : ∃ q, r = q + 1 := ⟨r - 1, by omega⟩
  subst hq
  have hq2 : ((q + 1 : Nat) : Int) - 1 = (q : Int) := by omega
  have c0 := B1.out.cell 200 _ (rsc_r _ _ _ _ _)
  have ci := B1.out.cell q _ (rsc_at _ _ _ _ _ q (by omega))
  have fi := B1.out.frozen q
  have i2 : q < 200 := by omega
  have hw : IntKind.i64.wrap (((q + 1 : Nat) : Int) - 1) = (q : Int) := by rw [IntKind.wrap_i64]; omega
  go_wp2_with fail
  go_region
  have b2 := (B1.out.set q (.int .u8 (xb (f1 q) 128))).drewN 1
  rw [rsc_setb _ _ _ _ _ _ _ (by omega)] at b2
  have B2 : Hid (Blk (W1.setCell ⟨b, q, none⟩ (.int .u8 (bits BinOp.xor IntKind.u8 (f1 q) 128))).drew b (rsc (mx f1 q 128) (q + 1 : Nat) sf z.p false) 114) := b2
  have L2 : Hid (RG S w (W1.setCell ⟨b, q, none⟩ (.int .u8 (bits BinOp.xor IntKind.u8 (f1 q) 128))).drew lo L) := (L1.out.kept (Kp.setCell b q _) (fun g e => by subst e; exact ⟨_, _, B1.out, by decide, by decide⟩)).below (below_drewN _ 1)
  have P2 : Hid (Kp S w (W1.setCell ⟨b, q, none⟩ (.int .u8 (bits BinOp.xor IntKind.u8 (f1 q) 128))).drew) := (P1.out.trans (Kp.setCell b q _) (fun i _ e => by have : i = b := e; rw [this]; exact HS.out)).trans (Kp.of_below S (below_drewN _ 1)) (fun _ _ e => e)
  obtain ⟨W2, hW2⟩ : ∃ x, (W1.setCell ⟨b, q, none⟩ (.int .u8 (bits BinOp.xor IntKind.u8 (f1 q) 128))).drew = x := ⟨_, rfl⟩
  rw [hW2] at B2 L2 P2
  rw [hW2]
  clear hW2 b2 c0 ci fi B1 L1 P1
  go_wp2_with fail
  refine (rpermuted_sp S w W2 lo L b (q + 1) sf (mx f1 q 128) z.p false (mx_b HF1.out _ _) L2.out P2.out ⟨by have := HM.out.1; omega, by have := HM.out.2; omega⟩ HS.out B2.out).mono ?_
  rintro e w3 ⟨rfl, hb3, hl3, hp3, -⟩
  have B3 := hid hb3
  have L3 := hid hl3
  have P3 := hid hp3
  have x3 := hb3.cell 203 _ (rsc_s _ _ _ _ _)
  have y3 := hb3.frozen 203
  clear hb3 hl3 hp3 B2 L2 P2
  go_wp2
  go_ret
  refine ⟨rfl, ⟨?_, Z.Ok.fin z true sf (by omega), H.out.lo, H.out.hi, H.out.sf⟩, L3.out.kept (Kp.setCell b 203 _) (fun g e => by subst e; exact ⟨_, _, B3.out, by decide, by decide⟩), P3.out.trans (Kp.setCell b 203 _) (fun i _ e => by have : i = b := e; rw [this]; exact HS.out)⟩
  have := B3.out.set 203 (.bool true)
  rw [rsc_sets] at this
  show Blk _ b (rsc (psp (mx (mx z.f z.p sf) (q + 1 - 1) 128)) _ _ ((0 : Nat) : Int) _) _
  rw [show q + 1 - 1 = q from rfl, HE1.out]
  exact this
def LDr (a : Addr) : Sem Value := loadVar 114 a
def SVr (a : Addr) (v : Value) : Sem Unit := storeVar 114 a v
@[go_sem ↓ high] theorem ldr (a : Addr) : loadVar 114 a = LDr a := rfl
@[go_sem ↓ high] theorem svr (a : Addr) (v : Value) : storeVar 114 a v = SVr a v := rfl
theorem infor : (Tryz.prog.info? 114).map (·.size) = some 205 := by kernel_rfl
theorem LDr_run {w : World} {g o : Nat} {cs : List Value} (h : w.rangeAt g o cs) (hl : cs.length = 205) : (LDr ⟨g, o, none⟩).run Tryz.prog w = .ok (.agg cs.toArray) w :=
  run_loadVar_mid w g o _ cs _ h Tryz.underlying114 rfl (by rw [hl]; exact infor)
theorem SVr_run {w : World} {g o : Nat} {cs : List Value} (h : w.there g o 205) (hl : cs.length = 205) (h1 : ∀ u ∈ cs, u.oneCell' = true) : (SVr ⟨g, o, none⟩ (.agg cs.toArray)).run Tryz.prog w = .ok () (w.setCells g o cs) :=
  run_storeVar_mid w g o _ cs.toArray (by simpa [hl] using h) (by simpa [hl] using infor) (all_oneCell_toArray h1)
set_option maxRecDepth 4000 in
theorem rclone_sp (b r : Nat) (sf : Int) (z : Z) (sh : Bool) (w : World) (h : RSp w b r sf z sh) :
    Calls Tryz.prog 59 #[.pointer (some ⟨b, 0, none⟩)] w fun e w' => e = .returned (.tuple #[.pointer (some ⟨w.heap.size, 0, none⟩), .int .i64 0]) ∧ RSp w' w.heap.size r sf z sh ∧ Below w.heap.size w w' := by
  have H := hid h
  have h0 := h.cg
  have x1 := LDr_run (h.here.range 0 (rsc z.f r sf z.p sh) (fun j v hj => by rw [Nat.zero_add]; exact hj)) (rsc_length _ _ _ _ _)
  have bn := Blk.newAt w Tryz.zeroCells114 (rsc (fun _ => 0) 0 0 0 false) 114 w.heap.size rfl rzero_sp
  have x2 := SVr_run (cs := rsc z.f r sf z.p sh) (bn.there 0 205 (by rw [rsc_length]; omega)) (rsc_length _ _ _ _ _) (rsc_one _ _ _ _ _)
  have B := hid bn
  clear bn h
  go_enter Tryz.func59, Tryz.ntmps59
  go_wp2_with (first | (go_at_call 76; refine (none_is _ _ _ h0).mono ?_; rintro e w ⟨rfl, rfl⟩))
  go_ret2
  have b2 := B.out.put 0 (rsc z.f r sf z.p sh)
  rw [put_all _ _ (by rw [rsc_length, rsc_length])] at b2
  exact ⟨rfl, ⟨b2, H.out.ok, H.out.lo, H.out.hi, H.out.sf⟩, below_cells (below_alloc _ _) _ _ _ (Nat.le_refl _) (by rw [size_alloc]; omega)⟩
/-- The cells of a wiped one. -/
def rgone : List Value := (rsc (fun _ => 0) 0 0 0 false).set 204 (.bool true)
theorem rgone_length : rgone.length = 205 := by simp [rgone, rsc_length]
theorem rgone_one : ∀ u ∈ rgone, u.oneCell' = true := by
  intro u hu
  rcases List.mem_or_eq_of_mem_set hu with h | h
  · exact rsc_one _ _ _ _ _ u h
  · subst h; rfl
set_option maxRecDepth 4000 in
theorem rgoneA : Tryz.zeroCells114.setIfInBounds 204 (Value.bool true) = rgone.toArray := by
  rw [rzero_sp]
  simp only [List.setIfInBounds_toArray]
  rfl
set_option maxRecDepth 4000 in
theorem rwipe_sp (b r : Nat) (sf : Int) (z : Z) (sh : Bool) (lo : Option Nat) (L : List Rn) (S : Nat → Prop) (w : World) (h : RSp w b r sf z sh) (hSb : S b) (hl : RG S w w lo L) (hroom : Big L) :
    Calls Tryz.prog 63 #[.pointer (some ⟨b, 0, none⟩), lpv lo] w fun e w' => e = .returned (.int .i64 0) ∧ NoRSp w' b ∧ RG S w w' lo (putL L ⟨8, 203, 1⟩) ∧ Kp S w w' := by
  have H := hid h
  have h0 := h.cg
  have HS := hid hSb
  have HL := hid hl
  have HM := hid hroom
  have x2 := SVr_run (cs := rgone) (h.here.there 0 205 (by rw [rsc_length]; omega)) rgone_length rgone_one
  rw [← rgoneA] at x2
  clear h hSb hl hroom
  go_enter Tryz.func63, Tryz.ntmps63
  go_wp2_with (first | (go_at_call 76; refine (none_is _ _ _ h0).mono ?_; rintro e w ⟨rfl, rfl⟩))
  have b2 := H.out.here.put 0 rgone
  rw [put_all _ _ (by rw [rgone_length, rsc_length])] at b2
  have B1 := hid b2
  have K1 : Hid (Kp S w (w.setCells b 0 rgone)) := (Kp.setCells b _ _).mono (fun k _ e => by have : k = b := e; rw [this]; exact HS.out)
  have L1 : Hid (RG S w (w.setCells b 0 rgone) lo L) := HL.out.kept (Kp.setCells b 0 rgone) (fun g e => by subst e; exact ⟨_, _, H.out.here, by decide, by decide⟩)
  clear b2 x2 h0
  refine (rnote_lg S w _ lo L 8 203 (by decide) (by decide) L1.out K1.out ⟨by have := HM.out.1; omega, by have := HM.out.2; omega⟩).mono ?_
  rintro e W6 ⟨rfl, hl6, hk6, ht6⟩
  have B6 := hid (ht6 _ _ _ B1.out (by decide) (by decide))
  have K6 := hid hk6
  have L6 := hid hl6
  clear hl6 hk6 ht6
  go_wp2
  go_ret
  exact ⟨rfl, ⟨_, B6.out, by unfold rgone; rw [List.getElem?_set, if_pos rfl, if_pos (by rw [rsc_length]; omega)]⟩, L6.out, K6.out⟩
end Go.Proofs.YtnhhkoekghjogaaGreatDoor.Kc
