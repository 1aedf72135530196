/- Variables as things; the document's code. What is recorded of a beginning. -/
import Derived.Test.YtpohogpkfdebdaaGreatDoorOf
import Derived.Test.YtpohogpkfdebdaaGreatDoorOd
namespace Go.Proofs.YtpohogpkfdebdaaGreatDoor.Oc
open Go.ChangeShapes Go.WideShapes Go.ChangeAt Go.RowKit
open Go.Proofs.YtpohogpkfdebdaaGreatDoor.By
open Go.Proofs.YtpohogpkfdebdaaGreatDoor.Sh (Blk size_alloc)
open Go.Proofs.YtpohogpkfdebdaaGreatDoor.Dg (BB LG lpv Lt Tl IsMk MB)
/-- A variable as a thing. -/
def tK (g : Nat) (cs : List Value) (ty : TypeId) : Th where
  F j := j = g
  P W := Blk W g cs ty
  keep h hk hn := h.kept hk (hn _ rfl)
  lt h j hj := by cases (show j = g from hj); exact h.lt
theorem gx_var {w0 W : World} {B : Nat} {t : Nat → Th} (hG : GX w0 B t W) (m : Nat) (cs : List Value) (ty : TypeId) : ∃ t', GX w0 B t' (W.alloc (.cells cs.toArray ty)) ∧ t' m = tK W.heap.size cs ty ∧ But t t' m m :=
  ⟨_, hG.one m (tK W.heap.size cs ty) (Kp.of_below (fun _ => False) (below_alloc _ _)) (fun _ e => e.elim) (Blk.new W cs ty) (fun _ hj => .inr (Nat.le_of_eq hj.symm)), up_at _ _ _, fun _ h1 _ => up_ne _ _ h1⟩
theorem GX.k {w0 W : World} {B m g : Nat} {t : Nat → Th} {cs : List Value} {ty : TypeId} (hG : GX w0 B t W) (hm : t m = tK g cs ty) : Blk W g cs ty := by
  have := hG.all m
  rw [hm] at this
  exact this
theorem gx_led {w0 W : World} {B : Nat} {t : Nat → Th} (hG : GX w0 B t W) (m : Nat) : Calls Tryz.prog 11 #[] W fun e W' => ∃ lb t', e = .returned (pt lb) ∧ GX w0 B t' W' ∧ Ledg t' m (some lb) [] ∧ But t t' m m := by
  refine (new9 W).mono ?_
  rintro e W' ⟨rfl, hl, hb⟩
  refine ⟨W.heap.size, _, rfl, hG.one m (tL W.heap.size (.slice none 0 0) []) (Kp.of_below (fun _ => False) hb) (fun _ e => e.elim) hl (fun j hj => .inr ?_), ⟨_, up_at _ _ _⟩, fun _ h1 _ => up_ne _ _ h1⟩
  rcases hj with e | e
  · exact Nat.le_of_eq e.symm
  · simp [Value.ownBlock] at e
def cel (q : CE) : List Value := [.int .u8 (q.al : Int), .slice q.ka q.kn q.kc, .slice q.ca q.cn q.cc, .int .i64 q.out]
theorem cel_arr (q : CE) : (cel q).toArray = #[.int .u8 (q.al : Int), .slice q.ka q.kn q.kc, .slice q.ca q.cn q.cc, .int .i64 q.out] := rfl
set_option maxRecDepth 20000 in
theorem rknown (a : Nat) (w : World) : Calls Tryz.prog 57 #[.int .u8 (a : Int)] w fun e w' => e = .returned (.bool (decide (1 ≤ a ∧ a ≤ 7))) ∧ w' = w := by
  by_cases h1 : 1 ≤ a
  · have h1' : (1 : Int) ≤ (a : Int) := by omega
    go_enter Tryz.func57, Tryz.ntmps57
    go_wp2
    go_ret
    refine ⟨?_, rfl⟩
    by_cases h7 : a ≤ 7
    · have h7' : (a : Int) ≤ 7 := by omega
      simp [h1, h7, h7']
    · have h7' : ¬ (a : Int) ≤ 7 := by omega
      simp [h7, h7']
  · have h1' : ¬ (1 : Int) ≤ (a : Int) := by omega
    go_enter Tryz.func57, Tryz.ntmps57
    go_wp2
    go_ret
    exact ⟨by simp, rfl⟩
set_option maxRecDepth 20000 in
theorem rcust (a : Nat) (w : World) : Calls Tryz.prog 59 #[.int .u8 (a : Int)] w fun e w' => e = .returned (.bool (cust a)) ∧ w' = w := by
  go_enter Tryz.func59, Tryz.ntmps59
  go_wp2
  go_ret
  refine ⟨?_, rfl⟩
  unfold cust
  by_cases h : 4 ≤ a
  · have h' : (4 : Int) ≤ (a : Int) := by omega
    simp [h, h']
  · have h' : ¬ (4 : Int) ≤ (a : Int) := by omega
    simp [h, h']
set_option maxRecDepth 20000 in
theorem rmost (a : Nat) (w : World) : Calls Tryz.prog 60 #[.int .u8 (a : Int)] w fun e w' => e = .returned (.int .i64 (most a : Int)) ∧ w' = w := by
  by_cases h1 : a = 1
  · subst h1
    go_enter Tryz.func60, Tryz.ntmps60
    go_wp2
    go_ret
    exact ⟨rfl, rfl⟩
  by_cases h3 : a = 3
  · subst h3
    go_enter Tryz.func60, Tryz.ntmps60
    go_wp2
    go_ret
    exact ⟨rfl, rfl⟩
  have g1 : ((a : Int) == 1) = false := by rw [beq_eq_false_iff_ne]; omega
  have g3 : ((a : Int) == 3) = false := by rw [beq_eq_false_iff_ne]; omega
  have k1 : ¬ (a : Int) = 1 := by omega
  have k3 : ¬ (a : Int) = 3 := by omega
  have e : most a = 64 := by unfold most; rw [if_neg h1, if_neg h3]
  rw [e]
  go_enter Tryz.func60, Tryz.ntmps60
  go_wp2
  go_ret
  exact ⟨rfl, rfl⟩
set_option maxRecDepth 20000 in
theorem rkey (a : Nat) (n : Int) (w : World) : Calls Tryz.prog 58 #[.int .u8 (a : Int), .int .i64 n] w fun e w' => e = .returned (.bool (keyOk a n)) ∧ w' = w := by
  by_cases h3 : a = 3
  · subst h3
    have e : keyOk 3 n = decide (n = 16 ∨ n = 24 ∨ n = 32) := rfl
    rw [e]
    by_cases a1 : n = 16
    · subst a1
      go_enter Tryz.func58, Tryz.ntmps58
      go_wp2
      go_ret
      exact ⟨rfl, rfl⟩
    by_cases a2 : n = 24
    · subst a2
      go_enter Tryz.func58, Tryz.ntmps58
      go_wp2
      go_ret
      exact ⟨rfl, rfl⟩
    have b1 : (n == 16) = false := beq_eq_false_iff_ne.2 a1
    have b2 : (n == 24) = false := beq_eq_false_iff_ne.2 a2
    have hd : decide (n = 16 ∨ n = 24 ∨ n = 32) = (n == 32) := by simp [a1, a2]; rfl
    rw [hd]
    go_enter Tryz.func58, Tryz.ntmps58
    go_wp2
    go_ret
    exact ⟨rfl, rfl⟩
  · have g3 : ((a : Int) == 3) = false := by rw [beq_eq_false_iff_ne]; omega
    have k3 : ¬ (a : Int) = 3 := by omega
    have e : keyOk a n = decide (0 ≤ n) := if_neg h3
    rw [e]
    go_enter Tryz.func58, Tryz.ntmps58
    go_wp2
    go_ret
    exact ⟨by simp, rfl⟩
set_option maxRecDepth 20000 in
set_option maxHeartbeats 2000000 in
theorem rcode (a : Nat) (n c q : Int) (w : World) : Calls Tryz.prog 23 #[.int .u8 (a : Int), .int .i64 n, .int .i64 c, .int .i64 q] w fun e w' => e = .returned (.int .i64 (code a n c q)) ∧ w' = w := by
  have R1 := hid (rknown a w)
  have R2 := hid (rkey a n w)
  have R3 := hid (rcust a w)
  have R4 := hid (rmost a w)
  have hcode : code a n c q = if ¬ (1 ≤ a ∧ a ≤ 7) then 4 else if keyOk a n = false then 7 else if 0 < c ∧ cust a = false then 2 else if 64 < c then 9 else if q < 1 ∨ (most a : Int) < q then 11 else 0 := rfl
  have hdk : decide (1 ≤ a ∧ a ≤ 7) = true ↔ (1 ≤ a ∧ a ≤ 7) := decide_eq_true_iff
  generalize code a n c q = z at *
  generalize decide (1 ≤ a ∧ a ≤ 7) = b1 at *
  generalize keyOk a n = b2 at *
  generalize cust a = b3 at *
  generalize most a = mm at *
  have HC := hid hcode
  have HD := hid hdk
  clear hcode hdk
  go_enter Tryz.func23, Tryz.ntmps23
  cases b1 <;> cases b2 <;> cases b3
  all_goals
    go_wp2_with (first
      | (go_at_call 57; refine R1.out.mono ?_; rintro e w' ⟨rfl, rfl⟩)
      | (go_at_call 58; refine R2.out.mono ?_; rintro e w' ⟨rfl, rfl⟩)
      | (go_at_call 59; refine R3.out.mono ?_; rintro e w' ⟨rfl, rfl⟩)
      | (go_at_call 60; refine R4.out.mono ?_; rintro e w' ⟨rfl, rfl⟩))
  all_goals
    go_ret
    refine ⟨?_, rfl⟩
    rw [HC.out]
    have hd := HD.out
    show Ending.returned (.int .i64 _) = _
    congr 2
    simp_all
    try omega
end Go.Proofs.YtpohogpkfdebdaaGreatDoor.Oc
namespace Go.Proofs.YtpohogpkfdebdaaGreatDoor.Oc
open Go.ChangeShapes Go.WideShapes Go.ChangeAt Go.RowKit
open Go.Proofs.YtpohogpkfdebdaaGreatDoor.By
theorem kev_fit (a : Bool) (n : Nat) {k : Nat} {L : List Rn} (hL : Fit k L) (hk : k ≤ 3000000) (hn : n ≤ 3000) : Fit (k + 40000) (Dg.kev a L n) := by
  unfold Dg.kev Dg.ke
  have h1 := Dg.last_le a n
  have h2 : n / Dg.bk a ≤ n := Nat.div_le_self _ _
  by_cases h : Dg.bk a < n
  · rw [if_pos h]
    exact ((hL.evs a (n / Dg.bk a + Dg.last a n) (by omega)).evs a 2 (by omega)).mono (by omega)
  · rw [if_neg h]
    exact (hL.evs a 2 (by omega)).mono (by omega)
theorem eB_fit (a n c : Nat) (g h : Nat → Int) {k : Nat} {L : List Rn} (hL : Fit k L) (hk : k ≤ 3000000) (hn : n ≤ 3000) (hc : c ≤ 64) : Fit (k + 40000) (eB a n g c h L) := by
  unfold eB
  split
  · exact kev_fit false n hL hk hn
  split
  · exact kev_fit true n hL hk hn
  split
  · exact ((hL.put ⟨4, (n : Int), 1⟩ rfl (by omega)).evb (n / 4) 1 (by omega)).mono (by omega)
  split
  · have := Kc.kz_le (st := 128) (.inl ⟨rfl, rfl⟩) n c g h (by omega) (by omega)
    exact (hL.evk _ (by omega)).mono (by omega)
  · have := Kc.kz_le (st := 256) (.inr ⟨rfl, rfl⟩) n c g h (by omega) (by omega)
    exact (hL.evk _ (by omega)).mono (by omega)
theorem tot_evs (a : Bool) (m : Nat) (hm : m ≤ 1000000) : tot (Dg.evs a [] m) = m := by
  cases a with
  | false => have := Sh.evs256_all (L := []) Sg.pos_nil' m (by simp [tot]; omega); simpa [tot, Dg.evs] using this
  | true => have := Sg.evs512_tot (L := []) Sg.pos_nil' m (by simp [tot]; omega); simpa [tot, Dg.evs] using this
theorem kev_pos (a : Bool) (n : Nat) (hn : n ≤ 3000) : 0 < tot (Dg.kev a [] n) := by
  unfold Dg.kev Dg.ke
  have h1 := Dg.last_le a n
  have h2 : n / Dg.bk a ≤ n := Nat.div_le_self _ _
  by_cases h : Dg.bk a < n
  · rw [if_pos h, Dg.evs_add]
    generalize n / Dg.bk a = z at *
    rw [tot_evs _ _ (by omega)]; omega
  · rw [if_neg h, tot_evs _ _ (by omega)]; omega
theorem kz_pos {st : Int} {r : Nat} (hst : Kc.Str st r) (n c : Nat) (g h : Nat → Int) : 0 < (Kc.kz r n g c h).c := by
  have hr := hst.lo
  have hp : r ≤ Kc.pN (Kc.sn n) r := Nat.le_of_dvd (by unfold Kc.pN Kc.pn; omega) (Nat.dvd_of_mod_eq_zero (Kc.pN_mod _ _ (by omega)))
  unfold Kc.kz
  rw [(Kc.ins_count ((Kc.bz_ok hst 4 c Kc.kmc h).o rfl) _ _).1]
  have : 0 < ((Kc.bz r 4 Kc.kmc c h).p + Kc.pN (Kc.sn n) r) / r := Nat.div_pos (by omega) (by omega)
  omega
/-- Something is recorded of a beginning. -/
theorem eB_pos (a n c : Nat) (g h : Nat → Int) (hn : n ≤ 3000) (hc : c ≤ 64) : 0 < tot (eB a n g c h []) := by
  unfold eB
  split
  · exact kev_pos false n hn
  split
  · exact kev_pos true n hn
  split
  · have f1 := Fit.nil.put ⟨4, (n : Int), 1⟩ rfl (by omega)
    have t1 := Kc.putL_tot (L := []) (r := ⟨4, (n : Int), 1⟩) Sg.pos_nil' rfl (by simp [tot])
    rw [Vm.evb_tot f1.pos _ _ (by rw [t1]; simp [tot])]
    rw [t1]; simp [tot]
  split
  · have k1 := kz_pos (st := 128) (.inl ⟨rfl, rfl⟩) n c g h
    have k2 := Kc.kz_le (st := 128) (.inl ⟨rfl, rfl⟩) n c g h (by omega) (by omega)
    rw [Kc.evk_tot Sg.pos_nil' _ (by simp [tot]; omega)]
    simp [tot]; omega
  · have k1 := kz_pos (st := 256) (.inr ⟨rfl, rfl⟩) n c g h
    have k2 := Kc.kz_le (st := 256) (.inr ⟨rfl, rfl⟩) n c g h (by omega) (by omega)
    rw [Kc.evk_tot Sg.pos_nil' _ (by simp [tot]; omega)]
    simp [tot]; omega
end Go.Proofs.YtpohogpkfdebdaaGreatDoor.Oc
