/- What the program's 'put' answers: a run put behind runs, for every list that the call owns and every run; in which memory the longer list lies, and what else may have turned. -/
import Derived.Test.YtpcnkiapbkmjbaaRkit
namespace Go.Proofs.Ytpcnkiapbkmjbaa
open Go.ChangeShapes Go.WideShapes Go.ChangeAt Go.RowKit

/-- A run put behind runs. -/
def putL (L : List Rn) (r : Rn) : List Rn :=
  if r.c < 1 then L else
  match L.getLast? with
  | some q => if q.k = r.k ∧ q.s = r.s then L.set (L.length - 1) ⟨q.k, q.s, sm q.c r.c⟩ else L ++ [r]
  | none => [r]
/-- All counts are 1 or more. -/
def Pos (L : List Rn) : Prop := ∀ q ∈ L, 1 ≤ q.c
theorem sm_bound {a b : Int} (ha : 1 ≤ a) (hb : 1 ≤ b) : 1 ≤ sm a b ∧ sm a b ≤ 9223372036854775807 := by
  unfold sm; split <;> omega
theorem putL_pos {L : List Rn} {r : Rn} (h : Pos L) : Pos (putL L r) := by
  unfold putL
  split
  · exact h
  · rename_i hc
    split
    · rename_i q hq
      have hq1 : q ∈ L := List.mem_of_getLast? hq
      split
      · intro x hx
        rcases List.mem_or_eq_of_mem_set hx with hx | rfl
        · exact h x hx
        · exact (sm_bound (h q hq1) (by omega)).1
      · intro x hx
        rcases List.mem_append.1 hx with hx | hx
        · exact h x hx
        · simp at hx; subst hx; omega
    · intro x hx
      simp at hx; subst hx; omega
theorem putL_len {L : List Rn} {r : Rn} : (putL L r).length ≤ L.length + 1 ∧ L.length ≤ (putL L r).length := by
  unfold putL
  split
  · omega
  · split
    · split <;> simp
    · rename_i h
      rw [List.getLast?_eq_none_iff] at h
      subst h; simp

/-- The same block, or a new one. -/
def SameOrNew (w : World) (v v' : Value) : Prop := v'.ownBlock = v.ownBlock ∨ ∀ g, v'.ownBlock = some g → w.heap.size ≤ g

/-- A list gone on with by one run that lies in a block of its own. -/
theorem wpList_push {w : World} {ops : Array Oper} {rest : List Oper} {o : Oper} {a : Act} {Q : Exit → Act → World → Prop} (hgd : o.guard = none) (s x : Operand)
    (ho : o.op = .call { callee := .builtin .append, args := #[s, x], argTypes := #[47, 47] })
    (base : Nat) (u : Value) (L : List Rn) (r : Rn) (hu : Own w base u L) (hr : r.Ok) (hb0 : base ≤ w.heap.size) (hN : (L.length + 1) * 24 ≤ 140737488355328) (ad : Addr)
    (hs : a.eval s = u) (hx : a.eval x = .slice (some ad) 1 1) (hc : ∀ j u, (rl [r])[j]? = some u → w.cell? (ad.add j) = some u)
    (h : ∀ u' w', Own w' base u' (L ++ [r]) → Kp (fun k => u.ownBlock = some k) w w' → SameOrNew w u u' → wpList Try.prog ops Q rest (a.put o.dst u') w') : wpList Try.prog ops Q (o :: rest) a w := by
  obtain ⟨i0, hi, hz0, hz1, hz2⟩ := info_parts info70
  have hok : ∀ q ∈ L ++ [r], q.Ok := by
    intro q hq
    rcases List.mem_append.1 hq with hq | hq
    · exact hu.1 q hq
    · simp at hq; subst hq; exact hr
  have grows : ∀ (ao : Option Addr) (cap : Nat), u = .slice ao L.length cap → (ao = none → L.length = 0 ∧ cap = 0) → (∀ b, ao = some b → ∀ j v, (rl L)[j]? = some v → w.cell? (b.add j) = some v) → cap < L.length + 1 →
      wpList Try.prog ops Q (o :: rest) a w := by
    intro ao cap hu' hnone hcells hcap
    refine wpList_append_grows _ hgd s x 47 ho 61 i0 (.agg #[.int .u8 0, .int .i64 0, .int .i64 0]) 3 24 Try.underlying47 hi hz0 hz1 hz2 rfl (by decide) ao L.length cap (rl L) (hs.trans hu') hnone (rl_length L) hcells ad 1 1 (rl [r]) hx rfl hc (rl_oneCell [r]) hcap (by simp [maxLen]; omega) hN ?_
    intro u' w' hown hgr
    rw [← rl_append] at hown
    have hO : Own w' w.heap.size u' (L ++ [r]) := ⟨hok, by rw [List.length_append]; exact hown⟩
    exact h u' w' (hO.base hb0) ((Kp.of_grown hgr).mono fun k _ e => by cases e) (.inr fun g hg => (hO.lt g hg).1)
  rcases hu.shape with ⟨hun, hn0⟩ | ⟨g, cap, hun, hgb, hgl, hnc, hcm, hcc, _⟩
  · subst hn0
    exact grows none 0 hun (fun _ => ⟨rfl, rfl⟩) (fun b hb => by cases hb) (by simp)
  · by_cases hcap : L.length + 1 ≤ cap
    · subst hun
      refine wpList_append_fits _ hgd s x 47 ho base 61 i0 3 Try.underlying47 hi hz1 g L.length cap (rl L) hs hu.2 ad 1 1 (rl [r]) hx rfl hc (rl_oneCell [r]) hcap ?_
      intro w' hown hgr
      rw [← rl_append] at hown
      exact h _ w' ⟨hok, by rw [List.length_append]; exact hown⟩ (Kp.of_grown hgr) (.inl rfl)
    · subst hun
      refine grows (some ⟨g, 0, none⟩) cap rfl (fun h => by cases h) (fun b hb => ?_) (by omega)
      cases hb
      exact rb_cells hu.reads

set_option maxRecDepth 100000 in
set_option maxHeartbeats 1200000 in
theorem put46 (base : Nat) (u : Value) (L : List Rn) (r : Rn) (w : World) (hu : Own w base u L) (hr : r.Ok) (hp : Pos L) (hb0 : base ≤ w.heap.size) (hN : (L.length + 1) * 24 ≤ 140737488355328) :
    Calls Try.prog 58 #[u, .agg #[.int .u8 r.k, .int .i64 r.s, .int .i64 r.c]] w fun e w' => ∃ u', e = .returned u' ∧ Own w' base u' (putL L r) ∧ Kp (fun k => u.ownBlock = some k) w w' ∧ SameOrNew w u u' := by
  obtain ⟨rk, rs, rcc⟩ := r
  dsimp only
  have HU := hid hu
  have HR := hid hr
  have HP := hid hp
  obtain ⟨n, hn⟩ : ∃ n, L.length = n := ⟨_, rfl⟩
  have HL := hid hn
  have hN' : (n + 1) * 24 ≤ 140737488355328 := by rw [← hn]; exact hN
  obtain ⟨a, cap, rfl⟩ : ∃ a cap, u = .slice a n cap := by
    obtain ⟨a, cap, h, _⟩ := hu.reads.shape
    exact ⟨a, cap, by rw [← hn]; exact h⟩
  have hK0 := hid (below_alloc w (.cells #[.int .u8 rk, .int .i64 rs, .int .i64 rcc] 61))
  clear hu hr hp hn hN
  by_cases hc1 : rcc < 1
  · have e : Hid (putL L ⟨rk, rs, rcc⟩ = L) := if_pos hc1
    go_enter Try.func58, Try.ntmps58
    go_wp2
    go_ret
    refine ⟨_, rfl, ?_, Kp.of_below _ hK0.out, .inl rfl⟩
    rw [e.out]
    exact HU.out.alloc _
  · have hc2 : ¬ (rcc < 1) := hc1
    by_cases hn0 : n = 0
    · subst hn0
      have hL0 : Hid (L = []) := List.eq_nil_of_length_eq_zero HL.out
      have e : Hid (putL L ⟨rk, rs, rcc⟩ = L ++ [⟨rk, rs, rcc⟩]) := by rw [hL0.out]; exact if_neg hc1
      go_enter Try.func58, Try.ntmps58
      go_wp2
      go_quiet (fail)
      go_wp2_with (at_builtin; go_must (refine wpList_push rfl _ _ rfl base _ L ⟨rk, rs, rcc⟩ ((HU.out.alloc _).alloc _) HR.out ?c1 ?c2 ⟨_, 0, none⟩ rfl rfl ?c3 ?_))
      case c1 => simp; omega
      case c2 => rw [HL.out]; exact hN'
      case c3 => exact cells_new' _ ⟨rk, rs, rcc⟩ _ (by simp)
      intro u' w1 hown hkp hson
      have R := hid hown
      have R2 : Hid (Kp (fun k => (Value.slice a 0 cap).ownBlock = some k) w w1) := (Kp.of_below _ (below_next (below_next hK0.out (below_drewN _ _)) (below_alloc _ _))).trans hkp (fun _ _ e => e)
      have R3 : Hid (SameOrNew w (Value.slice a 0 cap) u') := hson.imp id (fun h g hg => by have := h g hg; simp at this; omega)
      clear hown hkp hson
      go_wp2
      go_ret
      exact ⟨_, rfl, by rw [e.out]; exact R.out, R2.out, R3.out⟩
    · obtain ⟨q, hq⟩ := get_of_lt (L := L) (k := n - 1) (by rw [HL.out]; omega)
      have hlast : Hid (L.getLast? = some q) := by rw [List.getLast?_eq_getElem?, HL.out]; exact hq
      have HQ := hid hq
      obtain ⟨g, cap', hv, hgb, hgl, hnc, hcm, hcc, hfz⟩ : ∃ g cap', Value.slice a n cap = .slice (some ⟨g, 0, none⟩) n cap' ∧ base ≤ g ∧ g < w.heap.size ∧ n ≤ cap' ∧ cap' ≤ maxLen ∧
          (∀ i r, L[i]? = some r → w.cell? ⟨g, i * 3, none⟩ = some (.int .u8 r.k) ∧ w.cell? ⟨g, i * 3 + 1, none⟩ = some (.int .i64 r.s) ∧ w.cell? ⟨g, i * 3 + 2, none⟩ = some (.int .i64 r.c)) ∧ ∀ i, w.frozen? ⟨g, i, none⟩ = false := by
        rcases HU.out.shape with ⟨_, h0⟩ | ⟨g, cap', hv, rest⟩
        · have := HL.out; rw [h0] at this; simp at this; omega
        · rw [HL.out] at hv rest; exact ⟨g, cap', hv, rest⟩
      simp only [Value.slice.injEq] at hv
      obtain ⟨rfl, _, rfl⟩ := hv
      obtain ⟨c1, c2, c3⟩ := hcc (n - 1) q hq
      have f3 := hfz ((n - 1) * 3 + 2)
      have hq1 : 1 ≤ q.c := HP.out q (List.mem_of_getElem? hq)
      have hqo := HU.out.1 q (List.mem_of_getElem? hq)
      have hq2 : q.c ≤ 9223372036854775807 := hqo.2.2.2
      have hr2 : rcc ≤ 9223372036854775807 := HR.out.2.2.2
      have HQO := hid hqo
      clear hcc hfz hq hqo
      obtain ⟨m, hm⟩ : ∃ m, n - 1 = m := ⟨n - 1, rfl⟩
      rw [hm] at c1 c2 c3 f3 HQ
      have l1 : (m : Int) < n := by omega
      have l0 : 0 < n := by omega
      have hw1 : IntKind.i64.wrap ((n : Int) - 1) = m := by rw [IntKind.wrap_i64]; omega
      have Hm := hid hm
      clear hm
      by_cases he : q.k = rk ∧ q.s = rs
      · have hd := eq2_true he.1 he.2
        have e : Hid (putL L ⟨rk, rs, rcc⟩ = L.set m ⟨q.k, q.s, sm q.c rcc⟩) := by
          unfold putL
          rw [if_neg hc1, hlast.out, HL.out, Hm.out]
          exact if_pos he
        clear he
        go_enter Try.func58, Try.ntmps58
        go_wp2
        go_quiet (fail)
        go_wp2
        go_region_with (first | (go_at_call 59; refine (add47 _ _ _ (by omega) (by omega)).mono ?_; rintro e w' ⟨rfl, rfl⟩))
        all_goals go_wp2
        all_goals go_ret
        all_goals
          have hsb := sm_bound hq1 hc1
          have S := Own.setCn ((HU.out.alloc (.cells #[.int .u8 rk, .int .i64 rs, .int .i64 rcc] 61)).drewN (nq + 1)) HL.out HQ.out (sm q.c rcc) (by omega)
          exact ⟨_, rfl, by rw [e.out]; exact S.1, (Kp.of_below _ (below_next hK0.out (below_drewN _ _))).trans S.2 (fun k _ e => by subst e; rfl), .inl rfl⟩
      · have hd := eq2_false he
        have e : Hid (putL L ⟨rk, rs, rcc⟩ = L ++ [⟨rk, rs, rcc⟩]) := by
          unfold putL
          rw [if_neg hc1, hlast.out]
          exact if_neg he
        clear he
        go_enter Try.func58, Try.ntmps58
        go_wp2
        go_quiet (fail)
        go_wp2_with (at_builtin; go_must (refine wpList_push rfl _ _ rfl base _ L ⟨rk, rs, rcc⟩ ((HU.out.alloc _).alloc _) HR.out ?c1 ?c2 ⟨_, 0, none⟩ rfl rfl ?c3 ?_))
        case c1 => simp; omega
        case c2 => rw [HL.out]; exact hN'
        case c3 => exact cells_new' _ ⟨rk, rs, rcc⟩ _ (by simp)
        intro u' w1 hown hkp hson
        have R := hid hown
        have R2 : Hid (Kp (fun k => (Value.slice (some ⟨g, 0, none⟩) n cap).ownBlock = some k) w w1) := (Kp.of_below _ (below_next (below_next hK0.out (below_drewN _ _)) (below_alloc _ _))).trans hkp (fun _ _ e => e)
        have R3 : Hid (SameOrNew w (Value.slice (some ⟨g, 0, none⟩) n cap) u') := hson.imp id (fun h g hg => by have := h g hg; simp at this; omega)
        clear hown hkp hson
        go_wp2
        go_ret
        exact ⟨_, rfl, by rw [e.out]; exact R.out, R2.out, R3.out⟩
end Go.Proofs.Ytpcnkiapbkmjbaa
