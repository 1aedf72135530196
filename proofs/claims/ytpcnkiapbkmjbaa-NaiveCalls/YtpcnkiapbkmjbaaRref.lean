/- The document's own ledger in memory, and what its functions answer: New, Note, NoteTimes, Runs; which blocks they may turn. -/
import Derived.Test.YtpcnkiapbkmjbaaRled
import Derived.Deep.RegionWith
import Derived.Deep.AppendLies
import Derived.Deep.RegionLaw
namespace Go.Proofs.Ytpcnkiapbkmjbaa
open Go.ChangeShapes Go.WideShapes Go.ChangeAt Go.RowKit

/-- The document's ledger in block b holds the runs L, in the slice rv. -/
structure RLed (w : World) (b : Nat) (rv : Value) (L : List Rn) : Prop where
  here : w.heap[b]? = some (.cells #[rv] 68 (0, 0))
  own : Own w 0 rv L
  pos : Pos L
  most : tot L ≤ 9223372036854775807

theorem RLed.lt {w : World} {b : Nat} {rv : Value} {L : List Rn} (h : RLed w b rv L) : b < w.heap.size := (Array.getElem?_eq_some_iff.1 h.here).1
theorem RLed.ne {w : World} {b : Nat} {rv : Value} {L : List Rn} (h : RLed w b rv L) : rv.ownBlock ≠ some b := by
  intro e
  rcases h.own.2.2 with ⟨rfl, _⟩ | ⟨g, cap, cur, rfl, _, hg, _⟩
  · simp [Value.ownBlock] at e
  · simp [Value.ownBlock] at e
    subst e
    rw [h.here] at hg
    simp at hg
theorem RLed.kept {w w' : World} {b : Nat} {rv : Value} {L : List Rn} {S : Nat → Prop} (h : RLed w b rv L) (hk : Kp S w w') (h1 : ¬ S b) (h2 : ∀ g, rv.ownBlock = some g → ¬ S g) : RLed w' b rv L :=
  ⟨(hk.block b h.lt h1).trans h.here, h.own.kept hk h2, h.pos, h.most⟩
theorem RLed.below {w w' : World} {b : Nat} {rv : Value} {L : List Rn} (h : RLed w b rv L) (hb : Below w.heap.size w w') : RLed w' b rv L := h.kept (Kp.of_below (fun _ => False) hb) (fun e => e) (fun _ _ e => e)
theorem RLed.cell0 {w : World} {b : Nat} {rv : Value} {L : List Rn} (h : RLed w b rv L) : w.cell? ⟨b, 0, none⟩ = some rv := by
  rw [cell_of_row w b 0 _ 68 (0, 0) h.here]; rfl
theorem RLed.frozen {w : World} {b : Nat} {rv : Value} {L : List Rn} (h : RLed w b rv L) (j : Nat) : w.frozen? ⟨b, j, none⟩ = false := frozen_of_row w b j _ 68 h.here

set_option maxHeartbeats 1200000 in
theorem refNew10 (w : World) : Calls Try.prog 12 #[] w fun e w' => e = .returned (.pointer (some ⟨w.heap.size, 0, none⟩)) ∧ RLed w' w.heap.size (.slice none 0 0) [] ∧ Below w.heap.size w w' := by
  go_enter Try.func12, Try.ntmps12
  go_wp2
  go_ret
  refine ⟨rfl, ⟨heap_alloc_new _ _, Own.nil _ _, fun q hq => by simp at hq, by simp [tot]⟩, below_alloc _ _⟩

/-- The runs told: a list of its own. -/
theorem take_all {L : List Rn} {n : Nat} (h : L.length = n) : L.take n = L := List.take_of_length_le (by omega)
set_option maxRecDepth 100000 in
set_option maxHeartbeats 1200000 in
theorem refRuns20 (b : Nat) (rv : Value) (L : List Rn) (w : World) (h : RLed w b rv L) (hN : L.length * 24 ≤ 140737488355328) :
    Calls Try.prog 26 #[.pointer (some ⟨b, 0, none⟩)] w fun e w' => ∃ v, e = .returned v ∧ Own w' w.heap.size v L ∧ Below w.heap.size w w' := by
  have H := hid h
  obtain ⟨n, hn⟩ : ∃ n, L.length = n := ⟨_, rfl⟩
  obtain ⟨a, cap, rfl⟩ : ∃ a cap, rv = .slice a n cap := by
    obtain ⟨a, cap, e, _⟩ := h.own.reads.shape
    exact ⟨a, cap, by rw [← hn]; exact e⟩
  have HL := hid hn
  rw [hn] at hN
  clear h hn
  go_enter Try.func26, Try.ntmps26
  go_wp2
  go_loopw [3, 4] (fun s x wr => ∃ k : Nat, k ≤ n ∧ x = .int .i64 k ∧ Own wr w.heap.size s (L.take k) ∧ Below w.heap.size w wr) (fun _ x _ => n - (intOf x).toNat)
  case atStart => exact ⟨0, Nat.zero_le _, rfl, Own.nil _ _, Below.refl _ _⟩
  case round =>
    obtain ⟨k, hk, rfl, ho, hb⟩ := hrel
    have HO := hid ho
    have HB := hid hb
    have c0 := (H.out.below hb).cell0
    have hsz := hb.size
    clear ho hb
    by_cases hlt : k < n
    · obtain ⟨r, hr⟩ := get_of_lt (L := L) (k := k) (by rw [HL.out]; exact hlt)
      have Hr := hid hr
      obtain ⟨b', off, rfl, c1, c2, c3⟩ : ∃ b' off, a = some ⟨b', off, none⟩ ∧ wr.cell? ⟨b', off + k * 3, none⟩ = some (.int .u8 r.k) ∧ wr.cell? ⟨b', off + k * 3 + 1, none⟩ = some (.int .i64 r.s) ∧ wr.cell? ⟨b', off + k * 3 + 2, none⟩ = some (.int .i64 r.c) := by
        obtain ⟨_, a', cap', he, _, _, ⟨h0, _⟩ | ⟨b1, off, rfl, hc⟩⟩ := H.out.own.reads.below HB.out
        · subst h0; simp at hr
        · simp only [Value.slice.injEq] at he
          obtain ⟨rfl, _, _⟩ := he
          exact ⟨b1, off, rfl, hc k r hr⟩
      have l1 : (k : Int) < n := by omega
      have l0 : (0 : Int) ≤ k := by omega
      have Hok := hid (H.out.own.1 r (List.mem_of_getElem? hr))
      have E : Hid (L.take (k + 1) = L.take k ++ [r]) := by show _ = _; rw [List.take_add_one, hr]; rfl
      have Hlen : Hid ((L.take k).length = k) := by show _ = _; rw [List.length_take, HL.out]; omega
      clear hr
      go_wp2_with (at_builtin; go_must (refine wpList_push rfl _ _ rfl w.heap.size _ (L.take k) r (HO.out.alloc _) Hok.out ?c1 ?c2 ⟨_, 0, none⟩ rfl rfl ?c3 ?_))
      case c1 => simp; omega
      case c2 => rw [Hlen.out]; omega
      case c3 => exact cells_new' _ r _ (by simp)
      intro u' w1 hown hkp hson
      have R1 : Hid (Own w1 w.heap.size u' (L.take (k + 1))) := by show Own _ _ _ _; rw [E.out]; exact hown
      have R2 : Hid (Below w.heap.size w w1) := (HB.out.alloc hsz _).trans (hkp.below (by simp; omega) (fun j hj e => by have := (HO.out.lt j e).1; omega))
      clear hown hkp hson HO HB
      go_wp2
      go_roundw
      case rel => exact ⟨k + 1, by omega, by go_num, R1.out, R2.out⟩
      case measure => simp [intOf]; omega
    · have e : k = n := by omega
      subst e
      have R1 : Hid (Own wr w.heap.size u3 L) := by have := HO.out; rw [take_all HL.out] at this; exact this
      go_wp2
      go_ret
      exact ⟨_, rfl, R1.out, HB.out⟩
theorem rled_here {w w0 w1 : World} {b : Nat} {rv : Value} {L : List Rn} (h : RLed w b rv L) (hw : Below w.heap.size w w0) (hk : Kp (fun j => rv.ownBlock = some j) w0 w1) : w1.heap[b]? = some (.cells #[rv] 68 (0, 0)) := by
  rw [hk.block b (Nat.lt_of_lt_of_le h.lt hw.size) h.ne]
  exact (hw.block b h.lt).trans h.here
theorem rled_c0 {w : World} {b : Nat} {rv : Value} (h : w.heap[b]? = some (.cells #[rv] 68 (0, 0))) : w.cell? ⟨b, 0, none⟩ = some rv := by
  rw [cell_of_row w b 0 _ 68 (0, 0) h]; rfl
theorem box_after {w w1 : World} {rv : Value} {L : List Rn} {k s : Int} {m : Nat} {c : Obj} (h : Own w 0 rv L) (hk : Kp (fun j => rv.ownBlock = some j) (((w.alloc (.cells #[.int .u8 k, .int .i64 s] 59)).drewN m).alloc c) w1) :
    w1.cell? ⟨w.heap.size, 0, none⟩ = some (.int .u8 k) ∧ w1.cell? ⟨w.heap.size, 1, none⟩ = some (.int .i64 s) := by
  have hh : w1.heap[w.heap.size]? = some (.cells #[.int .u8 k, .int .i64 s] 59 (0, 0)) := by
    rw [hk.block w.heap.size (by simp; omega) (fun e => by have := (h.lt _ e).2; omega), (below_alloc ((w.alloc (.cells #[.int .u8 k, .int .i64 s] 59)).drewN m) c).block _ (by simp)]
    exact heap_alloc_new w _
  exact ⟨by rw [cell_of_row w1 _ 0 _ 59 (0, 0) hh]; rfl, by rw [cell_of_row w1 _ 1 _ 59 (0, 0) hh]; rfl⟩
theorem rled_pushed {w w0 w1 : World} {b : Nat} {rv u : Value} {L : List Rn} {r : Rn} (h : RLed w b rv L) (hw : Below w.heap.size w w0) (hk : Kp (fun j => rv.ownBlock = some j) w0 w1) (ho : Own w1 0 u (L ++ [r])) (hs : SameOrNew w rv u) (hr : 1 ≤ r.c) (hb : tot L + r.c ≤ 9223372036854775807) :
    RLed (w1.setCell ⟨b, 0, none⟩ u) b u (L ++ [r]) ∧ Kp (fun j => j = b ∨ rv.ownBlock = some j) w (w1.setCell ⟨b, 0, none⟩ u) ∧ SameOrNew w rv u := by
  have hwz := hw.size
  have hh := rled_here h hw hk
  have k1 : Kp (fun j => j = b) w1 (w1.setCell ⟨b, 0, none⟩ u) := Kp.setCell _ _ _
  have hne : u.ownBlock ≠ some b := by
    intro e
    rcases hs with hs | hs
    · rw [hs] at e; exact h.ne e
    · have := hs b e; have := h.lt; omega
  refine ⟨⟨?_, ho.kept k1 (fun g hg e => by subst e; exact hne hg), ?_, by rw [tot_append]; simp [tot]; exact hb⟩, ?_, hs⟩
  · rw [heap_setCell_same _ b 0 _ 68 _ hh]; rfl
  · intro q hq
    rcases List.mem_append.1 hq with hq | hq
    · exact h.pos q hq
    · simp at hq; subst hq; exact hr
  · have k0 : Kp (fun j => rv.ownBlock = some j) w w1 := (Kp.of_below _ hw).trans hk (fun _ _ e => e)
    exact (k0.mono fun k _ e => .inr e).trans k1 (fun k _ e => .inl e)
theorem rled_counted {w w0 : World} {b g nn cap m : Nat} {L : List Rn} {q : Rn} (h : RLed w b (.slice (some ⟨g, 0, none⟩) nn cap) L) (hw : Below w.heap.size w w0) (hL : L.length = nn) (hq : L[m]? = some q) (c : Int) (hc : -9223372036854775808 ≤ c ∧ c ≤ 9223372036854775807) (h1 : 1 ≤ c) (ht : tot L - q.c + c ≤ 9223372036854775807) :
    RLed (w0.setCell ⟨g, m * 3 + 2, none⟩ (.int .i64 c)) b (.slice (some ⟨g, 0, none⟩) nn cap) (L.set m ⟨q.k, q.s, c⟩) ∧ Kp (fun j => j = b ∨ (Value.slice (some ⟨g, 0, none⟩) nn cap).ownBlock = some j) w (w0.setCell ⟨g, m * 3 + 2, none⟩ (.int .i64 c)) ∧ SameOrNew w (Value.slice (some ⟨g, 0, none⟩) nn cap) (Value.slice (some ⟨g, 0, none⟩) nn cap) := by
  have hO := h.own.below hw
  have S := Own.setCn hO hL hq c hc
  have hgb : ¬ b = g := fun e => h.ne (by rw [e]; rfl)
  have hbl : b < w0.heap.size := Nat.lt_of_lt_of_le h.lt hw.size
  refine ⟨⟨?_, S.1, ?_, ?_⟩, ?_, .inl rfl⟩
  · rw [S.2.block b hbl hgb]
    exact (hw.block b h.lt).trans h.here
  · intro x hx
    rcases List.mem_or_eq_of_mem_set hx with hx | rfl
    · exact h.pos x hx
    · exact h1
  · rw [tot_set _ hq]; exact ht
  · exact (Kp.of_below _ hw).trans S.2 (fun k _ e => by subst e; exact .inr rfl)
set_option maxRecDepth 100000 in
set_option maxHeartbeats 2400000 in
theorem refNoteTimes45 (b : Nat) (rv : Value) (L : List Rn) (k s n : Int) (w : World) (h : RLed w b rv L) (hr : (⟨k, s, n⟩ : Rn).Ok) (hn1 : 1 ≤ n) (hb : tot L + n ≤ 9223372036854775807) (hN : (L.length + 1) * 24 ≤ 140737488355328) :
    Calls Try.prog 50 #[.pointer (some ⟨b, 0, none⟩), .agg #[.int .u8 k, .int .i64 s], .int .i64 n] w fun e w' => e = .returned (.tuple #[]) ∧ ∃ rv', RLed w' b rv' (putL L ⟨k, s, n⟩) ∧ Kp (fun j => j = b ∨ rv.ownBlock = some j) w w' ∧ SameOrNew w rv rv' := by
  have H := hid h
  have HR := hid hr
  have hn2 : ¬ (n < 1) := by omega
  obtain ⟨i0, hi, hz0, hz1, hz2⟩ := info_parts info70
  have HW := hid (h.own.alloc (.cells #[.int .u8 k, .int .i64 s] 59))
  obtain ⟨nn, hnn⟩ : ∃ n, L.length = n := ⟨_, rfl⟩
  obtain ⟨a, cap, rfl⟩ : ∃ a cap, rv = .slice a nn cap := by
    obtain ⟨a, cap, e, _⟩ := h.own.reads.shape
    exact ⟨a, cap, by rw [← hnn]; exact e⟩
  have h0 := h.cell0
  have f0 := h.frozen 0
  have hlt := h.lt
  have g0 : ((w.alloc (.cells #[.int .u8 k, .int .i64 s] 59))).cell? ⟨b, 0, none⟩ = some (.slice a nn cap) := (h.below (below_alloc _ _)).cell0
  have g1 := (h.below (below_alloc w (.cells #[.int .u8 k, .int .i64 s] 59))).frozen 0
  have HM2 := hid hN
  have HM1 : Hid (L.length + 1 ≤ maxLen) := by show _ ≤ _; simp [maxLen]; omega
  have HB0 := hid (below_alloc w (.cells #[.int .u8 k, .int .i64 s] 59))
  have HOK : Hid (∀ q ∈ L ++ [⟨k, s, n⟩], q.Ok) := by
    intro q hq
    rcases List.mem_append.1 hq with hq | hq
    · exact h.own.1 q hq
    · simp at hq; subst hq; exact hr
  have HL := hid hnn
  have hnb : nn < 1000000000000000000 := by omega
  by_cases hn0 : nn = 0
  · subst hn0
    have hL0 : L = [] := List.eq_nil_of_length_eq_zero hnn
    have E : Hid (putL L ⟨k, s, n⟩ = L ++ [⟨k, s, n⟩]) := by rw [hL0]; exact if_neg hn2
    clear h hr hL0 hN hnn
    go_enter Try.func50, Try.ntmps50
    go_wp2
    go_quiet (fail)
    go_wp2
    go_region_law (first | (refine step_append_lies _ rfl (.tmp 54) (.tmp 58) 47 rfl 0 61 i0 (.agg #[.int .u8 0, .int .i64 0, .int .i64 0]) 3 24 Try.underlying47 hi hz0 hz1 hz2 rfl (by decide) _ _ _ rfl (HW.out.alloc _).2 ⟨_, 0, none⟩ 1 1 (rl [⟨k, s, n⟩]) rfl rfl (fun j u hj => cells_new' _ ⟨k, s, n⟩ _ (by simp) j u hj) (rl_oneCell _) (by decide) HM1.out HM2.out (Nat.zero_le _) _ rfl ?_; intro gq cq w1 hown hgrow hat hltq; have hw0 := below_next (below_next HB0.out (below_drewN _ (nq + 1))) (below_alloc _ (.cells #[.int .u8 k, .int .i64 s, .int .i64 n] 61)); have hk0 := Kp.of_grown hgrow; have hh := rled_here H.out hw0 hk0; obtain ⟨x9, y9⟩ := box_after H.out.own hk0; have c9 := rled_c0 hh; have f9 := frozen_of_row w1 b 0 _ 68 hh; have R := hid (rled_pushed (r := ⟨k, s, n⟩) H.out hw0 hk0 ⟨HOK.out, by rw [List.length_append, rl_append]; exact hown⟩ (by rcases hat with e | e; exact .inl e.symm; exact .inr (fun g hg => by simp [Value.ownBlock] at hg; simp at e; omega)) hn1 hb); clear hown hgrow hat hltq hw0 hk0 hh))
    all_goals go_wp2
    all_goals
      go_end0
      exact ⟨rfl, _, by rw [E.out]; exact R.out.1, R.out.2⟩
  · obtain ⟨q, hq⟩ := get_of_lt (L := L) (k := nn - 1) (by rw [hnn]; omega)
    have hlast : Hid (L.getLast? = some q) := by show _ = _; rw [List.getLast?_eq_getElem?, hnn]; exact hq
    obtain ⟨m, hm⟩ : ∃ m, nn - 1 = m := ⟨_, rfl⟩
    rw [hm] at hq
    have HQ := hid hq
    obtain ⟨g, cap', hv, hgb, hgl, hnc, hcm, hcc, hfz⟩ : ∃ g cap', Value.slice a nn cap = .slice (some ⟨g, 0, none⟩) nn cap' ∧ 0 ≤ g ∧ g < w.heap.size ∧ nn ≤ cap' ∧ cap' ≤ maxLen ∧
        (∀ i r, L[i]? = some r → w.cell? ⟨g, i * 3, none⟩ = some (.int .u8 r.k) ∧ w.cell? ⟨g, i * 3 + 1, none⟩ = some (.int .i64 r.s) ∧ w.cell? ⟨g, i * 3 + 2, none⟩ = some (.int .i64 r.c)) ∧ ∀ i, w.frozen? ⟨g, i, none⟩ = false := by
      rcases h.own.shape with ⟨_, e0⟩ | ⟨g, cap', hv, rest⟩
      · rw [e0] at hnn; simp at hnn; omega
      · rw [hnn] at hv rest; exact ⟨g, cap', hv, rest⟩
    simp only [Value.slice.injEq] at hv
    obtain ⟨rfl, _, rfl⟩ := hv
    obtain ⟨c1, c2, c3⟩ := hcc m q hq
    have f3 := hfz (m * 3 + 2)
    have hq1 : 1 ≤ q.c := h.pos q (List.mem_of_getElem? hq)
    have hqm := tot_mem h.pos (List.mem_of_getElem? hq)
    have hgne : ¬ g = b := fun e => h.ne (by rw [← e]; rfl)
    have hbnd : -9223372036854775808 ≤ q.c + n ∧ q.c + n ≤ 9223372036854775807 := by omega
    have hwn : IntKind.i64.wrap (q.c + n) = q.c + n := by rw [IntKind.wrap_i64]; omega
    have hw1 : IntKind.i64.wrap ((nn : Int) - 1) = m := by rw [IntKind.wrap_i64]; omega
    have l1 : (m : Int) < nn := by omega
    have l0 : (0 : Int) ≤ m := by omega
    clear hcc hfz hq hqm hgb hcm
    by_cases he : q.k = k ∧ q.s = s
    · have hd := eq2_true he.1 he.2
      have E : Hid (putL L ⟨k, s, n⟩ = L.set m ⟨q.k, q.s, q.c + n⟩) := by
        show putL _ _ = _
        unfold putL
        rw [if_neg (show ¬ n < 1 from hn2), hlast.out, hnn, hm]
        show (if q.k = k ∧ q.s = s then L.set m ⟨q.k, q.s, sm q.c n⟩ else _) = _
        rw [if_pos he]
        unfold sm
        rw [if_pos hbnd.2]
      have HP := hid hbnd
      have Hm := hid hm
      clear he h hr hN hnn hm hbnd
      go_enter Try.func50, Try.ntmps50
      go_wp2
      go_quiet (fail)
      go_wp2
      go_region_with (fail)
      all_goals go_wp2
      all_goals
        refine bodyPost_ret (results_none rfl _ _ _) rfl ?_
        refine ⟨rfl, _, by rw [E.out]; exact (rled_counted H.out (below_next HB0.out (below_drewN _ (nq + 1))) HL.out HQ.out (q.c + n) HP.out (by omega) (by omega)).1, (rled_counted H.out (below_next HB0.out (below_drewN _ (nq + 1))) HL.out HQ.out (q.c + n) HP.out (by omega) (by omega)).2⟩
    · have hd := eq2_false he
      have E : Hid (putL L ⟨k, s, n⟩ = L ++ [⟨k, s, n⟩]) := by
        show putL _ _ = _
        unfold putL
        rw [if_neg (show ¬ n < 1 from hn2), hlast.out]
        exact if_neg he
      have Hm := hid hm
      clear he h hr hN hnn hm hbnd hwn
      go_enter Try.func50, Try.ntmps50
      go_wp2
      go_quiet (fail)
      go_wp2
      go_region_law (first | (refine step_append_lies _ rfl (.tmp 54) (.tmp 58) 47 rfl 0 61 i0 (.agg #[.int .u8 0, .int .i64 0, .int .i64 0]) 3 24 Try.underlying47 hi hz0 hz1 hz2 rfl (by decide) _ _ _ rfl (HW.out.alloc _).2 ⟨_, 0, none⟩ 1 1 (rl [⟨k, s, n⟩]) rfl rfl (fun j u hj => cells_new' _ ⟨k, s, n⟩ _ (by simp) j u hj) (rl_oneCell _) (by decide) HM1.out HM2.out (Nat.zero_le _) _ rfl ?_; intro gq cq w1 hown hgrow hat hltq; have hw0 := below_next (below_next HB0.out (below_drewN _ (nq + 1))) (below_alloc _ (.cells #[.int .u8 k, .int .i64 s, .int .i64 n] 61)); have hk0 := Kp.of_grown hgrow; have hh := rled_here H.out hw0 hk0; obtain ⟨x9, y9⟩ := box_after H.out.own hk0; have c9 := rled_c0 hh; have f9 := frozen_of_row w1 b 0 _ 68 hh; have R := hid (rled_pushed (r := ⟨k, s, n⟩) H.out hw0 hk0 ⟨HOK.out, by rw [List.length_append, rl_append]; exact hown⟩ (by rcases hat with e | e; exact .inl e.symm; exact .inr (fun g hg => by simp [Value.ownBlock] at hg; simp at e; omega)) hn1 hb); clear hown hgrow hat hltq hw0 hk0 hh))
      all_goals go_wp2
      all_goals
        go_end0
        exact ⟨rfl, _, by rw [E.out]; exact R.out.1, R.out.2⟩
set_option maxHeartbeats 1200000 in
theorem refNote42 (b : Nat) (rv : Value) (L : List Rn) (k s : Int) (w : World) (h : RLed w b rv L) (hr : (⟨k, s, 1⟩ : Rn).Ok) (hb : tot L + 1 ≤ 9223372036854775807) (hN : (L.length + 1) * 24 ≤ 140737488355328) :
    Calls Try.prog 41 #[.pointer (some ⟨b, 0, none⟩), .agg #[.int .u8 k, .int .i64 s]] w fun e w' => e = .returned (.tuple #[]) ∧ ∃ rv', RLed w' b rv' (putL L ⟨k, s, 1⟩) ∧ Kp (fun j => j = b ∨ rv.ownBlock = some j) w w' ∧ SameOrNew w rv rv' := by
  have H := hid h
  have HR := hid hr
  clear h hr
  have hA := below_alloc w (.cells #[.int .u8 k, .int .i64 s] 59)
  have HA := hid hA
  clear hA
  go_enter Try.func41, Try.ntmps41
  go_wp2_with fail
  refine (refNoteTimes45 b rv L k s 1 _ (H.out.below HA.out) HR.out (by omega) hb hN).mono ?_
  rintro e w1 ⟨rfl, rv', hl, hk, hs⟩
  have R : Hid (RLed w1 b rv' (putL L ⟨k, s, 1⟩) ∧ Kp (fun j => j = b ∨ rv.ownBlock = some j) w w1 ∧ SameOrNew w rv rv') := ⟨hl, (Kp.of_below _ HA.out).trans hk (fun _ _ e => e), hs.imp id (fun h g hg => by have := h g hg; simp at this; omega)⟩
  clear hl hk hs
  go_wp2
  go_end0
  exact ⟨rfl, _, R.out⟩
end Go.Proofs.Ytpcnkiapbkmjbaa
