/- A ledger in memory and what the program's functions on it answer: New, Note, NoteTimes, Len, Mark, Runs, Reset, Count; which blocks they may turn. -/
import Derived.Test.YtpcnkiapbkmjbaaRput
namespace Go.Proofs.Ytpcnkiapbkmjbaa
open Go.ChangeShapes Go.WideShapes Go.ChangeAt Go.RowKit

/-- How many events runs stand for. -/
def tot : List Rn → Int
  | [] => 0
  | r :: L => r.c + tot L
theorem tot_append (L M : List Rn) : tot (L ++ M) = tot L + tot M := by
  induction L with
  | nil => simp [tot]
  | cons r L ih => simp [tot, ih]; omega
theorem tot_pos {L : List Rn} (h : Pos L) : (L.length : Int) ≤ tot L := by
  induction L with
  | nil => simp [tot]
  | cons r L ih =>
    have h1 := h r (by simp)
    have h2 := ih (fun q hq => h q (by simp [hq]))
    simp [tot]; omega
theorem tot_set {L : List Rn} : ∀ {i : Nat} {q : Rn} (r : Rn), L[i]? = some q → tot (L.set i r) = tot L - q.c + r.c := by
  induction L with
  | nil => intro i q r h; simp at h
  | cons x L ih =>
    intro i q r h
    cases i with
    | zero => simp at h; subst h; simp [tot]; omega
    | succ i => simp at h; simp [tot, ih r h]; omega
theorem tot_mem {L : List Rn} (h : Pos L) {q : Rn} (hq : q ∈ L) : q.c ≤ tot L := by
  induction L with
  | nil => simp at hq
  | cons x L ih =>
    have h2 : Pos L := fun q hq => h q (by simp [hq])
    have h3 := tot_pos h2
    have h4 := h x (by simp)
    rcases List.mem_cons.1 hq with rfl | hq
    · simp [tot]; omega
    · have := ih h2 hq; simp [tot]; omega
theorem tot_put {L : List Rn} {r : Rn} (h : Pos L) (hr : 1 ≤ r.c) (hb : tot L + r.c ≤ 9223372036854775807) : tot (putL L r) = tot L + r.c := by
  unfold putL
  rw [if_neg (by omega)]
  split
  · rename_i q hq
    rw [List.getLast?_eq_getElem?] at hq
    have hm := tot_mem h (List.mem_of_getElem? hq)
    split
    · rw [tot_set _ hq]
      show tot L - q.c + sm q.c r.c = _
      unfold sm; rw [if_pos (by omega)]; omega
    · rw [tot_append]; simp [tot]
  · rename_i hq
    rw [List.getLast?_eq_none_iff] at hq
    subst hq; simp [tot]

/-- The ledger in block b holds the runs L, in the slice rv. -/
structure Led (w : World) (b : Nat) (rv : Value) (L : List Rn) : Prop where
  here : w.heap[b]? = some (.cells #[rv, .int .i64 (tot L)] 66 (0, 0))
  own : Own w 0 rv L
  pos : Pos L
  most : tot L ≤ 9223372036854775807

theorem Led.lt {w : World} {b : Nat} {rv : Value} {L : List Rn} (h : Led w b rv L) : b < w.heap.size := (Array.getElem?_eq_some_iff.1 h.here).1
theorem Led.ne {w : World} {b : Nat} {rv : Value} {L : List Rn} (h : Led w b rv L) : rv.ownBlock ≠ some b := by
  intro e
  rcases h.own.2.2 with ⟨rfl, _⟩ | ⟨g, cap, cur, rfl, _, hg, _⟩
  · simp [Value.ownBlock] at e
  · simp [Value.ownBlock] at e
    subst e
    rw [h.here] at hg
    simp at hg
theorem Led.kept {w w' : World} {b : Nat} {rv : Value} {L : List Rn} {S : Nat → Prop} (h : Led w b rv L) (hk : Kp S w w') (h1 : ¬ S b) (h2 : ∀ g, rv.ownBlock = some g → ¬ S g) : Led w' b rv L :=
  ⟨(hk.block b h.lt h1).trans h.here, h.own.kept hk h2, h.pos, h.most⟩
theorem Led.below {w w' : World} {b : Nat} {rv : Value} {L : List Rn} (h : Led w b rv L) (hb : Below w.heap.size w w') : Led w' b rv L := h.kept (Kp.of_below (fun _ => False) hb) (fun e => e) (fun _ _ e => e)
theorem Led.cell0 {w : World} {b : Nat} {rv : Value} {L : List Rn} (h : Led w b rv L) : w.cell? ⟨b, 0, none⟩ = some rv := by
  rw [cell_of_row w b 0 _ 66 (0, 0) h.here]; rfl
theorem Led.cell1 {w : World} {b : Nat} {rv : Value} {L : List Rn} (h : Led w b rv L) : w.cell? ⟨b, 1, none⟩ = some (.int .i64 (tot L)) := by
  rw [cell_of_row w b 1 _ 66 (0, 0) h.here]; rfl
theorem Led.frozen {w : World} {b : Nat} {rv : Value} {L : List Rn} (h : Led w b rv L) (j : Nat) : w.frozen? ⟨b, j, none⟩ = false := frozen_of_row w b j _ 66 h.here
theorem Led.len {w : World} {b : Nat} {rv : Value} {L : List Rn} (h : Led w b rv L) : (L.length : Int) ≤ tot L ∧ 0 ≤ tot L := by
  have := tot_pos h.pos; omega

set_option maxHeartbeats 1200000 in
theorem new9 (w : World) : Calls Try.prog 11 #[] w fun e w' => e = .returned (.pointer (some ⟨w.heap.size, 0, none⟩)) ∧ Led w' w.heap.size (.slice none 0 0) [] ∧ Below w.heap.size w w' := by
  go_enter Try.func11, Try.ntmps11
  go_wp2
  go_ret
  refine ⟨rfl, ⟨heap_alloc_new _ _, Own.nil _ _, fun q hq => by simp at hq, by simp [tot]⟩, below_alloc _ _⟩

set_option maxHeartbeats 1200000 in
theorem runs22 (b : Nat) (rv : Value) (L : List Rn) (w : World) (h : Led w b rv L) (hn : L.length * 24 ≤ 140737488355328) :
    Calls Try.prog 25 #[.pointer (some ⟨b, 0, none⟩)] w fun e w' => ∃ v, e = .returned v ∧ Own w' w.heap.size v L ∧ Below w.heap.size w w' := by
  have H := hid h
  have h0 := h.cell0
  clear h
  go_enter Try.func25, Try.ntmps25
  go_wp2_with fail
  refine (clone49 rv L w H.out.own.reads hn).mono ?_
  rintro e w' ⟨v, rfl, ho, hb⟩
  have HO := hid ho
  have HB := hid hb
  clear ho hb
  go_wp2
  go_ret
  exact ⟨_, rfl, HO.out, HB.out⟩
set_option maxHeartbeats 1200000 in
theorem runs22n (w : World) : Calls Try.prog 25 #[.pointer none] w fun e w' => e = .returned (.slice none 0 0) ∧ w' = w := by
  go_enter Try.func25, Try.ntmps25
  go_wp2
  go_ret
  exact ⟨rfl, rfl⟩
theorem led_c0 {w : World} {b : Nat} {rv u : Value} (h : w.heap[b]? = some (.cells #[rv, u] 66 (0, 0))) : w.cell? ⟨b, 0, none⟩ = some rv := by
  rw [cell_of_row w b 0 _ 66 (0, 0) h]; rfl
theorem led_c1 {w : World} {b : Nat} {rv u : Value} (h : w.heap[b]? = some (.cells #[rv, u] 66 (0, 0))) : w.cell? ⟨b, 1, none⟩ = some u := by
  rw [cell_of_row w b 1 _ 66 (0, 0) h]; rfl
theorem led_after {w w0 w1 : World} {b : Nat} {rv : Value} {L : List Rn} (h : Led w b rv L) (hw : Below w.heap.size w w0) (hk : Kp (fun j => rv.ownBlock = some j) w0 w1) : w1.heap[b]? = some (.cells #[rv, .int .i64 (tot L)] 66 (0, 0)) := by
  rw [hk.block b (Nat.lt_of_lt_of_le h.lt hw.size) h.ne]
  exact (hw.block b h.lt).trans h.here
theorem led_noted {w w0 w1 : World} {b : Nat} {rv u : Value} {L : List Rn} {r : Rn} (h : Led w b rv L) (hw : Below w.heap.size w w0) (hk : Kp (fun j => rv.ownBlock = some j) w0 w1) (ho : Own w1 0 u (putL L r)) (hs : SameOrNew w0 rv u) (hr : 1 ≤ r.c) (hb : tot L + r.c ≤ 9223372036854775807) :
    Led ((w1.setCell ⟨b, 0, none⟩ u).setCell ⟨b, 1, none⟩ (.int .i64 (tot L + r.c))) b u (putL L r) ∧ Kp (fun j => j = b ∨ rv.ownBlock = some j) w ((w1.setCell ⟨b, 0, none⟩ u).setCell ⟨b, 1, none⟩ (.int .i64 (tot L + r.c))) ∧ SameOrNew w rv u := by
  have hh := led_after h hw hk
  have hwz := hw.size
  have k1 : Kp (fun j => j = b) w1 ((w1.setCell ⟨b, 0, none⟩ u).setCell ⟨b, 1, none⟩ (.int .i64 (tot L + r.c))) := (Kp.setCell _ _ _).trans (Kp.setCell _ _ _) (fun _ _ e => e)
  have hne : u.ownBlock ≠ some b := by
    intro e
    rcases hs with hs | hs
    · rw [hs] at e; exact h.ne e
    · have := hs b e; have := h.lt; omega
  refine ⟨⟨?_, ho.kept k1 (fun g hg e => by subst e; exact hne hg), putL_pos h.pos, by rw [tot_put h.pos hr hb]; exact hb⟩, ?_, ?_⟩
  · rw [heap_setCell_same _ b 1 #[u, .int .i64 (tot L)] 66 _ (by rw [heap_setCell_same _ b 0 _ 66 _ hh]; rfl), tot_put h.pos hr hb]
    rfl
  · have k0 : Kp (fun j => rv.ownBlock = some j) w w1 := (Kp.of_below _ hw).trans hk (fun _ _ e => e)
    exact (k0.mono fun k _ e => .inr e).trans k1 (fun k _ e => .inl e)
  · exact hs.imp id (fun h' g hg => by have := h' g hg; omega)

set_option maxRecDepth 100000 in
set_option maxHeartbeats 1200000 in
theorem noteTimes17 (b : Nat) (rv : Value) (L : List Rn) (k s n : Int) (w : World) (h : Led w b rv L) (hr : (⟨k, s, n⟩ : Rn).Ok) (hn1 : 1 ≤ n) (hb : tot L + n ≤ 9223372036854775807) (hN : (L.length + 1) * 24 ≤ 140737488355328) :
    Calls Try.prog 49 #[.pointer (some ⟨b, 0, none⟩), .agg #[.int .u8 k, .int .i64 s], .int .i64 n] w fun e w' => e = .returned (.tuple #[]) ∧ ∃ rv', Led w' b rv' (putL L ⟨k, s, n⟩) ∧ Kp (fun j => j = b ∨ rv.ownBlock = some j) w w' ∧ SameOrNew w rv rv' := by
  have H := hid h
  have h0 := h.cell0
  have h1 := h.cell1
  have f0 := h.frozen 0
  have f1 := h.frozen 1
  have hlt := h.lt
  have HR := hid hr
  have ht0 := h.len.2
  have hno : n ≤ 9223372036854775807 := hr.2.2.2
  have hsm : Hid (sm (tot L) n = tot L + n) := if_pos hb
  have hn2 : ¬ (n < 1) := by omega
  have HW : Hid (Own (w.alloc (.cells #[.int .u8 k, .int .i64 s] 59)).drew 0 rv L) := h.own.alloc _
  clear h hr
  go_enter Try.func49, Try.ntmps49
  go_wp2
  go_region_with (first | (go_at_call 58; go_must (refine (put46 0 _ L ⟨k, s, n⟩ _ HW.out HR.out H.out.pos (Nat.zero_le _) hN).mono ?_; rintro e w1 ⟨u', rfl, ho, hk, hs⟩; obtain ⟨ua, un, uc, rfl⟩ := ho.isSlice; have hh := led_after H.out (below_alloc w (.cells #[.int .u8 k, .int .i64 s] 59)).drew hk; have c0 := led_c0 hh; have c1 := led_c1 hh; have z0 := frozen_of_row w1 b 0 _ 66 hh; have z1 := frozen_of_row w1 b 1 _ 66 hh; have R := hid (led_noted H.out (below_alloc w (.cells #[.int .u8 k, .int .i64 s] 59)).drew hk ho hs hn1 hb); clear ho hk hs hh)))
  all_goals go_wp2_with (first | (go_at_call 59; refine (add47 _ _ _ (by omega) (by omega)).mono ?_; rintro e w2 ⟨rfl, rfl⟩))
  all_goals
    go_end0
    rw [hsm.out]
    exact ⟨rfl, _, R.out⟩
/-- An event recorded no time. -/
theorem noteTimes17z (b : Nat) (k s n : Int) (w : World) (hn1 : n < 1) :
    Calls Try.prog 49 #[.pointer (some ⟨b, 0, none⟩), .agg #[.int .u8 k, .int .i64 s], .int .i64 n] w fun e w' => e = .returned (.tuple #[]) ∧ Below w.heap.size w w' := by
  go_enter Try.func49, Try.ntmps49
  go_wp2
  refine bodyPost_ret (results_none rfl _ _ _) rfl ?_
  exact ⟨rfl, below_alloc _ _⟩
theorem noteTimes17n (k s n : Int) (w : World) :
    Calls Try.prog 49 #[.pointer none, .agg #[.int .u8 k, .int .i64 s], .int .i64 n] w fun e w' => e = .returned (.tuple #[]) ∧ Below w.heap.size w w' := by
  go_enter Try.func49, Try.ntmps49
  go_wp2
  refine bodyPost_ret (results_none rfl _ _ _) rfl ?_
  exact ⟨rfl, below_alloc _ _⟩
set_option maxHeartbeats 1200000 in
theorem note16 (b : Nat) (rv : Value) (L : List Rn) (k s : Int) (w : World) (h : Led w b rv L) (hr : (⟨k, s, 1⟩ : Rn).Ok) (hb : tot L + 1 ≤ 9223372036854775807) (hN : (L.length + 1) * 24 ≤ 140737488355328) :
    Calls Try.prog 40 #[.pointer (some ⟨b, 0, none⟩), .agg #[.int .u8 k, .int .i64 s]] w fun e w' => e = .returned (.tuple #[]) ∧ ∃ rv', Led w' b rv' (putL L ⟨k, s, 1⟩) ∧ Kp (fun j => j = b ∨ rv.ownBlock = some j) w w' ∧ SameOrNew w rv rv' := by
  have H := hid h
  have HR := hid hr
  clear h hr
  have hA := below_alloc w (.cells #[.int .u8 k, .int .i64 s] 59)
  have HA := hid hA
  clear hA
  go_enter Try.func40, Try.ntmps40
  go_wp2_with fail
  refine (noteTimes17 b rv L k s 1 _ (H.out.below HA.out) HR.out (by omega) hb hN).mono ?_
  rintro e w1 ⟨rfl, rv', hl, hk, hs⟩
  have R : Hid (Led w1 b rv' (putL L ⟨k, s, 1⟩) ∧ Kp (fun j => j = b ∨ rv.ownBlock = some j) w w1 ∧ SameOrNew w rv rv') := ⟨hl, (Kp.of_below _ HA.out).trans hk (fun _ _ e => e), hs.imp id (fun h g hg => by have := h g hg; simp at this; omega)⟩
  clear hl hk hs
  go_wp2
  go_end0
  exact ⟨rfl, _, R.out⟩
set_option maxHeartbeats 1200000 in
theorem note16n (k s : Int) (w : World) :
    Calls Try.prog 40 #[.pointer none, .agg #[.int .u8 k, .int .i64 s]] w fun e w' => e = .returned (.tuple #[]) ∧ Below w.heap.size w w' := by
  have hA := below_alloc w (.cells #[.int .u8 k, .int .i64 s] 59)
  have HA := hid hA
  clear hA
  go_enter Try.func40, Try.ntmps40
  go_wp2_with fail
  refine (noteTimes17n k s 1 _).mono ?_
  rintro e w1 ⟨rfl, hb⟩
  have R := hid (below_next HA.out hb)
  clear hb
  go_wp2
  go_end0
  exact ⟨rfl, R.out⟩
end Go.Proofs.Ytpcnkiapbkmjbaa
