/- Lists of runs in memory: what a slice reads as (a list of runs), what a call owns, how both stand behind further calls, and which blocks a step may have turned; no function of the program in it. -/
import Derived.WalkKit
import Derived.ProofKit
import Derived.Below
import Derived.BigQuiet
import Derived.Deep.QuietTactic
import Derived.Test.YtpcnkiapbkmjbaaQkp
namespace Go.Proofs.Ytpcnkiapbkmjbaa
open Go.ChangeShapes Go.WideShapes Go.ChangeAt Go.RowKit

/-- A run: the event's kind and size, the count. -/
structure Rn where
  k : Int
  s : Int
  c : Int
  deriving DecidableEq

/-- Its numbers fit. -/
def Rn.Ok (r : Rn) : Prop := (0 ≤ r.k ∧ r.k < 256) ∧ (-9223372036854775808 ≤ r.s ∧ r.s ≤ 9223372036854775807) ∧ (-9223372036854775808 ≤ r.c ∧ r.c ≤ 9223372036854775807)

/-- A run's three cells. -/
def rc (r : Rn) : List Value := [.int .u8 r.k, .int .i64 r.s, .int .i64 r.c]
/-- The cells of a list of runs. -/
def rl (L : List Rn) : List Value := L.flatMap rc
theorem rl_nil : rl [] = [] := rfl
theorem rl_cons (r : Rn) (L : List Rn) : rl (r :: L) = .int .u8 r.k :: .int .i64 r.s :: .int .i64 r.c :: rl L := rfl
theorem rl_append (L M : List Rn) : rl (L ++ M) = rl L ++ rl M := by simp [rl]
theorem rl_one (r : Rn) : rl [r] = [.int .u8 r.k, .int .i64 r.s, .int .i64 r.c] := rfl
theorem rl_length (L : List Rn) : (rl L).length = L.length * 3 := by
  induction L with
  | nil => rfl
  | cons r L ih => rw [rl_cons]; simp only [List.length_cons, ih]; omega
theorem rl_oneCell (L : List Rn) : ∀ u ∈ rl L, u.oneCell' = true := by
  intro u hu
  simp [rl, rc] at hu
  obtain ⟨r, _, rfl | rfl | rfl⟩ := hu <;> rfl
theorem rl_get (L : List Rn) : ∀ (i : Nat) (r : Rn), L[i]? = some r → (rl L)[i * 3]? = some (.int .u8 r.k) ∧ (rl L)[i * 3 + 1]? = some (.int .i64 r.s) ∧ (rl L)[i * 3 + 2]? = some (.int .i64 r.c) := by
  induction L with
  | nil => intro i r h; simp at h
  | cons q L ih =>
    intro i r h
    cases i with
    | zero => simp at h; subst h; simp [rl_cons]
    | succ i =>
      simp at h
      have := ih i r h
      rw [rl_cons, show (i + 1) * 3 = i * 3 + 3 by omega]
      simpa using this
theorem rl_set_c (L : List Rn) : ∀ (i : Nat) (r : Rn) (c : Int), L[i]? = some r → (rl L).set (i * 3 + 2) (.int .i64 c) = rl (L.set i ⟨r.k, r.s, c⟩) := by
  induction L with
  | nil => intro i r c h; simp at h
  | cons q L ih =>
    intro i r c h
    cases i with
    | zero => simp at h; subst h; simp [rl_cons]
    | succ i =>
      simp at h
      have := ih i r c h
      rw [rl_cons, show (i + 1) * 3 + 2 = i * 3 + 2 + 3 by omega]
      simp [rl_cons, this]
theorem rl_set (L : List Rn) : ∀ (i : Nat) (r : Rn), i < L.length → (((rl L).set (i * 3) (.int .u8 r.k)).set (i * 3 + 1) (.int .i64 r.s)).set (i * 3 + 2) (.int .i64 r.c) = rl (L.set i r) := by
  induction L with
  | nil => intro i r h; simp at h
  | cons q L ih =>
    intro i r h
    cases i with
    | zero => simp [rl_cons]
    | succ i =>
      have := ih i r (by simpa using h)
      rw [rl_cons, show (i + 1) * 3 = i * 3 + 3 by omega, show i * 3 + 3 + 1 = i * 3 + 1 + 3 by omega, show i * 3 + 3 + 2 = i * 3 + 2 + 3 by omega]
      simp [rl_cons, this]

/-- The cells from off on are the list's. -/
def CA (w : World) (b off : Nat) (L : List Rn) : Prop :=
  ∀ i r, L[i]? = some r → w.cell? ⟨b, off + i * 3, none⟩ = some (.int .u8 r.k) ∧ w.cell? ⟨b, off + i * 3 + 1, none⟩ = some (.int .i64 r.s) ∧ w.cell? ⟨b, off + i * 3 + 2, none⟩ = some (.int .i64 r.c)

/-- The slice v reads as the list L. -/
def RB (w : World) (v : Value) (L : List Rn) : Prop :=
  (∀ r ∈ L, r.Ok) ∧ ∃ a cap, v = .slice a L.length cap ∧ L.length ≤ cap ∧ cap ≤ maxLen ∧
    ((L = [] ∧ (a = none → cap = 0)) ∨ ∃ b off, a = some ⟨b, off, none⟩ ∧ CA w b off L)

/-- The call owns the slice v, which holds the list L: from block 'base' on. -/
def Own (w : World) (base : Nat) (v : Value) (L : List Rn) : Prop :=
  (∀ r ∈ L, r.Ok) ∧ w.ownsRow base 61 3 v L.length (rl L)

theorem Own.shape {w : World} {base : Nat} {v : Value} {L : List Rn} (h : Own w base v L) :
    (v = .slice none 0 0 ∧ L = []) ∨ ∃ g cap, v = .slice (some ⟨g, 0, none⟩) L.length cap ∧ base ≤ g ∧ g < w.heap.size ∧ L.length ≤ cap ∧ cap ≤ maxLen ∧
      (∀ i r, L[i]? = some r → w.cell? ⟨g, i * 3, none⟩ = some (.int .u8 r.k) ∧ w.cell? ⟨g, i * 3 + 1, none⟩ = some (.int .i64 r.s) ∧ w.cell? ⟨g, i * 3 + 2, none⟩ = some (.int .i64 r.c)) ∧ ∀ i, w.frozen? ⟨g, i, none⟩ = false := by
  have h2 := h.2
  rcases h.2.2 with ⟨hn, h0⟩ | ⟨g, cap, cur, rfl, hb, hg, hnc, hcm, hcs, ht⟩
  · exact .inl ⟨hn, List.eq_nil_of_length_eq_zero h0⟩
  · refine .inr ⟨g, cap, rfl, hb, ?_, hnc, hcm, fun i r hi => ?_, fun i => h2.frozenAt i⟩
    · exact (Array.getElem?_eq_some_iff.1 hg).1
    · have hl : i < L.length := (List.getElem?_eq_some_iff.1 hi).1
      obtain ⟨a1, a2, a3⟩ := rl_get L i r hi
      exact ⟨(h2.cellAt _ (by omega)).trans a1, (h2.cellAt _ (by omega)).trans a2, (h2.cellAt _ (by omega)).trans a3⟩

theorem Own.reads {w : World} {base : Nat} {v : Value} {L : List Rn} (h : Own w base v L) : RB w v L := by
  rcases h.shape with ⟨rfl, rfl⟩ | ⟨g, cap, rfl, _, _, hnc, hcm, hc, _⟩
  · exact ⟨h.1, none, 0, rfl, Nat.le_refl _, by simp [maxLen], .inl ⟨rfl, fun _ => rfl⟩⟩
  · exact ⟨h.1, _, _, rfl, hnc, hcm, .inr ⟨g, 0, rfl, fun i r hi => by rw [Nat.zero_add]; exact hc i r hi⟩⟩

theorem Own.isSlice {w : World} {base : Nat} {v : Value} {L : List Rn} (h : Own w base v L) : ∃ a n cap, v = .slice a n cap := by
  obtain ⟨a, cap, e, _⟩ := h.reads.2
  exact ⟨a, _, cap, e⟩
theorem Own.base {w : World} {base base' : Nat} {v : Value} {L : List Rn} (h : Own w base v L) (hb : base' ≤ base) : Own w base' v L := by
  refine ⟨h.1, h.2.1, ?_⟩
  rcases h.2.2 with h1 | ⟨g, cap, cur, e, hg, rest⟩
  · exact .inl h1
  · exact .inr ⟨g, cap, cur, e, by omega, rest⟩

theorem Own.lt {w : World} {base : Nat} {v : Value} {L : List Rn} (h : Own w base v L) (q : Nat) (hq : v.ownBlock = some q) : base ≤ q ∧ q < w.heap.size := h.2.lt q hq
theorem Own.nil (w : World) (base : Nat) : Own w base (.slice none 0 0) [] := ⟨fun r hr => by simp at hr, World.ownsRow_nil _ _ _ _⟩

/-- A literal list. -/
theorem own_lit (w : World) (L : List Rn) (cs : Array Value) (hL : ∀ r ∈ L, r.Ok) (hc : cs.toList = rl L) (hm : L.length ≤ maxLen) : Own (w.alloc (.cells cs 61)) w.heap.size (.slice (some ⟨w.heap.size, 0, none⟩) L.length L.length) L := by
  refine ⟨hL, ?_⟩
  have hs : cs.size = L.length * 3 := by rw [← Array.length_toList, hc, rl_length]
  have := World.ownsRow_lit (base := w.heap.size) (e := 61) (size := 3) w cs L.length (Nat.le_refl _) hm hs
  rwa [hc] at this

theorem RB.shape {w : World} {v : Value} {L : List Rn} (h : RB w v L) : ∃ a cap, v = .slice a L.length cap ∧ L.length ≤ cap ∧ cap ≤ maxLen ∧ (a = none → L = [] ∧ cap = 0) ∧ (∀ b, a = some b → L = [] ∨ ∃ blk off, b = ⟨blk, off, none⟩ ∧ CA w blk off L) := by
  obtain ⟨_, a, cap, rfl, h1, h2, ⟨h0, h3⟩ | ⟨b, off, rfl, hc⟩⟩ := h
  · exact ⟨a, cap, rfl, h1, h2, fun e => ⟨h0, h3 e⟩, fun b _ => .inl h0⟩
  · exact ⟨_, cap, rfl, h1, h2, fun e => (by cases e), fun b' e => by cases e; exact .inr ⟨b, off, rfl, hc⟩⟩

theorem CA.lt {w : World} {b off : Nat} {L : List Rn} (h : CA w b off L) (hn : L ≠ []) : b < w.heap.size := by
  cases L with
  | nil => exact absurd rfl hn
  | cons r L => exact block_lt_of_cell (h 0 r rfl).1

/-- Behind a step that kept the block the slice reads as before. -/
theorem CA.kept {w w' : World} {b off : Nat} {L : List Rn} (h : CA w b off L) (hb : L ≠ [] → w'.heap[b]? = w.heap[b]?) : CA w' b off L := by
  intro i r hi
  have hne : L ≠ [] := by intro e; subst e; simp at hi
  obtain ⟨h1, h2, h3⟩ := h i r hi
  have hb := hb hne
  refine ⟨?_, ?_, ?_⟩
  · rw [World.cell?_of_block (w := w) (a := ⟨b, off + i * 3, none⟩) hb]; exact h1
  · rw [World.cell?_of_block (w := w) (a := ⟨b, off + i * 3 + 1, none⟩) hb]; exact h2
  · rw [World.cell?_of_block (w := w) (a := ⟨b, off + i * 3 + 2, none⟩) hb]; exact h3

/-- Behind a call that only makes memory a slice reads as before. -/
theorem RB.below {w w' : World} {v : Value} {L : List Rn} (h : RB w v L) (hb : Below w.heap.size w w') : RB w' v L := by
  obtain ⟨hf, a, cap, rfl, h1, h2, h0 | ⟨b, off, rfl, hc⟩⟩ := h
  · exact ⟨hf, a, cap, rfl, h1, h2, .inl h0⟩
  · exact ⟨hf, _, cap, rfl, h1, h2, .inr ⟨b, off, rfl, hc.kept fun hn => hb.block b (hc.lt hn)⟩⟩
theorem RB.drewN {w : World} {v : Value} {L : List Rn} (h : RB w v L) (k : Nat) : RB (w.drewN k) v L := h
/-- What is owned stays, where its block is none that was turned. -/
theorem Own.kept {w w' : World} {base : Nat} {v : Value} {L : List Rn} {S : Nat → Prop} (h : Own w base v L) (hk : Kp S w w') (hne : ∀ g, v.ownBlock = some g → ¬ S g) : Own w' base v L := by
  refine ⟨h.1, h.2.1, ?_⟩
  rcases h.2.2 with hn | ⟨g, cap, cur, rfl, hb, hgg, rest⟩
  · exact .inl hn
  · refine .inr ⟨g, cap, cur, rfl, hb, ?_, rest⟩
    rw [hk.block g (Array.getElem?_eq_some_iff.1 hgg).1 (hne g rfl)]
    exact hgg
theorem Own.below {w w' : World} {base : Nat} {v : Value} {L : List Rn} (h : Own w base v L) (hb : Below w.heap.size w w') : Own w' base v L := h.kept (Kp.of_below (fun _ => False) hb) (fun _ _ e => e)
theorem Own.drewN {w : World} {base : Nat} {v : Value} {L : List Rn} (h : Own w base v L) (k : Nat) : Own (w.drewN k) base v L := h
theorem Own.alloc {w : World} {base : Nat} {v : Value} {L : List Rn} (h : Own w base v L) (o : Obj) : Own (w.alloc o) base v L := h.below (below_alloc w o)

/-- The count of run i written anew. -/
theorem Own.setC {w : World} {base g cap i : Nat} {L : List Rn} {r : Rn} (h : Own w base (.slice (some ⟨g, 0, none⟩) L.length cap) L) (hi : L[i]? = some r) (c : Int) (hc : -9223372036854775808 ≤ c ∧ c ≤ 9223372036854775807) :
    Own (w.setCell ⟨g, i * 3 + 2, none⟩ (.int .i64 c)) base (.slice (some ⟨g, 0, none⟩) L.length cap) (L.set i ⟨r.k, r.s, c⟩) ∧ Kp (fun k => k = g) w (w.setCell ⟨g, i * 3 + 2, none⟩ (.int .i64 c)) := by
  have h1 := h.2.stored (i * 3 + 2) (.int .i64 c)
  rw [rl_set_c L i r c hi] at h1
  refine ⟨⟨?_, ?_⟩, Kp.setCell _ _ _⟩
  · intro q hq
    rcases List.mem_or_eq_of_mem_set hq with hq | rfl
    · exact h.1 q hq
    · have := h.1 r (List.mem_of_getElem? hi)
      exact ⟨this.1, this.2.1, hc⟩
  · rw [List.length_set]; exact h1.1

/-- Run i written anew, cell by cell. -/
theorem Own.setR {w : World} {base g cap i : Nat} {L : List Rn} (r : Rn) (h : Own w base (.slice (some ⟨g, 0, none⟩) L.length cap) L) (hi : i < L.length) (hr : r.Ok) :
    Own (((w.setCell ⟨g, i * 3, none⟩ (.int .u8 r.k)).setCell ⟨g, i * 3 + 1, none⟩ (.int .i64 r.s)).setCell ⟨g, i * 3 + 2, none⟩ (.int .i64 r.c)) base (.slice (some ⟨g, 0, none⟩) L.length cap) (L.set i r) ∧
      Kp (fun k => k = g) w (((w.setCell ⟨g, i * 3, none⟩ (.int .u8 r.k)).setCell ⟨g, i * 3 + 1, none⟩ (.int .i64 r.s)).setCell ⟨g, i * 3 + 2, none⟩ (.int .i64 r.c)) := by
  have h1 := h.2.stored (i * 3) (.int .u8 r.k)
  have h2 := h1.1.stored (i * 3 + 1) (.int .i64 r.s)
  have h3 := h2.1.stored (i * 3 + 2) (.int .i64 r.c)
  rw [rl_set L i r hi] at h3
  refine ⟨⟨?_, ?_⟩, ((Kp.setCell _ _ _).trans (Kp.setCell _ _ _) (fun _ _ e => e)).trans (Kp.setCell _ _ _) (fun _ _ e => e)⟩
  · intro q hq
    rcases List.mem_or_eq_of_mem_set hq with hq | rfl
    · exact h.1 q hq
    · exact hr
  · rw [List.length_set]; exact h3.1
theorem Own.setCn {w : World} {base g cap i n : Nat} {L : List Rn} {r : Rn} (h : Own w base (.slice (some ⟨g, 0, none⟩) n cap) L) (hn : L.length = n) (hi : L[i]? = some r) (c : Int) (hc : -9223372036854775808 ≤ c ∧ c ≤ 9223372036854775807) :
    Own (w.setCell ⟨g, i * 3 + 2, none⟩ (.int .i64 c)) base (.slice (some ⟨g, 0, none⟩) n cap) (L.set i ⟨r.k, r.s, c⟩) ∧ Kp (fun k => k = g) w (w.setCell ⟨g, i * 3 + 2, none⟩ (.int .i64 c)) := by
  subst hn; exact h.setC hi c hc
end Go.Proofs.Ytpcnkiapbkmjbaa
