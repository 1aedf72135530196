/- Lists of runs in memory: what a slice reads as (a list of runs), what a call owns, how both stand behind further calls, and which blocks a step may have turned; no function of the program in it. The helpers of the statements that look at lists of runs and copy them: two runs held against each other, SameRuns, CopyRuns, slices.Clone, LentRuns, KeptRuns, OverRuns; and the program's sum that ends at the greatest int. What the program's 'put' answers: a run put behind runs, for every list that the call owns and every run; in which memory the longer list lies, and what else may have turned. A ledger in memory and what the program's functions on it answer: New, Note, NoteTimes, Len, Mark, Runs, Reset, Count; which blocks they may turn. A measure of a ledger: the greater of its runs' number and its events' number in 1,048,576s: what a note asks room by. No function of the program in it. What the program's Len of a ledger answers. What the program's functions on lists of runs answer: Count, for every list; nothing that was there is turned. -/
import Derived.WalkKit
import Derived.ProofKit
import Derived.Below
import Derived.BigQuiet
import Derived.Deep.QuietTactic
import Derived.Test.YtpohogpkfdebdaaGreatDoorZa
import Derived.Test.YtpohogpkfdebdaaGreatDoorRows
import Derived.Laws.StructEq
import Derived.ArgAppend
import Derived.WalkSpells
import Derived.Deep.RegionHeld3
import Derived.Deep.DeepMust
import Derived.Laws.AppendOwnNone
namespace Go.Proofs.YtpohogpkfdebdaaGreatDoor
open Go.ChangeShapes Go.WideShapes Go.ChangeAt Go.RowKit

/-- A run: the event's kind and size, the count. -/
structure Rn where
  k : Int
  s : Int
  c : Int
  deriving DecidableEq

/-- Its numbers fit. -/
def Rn.Ok (r : Rn) : Prop := (0 ≤ r.k ∧ r.k < 256) ∧ (-9223372036854775808 ≤ r.s ∧ r.s ≤ 9223372036854775807) ∧ (-9223372036854775808 ≤ r.c ∧ r.c ≤ 9223372036854775807)

/-- A run's three cells. -/
def rc (r : Rn) : List Value := [.int .u8 r.k, .int .i64 r.s, .int .i64 r.c]
/-- The cells of a list of runs. -/
def rl (L : List Rn) : List Value := L.flatMap rc
theorem rl_nil : rl [] = [] := rfl
theorem rl_cons (r : Rn) (L : List Rn) : rl (r :: L) = .int .u8 r.k :: .int .i64 r.s :: .int .i64 r.c :: rl L := rfl
theorem rl_append (L M : List Rn) : rl (L ++ M) = rl L ++ rl M := by simp [rl]
theorem rl_one (r : Rn) : rl [r] = [.int .u8 r.k, .int .i64 r.s, .int .i64 r.c] := rfl
theorem rl_length (L : List Rn) : (rl L).length = L.length * 3 := by
  induction L with
  | nil => rfl
  | cons r L ih => rw [rl_cons]; simp only [List.length_cons, ih]; omega
theorem rl_oneCell (L : List Rn) : ∀ u ∈ rl L, u.oneCell' = true := by
  intro u hu
  simp [rl, rc] at hu
  obtain ⟨r, _, rfl | rfl | rfl⟩ := hu <;> rfl
theorem rl_get (L : List Rn) : ∀ (i : Nat) (r : Rn), L[i]? = some r → (rl L)[i * 3]? = some (.int .u8 r.k) ∧ (rl L)[i * 3 + 1]? = some (.int .i64 r.s) ∧ (rl L)[i * 3 + 2]? = some (.int .i64 r.c) := by
  induction L with
  | nil => intro i r h; simp at h
  | cons q L ih =>
    intro i r h
    cases i with
    | zero => simp at h; subst h; simp [rl_cons]
    | succ i =>
      simp at h
      have := ih i r h
      rw [rl_cons, show (i + 1) * 3 = i * 3 + 3 by omega]
      simpa using this
theorem rl_set_c (L : List Rn) : ∀ (i : Nat) (r : Rn) (c : Int), L[i]? = some r → (rl L).set (i * 3 + 2) (.int .i64 c) = rl (L.set i ⟨r.k, r.s, c⟩) := by
  induction L with
  | nil => intro i r c h; simp at h
  | cons q L ih =>
    intro i r c h
    cases i with
    | zero => simp at h; subst h; simp [rl_cons]
    | succ i =>
      simp at h
      have := ih i r c h
      rw [rl_cons, show (i + 1) * 3 + 2 = i * 3 + 2 + 3 by omega]
      simp [rl_cons, this]
/-- The cells from off on are the list's. -/
def CA (w : World) (b off : Nat) (L : List Rn) : Prop :=
  ∀ i r, L[i]? = some r → w.cell? ⟨b, off + i * 3, none⟩ = some (.int .u8 r.k) ∧ w.cell? ⟨b, off + i * 3 + 1, none⟩ = some (.int .i64 r.s) ∧ w.cell? ⟨b, off + i * 3 + 2, none⟩ = some (.int .i64 r.c)

/-- The slice v reads as the list L. -/
def RB (w : World) (v : Value) (L : List Rn) : Prop :=
  (∀ r ∈ L, r.Ok) ∧ ∃ a cap, v = .slice a L.length cap ∧ L.length ≤ cap ∧ cap ≤ maxLen ∧
    ((L = [] ∧ (a = none → cap = 0)) ∨ ∃ b off, a = some ⟨b, off, none⟩ ∧ CA w b off L)

/-- The call owns the slice v, which holds the list L: from block 'base' on. -/
def Own (w : World) (base : Nat) (v : Value) (L : List Rn) : Prop :=
  (∀ r ∈ L, r.Ok) ∧ w.ownsRow base 78 3 v L.length (rl L)

theorem Own.shape {w : World} {base : Nat} {v : Value} {L : List Rn} (h : Own w base v L) :
    (v = .slice none 0 0 ∧ L = []) ∨ ∃ g cap, v = .slice (some ⟨g, 0, none⟩) L.length cap ∧ base ≤ g ∧ g < w.heap.size ∧ L.length ≤ cap ∧ cap ≤ maxLen ∧
      (∀ i r, L[i]? = some r → w.cell? ⟨g, i * 3, none⟩ = some (.int .u8 r.k) ∧ w.cell? ⟨g, i * 3 + 1, none⟩ = some (.int .i64 r.s) ∧ w.cell? ⟨g, i * 3 + 2, none⟩ = some (.int .i64 r.c)) ∧ ∀ i, w.frozen? ⟨g, i, none⟩ = false := by
  have h2 := h.2
  rcases h.2.2 with ⟨hn, h0⟩ | ⟨g, cap, cur, rfl, hb, hg, hnc, hcm, hcs, ht⟩
  · exact .inl ⟨hn, List.eq_nil_of_length_eq_zero h0⟩
  · refine .inr ⟨g, cap, rfl, hb, ?_, hnc, hcm, fun i r hi => ?_, fun i => h2.frozenAt i⟩
    · exact (Array.getElem?_eq_some_iff.1 hg).1
    · have hl : i < L.length := (List.getElem?_eq_some_iff.1 hi).1
      obtain ⟨a1, a2, a3⟩ := rl_get L i r hi
      exact ⟨(h2.cellAt _ (by omega)).trans a1, (h2.cellAt _ (by omega)).trans a2, (h2.cellAt _ (by omega)).trans a3⟩

theorem Own.reads {w : World} {base : Nat} {v : Value} {L : List Rn} (h : Own w base v L) : RB w v L := by
  rcases h.shape with ⟨rfl, rfl⟩ | ⟨g, cap, rfl, _, _, hnc, hcm, hc, _⟩
  · exact ⟨h.1, none, 0, rfl, Nat.le_refl _, by simp [maxLen], .inl ⟨rfl, fun _ => rfl⟩⟩
  · exact ⟨h.1, _, _, rfl, hnc, hcm, .inr ⟨g, 0, rfl, fun i r hi => by rw [Nat.zero_add]; exact hc i r hi⟩⟩

theorem Own.isSlice {w : World} {base : Nat} {v : Value} {L : List Rn} (h : Own w base v L) : ∃ a n cap, v = .slice a n cap := by
  obtain ⟨a, cap, e, _⟩ := h.reads.2
  exact ⟨a, _, cap, e⟩
theorem Own.base {w : World} {base base' : Nat} {v : Value} {L : List Rn} (h : Own w base v L) (hb : base' ≤ base) : Own w base' v L := by
  refine ⟨h.1, h.2.1, ?_⟩
  rcases h.2.2 with h1 | ⟨g, cap, cur, e, hg, rest⟩
  · exact .inl h1
  · exact .inr ⟨g, cap, cur, e, by omega, rest⟩

theorem Own.lt {w : World} {base : Nat} {v : Value} {L : List Rn} (h : Own w base v L) (q : Nat) (hq : v.ownBlock = some q) : base ≤ q ∧ q < w.heap.size := h.2.lt q hq
theorem Own.nil (w : World) (base : Nat) : Own w base (.slice none 0 0) [] := ⟨fun r hr => by simp at hr, World.ownsRow_nil _ _ _ _⟩

/-- A literal list. -/
theorem own_lit (w : World) (L : List Rn) (cs : Array Value) (hL : ∀ r ∈ L, r.Ok) (hc : cs.toList = rl L) (hm : L.length ≤ maxLen) : Own (w.alloc (.cells cs 78)) w.heap.size (.slice (some ⟨w.heap.size, 0, none⟩) L.length L.length) L := by
  refine ⟨hL, ?_⟩
  have hs : cs.size = L.length * 3 := by rw [← Array.length_toList, hc, rl_length]
  have := World.ownsRow_lit (base := w.heap.size) (e := 78) (size := 3) w cs L.length (Nat.le_refl _) hm hs
  rwa [hc] at this

theorem RB.shape {w : World} {v : Value} {L : List Rn} (h : RB w v L) : ∃ a cap, v = .slice a L.length cap ∧ L.length ≤ cap ∧ cap ≤ maxLen ∧ (a = none → L = [] ∧ cap = 0) ∧ (∀ b, a = some b → L = [] ∨ ∃ blk off, b = ⟨blk, off, none⟩ ∧ CA w blk off L) := by
  obtain ⟨_, a, cap, rfl, h1, h2, ⟨h0, h3⟩ | ⟨b, off, rfl, hc⟩⟩ := h
  · exact ⟨a, cap, rfl, h1, h2, fun e => ⟨h0, h3 e⟩, fun b _ => .inl h0⟩
  · exact ⟨_, cap, rfl, h1, h2, fun e => (by cases e), fun b' e => by cases e; exact .inr ⟨b, off, rfl, hc⟩⟩

theorem CA.lt {w : World} {b off : Nat} {L : List Rn} (h : CA w b off L) (hn : L ≠ []) : b < w.heap.size := by
  cases L with
  | nil => exact absurd rfl hn
  | cons r L => exact block_lt_of_cell (h 0 r rfl).1

/-- Behind a step that kept the block the slice reads as before. -/
theorem CA.kept {w w' : World} {b off : Nat} {L : List Rn} (h : CA w b off L) (hb : L ≠ [] → w'.heap[b]? = w.heap[b]?) : CA w' b off L := by
  intro i r hi
  have hne : L ≠ [] := by intro e; subst e; simp at hi
  obtain ⟨h1, h2, h3⟩ := h i r hi
  have hb := hb hne
  refine ⟨?_, ?_, ?_⟩
  · rw [World.cell?_of_block (w := w) (a := ⟨b, off + i * 3, none⟩) hb]; exact h1
  · rw [World.cell?_of_block (w := w) (a := ⟨b, off + i * 3 + 1, none⟩) hb]; exact h2
  · rw [World.cell?_of_block (w := w) (a := ⟨b, off + i * 3 + 2, none⟩) hb]; exact h3

/-- Behind a call that only makes memory a slice reads as before. -/
theorem RB.below {w w' : World} {v : Value} {L : List Rn} (h : RB w v L) (hb : Below w.heap.size w w') : RB w' v L := by
  obtain ⟨hf, a, cap, rfl, h1, h2, h0 | ⟨b, off, rfl, hc⟩⟩ := h
  · exact ⟨hf, a, cap, rfl, h1, h2, .inl h0⟩
  · exact ⟨hf, _, cap, rfl, h1, h2, .inr ⟨b, off, rfl, hc.kept fun hn => hb.block b (hc.lt hn)⟩⟩
/-- What is owned stays, where its block is none that was turned. -/
theorem Own.kept {w w' : World} {base : Nat} {v : Value} {L : List Rn} {S : Nat → Prop} (h : Own w base v L) (hk : Kp S w w') (hne : ∀ g, v.ownBlock = some g → ¬ S g) : Own w' base v L := by
  refine ⟨h.1, h.2.1, ?_⟩
  rcases h.2.2 with hn | ⟨g, cap, cur, rfl, hb, hgg, rest⟩
  · exact .inl hn
  · refine .inr ⟨g, cap, cur, rfl, hb, ?_, rest⟩
    rw [hk.block g (Array.getElem?_eq_some_iff.1 hgg).1 (hne g rfl)]
    exact hgg
theorem Own.below {w w' : World} {base : Nat} {v : Value} {L : List Rn} (h : Own w base v L) (hb : Below w.heap.size w w') : Own w' base v L := h.kept (Kp.of_below (fun _ => False) hb) (fun _ _ e => e)
theorem Own.drewN {w : World} {base : Nat} {v : Value} {L : List Rn} (h : Own w base v L) (k : Nat) : Own (w.drewN k) base v L := h
theorem Own.alloc {w : World} {base : Nat} {v : Value} {L : List Rn} (h : Own w base v L) (o : Obj) : Own (w.alloc o) base v L := h.below (below_alloc w o)

/-- The count of run i written anew. -/
theorem Own.setC {w : World} {base g cap i : Nat} {L : List Rn} {r : Rn} (h : Own w base (.slice (some ⟨g, 0, none⟩) L.length cap) L) (hi : L[i]? = some r) (c : Int) (hc : -9223372036854775808 ≤ c ∧ c ≤ 9223372036854775807) :
    Own (w.setCell ⟨g, i * 3 + 2, none⟩ (.int .i64 c)) base (.slice (some ⟨g, 0, none⟩) L.length cap) (L.set i ⟨r.k, r.s, c⟩) ∧ Kp (fun k => k = g) w (w.setCell ⟨g, i * 3 + 2, none⟩ (.int .i64 c)) := by
  have h1 := h.2.stored (i * 3 + 2) (.int .i64 c)
  rw [rl_set_c L i r c hi] at h1
  refine ⟨⟨?_, ?_⟩, Kp.setCell _ _ _⟩
  · intro q hq
    rcases List.mem_or_eq_of_mem_set hq with hq | rfl
    · exact h.1 q hq
    · have := h.1 r (List.mem_of_getElem? hi)
      exact ⟨this.1, this.2.1, hc⟩
  · rw [List.length_set]; exact h1.1

theorem Own.setCn {w : World} {base g cap i n : Nat} {L : List Rn} {r : Rn} (h : Own w base (.slice (some ⟨g, 0, none⟩) n cap) L) (hn : L.length = n) (hi : L[i]? = some r) (c : Int) (hc : -9223372036854775808 ≤ c ∧ c ≤ 9223372036854775807) :
    Own (w.setCell ⟨g, i * 3 + 2, none⟩ (.int .i64 c)) base (.slice (some ⟨g, 0, none⟩) n cap) (L.set i ⟨r.k, r.s, c⟩) ∧ Kp (fun k => k = g) w (w.setCell ⟨g, i * 3 + 2, none⟩ (.int .i64 c)) := by
  subst hn; exact h.setC hi c hc
end Go.Proofs.YtpohogpkfdebdaaGreatDoor
namespace Go.Proofs.YtpohogpkfdebdaaGreatDoor
open Go.ChangeShapes Go.WideShapes Go.ChangeAt Go.RowKit
theorem info70 : (Tryz.prog.info? 78).map (fun i => (i.zero, i.size, i.bytes)) = some (some (.agg #[.int .u8 0, .int .i64 0, .int .i64 0]), 3, 24) := by kernel_rfl

theorem equal39 (a b c d : Int) (w : World) : (Op.equalIn 9999 76 (.agg #[.int .u8 a, .int .i64 b]) (.agg #[.int .u8 c, .int .i64 d])).run Tryz.prog w = .ok (decide (a = c ∧ b = d)) w := by
  have u3 := Tryz.underlying3
  have u37 := Tryz.underlying74
  have hS : Tryz.prog.underlying 76 = some (.struct (Tryz.prog.fieldsOf 76)) := by kernel_rfl
  rw [show (9999 : Nat) = 9998 + 1 from rfl, run_equalIn_agg w 9998 76 _ _ hS (by kernel_rfl)]
  simp only [Program.fieldsOf, Tryz.underlying76]
  go_simp
  by_cases h1 : a = c <;> by_cases h2 : b = d <;> simp [h1, h2]
theorem equal39' (a b c d : Int) (w : World) : (Op.equalIn 10000 76 (.agg #[.int .u8 a, .int .i64 b]) (.agg #[.int .u8 c, .int .i64 d])).run Tryz.prog w = .ok (decide (a = c ∧ b = d)) w := by
  have u3 := Tryz.underlying3
  have u37 := Tryz.underlying74
  have hS : Tryz.prog.underlying 76 = some (.struct (Tryz.prog.fieldsOf 76)) := by kernel_rfl
  rw [show (10000 : Nat) = 9999 + 1 from rfl, run_equalIn_agg w 9999 76 _ _ hS (by kernel_rfl)]
  simp only [Program.fieldsOf, Tryz.underlying76]
  go_simp
  by_cases h1 : a = c <;> by_cases h2 : b = d <;> simp [h1, h2]
theorem equal70 (a b c d x y : Int) (w : World) : (Op.equalIn 10000 78 (.agg #[.int .u8 a, .int .i64 b, .int .i64 x]) (.agg #[.int .u8 c, .int .i64 d, .int .i64 y])).run Tryz.prog w = .ok (decide (a = c ∧ b = d ∧ x = y)) w := by
  have u3 := Tryz.underlying3
  have u39 := Tryz.underlying76
  have hS : Tryz.prog.underlying 78 = some (.struct (Tryz.prog.fieldsOf 78)) := by kernel_rfl
  have e39 := equal39 a b c d
  rw [show (10000 : Nat) = 9999 + 1 from rfl, run_equalIn_agg w 9999 78 _ _ hS (by kernel_rfl)]
  simp only [Program.fieldsOf, Tryz.underlying78]
  go_simp
  by_cases h1 : a = c <;> by_cases h2 : b = d <;> by_cases h3 : x = y <;> simp [h1, h2, h3]
/-- Two events' numbers are the same. -/
def eq2 (a b c d : Int) : Bool := decide (a = c ∧ b = d)
/-- Two runs' numbers are the same. -/
def eq3 (a b x c d y : Int) : Bool := decide (a = c ∧ b = d ∧ x = y)
theorem eq2_true {a b c d : Int} (h1 : a = c) (h2 : b = d) : eq2 a b c d = true := decide_eq_true ⟨h1, h2⟩
theorem eq2_false {a b c d : Int} (h : ¬ (a = c ∧ b = d)) : eq2 a b c d = false := decide_eq_false h
theorem eq3_true {a b x c d y : Int} (h1 : a = c) (h2 : b = d) (h3 : x = y) : eq3 a b x c d y = true := decide_eq_true ⟨h1, h2, h3⟩
theorem eq3_false {a b x c d y : Int} (h : ¬ (a = c ∧ b = d ∧ x = y)) : eq3 a b x c d y = false := decide_eq_false h
@[go_sem high] theorem same39 (a b c d : Int) (w : World) : (Op.equalIn 10000 76 (.agg #[.int .u8 a, .int .i64 b]) (.agg #[.int .u8 c, .int .i64 d])).run Tryz.prog w = .ok (eq2 a b c d) w := equal39' a b c d w
@[go_sem high] theorem same70 (a b c d x y : Int) (w : World) : (Op.equalIn 10000 78 (.agg #[.int .u8 a, .int .i64 b, .int .i64 x]) (.agg #[.int .u8 c, .int .i64 d, .int .i64 y])).run Tryz.prog w = .ok (eq3 a b x c d y) w := equal70 a b c d x y w

/-- The sum of two numbers of 0 or more; at most the greatest int. -/
def sm (a b : Int) : Int := if a + b ≤ 9223372036854775807 then a + b else 9223372036854775807
theorem add47 (a b : Int) (w : World) (ha : 0 ≤ a ∧ a ≤ 9223372036854775807) (hb : 0 ≤ b ∧ b ≤ 9223372036854775807) :
    Calls Tryz.prog 224 #[.int .i64 a, .int .i64 b] w fun e w' => e = .returned (.int .i64 (sm a b)) ∧ w' = w := by
  have h1 : IntKind.i64.wrap (9223372036854775807 - b) = 9223372036854775807 - b := by rw [IntKind.wrap_i64]; omega
  by_cases h : a + b ≤ 9223372036854775807
  · have h2 : IntKind.i64.wrap (a + b) = a + b := by rw [IntKind.wrap_i64]; omega
    have h3 : ¬ (9223372036854775807 - b < a) := by omega
    have e : sm a b = a + b := if_pos h
    rw [e]
    clear e h
    go_enter Tryz.func224, Tryz.ntmps224
    go_wp2
    go_ret
    exact ⟨rfl, rfl⟩
  · have h3 : 9223372036854775807 - b < a := by omega
    have e : sm a b = 9223372036854775807 := if_neg h
    rw [e]
    clear e h
    go_enter Tryz.func224, Tryz.ntmps224
    go_wp2
    go_ret
    exact ⟨rfl, rfl⟩
theorem take_next {L M : List Rn} {k : Nat} {r : Rn} (h : L.take k = M.take k) (h1 : L[k]? = some r) (h2 : M[k]? = some r) : L.take (k + 1) = M.take (k + 1) := by
  rw [List.take_add_one, List.take_add_one, h, h1, h2]
theorem Rn.ext3 {r q : Rn} (h1 : r.k = q.k) (h2 : r.s = q.s) (h3 : r.c = q.c) : r = q := by
  cases r; cases q; simp at h1 h2 h3; subst h1 h2 h3; rfl
theorem get_of_lt {L : List Rn} {k : Nat} (h : k < L.length) : ∃ r, L[k]? = some r := ⟨L[k], List.getElem?_eq_getElem h⟩

set_option maxRecDepth 100000 in
set_option maxHeartbeats 1200000 in
theorem same14 (v v' : Value) (L M : List Rn) (w : World) (hv : RB w v L) (hv' : RB w v' M) (hL : L.length < 1000000000000000000) (hM : M.length < 1000000000000000000) :
    Calls Tryz.prog 18 #[v, v'] w fun e w' => e = .returned (.bool (decide (L = M))) ∧ ∃ d, w' = w.drewN d := by
  obtain ⟨a, cap, rfl, _, _, hz, hc⟩ := hv.shape
  obtain ⟨a', cap', rfl, _, _, hz', hc'⟩ := hv'.shape
  obtain ⟨n, hn⟩ : ∃ n, L.length = n := ⟨_, rfl⟩
  obtain ⟨m, hm⟩ : ∃ n, M.length = n := ⟨_, rfl⟩
  rw [hn] at hL ⊢
  rw [hm] at hM ⊢
  have Hn := hid hn
  have Hm := hid hm
  have HC := hid hc
  have HC' := hid hc'
  have HZ := hid hz
  have HZ' := hid hz'
  clear hn hm hc hc' hz hz' hv hv'
  by_cases hnm : n = m
  · subst hnm
    go_enter Tryz.func18, Tryz.ntmps18
    go_wp2
    go_loopw [5] (fun x wr => ∃ k : Nat, k ≤ n ∧ x = .int .i64 k ∧ (∃ d, wr = w.drewN d) ∧ L.take k = M.take k) (fun x _ => n - (intOf x).toNat)
    case atStart => exact ⟨0, Nat.zero_le _, rfl, ⟨0, rfl⟩, rfl⟩
    case round =>
      obtain ⟨k, hk, rfl, ⟨d, rfl⟩, hs⟩ := hrel
      have HS := hid hs
      clear hs
      by_cases hlt : k < n
      · obtain ⟨r, hr⟩ := get_of_lt (L := L) (k := k) (by rw [Hn.out]; exact hlt)
        obtain ⟨q, hq⟩ := get_of_lt (L := M) (k := k) (by rw [Hm.out]; exact hlt)
        obtain ⟨b, off, hb, hca⟩ : ∃ b off, a = some ⟨b, off, none⟩ ∧ CA w b off L := by
          cases a with
          | none => have := (HZ.out rfl).1; rw [this] at hr; simp at hr
          | some x =>
            rcases HC.out x rfl with h | ⟨b, off, rfl, h⟩
            · rw [h] at hr; simp at hr
            · exact ⟨b, off, rfl, h⟩
        obtain ⟨b', off', hb', hca'⟩ : ∃ b off, a' = some ⟨b, off, none⟩ ∧ CA w b off M := by
          cases a' with
          | none => have := (HZ'.out rfl).1; rw [this] at hq; simp at hq
          | some x =>
            rcases HC'.out x rfl with h | ⟨b, off, rfl, h⟩
            · rw [h] at hq; simp at hq
            · exact ⟨b, off, rfl, h⟩
        subst hb hb'
        obtain ⟨c1, c2, c3⟩ := hca k r hr
        obtain ⟨d1, d2, d3⟩ := hca' k q hq
        have HR := hid hr
        have HQ := hid hq
        clear hca hca' hr hq
        have l1 : (k : Int) < n := by omega
        by_cases he : r = q
        · subst he
          have hd := eq3_true (Eq.refl r.k) (Eq.refl r.s) (Eq.refl r.c)
          go_wp2
          go_quiet (fail)
          go_wp2
          go_roundw
          case rel => exact ⟨k + 1, by omega, by go_num, ⟨_, rfl⟩, take_next HS.out HR.out HQ.out⟩
          case measure => simp [intOf]; omega
        · have hd := eq3_false (a := r.k) (b := r.s) (x := r.c) (c := q.k) (d := q.s) (y := q.c) (fun h => he (Rn.ext3 h.1 h.2.1 h.2.2))
          have hLM : Hid (decide (L = M) = false) := decide_eq_false (fun h => by have a := HR.out; have b := HQ.out; rw [h, b] at a; exact he (Option.some.inj a).symm)
          have HE := hid he
          clear he
          go_wp2
          go_quiet (fail)
          go_wp2
          go_ret
          exact ⟨by rw [hLM.out]; rfl, _, drewN_two _ _ _⟩
      · have e : k = n := by omega
        subst e
        have hLM : Hid (decide (L = M) = true) := decide_eq_true (by
          have := HS.out
          rwa [List.take_of_length_le (by rw [Hn.out]; exact Nat.le_refl _), List.take_of_length_le (by rw [Hm.out]; exact Nat.le_refl _)] at this)
        go_wp2
        go_ret
        exact ⟨by rw [hLM.out]; rfl, d, rfl⟩
  · have hLM : Hid (decide (L = M) = false) := decide_eq_false (fun h => by have a := Hn.out; rw [h, Hm.out] at a; omega)
    rw [hLM.out]
    have hnm' : ¬ (n : Int) = m := by omega
    go_enter Tryz.func18, Tryz.ntmps18
    go_wp2
    go_ret
    exact ⟨rfl, 0, rfl⟩

theorem add_plain (b off j : Nat) : (⟨b, off, none⟩ : Addr).add j = ⟨b, off + j, none⟩ := by unfold Addr.add; split <;> simp_all
/-- The cells of a list, one by one. -/
theorem rl_at {w : World} {b off : Nat} {L : List Rn} (h : CA w b off L) : ∀ j u, (rl L)[j]? = some u → w.cell? ((⟨b, off, none⟩ : Addr).add j) = some u := by
  intro j u hj
  have hl : j < L.length * 3 := by
    have := (List.getElem?_eq_some_iff.1 hj).1
    rwa [rl_length] at this
  obtain ⟨r, hr⟩ := get_of_lt (L := L) (k := j / 3) (by omega)
  obtain ⟨a1, a2, a3⟩ := rl_get L _ r hr
  obtain ⟨c1, c2, c3⟩ := h _ r hr
  rw [add_plain]
  have hj3 : j = j / 3 * 3 ∨ j = j / 3 * 3 + 1 ∨ j = j / 3 * 3 + 2 := by omega
  rcases hj3 with e | e | e
  · rw [e] at hj ⊢; rw [a1] at hj; rw [c1]; exact hj
  · rw [e] at hj ⊢; rw [a2] at hj; rw [← Nat.add_assoc, c2]; exact hj
  · rw [e] at hj ⊢; rw [a3] at hj; rw [← Nat.add_assoc, c3]; exact hj
theorem rb_cells {w : World} {ad : Addr} {cap n : Nat} {L : List Rn} (h : RB w (.slice (some ad) n cap) L) : ∀ j u, (rl L)[j]? = some u → w.cell? (ad.add j) = some u := by
  obtain ⟨a, cap', he, _, _, _, hc⟩ := h.shape
  simp only [Value.slice.injEq] at he
  obtain ⟨rfl, rfl, rfl⟩ := he
  rcases hc ad rfl with rfl | ⟨b, off, rfl, hca⟩
  · intro j u hj; simp [rl_nil] at hj
  · exact rl_at hca

theorem nil32 (w : World) (a : Option Addr) (n c : Nat) : (binOp .eql 48 (.slice a n c) (.slice none 0 0)).run Tryz.prog w = .ok (.bool a.isNone) w := Lib.run_eql_slice_nil w 48 78 a n c 0 0 Tryz.underlying48
set_option maxHeartbeats 1200000 in
theorem clone49 (l : Value) (L : List Rn) (w : World) (hr : RB w l L) (hn : L.length * 24 ≤ 140737488355328) :
    Calls Tryz.prog 53 #[l] w fun e w' => ∃ v, e = .returned v ∧ Own w' w.heap.size v L ∧ Below w.heap.size w w' := by
  have hr' := hr
  obtain ⟨a, cap, rfl, h1, h2, hz, hc⟩ := hr.shape
  obtain ⟨i0, hi, hz0, hz1, hz2⟩ := info_parts info70
  have HF := hid hr.1
  cases a with
  | none =>
    obtain ⟨rfl, rfl⟩ := hz rfl
    clear hr hr' hc hz
    have hnil := nil32
    go_enter Tryz.func53, Tryz.ntmps53
    go_wp2
    go_ret
    exact ⟨_, rfl, Own.nil _ _, Below.refl _ _⟩
  | some ad =>
    have HC : Hid (∀ j u, (rl L)[j]? = some u → (w.alloc (.cells #[] 78)).cell? (ad.add j) = some u) := rb_cells (hr'.below (below_alloc w _))
    obtain ⟨n, hnn⟩ : ∃ n, L.length = n := ⟨_, rfl⟩
    have HL := hid hnn
    have HO : Hid ((w.alloc (.cells #[] 78)).ownsRow w.heap.size 78 3 (.slice (some ⟨w.heap.size, 0, none⟩) 0 0) 0 []) := World.ownsRow_lit (size := 3) w #[] 0 (Nat.le_refl _) (Nat.zero_le _) rfl
    rw [hnn] at hn h1 ⊢
    clear hr hr' hc hz hnn
    have hnil := nil32
    go_enter Tryz.func53, Tryz.ntmps53
    go_wp2_with (at_builtin; refine wpList_append_own _ rfl _ _ 48 rfl w.heap.size 78 i0 (.agg #[.int .u8 0, .int .i64 0, .int .i64 0]) 3 24 Tryz.underlying48 hi hz0 hz1 hz2 rfl (by decide) _ _ _ rfl HO.out ad n cap (rl L) rfl (by rw [rl_length, HL.out]) HC.out (rl_oneCell L) (by simp [maxLen]; omega) (by omega) (by simp) ?_)
    intro v' w1 hown hgrow _
    have R : Hid (Own w1 w.heap.size v' L ∧ Below w.heap.size w w1) := ⟨⟨HF.out, by rw [HL.out]; simpa using hown⟩, (below_alloc w _).grown hgrow (by simp) (fun k hk => by simp [Value.ownBlock] at hk; omega)⟩
    clear hown hgrow
    go_wp2
    go_ret
    exact ⟨_, rfl, R.out⟩
theorem cells_new (w : World) (r : Rn) : ∀ j u, (rl [r])[j]? = some u → (w.alloc (.cells #[.int .u8 r.k, .int .i64 r.s, .int .i64 r.c] 78)).cell? ((⟨w.heap.size, 0, none⟩ : Addr).add j) = some u := by
  have h := World.ownsRow_lit (base := 0) (e := 78) (size := 3) w #[.int .u8 r.k, .int .i64 r.s, .int .i64 r.c] 1 (Nat.zero_le _) (by simp [maxLen]) rfl
  exact h.cells rfl
theorem cells_new' (w : World) (r : Rn) (g : Nat) (hg : g = w.heap.size) : ∀ j u, (rl [r])[j]? = some u → (w.alloc (.cells #[.int .u8 r.k, .int .i64 r.s, .int .i64 r.c] 78)).cell? ((⟨g, 0, none⟩ : Addr).add j) = some u := by
  subst hg; exact cells_new w r
end Go.Proofs.YtpohogpkfdebdaaGreatDoor
namespace Go.Proofs.YtpohogpkfdebdaaGreatDoor
open Go.ChangeShapes Go.WideShapes Go.ChangeAt Go.RowKit

/-- A run put behind runs. -/
def putL (L : List Rn) (r : Rn) : List Rn :=
  if r.c < 1 then L else
  match L.getLast? with
  | some q => if q.k = r.k ∧ q.s = r.s then L.set (L.length - 1) ⟨q.k, q.s, sm q.c r.c⟩ else L ++ [r]
  | none => [r]
/-- All counts are 1 or more. -/
def Pos (L : List Rn) : Prop := ∀ q ∈ L, 1 ≤ q.c
theorem sm_bound {a b : Int} (ha : 1 ≤ a) (hb : 1 ≤ b) : 1 ≤ sm a b ∧ sm a b ≤ 9223372036854775807 := by
  unfold sm; split <;> omega
theorem putL_pos {L : List Rn} {r : Rn} (h : Pos L) : Pos (putL L r) := by
  unfold putL
  split
  · exact h
  · rename_i hc
    split
    · rename_i q hq
      have hq1 : q ∈ L := List.mem_of_getLast? hq
      split
      · intro x hx
        rcases List.mem_or_eq_of_mem_set hx with hx | rfl
        · exact h x hx
        · exact (sm_bound (h q hq1) (by omega)).1
      · intro x hx
        rcases List.mem_append.1 hx with hx | hx
        · exact h x hx
        · simp at hx; subst hx; omega
    · intro x hx
      simp at hx; subst hx; omega
theorem putL_len {L : List Rn} {r : Rn} : (putL L r).length ≤ L.length + 1 ∧ L.length ≤ (putL L r).length := by
  unfold putL
  split
  · omega
  · split
    · split <;> simp
    · rename_i h
      rw [List.getLast?_eq_none_iff] at h
      subst h; simp

/-- The same block, or a new one. -/
def SameOrNew (w : World) (v v' : Value) : Prop := v'.ownBlock = v.ownBlock ∨ ∀ g, v'.ownBlock = some g → w.heap.size ≤ g

/-- A list gone on with by one run that lies in a block of its own. -/
theorem wpList_push {w : World} {ops : Array Oper} {rest : List Oper} {o : Oper} {a : Act} {Q : Exit → Act → World → Prop} (hgd : o.guard = none) (s x : Operand)
    (ho : o.op = .call { callee := .builtin .append, args := #[s, x], argTypes := #[48, 48] })
    (base : Nat) (u : Value) (L : List Rn) (r : Rn) (hu : Own w base u L) (hr : r.Ok) (hb0 : base ≤ w.heap.size) (hN : (L.length + 1) * 24 ≤ 140737488355328) (ad : Addr)
    (hs : a.eval s = u) (hx : a.eval x = .slice (some ad) 1 1) (hc : ∀ j u, (rl [r])[j]? = some u → w.cell? (ad.add j) = some u)
    (h : ∀ u' w', Own w' base u' (L ++ [r]) → Kp (fun k => u.ownBlock = some k) w w' → SameOrNew w u u' → wpList Tryz.prog ops Q rest (a.put o.dst u') w') : wpList Tryz.prog ops Q (o :: rest) a w := by
  obtain ⟨i0, hi, hz0, hz1, hz2⟩ := info_parts info70
  have hok : ∀ q ∈ L ++ [r], q.Ok := by
    intro q hq
    rcases List.mem_append.1 hq with hq | hq
    · exact hu.1 q hq
    · simp at hq; subst hq; exact hr
  have grows : ∀ (ao : Option Addr) (cap : Nat), u = .slice ao L.length cap → (ao = none → L.length = 0 ∧ cap = 0) → (∀ b, ao = some b → ∀ j v, (rl L)[j]? = some v → w.cell? (b.add j) = some v) → cap < L.length + 1 →
      wpList Tryz.prog ops Q (o :: rest) a w := by
    intro ao cap hu' hnone hcells hcap
    refine wpList_append_grows _ hgd s x 48 ho 78 i0 (.agg #[.int .u8 0, .int .i64 0, .int .i64 0]) 3 24 Tryz.underlying48 hi hz0 hz1 hz2 rfl (by decide) ao L.length cap (rl L) (hs.trans hu') hnone (rl_length L) hcells ad 1 1 (rl [r]) hx rfl hc (rl_oneCell [r]) hcap (by simp [maxLen]; omega) hN ?_
    intro u' w' hown hgr
    rw [← rl_append] at hown
    have hO : Own w' w.heap.size u' (L ++ [r]) := ⟨hok, by rw [List.length_append]; exact hown⟩
    exact h u' w' (hO.base hb0) ((Kp.of_grown hgr).mono fun k _ e => by cases e) (.inr fun g hg => (hO.lt g hg).1)
  rcases hu.shape with ⟨hun, hn0⟩ | ⟨g, cap, hun, hgb, hgl, hnc, hcm, hcc, _⟩
  · subst hn0
    exact grows none 0 hun (fun _ => ⟨rfl, rfl⟩) (fun b hb => by cases hb) (by simp)
  · by_cases hcap : L.length + 1 ≤ cap
    · subst hun
      refine wpList_append_fits _ hgd s x 48 ho base 78 i0 3 Tryz.underlying48 hi hz1 g L.length cap (rl L) hs hu.2 ad 1 1 (rl [r]) hx rfl hc (rl_oneCell [r]) hcap ?_
      intro w' hown hgr
      rw [← rl_append] at hown
      exact h _ w' ⟨hok, by rw [List.length_append]; exact hown⟩ (Kp.of_grown hgr) (.inl rfl)
    · subst hun
      refine grows (some ⟨g, 0, none⟩) cap rfl (fun h => by cases h) (fun b hb => ?_) (by omega)
      cases hb
      exact rb_cells hu.reads

set_option maxRecDepth 100000 in
set_option maxHeartbeats 1200000 in
theorem put46 (base : Nat) (u : Value) (L : List Rn) (r : Rn) (w : World) (hu : Own w base u L) (hr : r.Ok) (hp : Pos L) (hb0 : base ≤ w.heap.size) (hN : (L.length + 1) * 24 ≤ 140737488355328) :
    Calls Tryz.prog 223 #[u, .agg #[.int .u8 r.k, .int .i64 r.s, .int .i64 r.c]] w fun e w' => ∃ u', e = .returned u' ∧ Own w' base u' (putL L r) ∧ Kp (fun k => u.ownBlock = some k) w w' ∧ SameOrNew w u u' := by
  obtain ⟨rk, rs, rcc⟩ := r
  dsimp only
  have HU := hid hu
  have HR := hid hr
  have HP := hid hp
  obtain ⟨n, hn⟩ : ∃ n, L.length = n := ⟨_, rfl⟩
  have HL := hid hn
  have hN' : (n + 1) * 24 ≤ 140737488355328 := by rw [← hn]; exact hN
  obtain ⟨a, cap, rfl⟩ : ∃ a cap, u = .slice a n cap := by
    obtain ⟨a, cap, h, _⟩ := hu.reads.shape
    exact ⟨a, cap, by rw [← hn]; exact h⟩
  have hK0 := hid (below_alloc w (.cells #[.int .u8 rk, .int .i64 rs, .int .i64 rcc] 78))
  clear hu hr hp hn hN
  by_cases hc1 : rcc < 1
  · have e : Hid (putL L ⟨rk, rs, rcc⟩ = L) := if_pos hc1
    go_enter Tryz.func223, Tryz.ntmps223
    go_wp2
    go_ret
    refine ⟨_, rfl, ?_, Kp.of_below _ hK0.out, .inl rfl⟩
    rw [e.out]
    exact HU.out.alloc _
  · have hc2 : ¬ (rcc < 1) := hc1
    by_cases hn0 : n = 0
    · subst hn0
      have hL0 : Hid (L = []) := List.eq_nil_of_length_eq_zero HL.out
      have e : Hid (putL L ⟨rk, rs, rcc⟩ = L ++ [⟨rk, rs, rcc⟩]) := by rw [hL0.out]; exact if_neg hc1
      go_enter Tryz.func223, Tryz.ntmps223
      go_wp2
      go_quiet (fail)
      go_wp2_with (at_builtin; go_must (refine wpList_push rfl _ _ rfl base _ L ⟨rk, rs, rcc⟩ ((HU.out.alloc _).alloc _) HR.out ?c1 ?c2 ⟨_, 0, none⟩ rfl rfl ?c3 ?_))
      case c1 => simp; omega
      case c2 => rw [HL.out]; exact hN'
      case c3 => exact cells_new' _ ⟨rk, rs, rcc⟩ _ (by simp)
      intro u' w1 hown hkp hson
      have R := hid hown
      have R2 : Hid (Kp (fun k => (Value.slice a 0 cap).ownBlock = some k) w w1) := (Kp.of_below _ (below_next (below_next hK0.out (below_drewN _ _)) (below_alloc _ _))).trans hkp (fun _ _ e => e)
      have R3 : Hid (SameOrNew w (Value.slice a 0 cap) u') := hson.imp id (fun h g hg => by have := h g hg; simp at this; omega)
      clear hown hkp hson
      go_wp2
      go_ret
      exact ⟨_, rfl, by rw [e.out]; exact R.out, R2.out, R3.out⟩
    · obtain ⟨q, hq⟩ := get_of_lt (L := L) (k := n - 1) (by rw [HL.out]; omega)
      have hlast : Hid (L.getLast? = some q) := by rw [List.getLast?_eq_getElem?, HL.out]; exact hq
      have HQ := hid hq
      obtain ⟨g, cap', hv, hgb, hgl, hnc, hcm, hcc, hfz⟩ : ∃ g cap', Value.slice a n cap = .slice (some ⟨g, 0, none⟩) n cap' ∧ base ≤ g ∧ g < w.heap.size ∧ n ≤ cap' ∧ cap' ≤ maxLen ∧
          (∀ i r, L[i]? = some r → w.cell? ⟨g, i * 3, none⟩ = some (.int .u8 r.k) ∧ w.cell? ⟨g, i * 3 + 1, none⟩ = some (.int .i64 r.s) ∧ w.cell? ⟨g, i * 3 + 2, none⟩ = some (.int .i64 r.c)) ∧ ∀ i, w.frozen? ⟨g, i, none⟩ = false := by
        rcases HU.out.shape with ⟨_, h0⟩ | ⟨g, cap', hv, rest⟩
        · have := HL.out; rw [h0] at this; simp at this; omega
        · rw [HL.out] at hv rest; exact ⟨g, cap', hv, rest⟩
      simp only [Value.slice.injEq] at hv
      obtain ⟨rfl, _, rfl⟩ := hv
      obtain ⟨c1, c2, c3⟩ := hcc (n - 1) q hq
      have f3 := hfz ((n - 1) * 3 + 2)
      have hq1 : 1 ≤ q.c := HP.out q (List.mem_of_getElem? hq)
      have hqo := HU.out.1 q (List.mem_of_getElem? hq)
      have hq2 : q.c ≤ 9223372036854775807 := hqo.2.2.2
      have hr2 : rcc ≤ 9223372036854775807 := HR.out.2.2.2
      have HQO := hid hqo
      clear hcc hfz hq hqo
      obtain ⟨m, hm⟩ : ∃ m, n - 1 = m := ⟨n - 1, rfl⟩
      rw [hm] at c1 c2 c3 f3 HQ
      have l1 : (m : Int) < n := by omega
      have l0 : 0 < n := by omega
      have hw1 : IntKind.i64.wrap ((n : Int) - 1) = m := by rw [IntKind.wrap_i64]; omega
      have Hm := hid hm
      clear hm
      by_cases he : q.k = rk ∧ q.s = rs
      · have hd := eq2_true he.1 he.2
        have e : Hid (putL L ⟨rk, rs, rcc⟩ = L.set m ⟨q.k, q.s, sm q.c rcc⟩) := by
          unfold putL
          rw [if_neg hc1, hlast.out, HL.out, Hm.out]
          exact if_pos he
        clear he
        go_enter Tryz.func223, Tryz.ntmps223
        go_wp2
        go_quiet (fail)
        go_wp2
        go_region_with (first | (go_at_call 224; refine (add47 _ _ _ (by omega) (by omega)).mono ?_; rintro e w' ⟨rfl, rfl⟩))
        all_goals go_wp2
        all_goals go_ret
        all_goals
          have hsb := sm_bound hq1 hc1
          have S := Own.setCn ((HU.out.alloc (.cells #[.int .u8 rk, .int .i64 rs, .int .i64 rcc] 78)).drewN (nq + 1)) HL.out HQ.out (sm q.c rcc) (by omega)
          exact ⟨_, rfl, by rw [e.out]; exact S.1, (Kp.of_below _ (below_next hK0.out (below_drewN _ _))).trans S.2 (fun k _ e => by subst e; rfl), .inl rfl⟩
      · have hd := eq2_false he
        have e : Hid (putL L ⟨rk, rs, rcc⟩ = L ++ [⟨rk, rs, rcc⟩]) := by
          unfold putL
          rw [if_neg hc1, hlast.out]
          exact if_neg he
        clear he
        go_enter Tryz.func223, Tryz.ntmps223
        go_wp2
        go_quiet (fail)
        go_wp2_with (at_builtin; go_must (refine wpList_push rfl _ _ rfl base _ L ⟨rk, rs, rcc⟩ ((HU.out.alloc _).alloc _) HR.out ?c1 ?c2 ⟨_, 0, none⟩ rfl rfl ?c3 ?_))
        case c1 => simp; omega
        case c2 => rw [HL.out]; exact hN'
        case c3 => exact cells_new' _ ⟨rk, rs, rcc⟩ _ (by simp)
        intro u' w1 hown hkp hson
        have R := hid hown
        have R2 : Hid (Kp (fun k => (Value.slice (some ⟨g, 0, none⟩) n cap).ownBlock = some k) w w1) := (Kp.of_below _ (below_next (below_next hK0.out (below_drewN _ _)) (below_alloc _ _))).trans hkp (fun _ _ e => e)
        have R3 : Hid (SameOrNew w (Value.slice (some ⟨g, 0, none⟩) n cap) u') := hson.imp id (fun h g hg => by have := h g hg; simp at this; omega)
        clear hown hkp hson
        go_wp2
        go_ret
        exact ⟨_, rfl, by rw [e.out]; exact R.out, R2.out, R3.out⟩
end Go.Proofs.YtpohogpkfdebdaaGreatDoor
namespace Go.Proofs.YtpohogpkfdebdaaGreatDoor
open Go.ChangeShapes Go.WideShapes Go.ChangeAt Go.RowKit

/-- How many events runs stand for. -/
def tot : List Rn → Int
  | [] => 0
  | r :: L => r.c + tot L
theorem tot_append (L M : List Rn) : tot (L ++ M) = tot L + tot M := by
  induction L with
  | nil => simp [tot]
  | cons r L ih => simp [tot, ih]; omega
theorem tot_pos {L : List Rn} (h : Pos L) : (L.length : Int) ≤ tot L := by
  induction L with
  | nil => simp [tot]
  | cons r L ih =>
    have h1 := h r (by simp)
    have h2 := ih (fun q hq => h q (by simp [hq]))
    simp [tot]; omega
theorem tot_set {L : List Rn} : ∀ {i : Nat} {q : Rn} (r : Rn), L[i]? = some q → tot (L.set i r) = tot L - q.c + r.c := by
  induction L with
  | nil => intro i q r h; simp at h
  | cons x L ih =>
    intro i q r h
    cases i with
    | zero => simp at h; subst h; simp [tot]; omega
    | succ i => simp at h; simp [tot, ih r h]; omega
theorem tot_mem {L : List Rn} (h : Pos L) {q : Rn} (hq : q ∈ L) : q.c ≤ tot L := by
  induction L with
  | nil => simp at hq
  | cons x L ih =>
    have h2 : Pos L := fun q hq => h q (by simp [hq])
    have h3 := tot_pos h2
    have h4 := h x (by simp)
    rcases List.mem_cons.1 hq with rfl | hq
    · simp [tot]; omega
    · have := ih h2 hq; simp [tot]; omega
theorem tot_put {L : List Rn} {r : Rn} (h : Pos L) (hr : 1 ≤ r.c) (hb : tot L + r.c ≤ 9223372036854775807) : tot (putL L r) = tot L + r.c := by
  unfold putL
  rw [if_neg (by omega)]
  split
  · rename_i q hq
    rw [List.getLast?_eq_getElem?] at hq
    have hm := tot_mem h (List.mem_of_getElem? hq)
    split
    · rw [tot_set _ hq]
      show tot L - q.c + sm q.c r.c = _
      unfold sm; rw [if_pos (by omega)]; omega
    · rw [tot_append]; simp [tot]
  · rename_i hq
    rw [List.getLast?_eq_none_iff] at hq
    subst hq; simp [tot]

/-- The ledger in block b holds the runs L, in the slice rv. -/
structure Led (w : World) (b : Nat) (rv : Value) (L : List Rn) : Prop where
  here : w.heap[b]? = some (.cells #[rv, .int .i64 (tot L)] 89 (0, 0))
  own : Own w 0 rv L
  pos : Pos L
  most : tot L ≤ 9223372036854775807

theorem Led.lt {w : World} {b : Nat} {rv : Value} {L : List Rn} (h : Led w b rv L) : b < w.heap.size := (Array.getElem?_eq_some_iff.1 h.here).1
theorem Led.ne {w : World} {b : Nat} {rv : Value} {L : List Rn} (h : Led w b rv L) : rv.ownBlock ≠ some b := by
  intro e
  rcases h.own.2.2 with ⟨rfl, _⟩ | ⟨g, cap, cur, rfl, _, hg, _⟩
  · simp [Value.ownBlock] at e
  · simp [Value.ownBlock] at e
    subst e
    rw [h.here] at hg
    simp at hg
theorem Led.kept {w w' : World} {b : Nat} {rv : Value} {L : List Rn} {S : Nat → Prop} (h : Led w b rv L) (hk : Kp S w w') (h1 : ¬ S b) (h2 : ∀ g, rv.ownBlock = some g → ¬ S g) : Led w' b rv L :=
  ⟨(hk.block b h.lt h1).trans h.here, h.own.kept hk h2, h.pos, h.most⟩
theorem Led.below {w w' : World} {b : Nat} {rv : Value} {L : List Rn} (h : Led w b rv L) (hb : Below w.heap.size w w') : Led w' b rv L := h.kept (Kp.of_below (fun _ => False) hb) (fun e => e) (fun _ _ e => e)
theorem Led.cell0 {w : World} {b : Nat} {rv : Value} {L : List Rn} (h : Led w b rv L) : w.cell? ⟨b, 0, none⟩ = some rv := by
  rw [cell_of_row w b 0 _ 89 (0, 0) h.here]; rfl
theorem Led.cell1 {w : World} {b : Nat} {rv : Value} {L : List Rn} (h : Led w b rv L) : w.cell? ⟨b, 1, none⟩ = some (.int .i64 (tot L)) := by
  rw [cell_of_row w b 1 _ 89 (0, 0) h.here]; rfl
theorem Led.frozen {w : World} {b : Nat} {rv : Value} {L : List Rn} (h : Led w b rv L) (j : Nat) : w.frozen? ⟨b, j, none⟩ = false := frozen_of_row w b j _ 89 h.here
theorem Led.len {w : World} {b : Nat} {rv : Value} {L : List Rn} (h : Led w b rv L) : (L.length : Int) ≤ tot L ∧ 0 ≤ tot L := by
  have := tot_pos h.pos; omega

set_option maxHeartbeats 1200000 in
theorem new9 (w : World) : Calls Tryz.prog 11 #[] w fun e w' => e = .returned (.pointer (some ⟨w.heap.size, 0, none⟩)) ∧ Led w' w.heap.size (.slice none 0 0) [] ∧ Below w.heap.size w w' := by
  go_enter Tryz.func11, Tryz.ntmps11
  go_wp2
  go_ret
  refine ⟨rfl, ⟨heap_alloc_new _ _, Own.nil _ _, fun q hq => by simp at hq, by simp [tot]⟩, below_alloc _ _⟩

set_option maxHeartbeats 1200000 in
theorem runs22 (b : Nat) (rv : Value) (L : List Rn) (w : World) (h : Led w b rv L) (hn : L.length * 24 ≤ 140737488355328) :
    Calls Tryz.prog 19 #[.pointer (some ⟨b, 0, none⟩)] w fun e w' => ∃ v, e = .returned v ∧ Own w' w.heap.size v L ∧ Below w.heap.size w w' := by
  have H := hid h
  have h0 := h.cell0
  clear h
  go_enter Tryz.func19, Tryz.ntmps19
  go_wp2_with fail
  refine (clone49 rv L w H.out.own.reads hn).mono ?_
  rintro e w' ⟨v, rfl, ho, hb⟩
  have HO := hid ho
  have HB := hid hb
  clear ho hb
  go_wp2
  go_ret
  exact ⟨_, rfl, HO.out, HB.out⟩
theorem led_c0 {w : World} {b : Nat} {rv u : Value} (h : w.heap[b]? = some (.cells #[rv, u] 89 (0, 0))) : w.cell? ⟨b, 0, none⟩ = some rv := by
  rw [cell_of_row w b 0 _ 89 (0, 0) h]; rfl
theorem led_c1 {w : World} {b : Nat} {rv u : Value} (h : w.heap[b]? = some (.cells #[rv, u] 89 (0, 0))) : w.cell? ⟨b, 1, none⟩ = some u := by
  rw [cell_of_row w b 1 _ 89 (0, 0) h]; rfl
theorem led_after {w w0 w1 : World} {b : Nat} {rv : Value} {L : List Rn} (h : Led w b rv L) (hw : Below w.heap.size w w0) (hk : Kp (fun j => rv.ownBlock = some j) w0 w1) : w1.heap[b]? = some (.cells #[rv, .int .i64 (tot L)] 89 (0, 0)) := by
  rw [hk.block b (Nat.lt_of_lt_of_le h.lt hw.size) h.ne]
  exact (hw.block b h.lt).trans h.here
theorem led_noted {w w0 w1 : World} {b : Nat} {rv u : Value} {L : List Rn} {r : Rn} (h : Led w b rv L) (hw : Below w.heap.size w w0) (hk : Kp (fun j => rv.ownBlock = some j) w0 w1) (ho : Own w1 0 u (putL L r)) (hs : SameOrNew w0 rv u) (hr : 1 ≤ r.c) (hb : tot L + r.c ≤ 9223372036854775807) :
    Led ((w1.setCell ⟨b, 0, none⟩ u).setCell ⟨b, 1, none⟩ (.int .i64 (tot L + r.c))) b u (putL L r) ∧ Kp (fun j => j = b ∨ rv.ownBlock = some j) w ((w1.setCell ⟨b, 0, none⟩ u).setCell ⟨b, 1, none⟩ (.int .i64 (tot L + r.c))) ∧ SameOrNew w rv u := by
  have hh := led_after h hw hk
  have hwz := hw.size
  have k1 : Kp (fun j => j = b) w1 ((w1.setCell ⟨b, 0, none⟩ u).setCell ⟨b, 1, none⟩ (.int .i64 (tot L + r.c))) := (Kp.setCell _ _ _).trans (Kp.setCell _ _ _) (fun _ _ e => e)
  have hne : u.ownBlock ≠ some b := by
    intro e
    rcases hs with hs | hs
    · rw [hs] at e; exact h.ne e
    · have := hs b e; have := h.lt; omega
  refine ⟨⟨?_, ho.kept k1 (fun g hg e => by subst e; exact hne hg), putL_pos h.pos, by rw [tot_put h.pos hr hb]; exact hb⟩, ?_, ?_⟩
  · rw [heap_setCell_same _ b 1 #[u, .int .i64 (tot L)] 89 _ (by rw [heap_setCell_same _ b 0 _ 89 _ hh]; rfl), tot_put h.pos hr hb]
    rfl
  · have k0 : Kp (fun j => rv.ownBlock = some j) w w1 := (Kp.of_below _ hw).trans hk (fun _ _ e => e)
    exact (k0.mono fun k _ e => .inr e).trans k1 (fun k _ e => .inl e)
  · exact hs.imp id (fun h' g hg => by have := h' g hg; omega)

set_option maxRecDepth 100000 in
set_option maxHeartbeats 1200000 in
theorem noteTimes17 (b : Nat) (rv : Value) (L : List Rn) (k s n : Int) (w : World) (h : Led w b rv L) (hr : (⟨k, s, n⟩ : Rn).Ok) (hn1 : 1 ≤ n) (hb : tot L + n ≤ 9223372036854775807) (hN : (L.length + 1) * 24 ≤ 140737488355328) :
    Calls Tryz.prog 170 #[.pointer (some ⟨b, 0, none⟩), .agg #[.int .u8 k, .int .i64 s], .int .i64 n] w fun e w' => e = .returned (.tuple #[]) ∧ ∃ rv', Led w' b rv' (putL L ⟨k, s, n⟩) ∧ Kp (fun j => j = b ∨ rv.ownBlock = some j) w w' ∧ SameOrNew w rv rv' := by
  have H := hid h
  have h0 := h.cell0
  have h1 := h.cell1
  have f0 := h.frozen 0
  have f1 := h.frozen 1
  have hlt := h.lt
  have HR := hid hr
  have ht0 := h.len.2
  have hno : n ≤ 9223372036854775807 := hr.2.2.2
  have hsm : Hid (sm (tot L) n = tot L + n) := if_pos hb
  have hn2 : ¬ (n < 1) := by omega
  have HW : Hid (Own (w.alloc (.cells #[.int .u8 k, .int .i64 s] 76)).drew 0 rv L) := h.own.alloc _
  clear h hr
  go_enter Tryz.func170, Tryz.ntmps170
  go_wp2
  go_region_with (first | (go_at_call 223; go_must (refine (put46 0 _ L ⟨k, s, n⟩ _ HW.out HR.out H.out.pos (Nat.zero_le _) hN).mono ?_; rintro e w1 ⟨u', rfl, ho, hk, hs⟩; obtain ⟨ua, un, uc, rfl⟩ := ho.isSlice; have hh := led_after H.out (below_alloc w (.cells #[.int .u8 k, .int .i64 s] 76)).drew hk; have c0 := led_c0 hh; have c1 := led_c1 hh; have z0 := frozen_of_row w1 b 0 _ 89 hh; have z1 := frozen_of_row w1 b 1 _ 89 hh; have R := hid (led_noted H.out (below_alloc w (.cells #[.int .u8 k, .int .i64 s] 76)).drew hk ho hs hn1 hb); clear ho hk hs hh)))
  all_goals go_wp2_with (first | (go_at_call 224; refine (add47 _ _ _ (by omega) (by omega)).mono ?_; rintro e w2 ⟨rfl, rfl⟩))
  all_goals
    go_end0
    rw [hsm.out]
    exact ⟨rfl, _, R.out⟩
theorem noteTimes17n (k s n : Int) (w : World) :
    Calls Tryz.prog 170 #[.pointer none, .agg #[.int .u8 k, .int .i64 s], .int .i64 n] w fun e w' => e = .returned (.tuple #[]) ∧ Below w.heap.size w w' := by
  go_enter Tryz.func170, Tryz.ntmps170
  go_wp2
  refine bodyPost_ret (results_none rfl _ _ _) rfl ?_
  exact ⟨rfl, below_alloc _ _⟩
set_option maxHeartbeats 1200000 in
theorem note16 (b : Nat) (rv : Value) (L : List Rn) (k s : Int) (w : World) (h : Led w b rv L) (hr : (⟨k, s, 1⟩ : Rn).Ok) (hb : tot L + 1 ≤ 9223372036854775807) (hN : (L.length + 1) * 24 ≤ 140737488355328) :
    Calls Tryz.prog 121 #[.pointer (some ⟨b, 0, none⟩), .agg #[.int .u8 k, .int .i64 s]] w fun e w' => e = .returned (.tuple #[]) ∧ ∃ rv', Led w' b rv' (putL L ⟨k, s, 1⟩) ∧ Kp (fun j => j = b ∨ rv.ownBlock = some j) w w' ∧ SameOrNew w rv rv' := by
  have H := hid h
  have HR := hid hr
  clear h hr
  have hA := below_alloc w (.cells #[.int .u8 k, .int .i64 s] 76)
  have HA := hid hA
  clear hA
  go_enter Tryz.func121, Tryz.ntmps121
  go_wp2_with fail
  refine (noteTimes17 b rv L k s 1 _ (H.out.below HA.out) HR.out (by omega) hb hN).mono ?_
  rintro e w1 ⟨rfl, rv', hl, hk, hs⟩
  have R : Hid (Led w1 b rv' (putL L ⟨k, s, 1⟩) ∧ Kp (fun j => j = b ∨ rv.ownBlock = some j) w w1 ∧ SameOrNew w rv rv') := ⟨hl, (Kp.of_below _ HA.out).trans hk (fun _ _ e => e), hs.imp id (fun h g hg => by have := h g hg; simp at this; omega)⟩
  clear hl hk hs
  go_wp2
  go_end0
  exact ⟨rfl, _, R.out⟩
set_option maxHeartbeats 1200000 in
theorem note16n (k s : Int) (w : World) :
    Calls Tryz.prog 121 #[.pointer none, .agg #[.int .u8 k, .int .i64 s]] w fun e w' => e = .returned (.tuple #[]) ∧ Below w.heap.size w w' := by
  have hA := below_alloc w (.cells #[.int .u8 k, .int .i64 s] 76)
  have HA := hid hA
  clear hA
  go_enter Tryz.func121, Tryz.ntmps121
  go_wp2_with fail
  refine (noteTimes17n k s 1 _).mono ?_
  rintro e w1 ⟨rfl, hb⟩
  have R := hid (below_next HA.out hb)
  clear hb
  go_wp2
  go_end0
  exact ⟨rfl, R.out⟩
end Go.Proofs.YtpohogpkfdebdaaGreatDoor
namespace Go.Proofs.YtpohogpkfdebdaaGreatDoor
open Go.ChangeShapes Go.WideShapes Go.ChangeAt Go.RowKit
def tq (L : List Rn) : Int := max (tot L / 1048576) (L.length : Int)
theorem tq_len (L : List Rn) : (L.length : Int) ≤ tq L := by unfold tq; omega
theorem tq_tot (L : List Rn) : tot L ≤ 1048576 * tq L + 1048575 := by unfold tq; omega
theorem tq_put {L : List Rn} {r : Rn} (h : Pos L) (hr : r.c = 1) (hb : tq L ≤ 5800000000000) : tq (putL L r) ≤ tq L + 1 := by
  have h1 := tq_tot L
  have h2 := tot_put (L := L) (r := r) h (by omega) (by omega)
  have h3 := (putL_len (L := L) (r := r)).1
  rw [hr] at h2
  unfold tq at *
  rw [h2]
  omega
end Go.Proofs.YtpohogpkfdebdaaGreatDoor
namespace Go.Proofs.YtpohogpkfdebdaaGreatDoor
open Go.ChangeShapes Go.WideShapes Go.ChangeAt Go.RowKit
set_option maxHeartbeats 1200000 in
theorem len20 (b : Nat) (rv : Value) (L : List Rn) (w : World) (h : Led w b rv L) : Calls Tryz.prog 15 #[.pointer (some ⟨b, 0, none⟩)] w fun e w' => e = .returned (.int .i64 (tot L)) ∧ w' = w := by
  have h1 := h.cell1
  clear h
  go_enter Tryz.func15, Tryz.ntmps15
  go_wp2
  go_ret
  exact ⟨rfl, rfl⟩
end Go.Proofs.YtpohogpkfdebdaaGreatDoor
namespace Go.Proofs.YtpohogpkfdebdaaGreatDoor
open Go.ChangeShapes Go.WideShapes Go.ChangeAt Go.RowKit

/-- Run k of a slice that reads as L. -/
theorem RB.at {w : World} {a : Option Addr} {n cap k : Nat} {L : List Rn} {r : Rn} (h : RB w (.slice a n cap) L) (hk : L[k]? = some r) :
    ∃ b off, a = some ⟨b, off, none⟩ ∧ w.cell? ⟨b, off + k * 3, none⟩ = some (.int .u8 r.k) ∧ w.cell? ⟨b, off + k * 3 + 1, none⟩ = some (.int .i64 r.s) ∧ w.cell? ⟨b, off + k * 3 + 2, none⟩ = some (.int .i64 r.c) := by
  obtain ⟨_, a', cap', he, _, _, ⟨h0, _⟩ | ⟨b, off, rfl, hc⟩⟩ := h
  · subst h0; simp at hk
  · simp only [Value.slice.injEq] at he
    obtain ⟨rfl, _, _⟩ := he
    exact ⟨b, off, rfl, hc k r hk⟩
theorem RB.ok {w : World} {v : Value} {L : List Rn} {r : Rn} {k : Nat} (h : RB w v L) (hk : L[k]? = some r) : r.Ok := h.1 r (List.mem_of_getElem? hk)

/-- How many of the events have a kind. -/
def cnt (k : Int) : List Rn → Int
  | [] => 0
  | r :: L => (if r.k = k then r.c else 0) + cnt k L
end Go.Proofs.YtpohogpkfdebdaaGreatDoor
