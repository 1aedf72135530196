/- The helpers of the statements that look at lists of runs and copy them: two runs held against each other, SameRuns, CopyRuns, slices.Clone, LentRuns, KeptRuns, OverRuns; and the program's sum that ends at the greatest int. -/
import Derived.Test.YtpcnkiapbkmjbaaRows
import Derived.Test.YtpcnkiapbkmjbaaRbase
import Derived.Laws.StructEq
import Derived.ArgAppend
import Derived.WalkSpells
import Derived.Deep.RegionHeld3
import Derived.Deep.DeepMust
import Derived.Laws.AppendOwnNone
namespace Go.Proofs.Ytpcnkiapbkmjbaa
open Go.ChangeShapes Go.WideShapes Go.ChangeAt Go.RowKit
theorem info70 : (Try.prog.info? 61).map (fun i => (i.zero, i.size, i.bytes)) = some (some (.agg #[.int .u8 0, .int .i64 0, .int .i64 0]), 3, 24) := by kernel_rfl

theorem equal39 (a b c d : Int) (w : World) : (Op.equalIn 9999 59 (.agg #[.int .u8 a, .int .i64 b]) (.agg #[.int .u8 c, .int .i64 d])).run Try.prog w = .ok (decide (a = c ∧ b = d)) w := by
  have u3 := Try.underlying3
  have u37 := Try.underlying57
  have hS : Try.prog.underlying 59 = some (.struct (Try.prog.fieldsOf 59)) := by kernel_rfl
  rw [show (9999 : Nat) = 9998 + 1 from rfl, run_equalIn_agg w 9998 59 _ _ hS (by kernel_rfl)]
  simp only [Program.fieldsOf, Try.underlying59]
  go_simp
  by_cases h1 : a = c <;> by_cases h2 : b = d <;> simp [h1, h2]
theorem equal39' (a b c d : Int) (w : World) : (Op.equalIn 10000 59 (.agg #[.int .u8 a, .int .i64 b]) (.agg #[.int .u8 c, .int .i64 d])).run Try.prog w = .ok (decide (a = c ∧ b = d)) w := by
  have u3 := Try.underlying3
  have u37 := Try.underlying57
  have hS : Try.prog.underlying 59 = some (.struct (Try.prog.fieldsOf 59)) := by kernel_rfl
  rw [show (10000 : Nat) = 9999 + 1 from rfl, run_equalIn_agg w 9999 59 _ _ hS (by kernel_rfl)]
  simp only [Program.fieldsOf, Try.underlying59]
  go_simp
  by_cases h1 : a = c <;> by_cases h2 : b = d <;> simp [h1, h2]
theorem equal70 (a b c d x y : Int) (w : World) : (Op.equalIn 10000 61 (.agg #[.int .u8 a, .int .i64 b, .int .i64 x]) (.agg #[.int .u8 c, .int .i64 d, .int .i64 y])).run Try.prog w = .ok (decide (a = c ∧ b = d ∧ x = y)) w := by
  have u3 := Try.underlying3
  have u39 := Try.underlying59
  have hS : Try.prog.underlying 61 = some (.struct (Try.prog.fieldsOf 61)) := by kernel_rfl
  have e39 := equal39 a b c d
  rw [show (10000 : Nat) = 9999 + 1 from rfl, run_equalIn_agg w 9999 61 _ _ hS (by kernel_rfl)]
  simp only [Program.fieldsOf, Try.underlying61]
  go_simp
  by_cases h1 : a = c <;> by_cases h2 : b = d <;> by_cases h3 : x = y <;> simp [h1, h2, h3]
/-- Two events' numbers are the same. -/
def eq2 (a b c d : Int) : Bool := decide (a = c ∧ b = d)
/-- Two runs' numbers are the same. -/
def eq3 (a b x c d y : Int) : Bool := decide (a = c ∧ b = d ∧ x = y)
theorem eq2_true {a b c d : Int} (h1 : a = c) (h2 : b = d) : eq2 a b c d = true := decide_eq_true ⟨h1, h2⟩
theorem eq2_false {a b c d : Int} (h : ¬ (a = c ∧ b = d)) : eq2 a b c d = false := decide_eq_false h
theorem eq3_true {a b x c d y : Int} (h1 : a = c) (h2 : b = d) (h3 : x = y) : eq3 a b x c d y = true := decide_eq_true ⟨h1, h2, h3⟩
theorem eq3_false {a b x c d y : Int} (h : ¬ (a = c ∧ b = d ∧ x = y)) : eq3 a b x c d y = false := decide_eq_false h
@[go_sem high] theorem same39 (a b c d : Int) (w : World) : (Op.equalIn 10000 59 (.agg #[.int .u8 a, .int .i64 b]) (.agg #[.int .u8 c, .int .i64 d])).run Try.prog w = .ok (eq2 a b c d) w := equal39' a b c d w
@[go_sem high] theorem same70 (a b c d x y : Int) (w : World) : (Op.equalIn 10000 61 (.agg #[.int .u8 a, .int .i64 b, .int .i64 x]) (.agg #[.int .u8 c, .int .i64 d, .int .i64 y])).run Try.prog w = .ok (eq3 a b x c d y) w := equal70 a b c d x y w

/-- The sum of two numbers of 0 or more; at most the greatest int. -/
def sm (a b : Int) : Int := if a + b ≤ 9223372036854775807 then a + b else 9223372036854775807
theorem add47 (a b : Int) (w : World) (ha : 0 ≤ a ∧ a ≤ 9223372036854775807) (hb : 0 ≤ b ∧ b ≤ 9223372036854775807) :
    Calls Try.prog 59 #[.int .i64 a, .int .i64 b] w fun e w' => e = .returned (.int .i64 (sm a b)) ∧ w' = w := by
  have h1 : IntKind.i64.wrap (9223372036854775807 - b) = 9223372036854775807 - b := by rw [IntKind.wrap_i64]; omega
  by_cases h : a + b ≤ 9223372036854775807
  · have h2 : IntKind.i64.wrap (a + b) = a + b := by rw [IntKind.wrap_i64]; omega
    have h3 : ¬ (9223372036854775807 - b < a) := by omega
    have e : sm a b = a + b := if_pos h
    rw [e]
    clear e h
    go_enter Try.func59, Try.ntmps59
    go_wp2
    go_ret
    exact ⟨rfl, rfl⟩
  · have h3 : 9223372036854775807 - b < a := by omega
    have e : sm a b = 9223372036854775807 := if_neg h
    rw [e]
    clear e h
    go_enter Try.func59, Try.ntmps59
    go_wp2
    go_ret
    exact ⟨rfl, rfl⟩
theorem take_next {L M : List Rn} {k : Nat} {r : Rn} (h : L.take k = M.take k) (h1 : L[k]? = some r) (h2 : M[k]? = some r) : L.take (k + 1) = M.take (k + 1) := by
  rw [List.take_add_one, List.take_add_one, h, h1, h2]
theorem Rn.ext3 {r q : Rn} (h1 : r.k = q.k) (h2 : r.s = q.s) (h3 : r.c = q.c) : r = q := by
  cases r; cases q; simp at h1 h2 h3; subst h1 h2 h3; rfl
theorem get_of_lt {L : List Rn} {k : Nat} (h : k < L.length) : ∃ r, L[k]? = some r := ⟨L[k], List.getElem?_eq_getElem h⟩

set_option maxRecDepth 100000 in
set_option maxHeartbeats 1200000 in
theorem same14 (v v' : Value) (L M : List Rn) (w : World) (hv : RB w v L) (hv' : RB w v' M) (hL : L.length < 1000000000000000000) (hM : M.length < 1000000000000000000) :
    Calls Try.prog 24 #[v, v'] w fun e w' => e = .returned (.bool (decide (L = M))) ∧ ∃ d, w' = w.drewN d := by
  obtain ⟨a, cap, rfl, _, _, hz, hc⟩ := hv.shape
  obtain ⟨a', cap', rfl, _, _, hz', hc'⟩ := hv'.shape
  obtain ⟨n, hn⟩ : ∃ n, L.length = n := ⟨_, rfl⟩
  obtain ⟨m, hm⟩ : ∃ n, M.length = n := ⟨_, rfl⟩
  rw [hn] at hL ⊢
  rw [hm] at hM ⊢
  have Hn := hid hn
  have Hm := hid hm
  have HC := hid hc
  have HC' := hid hc'
  have HZ := hid hz
  have HZ' := hid hz'
  clear hn hm hc hc' hz hz' hv hv'
  by_cases hnm : n = m
  · subst hnm
    go_enter Try.func24, Try.ntmps24
    go_wp2
    go_loopw [5] (fun x wr => ∃ k : Nat, k ≤ n ∧ x = .int .i64 k ∧ (∃ d, wr = w.drewN d) ∧ L.take k = M.take k) (fun x _ => n - (intOf x).toNat)
    case atStart => exact ⟨0, Nat.zero_le _, rfl, ⟨0, rfl⟩, rfl⟩
    case round =>
      obtain ⟨k, hk, rfl, ⟨d, rfl⟩, hs⟩ := hrel
      have HS := hid hs
      clear hs
      by_cases hlt : k < n
      · obtain ⟨r, hr⟩ := get_of_lt (L := L) (k := k) (by rw [Hn.out]; exact hlt)
        obtain ⟨q, hq⟩ := get_of_lt (L := M) (k := k) (by rw [Hm.out]; exact hlt)
        obtain ⟨b, off, hb, hca⟩ : ∃ b off, a = some ⟨b, off, none⟩ ∧ CA w b off L := by
          cases a with
          | none => have := (HZ.out rfl).1; rw [this] at hr; simp at hr
          | some x =>
            rcases HC.out x rfl with h | ⟨b, off, rfl, h⟩
            · rw [h] at hr; simp at hr
            · exact ⟨b, off, rfl, h⟩
        obtain ⟨b', off', hb', hca'⟩ : ∃ b off, a' = some ⟨b, off, none⟩ ∧ CA w b off M := by
          cases a' with
          | none => have := (HZ'.out rfl).1; rw [this] at hq; simp at hq
          | some x =>
            rcases HC'.out x rfl with h | ⟨b, off, rfl, h⟩
            · rw [h] at hq; simp at hq
            · exact ⟨b, off, rfl, h⟩
        subst hb hb'
        obtain ⟨c1, c2, c3⟩ := hca k r hr
        obtain ⟨d1, d2, d3⟩ := hca' k q hq
        have HR := hid hr
        have HQ := hid hq
        clear hca hca' hr hq
        have l1 : (k : Int) < n := by omega
        by_cases he : r = q
        · subst he
          have hd := eq3_true (Eq.refl r.k) (Eq.refl r.s) (Eq.refl r.c)
          go_wp2
          go_quiet (fail)
          go_wp2
          go_roundw
          case rel => exact ⟨k + 1, by omega, by go_num, ⟨_, rfl⟩, take_next HS.out HR.out HQ.out⟩
          case measure => simp [intOf]; omega
        · have hd := eq3_false (a := r.k) (b := r.s) (x := r.c) (c := q.k) (d := q.s) (y := q.c) (fun h => he (Rn.ext3 h.1 h.2.1 h.2.2))
          have hLM : Hid (decide (L = M) = false) := decide_eq_false (fun h => by have a := HR.out; have b := HQ.out; rw [h, b] at a; exact he (Option.some.inj a).symm)
          have HE := hid he
          clear he
          go_wp2
          go_quiet (fail)
          go_wp2
          go_ret
          exact ⟨by rw [hLM.out]; rfl, _, drewN_two _ _ _⟩
      · have e : k = n := by omega
        subst e
        have hLM : Hid (decide (L = M) = true) := decide_eq_true (by
          have := HS.out
          rwa [List.take_of_length_le (by rw [Hn.out]; exact Nat.le_refl _), List.take_of_length_le (by rw [Hm.out]; exact Nat.le_refl _)] at this)
        go_wp2
        go_ret
        exact ⟨by rw [hLM.out]; rfl, d, rfl⟩
  · have hLM : Hid (decide (L = M) = false) := decide_eq_false (fun h => by have a := Hn.out; rw [h, Hm.out] at a; omega)
    rw [hLM.out]
    have hnm' : ¬ (n : Int) = m := by omega
    go_enter Try.func24, Try.ntmps24
    go_wp2
    go_ret
    exact ⟨rfl, 0, rfl⟩

theorem add_plain (b off j : Nat) : (⟨b, off, none⟩ : Addr).add j = ⟨b, off + j, none⟩ := by unfold Addr.add; split <;> simp_all
/-- The cells of a list, one by one. -/
theorem rl_at {w : World} {b off : Nat} {L : List Rn} (h : CA w b off L) : ∀ j u, (rl L)[j]? = some u → w.cell? ((⟨b, off, none⟩ : Addr).add j) = some u := by
  intro j u hj
  have hl : j < L.length * 3 := by
    have := (List.getElem?_eq_some_iff.1 hj).1
    rwa [rl_length] at this
  obtain ⟨r, hr⟩ := get_of_lt (L := L) (k := j / 3) (by omega)
  obtain ⟨a1, a2, a3⟩ := rl_get L _ r hr
  obtain ⟨c1, c2, c3⟩ := h _ r hr
  rw [add_plain]
  have hj3 : j = j / 3 * 3 ∨ j = j / 3 * 3 + 1 ∨ j = j / 3 * 3 + 2 := by omega
  rcases hj3 with e | e | e
  · rw [e] at hj ⊢; rw [a1] at hj; rw [c1]; exact hj
  · rw [e] at hj ⊢; rw [a2] at hj; rw [← Nat.add_assoc, c2]; exact hj
  · rw [e] at hj ⊢; rw [a3] at hj; rw [← Nat.add_assoc, c3]; exact hj
theorem rb_cells {w : World} {ad : Addr} {cap n : Nat} {L : List Rn} (h : RB w (.slice (some ad) n cap) L) : ∀ j u, (rl L)[j]? = some u → w.cell? (ad.add j) = some u := by
  obtain ⟨a, cap', he, _, _, _, hc⟩ := h.shape
  simp only [Value.slice.injEq] at he
  obtain ⟨rfl, rfl, rfl⟩ := he
  rcases hc ad rfl with rfl | ⟨b, off, rfl, hca⟩
  · intro j u hj; simp [rl_nil] at hj
  · exact rl_at hca

theorem nil32 (w : World) (a : Option Addr) (n c : Nat) : (binOp .eql 47 (.slice a n c) (.slice none 0 0)).run Try.prog w = .ok (.bool a.isNone) w := Lib.run_eql_slice_nil w 47 61 a n c 0 0 Try.underlying47
set_option maxHeartbeats 1200000 in
theorem clone49 (l : Value) (L : List Rn) (w : World) (hr : RB w l L) (hn : L.length * 24 ≤ 140737488355328) :
    Calls Try.prog 46 #[l] w fun e w' => ∃ v, e = .returned v ∧ Own w' w.heap.size v L ∧ Below w.heap.size w w' := by
  have hr' := hr
  obtain ⟨a, cap, rfl, h1, h2, hz, hc⟩ := hr.shape
  obtain ⟨i0, hi, hz0, hz1, hz2⟩ := info_parts info70
  have HF := hid hr.1
  cases a with
  | none =>
    obtain ⟨rfl, rfl⟩ := hz rfl
    clear hr hr' hc hz
    have hnil := nil32
    go_enter Try.func46, Try.ntmps46
    go_wp2
    go_ret
    exact ⟨_, rfl, Own.nil _ _, Below.refl _ _⟩
  | some ad =>
    have HC : Hid (∀ j u, (rl L)[j]? = some u → (w.alloc (.cells #[] 61)).cell? (ad.add j) = some u) := rb_cells (hr'.below (below_alloc w _))
    obtain ⟨n, hnn⟩ : ∃ n, L.length = n := ⟨_, rfl⟩
    have HL := hid hnn
    have HO : Hid ((w.alloc (.cells #[] 61)).ownsRow w.heap.size 61 3 (.slice (some ⟨w.heap.size, 0, none⟩) 0 0) 0 []) := World.ownsRow_lit (size := 3) w #[] 0 (Nat.le_refl _) (Nat.zero_le _) rfl
    rw [hnn] at hn h1 ⊢
    clear hr hr' hc hz hnn
    have hnil := nil32
    go_enter Try.func46, Try.ntmps46
    go_wp2_with (at_builtin; refine wpList_append_own _ rfl _ _ 47 rfl w.heap.size 61 i0 (.agg #[.int .u8 0, .int .i64 0, .int .i64 0]) 3 24 Try.underlying47 hi hz0 hz1 hz2 rfl (by decide) _ _ _ rfl HO.out ad n cap (rl L) rfl (by rw [rl_length, HL.out]) HC.out (rl_oneCell L) (by simp [maxLen]; omega) (by omega) (by simp) ?_)
    intro v' w1 hown hgrow _
    have R : Hid (Own w1 w.heap.size v' L ∧ Below w.heap.size w w1) := ⟨⟨HF.out, by rw [HL.out]; simpa using hown⟩, (below_alloc w _).grown hgrow (by simp) (fun k hk => by simp [Value.ownBlock] at hk; omega)⟩
    clear hown hgrow
    go_wp2
    go_ret
    exact ⟨_, rfl, R.out⟩
theorem cells_new (w : World) (r : Rn) : ∀ j u, (rl [r])[j]? = some u → (w.alloc (.cells #[.int .u8 r.k, .int .i64 r.s, .int .i64 r.c] 61)).cell? ((⟨w.heap.size, 0, none⟩ : Addr).add j) = some u := by
  have h := World.ownsRow_lit (base := 0) (e := 61) (size := 3) w #[.int .u8 r.k, .int .i64 r.s, .int .i64 r.c] 1 (Nat.zero_le _) (by simp [maxLen]) rfl
  exact h.cells rfl
theorem cells_new' (w : World) (r : Rn) (g : Nat) (hg : g = w.heap.size) : ∀ j u, (rl [r])[j]? = some u → (w.alloc (.cells #[.int .u8 r.k, .int .i64 r.s, .int .i64 r.c] 61)).cell? ((⟨g, 0, none⟩ : Addr).add j) = some u := by
  subst hg; exact cells_new w r
end Go.Proofs.Ytpcnkiapbkmjbaa
