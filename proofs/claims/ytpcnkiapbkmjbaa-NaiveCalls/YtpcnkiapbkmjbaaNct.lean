/- What the statements' helpers that count answer: pairs (how many pairs of bytes there are of which the greater stands ahead) and sized (how many choices of size 1 a ledger holds). -/
import Derived.Test.YtpcnkiapbkmjbaaNgx
import Derived.Test.YtpcnkiapbkmjbaaNsp
namespace Go.Proofs.Ytpcnkiapbkmjbaa.Nv
open Go.ChangeShapes Go.WideShapes Go.ChangeAt Go.RowKit
open Go.Proofs.Ytpcnkiapbkmjbaa Go.Proofs.Ytpcnkiapbkmjbaa.Tb
theorem hidc {p : Prop} (h : p) : Hid p := h
/-- How many places below n behind i hold a smaller byte than i does. -/
def rw' (f : Nat → Int) (i : Nat) : Nat → Nat
  | 0 => 0
  | n + 1 => rw' f i n + if i < n ∧ f n < f i then 1 else 0
def tp (f : Nat → Int) (n : Nat) : Nat → Nat
  | 0 => 0
  | m + 1 => tp f n m + rw' f m n
theorem rw_low (f : Nat → Int) (i : Nat) : ∀ {n : Nat}, n ≤ i + 1 → rw' f i n = 0 := by
  intro n
  induction n with
  | zero => intro _; rfl
  | succ n ih => intro h; rw [rw', ih (by omega), if_neg (by omega)]
theorem tp_next (f : Nat → Int) (n : Nat) : ∀ m, m ≤ n → tp f (n + 1) m = tp f n m + cn (fun x => decide (f n < x)) f m := by
  intro m
  induction m with
  | zero => intro _; rfl
  | succ m ih =>
    intro h
    rw [tp, tp, cn, ih (by omega), rw']
    have : (if m < n ∧ f n < f m then 1 else 0) = (if decide (f n < f m) = true then 1 else 0) := by
      by_cases e : f n < f m
      · rw [if_pos ⟨by omega, e⟩, if_pos (decide_eq_true e)]
      · rw [if_neg (fun q => e q.2), if_neg (by simp [e])]
    rw [this]
    omega
theorem tp_invs (f : Nat → Int) (n : Nat) : tp f n n = invs f n := by
  induction n with
  | zero => rfl
  | succ n ih => rw [tp, rw_low f n (Nat.le_refl _), tp_next f n n (Nat.le_refl _), ih]; rfl
theorem rw_le (f : Nat → Int) (i n : Nat) : rw' f i n ≤ n := by
  induction n with
  | zero => exact Nat.le_refl _
  | succ n ih => rw [rw']; split <;> omega
theorem tp_le (f : Nat → Int) (n m : Nat) (hn : n ≤ 200) (hm : m ≤ 200) : tp f n m ≤ m * 200 := by
  induction m with
  | zero => exact Nat.le_refl _
  | succ m ih => have := rw_le f m n; have := ih (by omega); rw [tp]; omega
set_option maxRecDepth 100000 in
set_option maxHeartbeats 2000000 in
theorem pairs_walk (v : Value) (n : Nat) (f : Nat → Int) (w : World) (hr : By.RB w v n f) (hn : n ≤ 200) :
    Calls Try.prog 33 #[v] w fun e w' => e = .returned (.int .i64 (invs f n)) ∧ ∃ d, w' = w.drewN d := by
  obtain ⟨a0, ca, rfl⟩ := rb_shape hr
  rw [← tp_invs]
  have HA := hidc (fun d => hr.drewN d)
  clear hr
  go_enter Try.func33, Try.ntmps33
  go_wp2
  go_loopw [3, 4] (fun c i wr => ∃ m : Nat, m ≤ n ∧ c = .int .i64 (tp f n m : Nat) ∧ i = .int .i64 m ∧ ∃ d, wr = w.drewN d) (fun _ i _ => n - (intOf i).toNat)
  case atStart => exact ⟨0, by omega, rfl, rfl, 0, rfl⟩
  case round =>
    obtain ⟨m, hm, rfl, rfl, d, rfl⟩ := hrel
    have B1 := hidc (tp_le f n m hn (by omega))
    by_cases hlt : m < n
    · have T1 := hidc (show tp f n (m + 1) = tp f n m + rw' f m n from rfl)
      obtain ⟨b1, o1, c1, e1, -⟩ := rb_byte (HA.out 0) hlt
      simp only [Value.slice.injEq] at e1
      obtain ⟨rfl, -, rfl⟩ := e1
      have CE := hidc (fun (k : Nat) (hk : k < n) => show w.cell? ⟨b1, o1 + k, none⟩ = some (.int .u8 (f k)) from by
        obtain ⟨b, o, c, e, x⟩ := rb_byte (HA.out 0) hk
        simp only [Value.slice.injEq, Option.some.injEq, Addr.mk.injEq] at e
        obtain ⟨⟨rfl, rfl, -⟩, -, -⟩ := e
        exact x)
      generalize tp f n m = t at *
      go_wp2_with fail
      go_loopw [3, 5] (fun c k wr => ∃ q : Nat, m < q ∧ q ≤ n ∧ c = .int .i64 ((t + rw' f m q : Nat) : Int) ∧ k = .int .i64 q ∧ ∃ d, wr = w.drewN d) (fun _ k _ => n - (intOf k).toNat)
      case atStart => exact ⟨m + 1, by omega, by omega, by rw [rw_low f m (Nat.le_refl _)]; rfl, by go_num, d, rfl⟩
      case round =>
        obtain ⟨q, hq, hqn, rfl, rfl, d, rfl⟩ := hrel
        have R1 := hidc (rw_le f m q)
        by_cases hq2 : q < n
        · have S1 := hidc (show rw' f m (q + 1) = rw' f m q + if m < q ∧ f q < f m then 1 else 0 from rfl)
          have z1 := CE.out m hlt
          have z2 := CE.out q hq2
          generalize rw' f m q = r at *
          obtain ⟨s, hs⟩ : ∃ s, t + r = s := ⟨_, rfl⟩
          rw [hs]
          have HSs := hidc hs
          have sb : s ≤ 40300 := by have := B1.out; have := R1.out; omega
          clear hs
          by_cases hc : f q < f m
          · rw [if_pos ⟨hq, hc⟩] at S1
            go_wp2_with fail
            go_quiet (fail)
            go_wp2_with fail
            go_roundw
            case rel => exact ⟨q + 1, by omega, by omega, by rw [S1.out, ← HSs.out]; go_num, by go_num, _, rfl⟩
            case measure => (simp [intOf] <;> omega)
          · rw [if_neg (fun e => hc e.2)] at S1
            have hge : decide (f q < f m) = false := decide_eq_false hc
            go_wp2_with fail
            go_quiet (fail)
            go_wp2_with fail
            go_roundw
            case rel => exact ⟨q + 1, by omega, by omega, by rw [S1.out, ← HSs.out]; rfl, by go_num, _, rfl⟩
            case measure => (simp [intOf] <;> omega)
        · obtain rfl : q = n := by omega
          go_wp2_with fail
          go_roundw
          case rel => exact ⟨m + 1, by omega, by rw [T1.out], by go_num, d, rfl⟩
          case measure => (simp [intOf] <;> omega)
    · obtain rfl : m = n := by omega
      go_wp2
      go_ret
      exact ⟨rfl, d, rfl⟩
end Go.Proofs.Ytpcnkiapbkmjbaa.Nv
