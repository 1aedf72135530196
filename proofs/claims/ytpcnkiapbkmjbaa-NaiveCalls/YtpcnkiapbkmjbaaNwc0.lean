/- NaiveCounts, walked. -/
import Derived.Test.YtpcnkiapbkmjbaaNop
import Derived.Test.YtpcnkiapbkmjbaaNcs
import Derived.Test.YtpcnkiapbkmjbaaNcz
import Derived.Test.YtpcnkiapbkmjbaaNli
import Derived.Deep.CutBlock
namespace Go.Proofs.Ytpcnkiapbkmjbaa.Nv
open Go.ChangeShapes Go.WideShapes Go.ChangeAt Go.RowKit
open Go.Proofs.Ytpcnkiapbkmjbaa Go.Proofs.Ytpcnkiapbkmjbaa.Tb
theorem hidw {p : Prop} (h : p) : Hid p := h
set_option maxRecDepth 100000 in
set_option maxHeartbeats 2000000 in
theorem large_walk (aa ba : Option Addr) (an ac bn bc x b e m : Nat) (w : World) : Calls Try.prog 9 #[.agg #[.slice aa an ac, .slice ba bn bc, .int .u8 (x : Int), .int .u64 (b : Int), .int .u64 (e : Int), .int .u64 (m : Int)]] w fun r w' => r = .returned (.bool (decide (200 < an ∨ 200 < bn))) ∧ Below w.heap.size w w' := by
  have B := hidw (below_alloc w (.cells #[.slice aa an ac, .slice ba bn bc, .int .u8 (x : Int), .int .u64 (b : Int), .int .u64 (e : Int), .int .u64 (m : Int)] 25))
  by_cases h1 : 200 < an
  · rw [decide_eq_true (show 200 < an ∨ 200 < bn from .inl h1)]
    have e2 : decide ((200 : Int) < (an : Int)) = true := decide_eq_true (by omega)
    go_enter Try.func9, Try.ntmps9
    go_wp2
    go_ret
    exact ⟨rfl, B.out⟩
  · by_cases h2 : 200 < bn
    · rw [decide_eq_true (show 200 < an ∨ 200 < bn from .inr h2)]
      have e3 : decide ((200 : Int) < (bn : Int)) = true := decide_eq_true (by omega)
      have e2 : decide ((200 : Int) < (an : Int)) = false := decide_eq_false (by omega)
      go_enter Try.func9, Try.ntmps9
      go_wp2
      go_ret
      exact ⟨rfl, B.out⟩
    · rw [decide_eq_false (show ¬ (200 < an ∨ 200 < bn) from fun h => h.elim h1 h2)]
      have e2 : decide ((200 : Int) < (an : Int)) = false := decide_eq_false (by omega)
      have e3 : decide ((200 : Int) < (bn : Int)) = false := decide_eq_false (by omega)
      go_enter Try.func9, Try.ntmps9
      go_wp2
      go_ret
      exact ⟨rfl, B.out⟩
/-- The lowest j bits that are 1. -/
def lo1 (e : Nat) : Nat → Nat
  | 0 => 0
  | j + 1 => lo1 e j + e / 2 ^ j % 2
theorem lo1_le (e j : Nat) : lo1 e j ≤ j := by
  induction j with
  | zero => exact Nat.le_refl _
  | succ j ih => rw [lo1]; omega
theorem lo1_nt (e : Nat) : ∀ j, j ≤ 64 → nt (pbits e j) + lo1 e (64 - j) = lo1 e 64 := by
  intro j
  induction j with
  | zero => intro _; simp [pbits, nt]
  | succ j ih =>
    intro h
    have h1 := ih (by omega)
    rw [show 64 - j = (63 - j) + 1 by omega, lo1] at h1
    rw [pbits_succ, nt_snoc, show 64 - (j + 1) = 63 - j by omega]
    have : (if pbit e j = true then 1 else 0) = e / 2 ^ (63 - j) % 2 := by
      unfold pbit
      by_cases hb : e / 2 ^ (63 - j) % 2 = 1
      · rw [hb]; simp
      · rw [decide_eq_false hb]; simp; omega
    omega
theorem lo1_pb (e : Nat) : nt (pbits e 64) = lo1 e 64 := by
  have := lo1_nt e 64 (Nat.le_refl _)
  simpa [lo1] using this
theorem tot_nil (bs : List Bool) (h : bs.length ≤ 40200) : tot (nts [] bs) = bs.length := by
  have := nts_tot (L := []) (fun _ h => absurd h List.not_mem_nil) bs (by simp [tot]; omega)
  simpa [tot] using this
theorem ones_nil (bs : List Bool) (h : bs.length ≤ 40200) : ones (nts [] bs) = nt bs := by
  have := ones_nts (L := []) (fun _ h => absurd h List.not_mem_nil) bs (by simp [tot]; omega)
  simpa [ones] using this
end Go.Proofs.Ytpcnkiapbkmjbaa.Nv
