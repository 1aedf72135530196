/- What the statements' helper that counts a ledger's choices of size 1 answers (sized). -/
import Derived.Test.YtpcnkiapbkmjbaaNct
namespace Go.Proofs.Ytpcnkiapbkmjbaa.Nv
open Go.ChangeShapes Go.WideShapes Go.ChangeAt Go.RowKit
open Go.Proofs.Ytpcnkiapbkmjbaa Go.Proofs.Ytpcnkiapbkmjbaa.Tb
theorem ones_take {L : List Rn} {k : Nat} {r : Rn} (h : L[k]? = some r) : ones (L.take (k + 1)) = ones (L.take k) + one? r := by
  rw [take_snoc h, ones_app]; simp [ones]
set_option maxRecDepth 100000 in
set_option maxHeartbeats 2000000 in
theorem sized_walk {w0 W : World} {B k lb : Nat} {t : Nat → Th} {L : List Rn} (hG : GX w0 B t W) (hk : LgP t k lb L) (hL : tot L ≤ 900000) :
    Calls Try.prog 31 #[lpv (some lb)] W fun e w' => e = .returned (.int .i64 (ones L)) ∧ Below W.heap.size W w' := by
  have hp := lp_pos hG hk
  have hlen := tot_pos hp
  have RU := hidc (gx_runs hG hk (by omega))
  have HP := hidc hp
  have HL := hidc hL
  clear hG hk hp
  generalize lpv (some lb) = p at *
  go_enter Try.func31, Try.ntmps31
  go_wp2_with fail
  refine RU.out.mono ?_
  rintro e W1 ⟨v, rfl, hr, hb⟩
  obtain ⟨n, hn⟩ : ∃ n, L.length = n := ⟨_, rfl⟩
  obtain ⟨a, cap, rfl⟩ : ∃ a cap, v = .slice a n cap := by
    obtain ⟨a, cap, e⟩ := hr.isSlice
    exact ⟨a, cap, by rw [← hn]; exact e⟩
  have HR := hidc hr
  have HB := hidc hb
  have HN := hidc hn
  have nb : n ≤ 900000 := by omega
  clear hr hb hn hlen hL
  go_wp2_with fail
  go_loopw [3, 5] (fun c i wr => ∃ k : Nat, k ≤ n ∧ c = .int .i64 (ones (L.take k)) ∧ i = .int .i64 k ∧ wr = W1) (fun _ i _ => n - (intOf i).toNat)
  case atStart => exact ⟨0, Nat.zero_le _, rfl, rfl, rfl⟩
  case round =>
    obtain ⟨k, hk, rfl, rfl, rfl⟩ := hrel
    have O1 := hidc (ones_bound (pos_take HP.out k))
    have O2 := hidc (tot_take HP.out k)
    by_cases hlt : k < n
    · obtain ⟨r, hr⟩ := get_of_lt (L := L) (k := k) (by rw [HN.out]; exact hlt)
      have E1 := hidc (ones_take hr)
      have O3 := hidc (ones_bound (pos_take HP.out (k + 1)))
      have O4 := hidc (tot_take HP.out (k + 1))
      obtain ⟨b', off, rfl, c1, c2, c3⟩ := HR.out.at hr
      have l1 : (k : Int) < n := by omega
      clear hr
      have ob : 0 ≤ ones (L.take k) ∧ ones (L.take k) ≤ 900000 ∧ 0 ≤ ones (L.take (k + 1)) ∧ ones (L.take (k + 1)) ≤ 900000 := by
        have := O1.out; have := O2.out; have := O3.out; have := O4.out; have := HL.out; omega
      generalize ones (L.take k) = x at *
      obtain ⟨y, hy⟩ : ∃ y, y = ones (L.take (k + 1)) := ⟨_, rfl⟩
      rw [← hy] at E1 O3 ob
      have HY := hidc hy
      clear hy
      by_cases he : r.k = 9 ∧ r.s = 1
      · have E2 := hidc (show y = x + r.c by rw [E1.out]; unfold one?; rw [if_pos he])
        have hq : eq2 r.k r.s 9 1 = true := eq2_true he.1 he.2
        have hyb : -9223372036854775808 ≤ x + r.c ∧ x + r.c ≤ 9223372036854775807 := by have := E2.out; omega
        go_wp2_with fail
        exact ⟨⟨k + 1, by omega, by rw [← HY.out, E2.out], rfl, trivial⟩, by simp [intOf]; omega⟩
      · have E2 := hidc (show y = x by rw [E1.out]; unfold one?; rw [if_neg he]; omega)
        have hq : eq2 r.k r.s 9 1 = false := eq2_false he
        go_wp2_with fail
        exact ⟨⟨k + 1, by omega, by rw [← HY.out, E2.out], rfl, trivial⟩, by simp [intOf]; omega⟩
    · obtain rfl : k = n := by omega
      have TK : Hid (L.take k = L) := hidc (List.take_of_length_le (by rw [HN.out]; exact Nat.le_refl _))
      go_wp2
      go_ret
      exact ⟨by rw [TK.out]; rfl, HB.out⟩
end Go.Proofs.Ytpcnkiapbkmjbaa.Nv
