/- What the program's Check answers, for every list of runs. -/
import Derived.Test.YtonggccbgiecmaaReads
namespace Go.Proofs.Ytonggccbgiecmaa
open Go.ChangeShapes Go.WideShapes Go.ChangeAt Go.RowKit
set_option maxRecDepth 100000 in
set_option maxHeartbeats 1200000 in
theorem check32 (v : Value) (L : List Rn) (w : World) (h : RB w v L) (hN : L.length < 1000000000000000000) :
    Calls Try.prog 32 #[v] w fun e w' => ∃ z, e = .returned (.int .i64 z) ∧ ((z = 0 ∧ Chk L) ∨ (z = 120 ∧ ¬ Chk L)) ∧ Below w.heap.size w w' := by
  obtain ⟨n, hn⟩ : ∃ n, L.length = n := ⟨_, rfl⟩
  obtain ⟨a, cap, rfl⟩ : ∃ a cap, v = .slice a n cap := by
    obtain ⟨a, cap, e⟩ := h.isSlice
    exact ⟨a, cap, by rw [← hn]; exact e⟩
  rw [hn] at hN
  have HL := hid hn
  have HR := hid h
  clear h hn
  go_enter Try.func32, Try.ntmps32
  go_wp2
  go_loopw [7] (fun x wr => ∃ k : Nat, k ≤ n ∧ x = .int .i64 k ∧ (∀ i r, i < k → L[i]? = some r → 1 ≤ r.c ∧ ∀ q, 0 < i → L[i - 1]? = some q → ¬ (r.k = q.k ∧ r.s = q.s)) ∧ Below w.heap.size w wr) (fun x _ => n - (intOf x).toNat)
  case atStart => exact ⟨0, Nat.zero_le _, rfl, fun i r hi => by omega, Below.refl _ _⟩
  case round =>
    obtain ⟨k, hk, rfl, hs, hb⟩ := hrel
    have HB := hid hb
    have HS := hid hs
    clear hb hs
    by_cases hlt : k < n
    · obtain ⟨r, hr⟩ := get_of_lt (L := L) (k := k) (by rw [HL.out]; exact hlt)
      have Hr := hid hr
      obtain ⟨b', off, rfl, c1, c2, c3⟩ := (HR.out.below HB.out).at hr
      have l1 : (k : Int) < n := by omega
      have HB2 := hid (fun o => below_next HB.out (below_alloc wr o))
      clear hr
      by_cases hc : r.c < 1
      · have Hbad : Hid (¬ Chk L) := fun h => by have := (h k r Hr.out).1; omega
        go_wp2
        go_quiet (fail)
        go_wp2
        go_ret
        exact ⟨_, rfl, .inr ⟨rfl, Hbad.out⟩, below_drew' (HB2.out _) _⟩
      · have hc' : ¬ (r.c < 1) := hc
        by_cases hk0 : k = 0
        · have Hk0 := hid hk0
          have hd0 : decide (0 < k) = false := by rw [hk0]; rfl
          have hd1 : decide (r.c < 1) = false := decide_eq_false hc
          clear hk0
          go_wp2
          go_quiet (fail)
          go_wp2
          go_roundw
          case rel => exact ⟨k + 1, by omega, by go_num, fun i r' hi h' => by
            have e0 := Hk0.out
            obtain rfl : i = k := by omega
            rw [Hr.out] at h'; cases h'
            exact ⟨by omega, fun q h0 => by omega⟩, below_drew' (HB2.out _) _⟩
          case measure => simp [intOf]; omega
        · obtain ⟨q, hq⟩ := get_of_lt (L := L) (k := k - 1) (by rw [HL.out]; omega)
          have Hq := hid hq
          obtain ⟨m, hm⟩ : ∃ m, k - 1 = m := ⟨k - 1, rfl⟩
          rw [hm] at hq
          obtain ⟨b2, off2, hbb, d1, d2, d3⟩ := (HR.out.below HB.out).at hq
          simp only [Option.some.injEq, Addr.mk.injEq] at hbb
          obtain ⟨rfl, rfl, _⟩ := hbb
          have hbl := block_lt_of_cell d1
          have l2 : (m : Int) < n := by omega
          have l0 : 0 < k := by omega
          have hw1 : IntKind.i64.wrap ((k : Int) - 1) = m := by rw [IntKind.wrap_i64]; omega
          have Hm := hid hm
          clear hq hm
          by_cases he : r.k = q.k ∧ r.s = q.s
          · have hd := eq2_true he.1 he.2
            have Hbad : Hid (¬ Chk L) := fun h => (h k r Hr.out).2 q l0 Hq.out he
            clear he
            go_wp2
            go_quiet (fail)
            go_wp2
            go_ret
            exact ⟨_, rfl, .inr ⟨rfl, Hbad.out⟩, below_drew' (HB2.out _) _⟩
          · have hd := eq2_false he
            have He := hid he
            clear he
            go_wp2
            go_quiet (fail)
            go_wp2
            go_roundw
            case rel => exact ⟨k + 1, by omega, by go_num, fun i r' hi h' => by
              by_cases hik : i = k
              · subst hik
                rw [Hr.out] at h'; cases h'
                exact ⟨by omega, fun q' _ hq' => by rw [Hq.out] at hq'; cases hq'; exact He.out⟩
              · exact HS.out i r' (by omega) h', below_drew' (HB2.out _) _⟩
            case measure => simp [intOf]; omega
    · have e : k = n := by omega
      subst e
      have Hgood : Hid (Chk L) := fun i r h => HS.out i r (by have := (List.getElem?_eq_some_iff.1 h).1; rw [HL.out] at this; exact this) h
      go_wp2
      go_ret
      exact ⟨_, rfl, .inl ⟨rfl, Hgood.out⟩, HB.out⟩
end Go.Proofs.Ytonggccbgiecmaa
