/- The document's own answers for lists of runs (Join, Same, Total, Check), and the program's Same: what they return, for every list. -/
import Derived.Test.YtonggccbgiecmaaCheck
namespace Go.Proofs.Ytonggccbgiecmaa
open Go.ChangeShapes Go.WideShapes Go.ChangeAt Go.RowKit
theorem sum50 (a b : Int) (w : World) (ha : 0 ≤ a ∧ a ≤ 9223372036854775807) (hb : 0 ≤ b ∧ b ≤ 9223372036854775807) :
    Calls Try.prog 50 #[.int .i64 a, .int .i64 b] w fun e w' => e = .returned (.int .i64 (sm a b)) ∧ w' = w := by
  have h1 : IntKind.i64.wrap (9223372036854775807 - b) = 9223372036854775807 - b := by rw [IntKind.wrap_i64]; omega
  by_cases h : a + b ≤ 9223372036854775807
  · have h2 : IntKind.i64.wrap (a + b) = a + b := by rw [IntKind.wrap_i64]; omega
    have h3 : ¬ (9223372036854775807 - b < a) := by omega
    have e : sm a b = a + b := if_pos h
    rw [e]
    clear e h
    go_enter Try.func50, Try.ntmps50
    go_wp2
    go_ret
    exact ⟨rfl, rfl⟩
  · have h3 : 9223372036854775807 - b < a := by omega
    have e : sm a b = 9223372036854775807 := if_neg h
    rw [e]
    clear e h
    go_enter Try.func50, Try.ntmps50
    go_wp2
    go_ret
    exact ⟨rfl, rfl⟩
set_option maxRecDepth 100000 in
set_option maxHeartbeats 1200000 in
theorem same52 (v v' : Value) (L M : List Rn) (w : World) (hv : RB w v L) (hv' : RB w v' M) (hL : L.length < 1000000000000000000) (hM : M.length < 1000000000000000000) :
    Calls Try.prog 52 #[v, v'] w fun e w' => e = .returned (.bool (decide (L = M))) ∧ ∃ d, w' = w.drewN d := by
  obtain ⟨a, cap, rfl, _, _, hz, hc⟩ := hv.shape
  obtain ⟨a', cap', rfl, _, _, hz', hc'⟩ := hv'.shape
  obtain ⟨n, hn⟩ : ∃ n, L.length = n := ⟨_, rfl⟩
  obtain ⟨m, hm⟩ : ∃ n, M.length = n := ⟨_, rfl⟩
  rw [hn] at hL ⊢
  rw [hm] at hM ⊢
  have Hn := hid hn
  have Hm := hid hm
  have HC := hid hc
  have HC' := hid hc'
  have HZ := hid hz
  have HZ' := hid hz'
  clear hn hm hc hc' hz hz' hv hv'
  by_cases hnm : n = m
  · subst hnm
    go_enter Try.func52, Try.ntmps52
    go_wp2
    go_loopw [5] (fun x wr => ∃ k : Nat, k ≤ n ∧ x = .int .i64 k ∧ (∃ d, wr = w.drewN d) ∧ L.take k = M.take k) (fun x _ => n - (intOf x).toNat)
    case atStart => exact ⟨0, Nat.zero_le _, rfl, ⟨0, rfl⟩, rfl⟩
    case round =>
      obtain ⟨k, hk, rfl, ⟨d, rfl⟩, hs⟩ := hrel
      have HS := hid hs
      clear hs
      by_cases hlt : k < n
      · obtain ⟨r, hr⟩ := get_of_lt (L := L) (k := k) (by rw [Hn.out]; exact hlt)
        obtain ⟨q, hq⟩ := get_of_lt (L := M) (k := k) (by rw [Hm.out]; exact hlt)
        obtain ⟨b, off, hb, hca⟩ : ∃ b off, a = some ⟨b, off, none⟩ ∧ CA w b off L := by
          cases a with
          | none => have := (HZ.out rfl).1; rw [this] at hr; simp at hr
          | some x =>
            rcases HC.out x rfl with h | ⟨b, off, rfl, h⟩
            · rw [h] at hr; simp at hr
            · exact ⟨b, off, rfl, h⟩
        obtain ⟨b', off', hb', hca'⟩ : ∃ b off, a' = some ⟨b, off, none⟩ ∧ CA w b off M := by
          cases a' with
          | none => have := (HZ'.out rfl).1; rw [this] at hq; simp at hq
          | some x =>
            rcases HC'.out x rfl with h | ⟨b, off, rfl, h⟩
            · rw [h] at hq; simp at hq
            · exact ⟨b, off, rfl, h⟩
        subst hb hb'
        obtain ⟨c1, c2, c3⟩ := hca k r hr
        obtain ⟨d1, d2, d3⟩ := hca' k q hq
        have HR := hid hr
        have HQ := hid hq
        clear hca hca' hr hq
        have l1 : (k : Int) < n := by omega
        by_cases he : r = q
        · subst he
          have hd := eq3_true (Eq.refl r.k) (Eq.refl r.s) (Eq.refl r.c)
          go_wp2
          go_quiet (fail)
          go_wp2
          go_roundw
          case rel => exact ⟨k + 1, by omega, by go_num, ⟨_, rfl⟩, take_next HS.out HR.out HQ.out⟩
          case measure => simp [intOf]; omega
        · have hd := eq3_false (a := r.k) (b := r.s) (x := r.c) (c := q.k) (d := q.s) (y := q.c) (fun h => he (Rn.ext3 h.1 h.2.1 h.2.2))
          have hLM : Hid (decide (L = M) = false) := decide_eq_false (fun h => by have a := HR.out; have b := HQ.out; rw [h, b] at a; exact he (Option.some.inj a).symm)
          have HE := hid he
          clear he
          go_wp2
          go_quiet (fail)
          go_wp2
          go_ret
          exact ⟨by rw [hLM.out]; rfl, _, drewN_two _ _ _⟩
      · have e : k = n := by omega
        subst e
        have hLM : Hid (decide (L = M) = true) := decide_eq_true (by
          have := HS.out
          rwa [List.take_of_length_le (by rw [Hn.out]; exact Nat.le_refl _), List.take_of_length_le (by rw [Hm.out]; exact Nat.le_refl _)] at this)
        go_wp2
        go_ret
        exact ⟨by rw [hLM.out]; rfl, d, rfl⟩
  · have hLM : Hid (decide (L = M) = false) := decide_eq_false (fun h => by have a := Hn.out; rw [h, Hm.out] at a; omega)
    rw [hLM.out]
    have hnm' : ¬ (n : Int) = m := by omega
    go_enter Try.func52, Try.ntmps52
    go_wp2
    go_ret
    exact ⟨rfl, 0, rfl⟩

set_option maxRecDepth 100000 in
set_option maxHeartbeats 1200000 in
theorem equal56 (v v' : Value) (L M : List Rn) (w : World) (hv : RB w v L) (hv' : RB w v' M) (hL : L.length < 1000000000000000000) (hM : M.length < 1000000000000000000) :
    Calls Try.prog 56 #[v, v'] w fun e w' => e = .returned (.bool (decide (L = M))) ∧ ∃ d, w' = w.drewN d := by
  obtain ⟨a, cap, rfl, _, _, hz, hc⟩ := hv.shape
  obtain ⟨a', cap', rfl, _, _, hz', hc'⟩ := hv'.shape
  obtain ⟨n, hn⟩ : ∃ n, L.length = n := ⟨_, rfl⟩
  obtain ⟨m, hm⟩ : ∃ n, M.length = n := ⟨_, rfl⟩
  rw [hn] at hL ⊢
  rw [hm] at hM ⊢
  have Hn := hid hn
  have Hm := hid hm
  have HC := hid hc
  have HC' := hid hc'
  have HZ := hid hz
  have HZ' := hid hz'
  clear hn hm hc hc' hz hz' hv hv'
  by_cases hnm : n = m
  · subst hnm
    go_enter Try.func56, Try.ntmps56
    go_wp2
    go_loopw [13] (fun x wr => ∃ k : Nat, k ≤ n ∧ x = .int .i64 k ∧ (∃ d, wr = w.drewN d) ∧ L.take k = M.take k) (fun x _ => n - (intOf x).toNat)
    case atStart => exact ⟨0, Nat.zero_le _, rfl, ⟨0, rfl⟩, rfl⟩
    case round =>
      obtain ⟨k, hk, rfl, ⟨d, rfl⟩, hs⟩ := hrel
      have HS := hid hs
      clear hs
      by_cases hlt : k < n
      · obtain ⟨r, hr⟩ := get_of_lt (L := L) (k := k) (by rw [Hn.out]; exact hlt)
        obtain ⟨q, hq⟩ := get_of_lt (L := M) (k := k) (by rw [Hm.out]; exact hlt)
        obtain ⟨b, off, hb, hca⟩ : ∃ b off, a = some ⟨b, off, none⟩ ∧ CA w b off L := by
          cases a with
          | none => have := (HZ.out rfl).1; rw [this] at hr; simp at hr
          | some x =>
            rcases HC.out x rfl with h | ⟨b, off, rfl, h⟩
            · rw [h] at hr; simp at hr
            · exact ⟨b, off, rfl, h⟩
        obtain ⟨b', off', hb', hca'⟩ : ∃ b off, a' = some ⟨b, off, none⟩ ∧ CA w b off M := by
          cases a' with
          | none => have := (HZ'.out rfl).1; rw [this] at hq; simp at hq
          | some x =>
            rcases HC'.out x rfl with h | ⟨b, off, rfl, h⟩
            · rw [h] at hq; simp at hq
            · exact ⟨b, off, rfl, h⟩
        subst hb hb'
        obtain ⟨c1, c2, c3⟩ := hca k r hr
        obtain ⟨d1, d2, d3⟩ := hca' k q hq
        have HR := hid hr
        have HQ := hid hq
        clear hca hca' hr hq
        have l1 : (k : Int) < n := by omega
        by_cases he : r = q
        · subst he
          have hd := eq3_true (Eq.refl r.k) (Eq.refl r.s) (Eq.refl r.c)
          go_wp2
          go_quiet (fail)
          go_wp2
          go_roundw
          case rel => exact ⟨k + 1, by omega, by go_num, ⟨_, rfl⟩, take_next HS.out HR.out HQ.out⟩
          case measure => simp [intOf]; omega
        · have hd := eq3_false (a := r.k) (b := r.s) (x := r.c) (c := q.k) (d := q.s) (y := q.c) (fun h => he (Rn.ext3 h.1 h.2.1 h.2.2))
          have hLM : Hid (decide (L = M) = false) := decide_eq_false (fun h => by have a := HR.out; have b := HQ.out; rw [h, b] at a; exact he (Option.some.inj a).symm)
          have HE := hid he
          clear he
          go_wp2
          go_quiet (fail)
          go_wp2
          go_ret
          exact ⟨by rw [hLM.out]; rfl, _, drewN_two _ _ _⟩
      · have e : k = n := by omega
        subst e
        have hLM : Hid (decide (L = M) = true) := decide_eq_true (by
          have := HS.out
          rwa [List.take_of_length_le (by rw [Hn.out]; exact Nat.le_refl _), List.take_of_length_le (by rw [Hm.out]; exact Nat.le_refl _)] at this)
        go_wp2
        go_ret
        exact ⟨by rw [hLM.out]; rfl, d, rfl⟩
  · have hLM : Hid (decide (L = M) = false) := decide_eq_false (fun h => by have a := Hn.out; rw [h, Hm.out] at a; omega)
    rw [hLM.out]
    have hnm' : ¬ (n : Int) = m := by omega
    go_enter Try.func56, Try.ntmps56
    go_wp2
    go_ret
    exact ⟨rfl, 0, rfl⟩

theorem same51 (v v' : Value) (L M : List Rn) (w : World) (hv : RB w v L) (hv' : RB w v' M) (hL : L.length < 1000000000000000000) (hM : M.length < 1000000000000000000) :
    Calls Try.prog 51 #[v, v'] w fun e w' => e = .returned (.bool (decide (L = M))) ∧ ∃ d, w' = w.drewN d := by
  have HV := hid hv
  have HV' := hid hv'
  clear hv hv'
  go_enter Try.func51, Try.ntmps51
  go_wp2_with fail
  refine (equal56 _ _ L M _ HV.out HV'.out hL hM).mono ?_
  rintro e w' ⟨rfl, d, rfl⟩
  go_wp2
  go_ret
  exact ⟨rfl, _, rfl⟩
theorem max_pos {c : Int} (h : 1 ≤ c) : max c 0 = c := by omega
theorem max_neg {c : Int} (h : c < 1) : max c 0 = 0 := by omega
theorem sm_zero {a : Int} (h : 0 ≤ a ∧ a ≤ 9223372036854775807) : sm a 0 = a := by unfold sm; rw [if_pos (by omega)]; omega
set_option maxHeartbeats 1200000 in
theorem total53 (v : Value) (L : List Rn) (w : World) (h : RB w v L) (hN : L.length < 1000000000000000000) :
    Calls Try.prog 53 #[v] w fun e w' => e = .returned (.int .i64 (totS L)) ∧ w' = w := by
  obtain ⟨n, hn⟩ : ∃ n, L.length = n := ⟨_, rfl⟩
  obtain ⟨a, cap, rfl⟩ : ∃ a cap, v = .slice a n cap := by
    obtain ⟨a, cap, e⟩ := h.isSlice
    exact ⟨a, cap, by rw [← hn]; exact e⟩
  rw [hn] at hN
  have HL := hid hn
  have HR := hid h
  clear h hn
  go_enter Try.func53, Try.ntmps53
  go_wp2
  go_loopw [3, 4] (fun s x wr => ∃ k : Nat, k ≤ n ∧ x = .int .i64 k ∧ s = .int .i64 (totS (L.take k)) ∧ wr = w) (fun _ x _ => n - (intOf x).toNat)
  case atStart => exact ⟨0, Nat.zero_le _, rfl, rfl, rfl⟩
  case round =>
    obtain ⟨k, hk, rfl, rfl, rfl⟩ := hrel
    by_cases hlt : k < n
    · obtain ⟨r, hr⟩ := get_of_lt (L := L) (k := k) (by rw [HL.out]; exact hlt)
      have Hr := hid hr
      obtain ⟨b', off, rfl, c1, c2, c3⟩ := HR.out.at hr
      have l1 : (k : Int) < n := by omega
      have p2 := (HR.out.ok hr).2.2
      have p3 := totS_bound (L.take k)
      have e1 := hid (show totS (L.take (k + 1)) = sm (totS (L.take k)) (max r.c 0) by rw [take_snoc hr, totS_snoc])
      clear hr
      by_cases hc : 1 ≤ r.c
      · have e2 := hid (show totS (L.take (k + 1)) = sm (totS (L.take k)) r.c by rw [e1.out, max_pos hc])
        go_wp2_with (go_at_call 50; refine (sum50 _ _ _ (by omega) (by omega)).mono ?_; rintro e w2 ⟨rfl, rfl⟩)
        go_roundw
        case rel => exact ⟨k + 1, by omega, by go_num, by rw [e2.out], trivial⟩
        case measure => simp [intOf]; omega
      · have e2 := hid (show totS (L.take (k + 1)) = totS (L.take k) by rw [e1.out, max_neg (by omega), sm_zero p3])
        go_wp2
        go_roundw
        case rel => exact ⟨k + 1, by omega, by go_num, by rw [e2.out], trivial⟩
        case measure => simp [intOf]; omega
    · have e : k = n := by omega
      subst e
      have e3 : Hid (L.take k = L) := List.take_of_length_le (by rw [HL.out]; exact Nat.le_refl _)
      go_wp2
      go_ret
      exact ⟨by rw [e3.out]; rfl, rfl⟩
set_option maxRecDepth 100000 in
set_option maxHeartbeats 1200000 in
theorem check54 (v : Value) (L : List Rn) (w : World) (h : RB w v L) (hN : L.length < 1000000000000000000) :
    Calls Try.prog 54 #[v] w fun e w' => ∃ z, e = .returned (.int .i64 z) ∧ ((z = 0 ∧ Chk L) ∨ (z = 120 ∧ ¬ Chk L)) ∧ ∃ d, w' = w.drewN d := by
  obtain ⟨n, hn⟩ : ∃ n, L.length = n := ⟨_, rfl⟩
  obtain ⟨a, cap, rfl⟩ : ∃ a cap, v = .slice a n cap := by
    obtain ⟨a, cap, e⟩ := h.isSlice
    exact ⟨a, cap, by rw [← hn]; exact e⟩
  rw [hn] at hN
  have HL := hid hn
  have HR := hid h
  clear h hn
  go_enter Try.func54, Try.ntmps54
  go_wp2
  go_loopw [3] (fun x wr => ∃ k : Nat, k ≤ n ∧ x = .int .i64 k ∧ (∀ i r, i < k → L[i]? = some r → 1 ≤ r.c ∧ ∀ q, 0 < i → L[i - 1]? = some q → ¬ (r.k = q.k ∧ r.s = q.s)) ∧ ∃ d, wr = w.drewN d) (fun x _ => n - (intOf x).toNat)
  case atStart => exact ⟨0, Nat.zero_le _, rfl, fun i r hi => by omega, 0, rfl⟩
  case round =>
    obtain ⟨k, hk, rfl, hs, d, rfl⟩ := hrel
    have HS := hid hs
    clear hs
    by_cases hlt : k < n
    · obtain ⟨r, hr⟩ := get_of_lt (L := L) (k := k) (by rw [HL.out]; exact hlt)
      have Hr := hid hr
      obtain ⟨b', off, rfl, c1, c2, c3⟩ := HR.out.at hr
      have l1 : (k : Int) < n := by omega
      clear hr
      by_cases hc : r.c < 1
      · have Hbad : Hid (¬ Chk L) := fun h => by have := (h k r Hr.out).1; omega
        go_wp2
        go_quiet (fail)
        go_wp2
        go_ret
        exact ⟨_, rfl, .inr ⟨rfl, Hbad.out⟩, _, drewN_two _ _ _⟩
      · have hc' : ¬ (r.c < 1) := hc
        by_cases hk0 : k = 0
        · have Hk0 := hid hk0
          have hd0 : decide (0 < k) = false := by rw [hk0]; rfl
          have hd1 : decide (r.c < 1) = false := decide_eq_false hc
          clear hk0
          go_wp2
          go_quiet (fail)
          go_wp2
          go_roundw
          case rel => exact ⟨k + 1, by omega, by go_num, fun i r' hi h' => by
            have e0 := Hk0.out
            obtain rfl : i = k := by omega
            rw [Hr.out] at h'; cases h'
            exact ⟨by omega, fun q h0 => by omega⟩, _, rfl⟩
          case measure => simp [intOf]; omega
        · obtain ⟨q, hq⟩ := get_of_lt (L := L) (k := k - 1) (by rw [HL.out]; omega)
          have Hq := hid hq
          obtain ⟨m, hm⟩ : ∃ m, k - 1 = m := ⟨k - 1, rfl⟩
          rw [hm] at hq
          obtain ⟨b2, off2, hbb, d1, d2, d3⟩ := HR.out.at hq
          simp only [Option.some.injEq, Addr.mk.injEq] at hbb
          obtain ⟨rfl, rfl, _⟩ := hbb
          have hbl := block_lt_of_cell d1
          have l2 : (m : Int) < n := by omega
          have l0 : 0 < k := by omega
          have hw1 : IntKind.i64.wrap ((k : Int) - 1) = m := by rw [IntKind.wrap_i64]; omega
          have Hm := hid hm
          clear hq hm
          by_cases he : r.k = q.k ∧ r.s = q.s
          · have hd := eq2_true he.1 he.2
            have Hbad : Hid (¬ Chk L) := fun h => (h k r Hr.out).2 q l0 Hq.out he
            clear he
            go_wp2
            go_quiet (fail)
            go_wp2
            go_ret
            exact ⟨_, rfl, .inr ⟨rfl, Hbad.out⟩, _, drewN_two _ _ _⟩
          · have hd := eq2_false he
            have He := hid he
            clear he
            go_wp2
            go_quiet (fail)
            go_wp2
            go_roundw
            case rel => exact ⟨k + 1, by omega, by go_num, fun i r' hi h' => by
              by_cases hik : i = k
              · subst hik
                rw [Hr.out] at h'; cases h'
                exact ⟨by omega, fun q' _ hq' => by rw [Hq.out] at hq'; cases hq'; exact He.out⟩
              · exact HS.out i r' (by omega) h', _, rfl⟩
            case measure => simp [intOf]; omega
    · have e : k = n := by omega
      subst e
      have Hgood : Hid (Chk L) := fun i r h => HS.out i r (by have := (List.getElem?_eq_some_iff.1 h).1; rw [HL.out] at this; exact this) h
      go_wp2
      go_ret
      exact ⟨_, rfl, .inl ⟨rfl, Hgood.out⟩, d, rfl⟩
end Go.Proofs.Ytonggccbgiecmaa
