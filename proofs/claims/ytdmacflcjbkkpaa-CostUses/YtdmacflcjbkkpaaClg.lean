/- What Total, Join and Check of the ledger answer, of any list of runs. -/
import Derived.Test.YtdmacflcjbkkpaaJr
import Derived.Test.YtdmacflcjbkkpaaRkit
import Derived.Test.YtdmacflcjbkkpaaRput
import Derived.Test.YtdmacflcjbkkpaaQkp
namespace Go.Proofs.Ytdmacflcjbkkpaa.Lg
open Go.ChangeShapes Go.WideShapes Go.ChangeAt Go.RowKit
open Go.Proofs.Ytdmacflcjbkkpaa
/-- The sum of those counts that are 1 or more; at most the greatest int. -/
def totS (L : List Rn) : Int := L.foldl (fun n r => sm n (max r.c 0)) 0
theorem totS_snoc (L : List Rn) (r : Rn) : totS (L ++ [r]) = sm (totS L) (max r.c 0) := by simp [totS]
theorem sm_bound0 {a b : Int} (ha : 0 ≤ a) (hb : 0 ≤ b) : 0 ≤ sm a b ∧ sm a b ≤ 9223372036854775807 := by
  unfold sm; split <;> omega
theorem totS_bound (L : List Rn) : 0 ≤ totS L ∧ totS L ≤ 9223372036854775807 := by
  rcases List.eq_nil_or_concat L with rfl | ⟨M, r, rfl⟩
  · simp [totS]
  · induction M generalizing r with
    | nil => simp only [List.concat_eq_append, totS_snoc]; exact sm_bound0 (by simp [totS]) (by omega)
    | cons x M ih =>
      simp only [List.concat_eq_append, totS_snoc]
      refine sm_bound0 ?_ (by omega)
      rcases List.eq_nil_or_concat (x :: M) with h | ⟨M', y, h⟩
      · rw [h]; simp [totS]
      · rw [h, List.concat_eq_append, totS_snoc]
        have : 0 ≤ totS M' := by
          clear ih h
          unfold totS
          have : ∀ (M : List Rn) (a : Int), 0 ≤ a → 0 ≤ M.foldl (fun n r => sm n (max r.c 0)) a := by
            intro M
            induction M with
            | nil => intro a h; exact h
            | cons z M ih => intro a h; exact ih _ (sm_bound0 h (by omega)).1
          exact this _ _ (by omega)
        exact (sm_bound0 this (by omega)).1
theorem totS_pos {L : List Rn} (h : Pos L) (hb : tot L ≤ 9223372036854775807) : totS L = tot L := by
  have : ∀ (M : List Rn) (a : Int), Pos M → 0 ≤ a → a + tot M ≤ 9223372036854775807 → M.foldl (fun n r => sm n (max r.c 0)) a = a + tot M := by
    intro M
    induction M with
    | nil => intro a _ _ _; simp [tot]
    | cons z M ih =>
      intro a hp h0 hm
      have h1 := hp z (by simp)
      have h2 : Pos M := fun q hq => hp q (by simp [hq])
      have h3 := tot_pos h2
      simp only [tot] at hm ⊢
      rw [List.foldl_cons, show sm a (max z.c 0) = a + z.c by unfold sm; rw [if_pos (by omega)]; omega, ih _ h2 (by omega) (by omega)]
      omega
  have := this L 0 h (by omega) (by omega)
  simpa [totS] using this

set_option maxHeartbeats 1200000 in
theorem total_ok (v : Value) (L : List Rn) (w : World) (h : RB w v L) (hN : L.length < 1000000000000000000) :
    Calls Try.prog 14 #[v] w fun e w' => e = .returned (.int .i64 (totS L)) ∧ Below w.heap.size w w' := by
  obtain ⟨n, hn⟩ : ∃ n, L.length = n := ⟨_, rfl⟩
  obtain ⟨a, cap, rfl⟩ : ∃ a cap, v = .slice a n cap := by
    obtain ⟨a, cap, e⟩ := h.isSlice
    exact ⟨a, cap, by rw [← hn]; exact e⟩
  rw [hn] at hN
  have HL := hid hn
  have HR := hid h
  clear h hn
  go_enter Try.func14, Try.ntmps14
  go_wp2
  go_loopw [3, 8] (fun s x wr => ∃ k : Nat, k ≤ n ∧ x = .int .i64 k ∧ s = .int .i64 (totS (L.take k)) ∧ Below w.heap.size w wr) (fun _ x _ => n - (intOf x).toNat)
  case atStart => exact ⟨0, Nat.zero_le _, rfl, rfl, Below.refl _ _⟩
  case round =>
    obtain ⟨k, hk, rfl, rfl, hb⟩ := hrel
    have HB := hid hb
    clear hb
    by_cases hlt : k < n
    · obtain ⟨r, hr⟩ := get_of_lt (L := L) (k := k) (by rw [HL.out]; exact hlt)
      have Hr := hid hr
      obtain ⟨b', off, rfl, c1, c2, c3⟩ := (HR.out.below HB.out).at hr
      have l1 : (k : Int) < n := by omega
      have p2 := (HR.out.ok hr).2.2
      have p3 := totS_bound (L.take k)
      have e1 := hid (show totS (L.take (k + 1)) = sm (totS (L.take k)) (max r.c 0) by rw [take_snoc hr, totS_snoc])
      have HB2 := hid (fun o => below_next HB.out (below_alloc wr o))
      clear hr
      go_wp2_with (go_at_call 29; refine (add47 _ _ _ (by omega) (by omega)).mono ?_; rintro e w2 ⟨rfl, rfl⟩)
      go_roundw
      case rel => exact ⟨k + 1, by omega, by go_num, by rw [e1.out, show max r.c 0 = if r.c < 0 then 0 else r.c by split <;> omega], HB2.out _⟩
      case measure => simp [intOf]; omega
    · have e : k = n := by omega
      subst e
      have e3 : Hid (L.take k = L) := List.take_of_length_le (by rw [HL.out]; exact Nat.le_refl _)
      go_wp2
      go_ret
      exact ⟨by rw [e3.out]; rfl, HB.out⟩

/-- Runs joined. -/
def joinL (L M : List Rn) : List Rn := M.foldl putL (L.foldl putL [])
theorem fold_len (M : List Rn) : ∀ L : List Rn, (M.foldl putL L).length ≤ L.length + M.length := by
  induction M with
  | nil => intro L; simp
  | cons r M ih => intro L; have := ih (putL L r); have h2 := (putL_len (L := L) (r := r)).1; simp only [List.foldl_cons, List.length_cons]; omega
theorem fold_pos (M : List Rn) : ∀ L : List Rn, Pos L → Pos (M.foldl putL L) := by
  induction M with
  | nil => intro L h; exact h
  | cons r M ih => intro L h; exact ih _ (putL_pos h)
theorem pos_nil : Pos [] := fun q hq => by simp at hq

set_option maxHeartbeats 1200000 in
theorem join_ok (v v' : Value) (L M : List Rn) (w : World) (h : RB w v L) (h' : RB w v' M) (hN : (L.length + M.length) * 24 ≤ 140737488355328) :
    Calls Try.prog 16 #[v, v'] w fun e w' => ∃ u, e = .returned u ∧ Own w' w.heap.size u (joinL L M) ∧ Below w.heap.size w w' := by
  obtain ⟨n, hn⟩ : ∃ n, L.length = n := ⟨_, rfl⟩
  obtain ⟨m, hm⟩ : ∃ n, M.length = n := ⟨_, rfl⟩
  obtain ⟨a, cap, rfl⟩ : ∃ a cap, v = .slice a n cap := by
    obtain ⟨a, cap, e⟩ := h.isSlice
    exact ⟨a, cap, by rw [← hn]; exact e⟩
  obtain ⟨a', cap', rfl⟩ : ∃ a cap, v' = .slice a m cap := by
    obtain ⟨a, cap, e⟩ := h'.isSlice
    exact ⟨a, cap, by rw [← hm]; exact e⟩
  rw [hn, hm] at hN
  have HL := hid hn
  have HM := hid hm
  have HR := hid h
  have HR' := hid h'
  clear h hn h' hm
  go_enter Try.func16, Try.ntmps16
  go_wp2
  go_loopw [5, 12] (fun s x wr => ∃ k : Nat, k ≤ n ∧ x = .int .i64 k ∧ Own wr w.heap.size s ((L.take k).foldl putL []) ∧ Below w.heap.size w wr) (fun _ x _ => n - (intOf x).toNat)
  case atStart => exact ⟨0, Nat.zero_le _, rfl, Own.nil _ _, Below.refl _ _⟩
  case round =>
    obtain ⟨k, hk, rfl, ho, hb⟩ := hrel
    have HB := hid hb
    have HO := hid ho
    clear hb ho
    by_cases hlt : k < n
    · obtain ⟨r, hr⟩ := get_of_lt (L := L) (k := k) (by rw [HL.out]; exact hlt)
      have Hr := hid hr
      obtain ⟨b', off, rfl, c1, c2, c3⟩ := (HR.out.below HB.out).at hr
      have l1 : (k : Int) < n := by omega
      have hlen := fold_len (L.take k) []
      rw [List.length_take, HL.out, Nat.min_eq_left hk] at hlen
      simp only [List.length_nil, Nat.zero_add] at hlen
      have Hlen : Hid ((((L.take k).foldl putL []).length + 1) * 24 ≤ 140737488355328) := by show _ * 24 ≤ _; omega
      have HW := hid (HO.out.alloc (.cells #[.int .u8 r.k, .int .i64 r.s, .int .i64 r.c] 49))
      have HP := hid (fold_pos (L.take k) [] pos_nil)
      have e1 := hid (show (L.take (k + 1)).foldl putL [] = putL ((L.take k).foldl putL []) r by rw [take_snoc hr]; simp)
      have hsz := HB.out.size
      have Hok := hid (HR.out.ok hr)
      clear hr hlen
      go_wp2_with (go_at_call 31; go_must (refine (put46 w.heap.size _ _ r _ HW.out Hok.out HP.out ?c1 Hlen.out).mono ?_))
      case c1 => simp; omega
      rintro e w2 ⟨u', rfl, ho, hk2, _⟩
      have HO2 := hid ho
      have HB2 : Hid (Below w.heap.size w w2) := (HB.out.alloc hsz _).trans (hk2.below (by simp; omega) (fun j hj e => by have := (HO.out.lt j e).1; omega))
      clear ho hk2
      go_wp2
      go_roundw
      case rel => exact ⟨k + 1, by omega, by go_num, by rw [e1.out]; exact HO2.out, HB2.out⟩
      case measure => simp [intOf]; omega
    · have e : k = n := by omega
      subst e
      have e3 : Hid (L.take k = L) := List.take_of_length_le (by rw [HL.out]; exact Nat.le_refl _)
      have HO3 : Hid (Own wr w.heap.size u5 (L.foldl putL [])) := by have := HO.out; rw [e3.out] at this; exact this
      clear HO
      obtain ⟨wq, hwq⟩ : ∃ x, x = wr := ⟨_, rfl⟩
      subst hwq
      go_wp2
      go_loopw [5, 22] (fun s x wr => ∃ j : Nat, j ≤ m ∧ x = .int .i64 j ∧ Own wr w.heap.size s ((M.take j).foldl putL (L.foldl putL [])) ∧ Below w.heap.size w wr) (fun _ x _ => m - (intOf x).toNat)
      case atStart => exact ⟨0, Nat.zero_le _, rfl, HO3.out, HB.out⟩
      case round =>
        obtain ⟨j, hj, rfl, ho, hb⟩ := hrel
        clear HB HO3
        have HB := hid hb
        have HO := hid ho
        clear hb ho
        by_cases hlt2 : j < m
        · obtain ⟨r, hr⟩ := get_of_lt (L := M) (k := j) (by rw [HM.out]; exact hlt2)
          have Hr := hid hr
          obtain ⟨b', off, rfl, c1, c2, c3⟩ := (HR'.out.below HB.out).at hr
          have l1 : (j : Int) < m := by omega
          have hlen := fold_len (M.take j) (L.foldl putL [])
          have hlen2 := fold_len L []
          rw [List.length_take, HM.out, Nat.min_eq_left hj] at hlen
          rw [HL.out] at hlen2
          simp only [List.length_nil, Nat.zero_add] at hlen2
          have Hlen : Hid ((((M.take j).foldl putL (L.foldl putL [])).length + 1) * 24 ≤ 140737488355328) := by show _ * 24 ≤ _; omega
          have HW := hid (HO.out.alloc (.cells #[.int .u8 r.k, .int .i64 r.s, .int .i64 r.c] 49))
          have HP := hid (fold_pos (M.take j) _ (fold_pos L [] pos_nil))
          have e1 := hid (show (M.take (j + 1)).foldl putL (L.foldl putL []) = putL ((M.take j).foldl putL (L.foldl putL [])) r by rw [take_snoc hr]; simp)
          have hsz := HB.out.size
          have Hok := hid (HR'.out.ok hr)
          clear hr hlen hlen2
          go_wp2_with (go_at_call 31; go_must (refine (put46 w.heap.size _ _ r _ HW.out Hok.out HP.out ?c1 Hlen.out).mono ?_))
          case c1 => simp; omega
          rintro e w2 ⟨u', rfl, ho, hk2, _⟩
          have HO2 := hid ho
          have HB2 : Hid (Below w.heap.size w w2) := (HB.out.alloc hsz _).trans (hk2.below (by simp; omega) (fun j hj e => by have := (HO.out.lt j e).1; omega))
          clear ho hk2
          go_wp2
          go_roundw
          case rel => exact ⟨j + 1, by omega, by go_num, by rw [e1.out]; exact HO2.out, HB2.out⟩
          case measure => simp [intOf]; omega
        · have e : j = m := by omega
          subst e
          have e4 : Hid (M.take j = M) := List.take_of_length_le (by rw [HM.out]; exact Nat.le_refl _)
          go_wp2
          go_ret
          exact ⟨_, rfl, by have := HO.out; rw [e4.out] at this; exact this, HB.out⟩

/-- Runs may be a ledger's. -/
def Chk (L : List Rn) : Prop := ∀ (i : Nat) (r : Rn), L[i]? = some r → 1 ≤ r.c ∧ ∀ q, 0 < i → L[i - 1]? = some q → ¬ (r.k = q.k ∧ r.s = q.s)

set_option maxRecDepth 100000 in
set_option maxHeartbeats 1200000 in
theorem check_ok (v : Value) (L : List Rn) (w : World) (h : RB w v L) (hN : L.length < 1000000000000000000) :
    Calls Try.prog 12 #[v] w fun e w' => ∃ z, e = .returned (.int .i64 z) ∧ ((z = 0 ∧ Chk L) ∨ (z = 120 ∧ ¬ Chk L)) ∧ Below w.heap.size w w' := by
  obtain ⟨n, hn⟩ : ∃ n, L.length = n := ⟨_, rfl⟩
  obtain ⟨a, cap, rfl⟩ : ∃ a cap, v = .slice a n cap := by
    obtain ⟨a, cap, e⟩ := h.isSlice
    exact ⟨a, cap, by rw [← hn]; exact e⟩
  rw [hn] at hN
  have HL := hid hn
  have HR := hid h
  clear h hn
  go_enter Try.func12, Try.ntmps12
  go_wp2
  go_loopw [7] (fun x wr => ∃ k : Nat, k ≤ n ∧ x = .int .i64 k ∧ (∀ i r, i < k → L[i]? = some r → 1 ≤ r.c ∧ ∀ q, 0 < i → L[i - 1]? = some q → ¬ (r.k = q.k ∧ r.s = q.s)) ∧ Below w.heap.size w wr) (fun x _ => n - (intOf x).toNat)
  case atStart => exact ⟨0, Nat.zero_le _, rfl, fun i r hi => by omega, Below.refl _ _⟩
  case round =>
    obtain ⟨k, hk, rfl, hs, hb⟩ := hrel
    have HB := hid hb
    have HS := hid hs
    clear hb hs
    by_cases hlt : k < n
    · obtain ⟨r, hr⟩ := get_of_lt (L := L) (k := k) (by rw [HL.out]; exact hlt)
      have Hr := hid hr
      obtain ⟨b', off, rfl, c1, c2, c3⟩ := (HR.out.below HB.out).at hr
      have l1 : (k : Int) < n := by omega
      have HB2 := hid (fun o => below_next HB.out (below_alloc wr o))
      clear hr
      by_cases hc : r.c < 1
      · have Hbad : Hid (¬ Chk L) := fun h => by have := (h k r Hr.out).1; omega
        go_wp2
        go_quiet (fail)
        go_wp2
        go_ret
        exact ⟨_, rfl, .inr ⟨rfl, Hbad.out⟩, below_drew' (HB2.out _) _⟩
      · have hc' : ¬ (r.c < 1) := hc
        by_cases hk0 : k = 0
        · have Hk0 := hid hk0
          have hd0 : decide (0 < k) = false := by rw [hk0]; rfl
          have hd1 : decide (r.c < 1) = false := decide_eq_false hc
          clear hk0
          go_wp2
          go_quiet (fail)
          go_wp2
          go_roundw
          case rel => exact ⟨k + 1, by omega, by go_num, fun i r' hi h' => by
            have e0 := Hk0.out
            obtain rfl : i = k := by omega
            rw [Hr.out] at h'; cases h'
            exact ⟨by omega, fun q h0 => by omega⟩, below_drew' (HB2.out _) _⟩
          case measure => simp [intOf]; omega
        · obtain ⟨q, hq⟩ := get_of_lt (L := L) (k := k - 1) (by rw [HL.out]; omega)
          have Hq := hid hq
          obtain ⟨m, hm⟩ : ∃ m, k - 1 = m := ⟨k - 1, rfl⟩
          rw [hm] at hq
          obtain ⟨b2, off2, hbb, d1, d2, d3⟩ := (HR.out.below HB.out).at hq
          simp only [Option.some.injEq, Addr.mk.injEq] at hbb
          obtain ⟨rfl, rfl, _⟩ := hbb
          have hbl := block_lt_of_cell d1
          have l2 : (m : Int) < n := by omega
          have l0 : 0 < k := by omega
          have hw1 : IntKind.i64.wrap ((k : Int) - 1) = m := by rw [IntKind.wrap_i64]; omega
          have Hm := hid hm
          clear hq hm
          by_cases he : r.k = q.k ∧ r.s = q.s
          · have hd := eq2_true he.1 he.2
            have Hbad : Hid (¬ Chk L) := fun h => (h k r Hr.out).2 q l0 Hq.out he
            clear he
            go_wp2
            go_quiet (fail)
            go_wp2
            go_ret
            exact ⟨_, rfl, .inr ⟨rfl, Hbad.out⟩, below_drew' (HB2.out _) _⟩
          · have hd := eq2_false he
            have He := hid he
            clear he
            go_wp2
            go_quiet (fail)
            go_wp2
            go_roundw
            case rel => exact ⟨k + 1, by omega, by go_num, fun i r' hi h' => by
              by_cases hik : i = k
              · subst hik
                rw [Hr.out] at h'; cases h'
                exact ⟨by omega, fun q' _ hq' => by rw [Hq.out] at hq'; cases hq'; exact He.out⟩
              · exact HS.out i r' (by omega) h', below_drew' (HB2.out _) _⟩
            case measure => simp [intOf]; omega
    · have e : k = n := by omega
      subst e
      have Hgood : Hid (Chk L) := fun i r h => HS.out i r (by have := (List.getElem?_eq_some_iff.1 h).1; rw [HL.out] at this; exact this) h
      go_wp2
      go_ret
      exact ⟨_, rfl, .inl ⟨rfl, Hgood.out⟩, HB.out⟩
end Go.Proofs.Ytdmacflcjbkkpaa.Lg
