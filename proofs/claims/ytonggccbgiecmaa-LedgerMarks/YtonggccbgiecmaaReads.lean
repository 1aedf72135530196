/- What the program's functions on lists of runs answer: Count, Total, Check, Join, Same, for every list; nothing that was there is turned. -/
import Derived.Test.YtonggccbgiecmaaLedger
namespace Go.Proofs.Ytonggccbgiecmaa
open Go.ChangeShapes Go.WideShapes Go.ChangeAt Go.RowKit

/-- Run k of a slice that reads as L. -/
theorem RB.at {w : World} {a : Option Addr} {n cap k : Nat} {L : List Rn} {r : Rn} (h : RB w (.slice a n cap) L) (hk : L[k]? = some r) :
    ∃ b off, a = some ⟨b, off, none⟩ ∧ w.cell? ⟨b, off + k * 3, none⟩ = some (.int .u8 r.k) ∧ w.cell? ⟨b, off + k * 3 + 1, none⟩ = some (.int .i64 r.s) ∧ w.cell? ⟨b, off + k * 3 + 2, none⟩ = some (.int .i64 r.c) := by
  obtain ⟨_, a', cap', he, _, _, ⟨h0, _⟩ | ⟨b, off, rfl, hc⟩⟩ := h
  · subst h0; simp at hk
  · simp only [Value.slice.injEq] at he
    obtain ⟨rfl, _, _⟩ := he
    exact ⟨b, off, rfl, hc k r hk⟩
theorem RB.len {w : World} {a : Option Addr} {n cap : Nat} {L : List Rn} (h : RB w (.slice a n cap) L) : L.length = n := by
  obtain ⟨_, a', cap', he, _⟩ := h
  simp only [Value.slice.injEq] at he
  exact he.2.1.symm
theorem RB.isSlice {w : World} {v : Value} {L : List Rn} (h : RB w v L) : ∃ a cap, v = .slice a L.length cap := by
  obtain ⟨_, a, cap, e, _⟩ := h
  exact ⟨a, cap, e⟩
theorem RB.ok {w : World} {v : Value} {L : List Rn} {r : Rn} {k : Nat} (h : RB w v L) (hk : L[k]? = some r) : r.Ok := h.1 r (List.mem_of_getElem? hk)

/-- How many of the events have a kind. -/
def cnt (k : Int) : List Rn → Int
  | [] => 0
  | r :: L => (if r.k = k then r.c else 0) + cnt k L
theorem cnt_append (k : Int) (L M : List Rn) : cnt k (L ++ M) = cnt k L + cnt k M := by
  induction L with
  | nil => simp [cnt]
  | cons r L ih => simp [cnt, ih]; omega
theorem cnt_bound (k : Int) {L : List Rn} (h : Pos L) : 0 ≤ cnt k L ∧ cnt k L ≤ tot L := by
  induction L with
  | nil => simp [cnt, tot]
  | cons r L ih =>
    have h1 := h r (by simp)
    have h2 := ih (fun q hq => h q (by simp [hq]))
    simp only [cnt, tot]; split <;> omega
theorem take_snoc {L : List Rn} {k : Nat} {r : Rn} (h : L[k]? = some r) : L.take (k + 1) = L.take k ++ [r] := by
  rw [List.take_add_one, h]; rfl
theorem tot_take {L : List Rn} (h : Pos L) (k : Nat) : tot (L.take k) ≤ tot L := by
  have h1 : tot L = tot (L.take k) + tot (L.drop k) := by rw [← tot_append, List.take_append_drop]
  have h2 : 0 ≤ tot (L.drop k) := by
    have := tot_pos (L := L.drop k) (fun q hq => h q (List.mem_of_mem_drop hq)); omega
  omega
theorem pos_take {L : List Rn} (h : Pos L) (k : Nat) : Pos (L.take k) := fun q hq => h q (List.mem_of_mem_take hq)

set_option maxHeartbeats 1200000 in
theorem count24 (b : Nat) (rv : Value) (L : List Rn) (kk : Int) (w : World) (h : Led w b rv L) (hN : L.length < 1000000000000000000) :
    Calls Try.prog 24 #[.pointer (some ⟨b, 0, none⟩), .int .u8 kk] w fun e w' => e = .returned (.int .i64 (cnt kk L)) ∧ Below w.heap.size w w' := by
  have H := hid h
  have h0 := h.cell0
  obtain ⟨n, hn⟩ : ∃ n, L.length = n := ⟨_, rfl⟩
  obtain ⟨a, cap, rfl⟩ : ∃ a cap, rv = .slice a n cap := by
    obtain ⟨a, cap, e⟩ := h.own.reads.isSlice
    exact ⟨a, cap, by rw [← hn]; exact e⟩
  rw [hn] at hN
  have HL := hid hn
  have HR := hid h.own.reads
  clear h hn
  go_enter Try.func24, Try.ntmps24
  go_wp2
  go_loopw [5, 15] (fun s x wr => ∃ k : Nat, k ≤ n ∧ x = .int .i64 k ∧ s = .int .i64 (cnt kk (L.take k)) ∧ Below w.heap.size w wr) (fun _ x _ => n - (intOf x).toNat)
  case atStart => exact ⟨0, Nat.zero_le _, rfl, rfl, Below.refl _ _⟩
  case round =>
    obtain ⟨k, hk, rfl, rfl, hb⟩ := hrel
    have HB := hid hb
    clear hb
    by_cases hlt : k < n
    · obtain ⟨r, hr⟩ := get_of_lt (L := L) (k := k) (by rw [HL.out]; exact hlt)
      have Hr := hid hr
      obtain ⟨b', off, rfl, c1, c2, c3⟩ := (HR.out.below HB.out).at hr
      have l1 : (k : Int) < n := by omega
      have p1 := H.out.pos r (List.mem_of_getElem? hr)
      have p2 := (HR.out.ok hr).2.2.2
      have p3 := cnt_bound kk (pos_take H.out.pos k)
      have p4 := cnt_bound kk (pos_take H.out.pos (k + 1))
      have p5 := tot_take H.out.pos (k + 1)
      have p6 := H.out.most
      have p7 := tot_take H.out.pos k
      have e1 := hid (show cnt kk (L.take (k + 1)) = cnt kk (L.take k) + (if r.k = kk then r.c else 0) by rw [take_snoc hr, cnt_append]; simp [cnt])
      have HB2 := hid (fun o => below_next HB.out (below_alloc wr o))
      clear hr
      by_cases hkk : r.k = kk
      · have e2 := hid (show sm (cnt kk (L.take k)) r.c = cnt kk (L.take (k + 1)) by
          have := e1.out
          rw [if_pos hkk] at this
          unfold sm; rw [if_pos (by omega)]; omega)
        have p8 : 0 ≤ cnt kk (L.take k) ∧ cnt kk (L.take k) ≤ 9223372036854775807 := by omega
        clear p3 p4 p5 p6 p7
        go_wp2_with (go_at_call 47; refine (add47 _ _ _ (by omega) (by omega)).mono ?_; rintro e w2 ⟨rfl, rfl⟩)
        go_roundw
        case rel => exact ⟨k + 1, by omega, by go_num, by rw [e2.out], HB2.out _⟩
        case measure => simp [intOf]; omega
      · have e2 := hid (show cnt kk (L.take k) = cnt kk (L.take (k + 1)) by
          have := e1.out
          rw [if_neg hkk] at this
          omega)
        clear p3 p4 p5 p6 p7
        go_wp2
        go_roundw
        case rel => exact ⟨k + 1, by omega, by go_num, by rw [e2.out], HB2.out _⟩
        case measure => simp [intOf]; omega
    · have e : k = n := by omega
      subst e
      have e3 : Hid (L.take k = L) := List.take_of_length_le (by rw [HL.out]; exact Nat.le_refl _)
      go_wp2
      go_ret
      exact ⟨by rw [e3.out]; rfl, HB.out⟩
set_option maxHeartbeats 1200000 in
theorem count24n (kk : Int) (w : World) : Calls Try.prog 24 #[.pointer none, .int .u8 kk] w fun e w' => e = .returned (.int .i64 0) ∧ w' = w := by
  go_enter Try.func24, Try.ntmps24
  go_wp2
  go_ret
  exact ⟨rfl, rfl⟩

/-- The sum of those counts that are 1 or more; at most the greatest int. -/
def totS (L : List Rn) : Int := L.foldl (fun n r => sm n (max r.c 0)) 0
theorem totS_snoc (L : List Rn) (r : Rn) : totS (L ++ [r]) = sm (totS L) (max r.c 0) := by simp [totS]
theorem sm_bound0 {a b : Int} (ha : 0 ≤ a) (hb : 0 ≤ b) : 0 ≤ sm a b ∧ sm a b ≤ 9223372036854775807 := by
  unfold sm; split <;> omega
theorem totS_bound (L : List Rn) : 0 ≤ totS L ∧ totS L ≤ 9223372036854775807 := by
  rcases List.eq_nil_or_concat L with rfl | ⟨M, r, rfl⟩
  · simp [totS]
  · induction M generalizing r with
    | nil => simp only [List.concat_eq_append, totS_snoc]; exact sm_bound0 (by simp [totS]) (by omega)
    | cons x M ih =>
      simp only [List.concat_eq_append, totS_snoc]
      refine sm_bound0 ?_ (by omega)
      rcases List.eq_nil_or_concat (x :: M) with h | ⟨M', y, h⟩
      · rw [h]; simp [totS]
      · rw [h, List.concat_eq_append, totS_snoc]
        have : 0 ≤ totS M' := by
          clear ih h
          unfold totS
          have : ∀ (M : List Rn) (a : Int), 0 ≤ a → 0 ≤ M.foldl (fun n r => sm n (max r.c 0)) a := by
            intro M
            induction M with
            | nil => intro a h; exact h
            | cons z M ih => intro a h; exact ih _ (sm_bound0 h (by omega)).1
          exact this _ _ (by omega)
        exact (sm_bound0 this (by omega)).1
theorem totS_pos {L : List Rn} (h : Pos L) (hb : tot L ≤ 9223372036854775807) : totS L = tot L := by
  have : ∀ (M : List Rn) (a : Int), Pos M → 0 ≤ a → a + tot M ≤ 9223372036854775807 → M.foldl (fun n r => sm n (max r.c 0)) a = a + tot M := by
    intro M
    induction M with
    | nil => intro a _ _ _; simp [tot]
    | cons z M ih =>
      intro a hp h0 hm
      have h1 := hp z (by simp)
      have h2 : Pos M := fun q hq => hp q (by simp [hq])
      have h3 := tot_pos h2
      simp only [tot] at hm ⊢
      rw [List.foldl_cons, show sm a (max z.c 0) = a + z.c by unfold sm; rw [if_pos (by omega)]; omega, ih _ h2 (by omega) (by omega)]
      omega
  have := this L 0 h (by omega) (by omega)
  simpa [totS] using this

set_option maxHeartbeats 1200000 in
theorem total33 (v : Value) (L : List Rn) (w : World) (h : RB w v L) (hN : L.length < 1000000000000000000) :
    Calls Try.prog 33 #[v] w fun e w' => e = .returned (.int .i64 (totS L)) ∧ Below w.heap.size w w' := by
  obtain ⟨n, hn⟩ : ∃ n, L.length = n := ⟨_, rfl⟩
  obtain ⟨a, cap, rfl⟩ : ∃ a cap, v = .slice a n cap := by
    obtain ⟨a, cap, e⟩ := h.isSlice
    exact ⟨a, cap, by rw [← hn]; exact e⟩
  rw [hn] at hN
  have HL := hid hn
  have HR := hid h
  clear h hn
  go_enter Try.func33, Try.ntmps33
  go_wp2
  go_loopw [3, 8] (fun s x wr => ∃ k : Nat, k ≤ n ∧ x = .int .i64 k ∧ s = .int .i64 (totS (L.take k)) ∧ Below w.heap.size w wr) (fun _ x _ => n - (intOf x).toNat)
  case atStart => exact ⟨0, Nat.zero_le _, rfl, rfl, Below.refl _ _⟩
  case round =>
    obtain ⟨k, hk, rfl, rfl, hb⟩ := hrel
    have HB := hid hb
    clear hb
    by_cases hlt : k < n
    · obtain ⟨r, hr⟩ := get_of_lt (L := L) (k := k) (by rw [HL.out]; exact hlt)
      have Hr := hid hr
      obtain ⟨b', off, rfl, c1, c2, c3⟩ := (HR.out.below HB.out).at hr
      have l1 : (k : Int) < n := by omega
      have p2 := (HR.out.ok hr).2.2
      have p3 := totS_bound (L.take k)
      have e1 := hid (show totS (L.take (k + 1)) = sm (totS (L.take k)) (max r.c 0) by rw [take_snoc hr, totS_snoc])
      have HB2 := hid (fun o => below_next HB.out (below_alloc wr o))
      clear hr
      go_wp2_with (go_at_call 47; refine (add47 _ _ _ (by omega) (by omega)).mono ?_; rintro e w2 ⟨rfl, rfl⟩)
      go_roundw
      case rel => exact ⟨k + 1, by omega, by go_num, by rw [e1.out, show max r.c 0 = if r.c < 0 then 0 else r.c by split <;> omega], HB2.out _⟩
      case measure => simp [intOf]; omega
    · have e : k = n := by omega
      subst e
      have e3 : Hid (L.take k = L) := List.take_of_length_le (by rw [HL.out]; exact Nat.le_refl _)
      go_wp2
      go_ret
      exact ⟨by rw [e3.out]; rfl, HB.out⟩

/-- Runs joined. -/
def joinL (L M : List Rn) : List Rn := M.foldl putL (L.foldl putL [])
theorem fold_len (M : List Rn) : ∀ L : List Rn, (M.foldl putL L).length ≤ L.length + M.length := by
  induction M with
  | nil => intro L; simp
  | cons r M ih => intro L; have := ih (putL L r); have h2 := (putL_len (L := L) (r := r)).1; simp only [List.foldl_cons, List.length_cons]; omega
theorem fold_pos (M : List Rn) : ∀ L : List Rn, Pos L → Pos (M.foldl putL L) := by
  induction M with
  | nil => intro L h; exact h
  | cons r M ih => intro L h; exact ih _ (putL_pos h)
theorem pos_nil : Pos [] := fun q hq => by simp at hq

set_option maxHeartbeats 1200000 in
theorem join26 (v v' : Value) (L M : List Rn) (w : World) (h : RB w v L) (h' : RB w v' M) (hN : (L.length + M.length) * 24 ≤ 140737488355328) :
    Calls Try.prog 26 #[v, v'] w fun e w' => ∃ u, e = .returned u ∧ Own w' w.heap.size u (joinL L M) ∧ Below w.heap.size w w' := by
  obtain ⟨n, hn⟩ : ∃ n, L.length = n := ⟨_, rfl⟩
  obtain ⟨m, hm⟩ : ∃ n, M.length = n := ⟨_, rfl⟩
  obtain ⟨a, cap, rfl⟩ : ∃ a cap, v = .slice a n cap := by
    obtain ⟨a, cap, e⟩ := h.isSlice
    exact ⟨a, cap, by rw [← hn]; exact e⟩
  obtain ⟨a', cap', rfl⟩ : ∃ a cap, v' = .slice a m cap := by
    obtain ⟨a, cap, e⟩ := h'.isSlice
    exact ⟨a, cap, by rw [← hm]; exact e⟩
  rw [hn, hm] at hN
  have HL := hid hn
  have HM := hid hm
  have HR := hid h
  have HR' := hid h'
  clear h hn h' hm
  go_enter Try.func26, Try.ntmps26
  go_wp2
  go_loopw [5, 12] (fun s x wr => ∃ k : Nat, k ≤ n ∧ x = .int .i64 k ∧ Own wr w.heap.size s ((L.take k).foldl putL []) ∧ Below w.heap.size w wr) (fun _ x _ => n - (intOf x).toNat)
  case atStart => exact ⟨0, Nat.zero_le _, rfl, Own.nil _ _, Below.refl _ _⟩
  case round =>
    obtain ⟨k, hk, rfl, ho, hb⟩ := hrel
    have HB := hid hb
    have HO := hid ho
    clear hb ho
    by_cases hlt : k < n
    · obtain ⟨r, hr⟩ := get_of_lt (L := L) (k := k) (by rw [HL.out]; exact hlt)
      have Hr := hid hr
      obtain ⟨b', off, rfl, c1, c2, c3⟩ := (HR.out.below HB.out).at hr
      have l1 : (k : Int) < n := by omega
      have hlen := fold_len (L.take k) []
      rw [List.length_take, HL.out, Nat.min_eq_left hk] at hlen
      simp only [List.length_nil, Nat.zero_add] at hlen
      have Hlen : Hid ((((L.take k).foldl putL []).length + 1) * 24 ≤ 140737488355328) := by show _ * 24 ≤ _; omega
      have HW := hid (HO.out.alloc (.cells #[.int .u8 r.k, .int .i64 r.s, .int .i64 r.c] 70))
      have HP := hid (fold_pos (L.take k) [] pos_nil)
      have e1 := hid (show (L.take (k + 1)).foldl putL [] = putL ((L.take k).foldl putL []) r by rw [take_snoc hr]; simp)
      have hsz := HB.out.size
      have Hok := hid (HR.out.ok hr)
      clear hr hlen
      go_wp2_with (go_at_call 46; go_must (refine (put46 w.heap.size _ _ r _ HW.out Hok.out HP.out ?c1 Hlen.out).mono ?_))
      case c1 => simp; omega
      rintro e w2 ⟨u', rfl, ho, hk2, _⟩
      have HO2 := hid ho
      have HB2 : Hid (Below w.heap.size w w2) := (HB.out.alloc hsz _).trans (hk2.below (by simp; omega) (fun j hj e => by have := (HO.out.lt j e).1; omega))
      clear ho hk2
      go_wp2
      go_roundw
      case rel => exact ⟨k + 1, by omega, by go_num, by rw [e1.out]; exact HO2.out, HB2.out⟩
      case measure => simp [intOf]; omega
    · have e : k = n := by omega
      subst e
      have e3 : Hid (L.take k = L) := List.take_of_length_le (by rw [HL.out]; exact Nat.le_refl _)
      have HO3 : Hid (Own wr w.heap.size u5 (L.foldl putL [])) := by have := HO.out; rw [e3.out] at this; exact this
      clear HO
      obtain ⟨wq, hwq⟩ : ∃ x, x = wr := ⟨_, rfl⟩
      subst hwq
      go_wp2
      go_loopw [5, 22] (fun s x wr => ∃ j : Nat, j ≤ m ∧ x = .int .i64 j ∧ Own wr w.heap.size s ((M.take j).foldl putL (L.foldl putL [])) ∧ Below w.heap.size w wr) (fun _ x _ => m - (intOf x).toNat)
      case atStart => exact ⟨0, Nat.zero_le _, rfl, HO3.out, HB.out⟩
      case round =>
        obtain ⟨j, hj, rfl, ho, hb⟩ := hrel
        clear HB HO3
        have HB := hid hb
        have HO := hid ho
        clear hb ho
        by_cases hlt2 : j < m
        · obtain ⟨r, hr⟩ := get_of_lt (L := M) (k := j) (by rw [HM.out]; exact hlt2)
          have Hr := hid hr
          obtain ⟨b', off, rfl, c1, c2, c3⟩ := (HR'.out.below HB.out).at hr
          have l1 : (j : Int) < m := by omega
          have hlen := fold_len (M.take j) (L.foldl putL [])
          have hlen2 := fold_len L []
          rw [List.length_take, HM.out, Nat.min_eq_left hj] at hlen
          rw [HL.out] at hlen2
          simp only [List.length_nil, Nat.zero_add] at hlen2
          have Hlen : Hid ((((M.take j).foldl putL (L.foldl putL [])).length + 1) * 24 ≤ 140737488355328) := by show _ * 24 ≤ _; omega
          have HW := hid (HO.out.alloc (.cells #[.int .u8 r.k, .int .i64 r.s, .int .i64 r.c] 70))
          have HP := hid (fold_pos (M.take j) _ (fold_pos L [] pos_nil))
          have e1 := hid (show (M.take (j + 1)).foldl putL (L.foldl putL []) = putL ((M.take j).foldl putL (L.foldl putL [])) r by rw [take_snoc hr]; simp)
          have hsz := HB.out.size
          have Hok := hid (HR'.out.ok hr)
          clear hr hlen hlen2
          go_wp2_with (go_at_call 46; go_must (refine (put46 w.heap.size _ _ r _ HW.out Hok.out HP.out ?c1 Hlen.out).mono ?_))
          case c1 => simp; omega
          rintro e w2 ⟨u', rfl, ho, hk2, _⟩
          have HO2 := hid ho
          have HB2 : Hid (Below w.heap.size w w2) := (HB.out.alloc hsz _).trans (hk2.below (by simp; omega) (fun j hj e => by have := (HO.out.lt j e).1; omega))
          clear ho hk2
          go_wp2
          go_roundw
          case rel => exact ⟨j + 1, by omega, by go_num, by rw [e1.out]; exact HO2.out, HB2.out⟩
          case measure => simp [intOf]; omega
        · have e : j = m := by omega
          subst e
          have e4 : Hid (M.take j = M) := List.take_of_length_le (by rw [HM.out]; exact Nat.le_refl _)
          go_wp2
          go_ret
          exact ⟨_, rfl, by have := HO.out; rw [e4.out] at this; exact this, HB.out⟩

/-- Runs may be a ledger's. -/
def Chk (L : List Rn) : Prop := ∀ (i : Nat) (r : Rn), L[i]? = some r → 1 ≤ r.c ∧ ∀ q, 0 < i → L[i - 1]? = some q → ¬ (r.k = q.k ∧ r.s = q.s)

end Go.Proofs.Ytonggccbgiecmaa
