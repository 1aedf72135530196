/- What the document's own ledger tells: how many events, of a kind, from a number on; taken away; the event of a number; and the statements' helper Pick. -/
import Derived.Test.YtadcindaafjckaaRref
import Derived.Test.YtadcindaafjckaaRruns
namespace Go.Proofs.Ytadcindaafjckaa
open Go.ChangeShapes Go.WideShapes Go.ChangeAt Go.RowKit
set_option maxHeartbeats 1200000 in
theorem refLen (b : Nat) (rv : Value) (L : List Rn) (w : World) (h : RLed w b rv L) (hN : L.length < 1000000000000000000) :
    Calls Try.prog 17 #[.pointer (some ⟨b, 0, none⟩)] w fun e w' => e = .returned (.int .i64 (tot L)) ∧ w' = w := by
  have H := hid h
  have h0 := h.cell0
  obtain ⟨n, hn⟩ : ∃ n, L.length = n := ⟨_, rfl⟩
  obtain ⟨a, cap, rfl⟩ : ∃ a cap, rv = .slice a n cap := by
    obtain ⟨a, cap, e⟩ := h.own.reads.isSlice
    exact ⟨a, cap, by rw [← hn]; exact e⟩
  rw [hn] at hN
  have HL := hid hn
  have HR := hid h.own.reads
  clear h hn
  go_enter Try.func17, Try.ntmps17
  go_wp2
  go_loopw [3, 4] (fun s x wr => ∃ k : Nat, k ≤ n ∧ x = .int .i64 k ∧ s = .int .i64 (tot (L.take k)) ∧ wr = w) (fun _ x _ => n - (intOf x).toNat)
  case atStart => exact ⟨0, Nat.zero_le _, rfl, rfl, rfl⟩
  case round =>
    obtain ⟨k, hk, rfl, rfl, rfl⟩ := hrel
    by_cases hlt : k < n
    · obtain ⟨r, hr⟩ := get_of_lt (L := L) (k := k) (by rw [HL.out]; exact hlt)
      obtain ⟨b', off, rfl, c1, c2, c3⟩ := HR.out.at hr
      have l1 : (k : Int) < n := by omega
      have p1 := H.out.pos r (List.mem_of_getElem? hr)
      have p5 := tot_take H.out.pos (k + 1)
      have p6 := H.out.most
      have p7 := (tot_pos (pos_take H.out.pos k))
      have e1 : tot (L.take (k + 1)) = tot (L.take k) + r.c := by rw [take_snoc hr, tot_append]; simp [tot]
      have E1 := hid e1
      have hw : IntKind.i64.wrap (tot (L.take k) + r.c) = tot (L.take k) + r.c := by rw [IntKind.wrap_i64]; omega
      clear hr e1 p5 p6 p7 p1
      generalize tot (L.take k) = t at E1 hw ⊢
      go_wp2
      go_roundw
      case rel => exact ⟨k + 1, by omega, by go_num, by rw [E1.out], by first | rfl | trivial⟩
      case measure => simp [intOf]; omega
    · have e : k = n := by omega
      subst e
      have e3 : Hid (L.take k = L) := List.take_of_length_le (by rw [HL.out]; exact Nat.le_refl _)
      go_wp2
      go_ret
      exact ⟨by rw [e3.out]; rfl, rfl⟩
set_option maxHeartbeats 1200000 in
theorem refMark (b : Nat) (rv : Value) (L : List Rn) (w : World) (h : RLed w b rv L) (hN : L.length < 1000000000000000000) :
    Calls Try.prog 29 #[.pointer (some ⟨b, 0, none⟩)] w fun e w' => e = .returned (.int .i64 (tot L)) ∧ w' = w := by
  have H := hid h
  clear h
  go_enter Try.func29, Try.ntmps29
  go_wp2_with (go_at_call 17; refine (refLen b rv L _ H.out hN).mono ?_; rintro e w' ⟨rfl, rfl⟩)
  go_ret
  exact ⟨rfl, rfl⟩
set_option maxHeartbeats 1200000 in
theorem mark28 (b : Nat) (rv : Value) (L : List Rn) (w : World) (h : Led w b rv L) :
    Calls Try.prog 28 #[.pointer (some ⟨b, 0, none⟩)] w fun e w' => e = .returned (.int .i64 (tot L)) ∧ w' = w := by
  have H := hid h
  clear h
  go_enter Try.func28, Try.ntmps28
  go_wp2_with (go_at_call 14; refine (len20 b rv L _ H.out).mono ?_; rintro e w' ⟨rfl, rfl⟩)
  go_ret
  exact ⟨rfl, rfl⟩
set_option maxHeartbeats 1200000 in
theorem refCount (b : Nat) (rv : Value) (L : List Rn) (kk : Int) (w : World) (h : RLed w b rv L) (hN : L.length < 1000000000000000000) :
    Calls Try.prog 24 #[.pointer (some ⟨b, 0, none⟩), .int .u8 kk] w fun e w' => e = .returned (.int .i64 (cnt kk L)) ∧ w' = w := by
  have H := hid h
  have h0 := h.cell0
  obtain ⟨n, hn⟩ : ∃ n, L.length = n := ⟨_, rfl⟩
  obtain ⟨a, cap, rfl⟩ : ∃ a cap, rv = .slice a n cap := by
    obtain ⟨a, cap, e⟩ := h.own.reads.isSlice
    exact ⟨a, cap, by rw [← hn]; exact e⟩
  rw [hn] at hN
  have HL := hid hn
  have HR := hid h.own.reads
  clear h hn
  go_enter Try.func24, Try.ntmps24
  go_wp2
  go_loopw [5, 6] (fun s x wr => ∃ k : Nat, k ≤ n ∧ x = .int .i64 k ∧ s = .int .i64 (cnt kk (L.take k)) ∧ wr = w) (fun _ x _ => n - (intOf x).toNat)
  case atStart => exact ⟨0, Nat.zero_le _, rfl, rfl, rfl⟩
  case round =>
    obtain ⟨k, hk, rfl, rfl, rfl⟩ := hrel
    by_cases hlt : k < n
    · obtain ⟨r, hr⟩ := get_of_lt (L := L) (k := k) (by rw [HL.out]; exact hlt)
      obtain ⟨b', off, rfl, c1, c2, c3⟩ := HR.out.at hr
      have l1 : (k : Int) < n := by omega
      have p4 := cnt_bound kk (pos_take H.out.pos (k + 1))
      have p3 := cnt_bound kk (pos_take H.out.pos k)
      have p5 := tot_take H.out.pos (k + 1)
      have p6 := H.out.most
      have e1 : cnt kk (L.take (k + 1)) = cnt kk (L.take k) + (if r.k = kk then r.c else 0) := by rw [take_snoc hr, cnt_append]; simp [cnt]
      by_cases hkk : r.k = kk
      · rw [if_pos hkk] at e1
        have E1 := hid e1
        have hw : IntKind.i64.wrap (cnt kk (L.take k) + r.c) = cnt kk (L.take k) + r.c := by rw [IntKind.wrap_i64]; omega
        clear hr e1 p3 p4 p5 p6
        generalize cnt kk (L.take k) = t at E1 hw ⊢
        go_wp2
        go_roundw
        case rel => exact ⟨k + 1, by omega, by go_num, by rw [E1.out], by first | rfl | trivial⟩
        case measure => simp [intOf]; omega
      · rw [if_neg hkk] at e1
        have E1 := hid e1
        clear hr e1 p3 p4 p5 p6
        generalize cnt kk (L.take k) = t at E1 ⊢
        go_wp2
        go_roundw
        case rel => exact ⟨k + 1, by omega, by go_num, by rw [E1.out, Int.add_zero], by first | rfl | trivial⟩
        case measure => simp [intOf]; omega
    · have e : k = n := by omega
      subst e
      have e3 : Hid (L.take k = L) := List.take_of_length_le (by rw [HL.out]; exact Nat.le_refl _)
      go_wp2
      go_ret
      exact ⟨by rw [e3.out]; rfl, rfl⟩
set_option maxHeartbeats 1200000 in
theorem refReset (b : Nat) (rv : Value) (L : List Rn) (w : World) (h : RLed w b rv L) :
    Calls Try.prog 27 #[.pointer (some ⟨b, 0, none⟩)] w fun e w' => e = .returned (.tuple #[]) ∧ RLed w' b (.slice none 0 0) [] ∧ Kp (fun k => k = b) w w' := by
  have H := hid h
  have h0 := h.cell0
  have h1 := h.frozen 0
  clear h
  go_enter Try.func27, Try.ntmps27
  go_wp2
  go_end0
  refine ⟨rfl, ⟨?_, Own.nil _ _, fun q hq => by simp at hq, by decide⟩, Kp.setCell b 0 _⟩
  show (w.setCell ⟨b, 0, none⟩ (.slice none 0 0)).heap[b]? = _
  rw [heap_setCell_same w b 0 _ _ _ H.out.here]; rfl
theorem pick7 (i n : Int) (w : World) (h0 : 0 < n) (h1 : n ≤ 1000) :
    Calls Try.prog 7 #[.int .i64 i, .int .i64 n] w fun e w' => (∃ z, e = .returned (.int .i64 z) ∧ 0 ≤ z ∧ z < n) ∧ w' = w := by
  have b1 := Int.tmod_lt_of_pos i h0
  have b2 : -n < i.tmod n := by
    have := Int.tmod_lt_of_pos (-i) h0
    rw [Int.neg_tmod] at this
    omega
  have n0 : ¬ n = 0 := by omega
  by_cases hneg : i.tmod n < 0
  · have hw : IntKind.i64.wrap (i.tmod n + n) = i.tmod n + n := by rw [IntKind.wrap_i64]; omega
    generalize hz : i.tmod n = z at *
    go_enter Try.func7, Try.ntmps7
    go_wp2
    go_ret
    exact ⟨⟨z + n, rfl, by omega, by omega⟩, rfl⟩
  · generalize hz : i.tmod n = z at *
    go_enter Try.func7, Try.ntmps7
    go_wp2
    go_ret
    exact ⟨⟨z, rfl, by omega, by omega⟩, rfl⟩
end Go.Proofs.Ytadcindaafjckaa
