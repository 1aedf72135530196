/- What the program's ledger answers to Count. -/
import Derived.Test.YtmbcccmidfpgeaaDoorZr
namespace Go.Proofs.YtmbcccmidfpgeaaDoor
open Go.ChangeShapes Go.WideShapes Go.ChangeAt Go.RowKit
set_option maxHeartbeats 1200000 in
theorem count24 (b : Nat) (rv : Value) (L : List Rn) (kk : Int) (w : World) (h : Led w b rv L) (hN : L.length < 1000000000000000000) :
    Calls Tryd.prog 10 #[.pointer (some ⟨b, 0, none⟩), .int .u8 kk] w fun e w' => e = .returned (.int .i64 (cnt kk L)) ∧ Below w.heap.size w w' := by
  have H := hid h
  have h0 := h.cell0
  obtain ⟨n, hn⟩ : ∃ n, L.length = n := ⟨_, rfl⟩
  obtain ⟨a, cap, rfl⟩ : ∃ a cap, rv = .slice a n cap := by
    obtain ⟨a, cap, e⟩ := h.own.reads.isSlice
    exact ⟨a, cap, by rw [← hn]; exact e⟩
  rw [hn] at hN
  have HL := hid hn
  have HR := hid h.own.reads
  clear h hn
  go_enter Tryd.func10, Tryd.ntmps10
  go_wp2
  go_loopw [5, 15] (fun s x wr => ∃ k : Nat, k ≤ n ∧ x = .int .i64 k ∧ s = .int .i64 (cnt kk (L.take k)) ∧ Below w.heap.size w wr) (fun _ x _ => n - (intOf x).toNat)
  case atStart => exact ⟨0, Nat.zero_le _, rfl, rfl, Below.refl _ _⟩
  case round =>
    obtain ⟨k, hk, rfl, rfl, hb⟩ := hrel
    have HB := hid hb
    clear hb
    by_cases hlt : k < n
    · obtain ⟨r, hr⟩ := get_of_lt (L := L) (k := k) (by rw [HL.out]; exact hlt)
      have Hr := hid hr
      obtain ⟨b', off, rfl, c1, c2, c3⟩ := (HR.out.below HB.out).at hr
      have l1 : (k : Int) < n := by omega
      have p1 := H.out.pos r (List.mem_of_getElem? hr)
      have p2 := (HR.out.ok hr).2.2.2
      have p3 := cnt_bound kk (pos_take H.out.pos k)
      have p4 := cnt_bound kk (pos_take H.out.pos (k + 1))
      have p5 := tot_take H.out.pos (k + 1)
      have p6 := H.out.most
      have p7 := tot_take H.out.pos k
      have e1 := hid (show cnt kk (L.take (k + 1)) = cnt kk (L.take k) + (if r.k = kk then r.c else 0) by rw [take_snoc hr, cnt_append]; simp [cnt])
      have HB2 := hid (fun o => below_next HB.out (below_alloc wr o))
      clear hr
      by_cases hkk : r.k = kk
      · have e2 := hid (show sm (cnt kk (L.take k)) r.c = cnt kk (L.take (k + 1)) by
          have := e1.out
          rw [if_pos hkk] at this
          unfold sm; rw [if_pos (by omega)]; omega)
        have p8 : 0 ≤ cnt kk (L.take k) ∧ cnt kk (L.take k) ≤ 9223372036854775807 := by omega
        clear p3 p4 p5 p6 p7
        go_wp2_with (go_at_call 21; refine (add47 _ _ _ (by omega) (by omega)).mono ?_; rintro e w2 ⟨rfl, rfl⟩)
        go_roundw
        case rel => exact ⟨k + 1, by omega, by go_num, by rw [e2.out], HB2.out _⟩
        case measure => simp [intOf]; omega
      · have e2 := hid (show cnt kk (L.take k) = cnt kk (L.take (k + 1)) by
          have := e1.out
          rw [if_neg hkk] at this
          omega)
        clear p3 p4 p5 p6 p7
        go_wp2
        go_roundw
        case rel => exact ⟨k + 1, by omega, by go_num, by rw [e2.out], HB2.out _⟩
        case measure => simp [intOf]; omega
    · have e : k = n := by omega
      subst e
      have e3 : Hid (L.take k = L) := List.take_of_length_le (by rw [HL.out]; exact Nat.le_refl _)
      go_wp2
      go_ret
      exact ⟨by rw [e3.out]; rfl, HB.out⟩
set_option maxHeartbeats 1200000 in
theorem count24n (kk : Int) (w : World) : Calls Tryd.prog 10 #[.pointer none, .int .u8 kk] w fun e w' => e = .returned (.int .i64 0) ∧ w' = w := by
  go_enter Tryd.func10, Tryd.ntmps10
  go_wp2
  go_ret
  exact ⟨rfl, rfl⟩

end Go.Proofs.YtmbcccmidfpgeaaDoor
