/- What the document's Len of a ledger answers. -/
import Derived.Test.YtnhhkoekghjogaaGreatDoorRref
import Derived.Test.YtnhhkoekghjogaaGreatDoorRreads
namespace Go.Proofs.YtnhhkoekghjogaaGreatDoor
open Go.ChangeShapes Go.WideShapes Go.ChangeAt Go.RowKit
set_option maxHeartbeats 1200000 in
theorem refLen (b : Nat) (rv : Value) (L : List Rn) (w : World) (h : RLed w b rv L) (hN : L.length < 1000000000000000000) :
    Calls Tryz.prog 11 #[.pointer (some ⟨b, 0, none⟩)] w fun e w' => e = .returned (.int .i64 (tot L)) ∧ w' = w := by
  have H := hid h
  have h0 := h.cell0
  obtain ⟨n, hn⟩ : ∃ n, L.length = n := ⟨_, rfl⟩
  obtain ⟨a, cap, rfl⟩ : ∃ a cap, rv = .slice a n cap := by
    obtain ⟨a, cap, e⟩ := h.own.reads.isSlice
    exact ⟨a, cap, by rw [← hn]; exact e⟩
  rw [hn] at hN
  have HL := hid hn
  have HR := hid h.own.reads
  clear h hn
  go_enter Tryz.func11, Tryz.ntmps11
  go_wp2
  go_loopw [3, 4] (fun s x wr => ∃ k : Nat, k ≤ n ∧ x = .int .i64 k ∧ s = .int .i64 (tot (L.take k)) ∧ wr = w) (fun _ x _ => n - (intOf x).toNat)
  case atStart => exact ⟨0, Nat.zero_le _, rfl, rfl, rfl⟩
  case round =>
    obtain ⟨k, hk, rfl, rfl, rfl⟩ := hrel
    by_cases hlt : k < n
    · obtain ⟨r, hr⟩ := get_of_lt (L := L) (k := k) (by rw [HL.out]; exact hlt)
      obtain ⟨b', off, rfl, c1, c2, c3⟩ := HR.out.at hr
      have l1 : (k : Int) < n := by omega
      have p1 := H.out.pos r (List.mem_of_getElem? hr)
      have p5 := tot_take H.out.pos (k + 1)
      have p6 := H.out.most
      have p7 := (tot_pos (pos_take H.out.pos k))
      have e1 : tot (L.take (k + 1)) = tot (L.take k) + r.c := by rw [take_snoc hr, tot_append]; simp [tot]
      have E1 := hid e1
      have hw : IntKind.i64.wrap (tot (L.take k) + r.c) = tot (L.take k) + r.c := by rw [IntKind.wrap_i64]; omega
      clear hr e1 p5 p6 p7 p1
      generalize tot (L.take k) = t at E1 hw ⊢
      go_wp2
      go_roundw
      case rel => exact ⟨k + 1, by omega, by go_num, by rw [E1.out], by first | rfl | trivial⟩
      case measure => simp [intOf]; omega
    · have e : k = n := by omega
      subst e
      have e3 : Hid (L.take k = L) := List.take_of_length_le (by rw [HL.out]; exact Nat.le_refl _)
      go_wp2
      go_ret
      exact ⟨by rw [e3.out]; rfl, rfl⟩
end Go.Proofs.YtnhhkoekghjogaaGreatDoor
