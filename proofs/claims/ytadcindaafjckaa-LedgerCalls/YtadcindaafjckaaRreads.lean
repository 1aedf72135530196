/- What the program's functions on lists of runs answer: Count, for every list; nothing that was there is turned. -/
import Derived.Test.YtadcindaafjckaaRled
namespace Go.Proofs.Ytadcindaafjckaa
open Go.ChangeShapes Go.WideShapes Go.ChangeAt Go.RowKit

/-- Run k of a slice that reads as L. -/
theorem RB.at {w : World} {a : Option Addr} {n cap k : Nat} {L : List Rn} {r : Rn} (h : RB w (.slice a n cap) L) (hk : L[k]? = some r) :
    ∃ b off, a = some ⟨b, off, none⟩ ∧ w.cell? ⟨b, off + k * 3, none⟩ = some (.int .u8 r.k) ∧ w.cell? ⟨b, off + k * 3 + 1, none⟩ = some (.int .i64 r.s) ∧ w.cell? ⟨b, off + k * 3 + 2, none⟩ = some (.int .i64 r.c) := by
  obtain ⟨_, a', cap', he, _, _, ⟨h0, _⟩ | ⟨b, off, rfl, hc⟩⟩ := h
  · subst h0; simp at hk
  · simp only [Value.slice.injEq] at he
    obtain ⟨rfl, _, _⟩ := he
    exact ⟨b, off, rfl, hc k r hk⟩
theorem RB.len {w : World} {a : Option Addr} {n cap : Nat} {L : List Rn} (h : RB w (.slice a n cap) L) : L.length = n := by
  obtain ⟨_, a', cap', he, _⟩ := h
  simp only [Value.slice.injEq] at he
  exact he.2.1.symm
theorem RB.isSlice {w : World} {v : Value} {L : List Rn} (h : RB w v L) : ∃ a cap, v = .slice a L.length cap := by
  obtain ⟨_, a, cap, e, _⟩ := h
  exact ⟨a, cap, e⟩
theorem RB.ok {w : World} {v : Value} {L : List Rn} {r : Rn} {k : Nat} (h : RB w v L) (hk : L[k]? = some r) : r.Ok := h.1 r (List.mem_of_getElem? hk)

/-- How many of the events have a kind. -/
def cnt (k : Int) : List Rn → Int
  | [] => 0
  | r :: L => (if r.k = k then r.c else 0) + cnt k L
theorem cnt_append (k : Int) (L M : List Rn) : cnt k (L ++ M) = cnt k L + cnt k M := by
  induction L with
  | nil => simp [cnt]
  | cons r L ih => simp [cnt, ih]; omega
theorem cnt_bound (k : Int) {L : List Rn} (h : Pos L) : 0 ≤ cnt k L ∧ cnt k L ≤ tot L := by
  induction L with
  | nil => simp [cnt, tot]
  | cons r L ih =>
    have h1 := h r (by simp)
    have h2 := ih (fun q hq => h q (by simp [hq]))
    simp only [cnt, tot]; split <;> omega
theorem take_snoc {L : List Rn} {k : Nat} {r : Rn} (h : L[k]? = some r) : L.take (k + 1) = L.take k ++ [r] := by
  rw [List.take_add_one, h]; rfl
theorem tot_take {L : List Rn} (h : Pos L) (k : Nat) : tot (L.take k) ≤ tot L := by
  have h1 : tot L = tot (L.take k) + tot (L.drop k) := by rw [← tot_append, List.take_append_drop]
  have h2 : 0 ≤ tot (L.drop k) := by
    have := tot_pos (L := L.drop k) (fun q hq => h q (List.mem_of_mem_drop hq)); omega
  omega
theorem pos_take {L : List Rn} (h : Pos L) (k : Nat) : Pos (L.take k) := fun q hq => h q (List.mem_of_mem_take hq)

set_option maxHeartbeats 1200000 in
theorem count24 (b : Nat) (rv : Value) (L : List Rn) (kk : Int) (w : World) (h : Led w b rv L) (hN : L.length < 1000000000000000000) :
    Calls Try.prog 16 #[.pointer (some ⟨b, 0, none⟩), .int .u8 kk] w fun e w' => e = .returned (.int .i64 (cnt kk L)) ∧ Below w.heap.size w w' := by
  have H := hid h
  have h0 := h.cell0
  obtain ⟨n, hn⟩ : ∃ n, L.length = n := ⟨_, rfl⟩
  obtain ⟨a, cap, rfl⟩ : ∃ a cap, rv = .slice a n cap := by
    obtain ⟨a, cap, e⟩ := h.own.reads.isSlice
    exact ⟨a, cap, by rw [← hn]; exact e⟩
  rw [hn] at hN
  have HL := hid hn
  have HR := hid h.own.reads
  clear h hn
  go_enter Try.func16, Try.ntmps16
  go_wp2
  go_loopw [5, 15] (fun s x wr => ∃ k : Nat, k ≤ n ∧ x = .int .i64 k ∧ s = .int .i64 (cnt kk (L.take k)) ∧ Below w.heap.size w wr) (fun _ x _ => n - (intOf x).toNat)
  case atStart => exact ⟨0, Nat.zero_le _, rfl, rfl, Below.refl _ _⟩
  case round =>
    obtain ⟨k, hk, rfl, rfl, hb⟩ := hrel
    have HB := hid hb
    clear hb
    by_cases hlt : k < n
    · obtain ⟨r, hr⟩ := get_of_lt (L := L) (k := k) (by rw [HL.out]; exact hlt)
      have Hr := hid hr
      obtain ⟨b', off, rfl, c1, c2, c3⟩ := (HR.out.below HB.out).at hr
      have l1 : (k : Int) < n := by omega
      have p1 := H.out.pos r (List.mem_of_getElem? hr)
      have p2 := (HR.out.ok hr).2.2.2
      have p3 := cnt_bound kk (pos_take H.out.pos k)
      have p4 := cnt_bound kk (pos_take H.out.pos (k + 1))
      have p5 := tot_take H.out.pos (k + 1)
      have p6 := H.out.most
      have p7 := tot_take H.out.pos k
      have e1 := hid (show cnt kk (L.take (k + 1)) = cnt kk (L.take k) + (if r.k = kk then r.c else 0) by rw [take_snoc hr, cnt_append]; simp [cnt])
      have HB2 := hid (fun o => below_next HB.out (below_alloc wr o))
      clear hr
      by_cases hkk : r.k = kk
      · have e2 := hid (show sm (cnt kk (L.take k)) r.c = cnt kk (L.take (k + 1)) by
          have := e1.out
          rw [if_pos hkk] at this
          unfold sm; rw [if_pos (by omega)]; omega)
        have p8 : 0 ≤ cnt kk (L.take k) ∧ cnt kk (L.take k) ≤ 9223372036854775807 := by omega
        clear p3 p4 p5 p6 p7
        go_wp2_with (go_at_call 32; refine (add47 _ _ _ (by omega) (by omega)).mono ?_; rintro e w2 ⟨rfl, rfl⟩)
        go_roundw
        case rel => exact ⟨k + 1, by omega, by go_num, by rw [e2.out], HB2.out _⟩
        case measure => simp [intOf]; omega
      · have e2 := hid (show cnt kk (L.take k) = cnt kk (L.take (k + 1)) by
          have := e1.out
          rw [if_neg hkk] at this
          omega)
        clear p3 p4 p5 p6 p7
        go_wp2
        go_roundw
        case rel => exact ⟨k + 1, by omega, by go_num, by rw [e2.out], HB2.out _⟩
        case measure => simp [intOf]; omega
    · have e : k = n := by omega
      subst e
      have e3 : Hid (L.take k = L) := List.take_of_length_le (by rw [HL.out]; exact Nat.le_refl _)
      go_wp2
      go_ret
      exact ⟨by rw [e3.out]; rfl, HB.out⟩
set_option maxHeartbeats 1200000 in
theorem count24n (kk : Int) (w : World) : Calls Try.prog 16 #[.pointer none, .int .u8 kk] w fun e w' => e = .returned (.int .i64 0) ∧ w' = w := by
  go_enter Try.func16, Try.ntmps16
  go_wp2
  go_ret
  exact ⟨rfl, rfl⟩

end Go.Proofs.Ytadcindaafjckaa
