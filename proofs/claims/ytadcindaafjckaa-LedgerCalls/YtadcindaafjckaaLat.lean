/- What the document's helper At answers: the event of a number. -/
import Derived.Test.YtadcindaafjckaaLref
namespace Go.Proofs.Ytadcindaafjckaa
open Go.ChangeShapes Go.WideShapes Go.ChangeAt Go.RowKit
theorem evs_at {L : List Rn} {k n : Nat} {r : Rn} {x : Int × Int} (hp : Pos L) (hx : (evs L)[n]? = some x) (hr : L[k]? = some r) (h1 : tot (L.take k) ≤ n) (h2 : (n : Int) < tot (L.take k) + r.c) : x = (r.k, r.s) := by
  have hl := evs_length (pos_take hp k)
  have e : evs L = evs (L.take k) ++ (List.replicate r.c.toNat (r.k, r.s) ++ evs (L.drop (k + 1))) := by
    rw [← evs_one, ← evs_append, ← evs_append]
    congr 1
    show L = L.take k ++ (r :: L.drop (k + 1))
    rw [← drop_cons hr, List.take_append_drop]
  rw [e, List.getElem?_append_right (by omega), List.getElem?_append_left (by rw [List.length_replicate]; omega), List.getElem?_replicate, if_pos (by omega)] at hx
  exact (Option.some.inj hx).symm
set_option maxRecDepth 100000 in
set_option maxHeartbeats 2000000 in
theorem at35 (v : Value) (L : List Rn) (n : Nat) (x : Int × Int) (w : World) (hv : RB w v L) (hp : Pos L) (hx : (evs L)[n]? = some x) (hN : L.length < 1000000000000000000) (hm : tot L ≤ 9223372036854775807) :
    Calls Try.prog 35 #[v, .int .i64 n] w fun e w' => e = .returned (.tuple #[.agg #[.int .u8 x.1, .int .i64 x.2], .bool true]) ∧ Below w.heap.size w w' := by
  obtain ⟨m, hmm⟩ : ∃ m, L.length = m := ⟨_, rfl⟩
  obtain ⟨a, cap, rfl⟩ : ∃ a cap, v = .slice a m cap := by
    obtain ⟨a, cap, e⟩ := hv.isSlice
    exact ⟨a, cap, by rw [← hmm]; exact e⟩
  rw [hmm] at hN
  have HL := hid hmm
  have HR := hid hv
  have HX := hid hx
  have HP := hid hp
  have hlt := (List.getElem?_eq_some_iff.1 hx).1
  have hlen := evs_length hp
  have hnm : (n : Int) < tot L := by omega
  have Hnm := hid hnm
  clear hv hmm hx hp hlt hlen
  go_enter Try.func35, Try.ntmps35
  go_wp2
  have hB1 := hid (below_alloc w (.cells #[.int .u8 0, .int .i64 0] 39))
  go_loopw [1, 6] (fun z y wr => ∃ k : Nat, k ≤ m ∧ y = .int .i64 k ∧ z = .int .i64 (n - tot (L.take k)) ∧ tot (L.take k) ≤ n ∧ wr = w.alloc (.cells #[.int .u8 0, .int .i64 0] 39)) (fun _ y _ => m - (intOf y).toNat)
  case atStart => exact ⟨0, Nat.zero_le _, rfl, by simp [tot], by simp [tot], rfl⟩
  case round =>
    obtain ⟨k, hk, rfl, rfl, ht, rfl⟩ := hrel
    have hlt : k < m := by
      rcases Nat.lt_or_ge k m with h | h
      · exact h
      · exfalso
        rw [List.take_of_length_le (by rw [HL.out]; exact h)] at ht
        omega
    obtain ⟨r, hr⟩ := get_of_lt (L := L) (k := k) (by rw [HL.out]; exact hlt)
    have Hr := hid hr
    obtain ⟨b', off, rfl, c1, c2, c3⟩ := HR.out.at hr
    have hbk : b' < w.heap.size := block_lt_of_cell c1
    have l1 : (k : Int) < m := by omega
    have p1 := HP.out r (List.mem_of_getElem? hr)
    have p7 := (tot_pos (pos_take HP.out k))
    have p8 := tot_take HP.out (k + 1)
    have E1 : Hid (tot (L.take (k + 1)) = tot (L.take k) + r.c) := by show _ = _; rw [take_snoc hr, tot_append]; simp [tot]
    have hrc : r.c ≤ 9223372036854775807 := by have := E1.out; omega
    have Hx : Hid ((n : Int) < tot (L.take k) + r.c → x = (r.k, r.s)) := fun h => evs_at HP.out HX.out hr ht h
    clear hr p8
    obtain ⟨t, hte⟩ : ∃ t, tot (L.take k) = t := ⟨_, rfl⟩
    rw [hte] at ht p7 E1 Hx ⊢
    clear hte
    by_cases hin : (n : Int) - t < r.c
    · have hxe := Hx.out (by omega)
      subst hxe
      go_wp2
      refine bodyPost_ret (v := .tuple #[.agg #[.int .u8 r.k, .int .i64 r.s], .bool true]) ?_ rfl ⟨rfl, below_alloc _ _⟩
      have hb := heap_alloc_new w (.cells #[.int .u8 r.k, .int .i64 r.s] 39)
      have d0 : (w.alloc (.cells #[.int .u8 r.k, .int .i64 r.s] 39)).cell? ⟨w.heap.size, 0, none⟩ = some (.int .u8 r.k) := by rw [cell_of_row _ _ 0 _ 39 (0, 0) hb]; rfl
      have d1 : (w.alloc (.cells #[.int .u8 r.k, .int .i64 r.s] 39)).cell? ⟨w.heap.size, 1, none⟩ = some (.int .i64 r.s) := by rw [cell_of_row _ _ 1 _ 39 (0, 0) hb]; rfl
      have u39 := Try.underlying39
      generalize (w.alloc (.cells #[.int .u8 r.k, .int .i64 r.s] 39)) = W at d0 d1 ⊢
      clear hb c1 c2 c3 HR Hr E1 Hx HL HP Hnm hB1
      simp [results, asAddr]
      go_simp
    · have hw : IntKind.i64.wrap ((n : Int) - t - r.c) = (n : Int) - t - r.c := by rw [IntKind.wrap_i64]; omega
      go_wp2
      go_roundw
      case rel => exact ⟨k + 1, by omega, by go_num, by rw [E1.out, Int.sub_sub], by rw [E1.out]; omega, by first | rfl | trivial⟩
      case measure => simp [intOf]; omega
end Go.Proofs.Ytadcindaafjckaa
