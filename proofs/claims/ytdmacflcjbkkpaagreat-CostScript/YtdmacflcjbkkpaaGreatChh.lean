/- Handles that are held, of the document; two lists of numbers held against each other. -/
import Derived.Test.YtdmacflcjbkkpaaGreatCdd
import Derived.Test.YtdmacflcjbkkpaaGreatJh
import Derived.Test.YtdmacflcjbkkpaaGreatCii
namespace Go.Proofs.YtdmacflcjbkkpaaGreat.Cd
open Go.Proofs.YtdmacflcjbkkpaaGreat.Co
open Go.ChangeShapes Go.WideShapes Go.ChangeAt Go.RowKit
open Go.Proofs.YtdmacflcjbkkpaaGreat.Tb (Blk Blk.newAt put_all Kp.setCells)
theorem infoI : (Tryz.prog.info? 3).map (fun i => (i.zero, i.size, i.bytes)) = some (some (.int .i64 0), 1, 8) := by kernel_rfl
/-- The handles below k that are held. -/
def hk (P : St) (k : Nat) : List Nat := (List.range k).filter (fun i => (P i).isSome)
def iv (l : List Nat) : List Value := l.map (fun (i : Nat) => .int .i64 (i : Int))
theorem hk_yes {P : St} {k : Nat} (h : (P k).isSome = true) : hk P (k + 1) = hk P k ++ [k] := by
  unfold hk
  rw [List.range_succ, List.filter_append]
  simp [h]
theorem hk_no {P : St} {k : Nat} (h : (P k).isSome = false) : hk P (k + 1) = hk P k := by
  unfold hk
  rw [List.range_succ, List.filter_append]
  simp [h]
theorem hk_len (P : St) (k : Nat) : (hk P k).length ≤ k := by
  have := List.length_filter_le (fun i => (P i).isSome) (List.range k)
  rw [List.length_range] at this
  exact this
/-- The numbers that are held, place by place. -/
def hF (P : St) (i : Nat) : Int := (((hN P).getD i 0 : Nat) : Int)
theorem hF_b (P : St) (i : Nat) : -9223372036854775808 ≤ hF P i ∧ hF P i < 9223372036854775808 := by
  unfold hF
  by_cases h : i < (hN P).length
  · have := (hN_mem P ((hN P).getD i 0)).1 (by rw [List.getD_eq_getElem?_getD, List.getElem?_eq_getElem h]; exact List.getElem_mem h)
    omega
  · rw [List.getD_eq_getElem?_getD, List.getElem?_eq_none (by omega)]
    simp
theorem iv_bl (P : St) : iv (hN P) = Ic.bl (Co.cnt P) (hF P) := by
  show iv (hN P) = Ic.bl (hN P).length (hF P)
  apply List.ext_getElem?
  intro i
  by_cases h : i < (hN P).length
  · rw [Ic.bl_get _ _ _ h]
    unfold iv hF
    rw [List.getElem?_map, List.getElem?_eq_getElem h, List.getD_eq_getElem?_getD, List.getElem?_eq_getElem h]
    rfl
  · rw [List.getElem?_eq_none (by unfold iv; simp; omega), List.getElem?_eq_none (by rw [Ic.bl_length]; exact Nat.le_of_not_lt h)]
set_option maxRecDepth 100000 in
set_option maxHeartbeats 4000000 in
theorem dheld_ok (r : Nat) (P : St) (w : World) (hp : DP w r P) : Calls Tryz.prog 13 #[.pointer (some ⟨r, 0, none⟩)] w fun e w' => ∃ v, e = .returned v ∧ Ic.Own w' w.heap.size v (Co.cnt P) (hF P) ∧ Below w.heap.size w w' := by
  have HP := hid hp
  clear hp
  obtain ⟨i0, hi0, hz0, hz1, hz2⟩ := info_parts infoI
  go_enter Tryz.func13, Tryz.ntmps13
  go_wp2
  go_loopw [3, 4] (fun s x wr => ∃ k : Nat, k ≤ 64 ∧ x = .int .i64 k ∧ wr.ownsRow w.heap.size 3 1 s (hk P k).length (iv (hk P k)) ∧ Below w.heap.size w wr) (fun _ x _ => 64 - (RowKit.intOf x).toNat)
  case atStart => exact ⟨0, by omega, rfl, World.ownsRow_nil _ _ _ _, Below.refl _ _⟩
  case round =>
    obtain ⟨k, hk', rfl, hrow, hbel⟩ := hrel
    have ROW := hid hrow
    have HB := hid hbel
    have hl := hk_len P k
    clear hrow hbel
    by_cases hlt : k < 64
    · have ch := (HP.out.below HB.out).cell hlt
      have l1 : (k : Int) < 64 := by omega
      have lz : (0 : Int) ≤ (k : Int) := by omega
      cases hb : (P k).isSome with
      | true =>
        rw [hb] at ch
        have HK := hid (hk_yes hb)
        have SB := HB.out.size
        clear hb
        go_wp2_with (at_builtin; go_must (refine wpList_append_own _ rfl _ _ 23 rfl w.heap.size 3 i0 (.int .i64 0) 1 8 Tryz.underlying23 hi0 hz0 hz1 hz2 rfl (by decide) _ _ _ rfl (ROW.out.alloc _) ⟨_, 0, none⟩ 1 1 [.int .i64 (k : Int)] rfl rfl (cell_one_new _ _ _) ?c2 ?c3 ?c4 ?c5 ?_))
        case c2 => intro v hv; simp at hv; subst hv; rfl
        case c3 => simp [maxLen]; omega
        case c4 => omega
        case c5 => simp; omega
        intro s' w5 hrow5 hgr _
        have hkp : Kp (fun q => u3.ownBlock = some q) wr w5 := (Kp.of_below _ (below_alloc _ _)).trans ((Kp.of_grown hgr).mono fun k _ e => e) (fun _ _ e => e)
        have row5 : Hid (w5.ownsRow w.heap.size 3 1 s' (hk P (k + 1)).length (iv (hk P (k + 1)))) := hid (by
          rw [HK.out, List.length_append]
          unfold iv
          rw [List.map_append]
          exact hrow5)
        have HB5 := hid (HB.out.trans (hkp.below (B := w.heap.size) SB (fun j hj e => by have := (ROW.out.lt j e).1; omega)))
        clear hrow5 hgr hkp
        go_wp2
        go_roundw
        case rel => exact ⟨k + 1, by omega, by go_num, row5.out, HB5.out⟩
        case measure => simp [RowKit.intOf]; omega
      | false =>
        rw [hb] at ch
        have HK := hid (hk_no hb)
        clear hb
        go_wp2
        go_roundw
        case rel => exact ⟨k + 1, by omega, by go_num, by rw [HK.out]; exact ROW.out, HB.out⟩
        case measure => simp [RowKit.intOf]; omega
    · have e : k = 64 := by omega
      subst e
      go_wp2
      go_ret
      exact ⟨_, rfl, ⟨hF_b P, by rw [← iv_bl]; exact ROW.out⟩, HB.out⟩
theorem pheld_ok (p gm gk : Nat) (P : St) (w : World) (hp : PU w p gm gk P) : Calls Tryz.prog 10 #[.pointer (some ⟨p, 0, none⟩)] w fun e w' => ∃ v, e = .returned v ∧ Ic.Own w' w.heap.size v (Co.cnt P) (hF P) ∧ Below w.heap.size w w' := by
  refine Calls.mono (held_ok p gm gk P w hp) ?_
  rintro e w' ⟨v, rfl, ho, hb⟩
  refine ⟨v, rfl, ⟨hF_b P, ?_⟩, hb⟩
  rw [← iv_bl]
  exact ho
set_option maxRecDepth 100000 in
set_option maxHeartbeats 1600000 in
theorem samei (v v' : Value) (n : Nat) (F : Nat → Int) (w : World) (h : Ic.RB w v n F) (h' : Ic.RB w v' n F) (hn : n ≤ 1000) :
    Calls Tryz.prog 12 #[v, v'] w fun e w' => e = .returned (.bool true) ∧ Below w.heap.size w w' := by
  obtain ⟨_, a, c, rfl, _⟩ := id h
  obtain ⟨_, a', c', rfl, _⟩ := id h'
  have H := hid h
  have H' := hid h'
  clear h h'
  go_enter Tryz.func12, Tryz.ntmps12
  go_wp2
  go_loopw [5] (fun x wr => ∃ k : Nat, k ≤ n ∧ x = .int .i64 k ∧ Below w.heap.size w wr) (fun x _ => n - (RowKit.intOf x).toNat)
  case atStart => exact ⟨0, Nat.zero_le _, rfl, Below.refl _ _⟩
  case round =>
    obtain ⟨k, hk, rfl, hbel⟩ := hrel
    have HB := hid hbel
    clear hbel
    by_cases hlt : k < n
    · obtain ⟨_, b, d, e1, _, _, q1⟩ := H.out.below HB.out
      obtain ⟨_, b', d', e2, _, _, q2⟩ := H'.out.below HB.out
      simp only [Value.slice.injEq, true_and] at e1 e2
      obtain ⟨rfl, rfl⟩ := e1
      obtain ⟨rfl, rfl⟩ := e2
      obtain ⟨g, o, rfl, x1⟩ := q1.resolve_left (fun e => by omega)
      obtain ⟨g', o', rfl, x2⟩ := q2.resolve_left (fun e => by omega)
      have x1 := x1 k hlt
      have x2 := x2 k hlt
      obtain ⟨C, hC⟩ : ∃ C, F k = C := ⟨_, rfl⟩
      rw [hC] at x1 x2
      have kn : (k : Int) < n := by omega
      have kz : (0 : Int) ≤ (k : Int) := by omega
      clear hC
      go_wp2_with fail
      go_quiet (fail)
      go_wp2
      go_roundw
      case rel => exact ⟨k + 1, by omega, by go_num, below_next HB.out (below_drewN _ _)⟩
      case measure => simp [RowKit.intOf]; omega
    · have e : k = n := by omega
      subst e
      go_wp2
      go_ret
      exact ⟨rfl, HB.out⟩
end Go.Proofs.YtdmacflcjbkkpaaGreat.Cd
