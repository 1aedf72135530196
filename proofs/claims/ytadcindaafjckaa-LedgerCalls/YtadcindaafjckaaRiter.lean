/- The program's iterator All over a ledger: for every loop body that writes none of the iterator's memory it yields the events of the runs, one by one, in their order, as they were at the call; stopped, a beginning of them. -/
import Derived.RangeFuncNested
import Derived.RangeFuncBound
import Derived.RangeFuncCalls
import Derived.RangeFuncLeaves
import Derived.Shelf.Abstract
import Derived.Shelf.RegionOpen
import Derived.OwnWalkIn
import Derived.TacticsInMore
import Derived.LoopNIn
import Derived.LoopIn
import Derived.Test.YtadcindaafjckaaRreads
namespace Go.Proofs.Ytadcindaafjckaa
open Go.ChangeShapes Go.WideShapes Go.ChangeAt Go.RowKit Go.Shelf
attribute [local go_sem] Oper.semAt_some

/-- The events of runs, one by one. -/
def evs (L : List Rn) : List (Int × Int) := L.flatMap fun r => List.replicate r.c.toNat (r.k, r.s)
theorem evs_append (L M : List Rn) : evs (L ++ M) = evs L ++ evs M := by simp [evs]
theorem evs_one (r : Rn) : evs [r] = List.replicate r.c.toNat (r.k, r.s) := by simp [evs]
theorem evs_next {L : List Rn} {k : Nat} {r : Rn} (h : L[k]? = some r) : evs (L.take (k + 1)) = evs (L.take k) ++ List.replicate r.c.toNat (r.k, r.s) := by
  rw [take_snoc h, evs_append, evs_one]
theorem evs_part {L : List Rn} {k j : Nat} {r : Rn} (h : L[k]? = some r) (hj : j ≤ r.c.toNat) : evs (L.take k) ++ List.replicate j (r.k, r.s) <+: evs L := by
  have e : evs L = evs (L.take k) ++ (List.replicate j (r.k, r.s) ++ (List.replicate (r.c.toNat - j) (r.k, r.s) ++ evs (L.drop (k + 1)))) := by
    have e1 : L = L.take (k + 1) ++ L.drop (k + 1) := (List.take_append_drop _ _).symm
    have e2 : List.replicate r.c.toNat (r.k, r.s) = List.replicate j (r.k, r.s) ++ List.replicate (r.c.toNat - j) (r.k, r.s) := by
      rw [List.replicate_append_replicate]; congr 1; omega
    have e3 : evs L = evs (L.take (k + 1)) ++ evs (L.drop (k + 1)) := by rw [← evs_append, ← e1]
    rw [e3, evs_next h, e2, List.append_assoc, List.append_assoc]
  rw [e]
  exact ⟨List.replicate (r.c.toNat - j) (r.k, r.s) ++ evs (L.drop (k + 1)), by simp [List.append_assoc]⟩

/-- Blocks of cells that are not in S are as they were. -/
structure KC (S : Nat → Prop) (A B : World) : Prop where
  size : A.heap.size ≤ B.heap.size
  same : ∀ (b : Nat) (cs : Array Value) (t : TypeId) (fr : Nat × Nat), A.heap[b]? = some (.cells cs t fr) → ¬ S b → B.heap[b]? = some (.cells cs t fr)
theorem KC.refl (S : Nat → Prop) (A : World) : KC S A A := ⟨Nat.le_refl _, fun _ _ _ _ h _ => h⟩
theorem KC.trans {S : Nat → Prop} {A B C : World} (h : KC S A B) (k : KC S B C) : KC S A C := ⟨Nat.le_trans h.size k.size, fun b cs t fr hb hs => k.same b cs t fr (h.same b cs t fr hb hs) hs⟩
theorem KC.of_kp {S T : Nat → Prop} {A B : World} (h : Kp T A B) (ht : ∀ b, b < A.heap.size → T b → S b) : KC S A B := ⟨h.size, fun b _ _ _ hb hs => (h.block b (Array.getElem?_eq_some_iff.1 hb).1 (fun e => hs (ht b (Array.getElem?_eq_some_iff.1 hb).1 e))).trans hb⟩
theorem KC.alloc (S : Nat → Prop) (A : World) (o : Obj) : KC S A (A.alloc o) := KC.of_kp (Kp.of_below (fun _ => False) (below_alloc A o)) (fun _ _ e => e.elim)
theorem KC.putObj {S : Nat → Prop} {A : World} {l : Nat} {o o' : Obj} (hl : A.heap[l]? = some o) (ho : o.isCells = false) : KC S A (A.putObj l o') :=
  ⟨by simp, fun b cs t fr hb _ => by
    by_cases e : b = l
    · subst e; rw [hb] at hl; cases hl; simp [Obj.isCells] at ho
    · rw [World.putObj_heap_other e]; exact hb⟩
theorem cell_row {W : World} {b off : Nat} {v : Value} (h : W.cell? ⟨b, off, none⟩ = some v) : ∃ cs t fr, W.heap[b]? = some (.cells cs t fr) := by
  obtain ⟨o, ho, hc⟩ := cells_of_cell h
  cases o <;> simp [Obj.isCells] at hc
  exact ⟨_, _, _, ho⟩
theorem KC.cell {S : Nat → Prop} {A B : World} (h : KC S A B) {b off : Nat} {v : Value} (hc : A.cell? ⟨b, off, none⟩ = some v) (hs : ¬ S b) : B.cell? ⟨b, off, none⟩ = some v := by
  obtain ⟨cs, t, fr, hb⟩ := cell_row hc
  rw [World.cell?_of_block (w := A) (a := ⟨b, off, none⟩) ((h.same b cs t fr hb hs).trans hb.symm)]
  exact hc
/-- What a slice reads as, its block being none of S. -/
theorem RB.kc {S : Nat → Prop} {A B : World} {v : Value} {L : List Rn} (h : RB A v L) (hk : KC S A B) (hs : ∀ b, v.ownBlock = some b → ¬ S b) : RB B v L := by
  obtain ⟨hf, a, cap, rfl, h1, h2, h0 | ⟨b, off, rfl, hc⟩⟩ := h
  · exact ⟨hf, a, cap, rfl, h1, h2, .inl h0⟩
  · refine ⟨hf, _, cap, rfl, h1, h2, .inr ⟨b, off, rfl, fun i r hi => ?_⟩⟩
    obtain ⟨c1, c2, c3⟩ := hc i r hi
    exact ⟨hk.cell c1 (hs b rfl), hk.cell c2 (hs b rfl), hk.cell c3 (hs b rfl)⟩

set_option maxRecDepth 100000 in
set_option maxHeartbeats 2000000 in
theorem all48_in (F : Fence) (n : Nat) (h48 : F.fn 36) (hro : F.round = none) (hn : 1 ≤ n) (l Bs : Nat) (S : Nat → Prop) (sv : Value) (L : List Rn) (hp : Pos L) (hN : L.length < 1000000000000000000) (W : World)
    (hBs : W.cell? ⟨Bs, 0, none⟩ = some sv) (hR : RB W sv L) (hS1 : ∀ b, S b → b < W.heap.size) (hS3 : ∀ b, sv.ownBlock = some b → ¬ S b) (J Jx : List (Int × Int) → World → Prop) (hJ : AbidesFrom W.heap.size J)
    (hY : ∀ pre x W1, J pre W1 → pre.length < (evs L).length → YieldAt F (n - 1) Try.prog l #[.agg #[.int .u8 x.1, .int .i64 x.2]] W1 fun e W' =>
      (e = .returned (.bool true) ∧ J (pre ++ [x]) W' ∧ KC S W1 W') ∨ (e = .returned (.bool false) ∧ Jx (pre ++ [x]) W')) (h0 : J [] W) :
    CallsIn F n Try.prog 36 #[.func (.yield l) #[] #[], .pointer (some ⟨Bs, 0, none⟩)] W fun e W' => (∃ v, e = .returned v) ∧
      ((∃ ys, ys = evs L ∧ J ys W') ∨ (∃ pre, pre <+: evs L ∧ Jx pre W')) := by
  obtain ⟨m, hm⟩ : ∃ m, L.length = m := ⟨_, rfl⟩
  obtain ⟨a, cap, rfl⟩ : ∃ a cap, sv = .slice a m cap := by
    obtain ⟨a, cap, e⟩ := hR.isSlice
    exact ⟨a, cap, by rw [← hm]; exact e⟩
  rw [hm] at hN
  have HL := hid hm
  have HR := hid hR
  have HP := hid hp
  have HS1 := hid hS1
  have HS3 := hid hS3
  have HJ := hid hJ
  have HY := hid hY
  clear hm hR hp hS1 hS3 hJ hY
  refine callsIn_of_wp Try.func36 rfl h48 ?_ hro
  simp only [Try.ntmps36, List.size_toArray, List.length_cons, List.length_nil, Nat.reduceAdd, Nat.reduceSub, Array.replicate_succ, Array.replicate_zero, List.push_toArray, List.append_toArray, List.nil_append, List.cons_append]
  gi_wp2
  gi_loopw [7] (fun i wr => ∃ k : Nat, k ≤ m ∧ i = .int .i64 k ∧ J (evs (L.take k)) wr ∧ KC S W wr) (fun i _ => m - (intOf i).toNat)
  case atStart => exact ⟨0, Nat.zero_le _, rfl, h0, KC.refl _ _⟩
  case round =>
    obtain ⟨k, hk, rfl, hJs, hkc⟩ := hrel
    have HK := hid hkc
    have HJs := hid hJs
    clear hkc hJs
    by_cases hlt : k < m
    · obtain ⟨r, hr⟩ := get_of_lt (L := L) (k := k) (by rw [HL.out]; exact hlt)
      have Hr := hid hr
      obtain ⟨b, off, rfl, c1, c2, c3⟩ := (HR.out.kc HK.out HS3.out).at hr
      have hpos := HP.out r (List.mem_of_getElem? hr)
      have hmax := (HR.out.ok hr).2.2.2
      have l1 : (k : Int) < m := by omega
      have hk2 : KC S W (wr.alloc (.cells #[.int .u8 r.k, .int .i64 r.s, .int .i64 r.c] 51)) := HK.out.trans (KC.alloc _ _ _)
      have HK2 := hid hk2
      have HJ2 : Hid (J (evs (L.take k)) (wr.alloc (.cells #[.int .u8 r.k, .int .i64 r.s, .int .i64 r.c] 51))) := HJ.out _ _ _ none HJs.out (World.grownBy_alloc _ _ none) (fun _ e => by cases e)
      have HB2 := hid (heap_alloc_new wr (.cells #[.int .u8 r.k, .int .i64 r.s, .int .i64 r.c] 51))
      have hnS : Hid (¬ S wr.heap.size) := fun e => by have := HS1.out _ e; have := HK.out.size; omega
      clear hr hk2
      obtain ⟨wo, hwo⟩ : ∃ x, x = wr := ⟨_, rfl⟩
      subst hwo
      gi_wp2
      gi_loopw [13] (fun y w2 => ∃ j : Nat, j ≤ r.c.toNat ∧ y = .int .i64 j ∧ J (evs (L.take k) ++ List.replicate j (r.k, r.s)) w2 ∧ KC S W w2 ∧ w2.heap[wo.heap.size]? = some (.cells #[.int .u8 r.k, .int .i64 r.s, .int .i64 r.c] 51 (0, 0))) (fun y _ => r.c.toNat - (intOf y).toNat)
      case atStart => exact ⟨0, Nat.zero_le _, rfl, by simpa using HJ2.out, HK2.out, HB2.out⟩
      case round =>
        obtain ⟨j, hj, rfl, hJ3, hk3, hb3⟩ := hrel
        have HJ3 := hid hJ3
        have HK3 := hid hk3
        have HB3 := hid hb3
        have d1 := cell_of_row _ wo.heap.size 0 _ 51 (0, 0) hb3
        have d2 := cell_of_row _ wo.heap.size 1 _ 51 (0, 0) hb3
        simp only [List.getElem?_toArray, List.getElem?_cons_zero, List.getElem?_cons_succ] at d1 d2
        clear hJ3 hk3 hb3
        by_cases hjl : j < r.c.toNat
        · have l2 : (j : Int) < r.c := by omega
          obtain ⟨fn, tmps, assign, body, hy, hR⟩ := HY.out _ (r.k, r.s) _ HJ3.out (by
            have hp := (evs_part (j := j + 1) Hr.out (by omega)).length_le
            simp only [List.length_append, List.length_replicate] at hp ⊢
            omega)
          dsimp only at hy
          gi_wp2
          refine hR.mono ?_
          rintro e W3 (⟨rfl, hJ4, hk4⟩ | ⟨rfl, hJx4⟩)
          · have HJ4 := hid hJ4
            have HK4 := hid (HK3.out.trans hk4)
            have HB4 := hid (hk4.same _ _ _ _ HB3.out hnS.out)
            clear hJ4 hk4
            gi_wp2
            go_roundw
            case rel => exact ⟨j + 1, by omega, by go_num, by rw [List.replicate_succ', ← List.append_assoc]; exact HJ4.out, HK4.out, HB4.out⟩
            case measure => simp [intOf]; omega
          · have HJx := hid hJx4
            clear hJx4
            gi_wp2
            refine bodyPost_ret (results_none rfl _ _ _) rfl ?_
            refine ⟨⟨_, rfl⟩, .inr ⟨_, ?_, HJx.out⟩⟩
            have := evs_part (j := j + 1) Hr.out (by omega)
            rwa [List.replicate_succ', ← List.append_assoc] at this
        · have e : j = r.c.toNat := by omega
          have l2 : ¬ (j : Int) < r.c := by omega
          have HJ5 : Hid (J (evs (L.take (k + 1))) wr) := by rw [evs_next Hr.out, ← e]; exact HJ3.out
          clear e
          gi_wp2
          go_roundw
          case rel => exact ⟨k + 1, by omega, by go_num, HJ5.out, HK3.out⟩
          case measure => simp [intOf]; omega
    · have e : k = m := by omega
      subst e
      have e3 : Hid (L.take k = L) := List.take_of_length_le (by rw [HL.out]; exact Nat.le_refl _)
      gi_wp2
      go_end0
      exact ⟨⟨_, rfl⟩, .inl ⟨_, by rw [e3.out], HJs.out⟩⟩

theorem all_stops (F : Fence) (n : Nat) (h48 : F.fn 36) (hro : F.round = none) (hn : 1 ≤ n) (Bs : Nat) (S : Nat → Prop) (sv : Value) (L : List Rn) (hp : Pos L) (hN : L.length < 1000000000000000000) (w : World)
    (hBs : w.cell? ⟨Bs, 0, none⟩ = some sv) (hR : RB w sv L) (hS1 : ∀ b, S b → b < w.heap.size) (hS3 : ∀ b, sv.ownBlock = some b → ¬ S b) :
    SeqStopsK F n Try.prog 36 #[.pointer (some ⟨Bs, 0, none⟩)] (fun x : Int × Int => #[Value.agg #[.int .u8 x.1, .int .i64 x.2]]) (KC S) (fun ys => ys = evs L) (fun pre => pre <+: evs L) (evs L).length w := fun l J Jx W hW hJ _ hY h0 => by
  have hlt : Bs < w.heap.size := block_lt_of_cell hBs
  refine (all48_in F n h48 hro hn l Bs S sv L hp hN W ((hW.cell (p := ⟨Bs, 0, none⟩) hlt).trans hBs) (hR.below hW) (fun b hb => Nat.lt_of_lt_of_le (hS1 b hb) hW.size) hS3 J Jx hJ hY h0).mono ?_
  rintro e W' ⟨he, h⟩
  exact ⟨he, h⟩

set_option maxHeartbeats 1200000 in
theorem all19 (b : Nat) (rv : Value) (L : List Rn) (w : World) (h : Led w b rv L) (hn : L.length * 24 ≤ 140737488355328) :
    Calls Try.prog 34 #[.pointer (some ⟨b, 0, none⟩)] w fun e w' => ∃ Bs sv, e = .returned (.func (.func 36) #[] #[.pointer (some ⟨Bs, 0, none⟩)]) ∧ w'.cell? ⟨Bs, 0, none⟩ = some sv ∧ Own w' w.heap.size sv L ∧ w.heap.size ≤ Bs ∧ Below w.heap.size w w' := by
  have H := hid h
  clear h
  go_enter Try.func34, Try.ntmps34
  go_wp2_with fail
  refine (runs22 b rv L w H.out hn).mono ?_
  rintro e w1 ⟨v, rfl, ho, hb⟩
  have HO := hid ho
  have HB := hid hb
  have hsz := hb.size
  obtain ⟨va, vn, vc, rfl⟩ := ho.isSlice
  clear ho hb
  go_wp2
  go_ret
  exact ⟨_, _, rfl, by rw [cell_of_row _ _ 0 _ 32 (0, 0) (heap_alloc_new w1 _)]; rfl, HO.out.alloc _, hsz, below_next HB.out (below_alloc _ _)⟩
set_option maxHeartbeats 1200000 in
theorem all19n (w : World) :
    Calls Try.prog 34 #[.pointer none] w fun e w' => ∃ Bs, e = .returned (.func (.func 36) #[] #[.pointer (some ⟨Bs, 0, none⟩)]) ∧ w'.cell? ⟨Bs, 0, none⟩ = some (.slice none 0 0) ∧ w.heap.size ≤ Bs ∧ Below w.heap.size w w' := by
  go_enter Try.func34, Try.ntmps34
  go_wp2_with fail
  refine (runs22n w).mono ?_
  rintro e w1 ⟨rfl, rfl⟩
  go_wp2
  go_ret
  exact ⟨_, rfl, by rw [cell_of_row _ _ 0 _ 32 (0, 0) (heap_alloc_new w1 _)]; rfl, Nat.le_refl _, below_alloc _ _⟩
end Go.Proofs.Ytadcindaafjckaa
