/- What the document's table holds, told as two lists; a number as a pair. -/
import Derived.Test.YtodihepgfpbonaaTrf
import Derived.Test.YtodihepgfpbonaaTiP
namespace Go.Proofs.Ytodihepgfpbonaa.Tb
open Go.ChangeShapes Go.WideShapes Go.ChangeAt Go.RowKit
theorem iv_get (l : List Int) (i : Nat) (x : Int) (h : l[i]? = some x) : (iv l)[i]? = some (.int .i64 x) := by simp [iv, h]
theorem nv_get (l : List Nat) (i x : Nat) (h : l[i]? = some x) : (nv l)[i]? = some (x : Int) := by simp [nv, h]
theorem row_cell {w : World} {base : Nat} {e : TypeId} {a : Option Addr} {n c : Nat} {T : List Value} (h : w.ownsRow base e 1 (.slice a n c) n T) {i : Nat} {u : Value} (hi : T[i]? = some u) : ∃ g, a = some ⟨g, 0, none⟩ ∧ w.cell? ⟨g, i, none⟩ = some u := by
  have hl := h.1
  rcases h.2 with ⟨_, rfl⟩ | ⟨g, cap, cur, e1, _, hg, hnc, _, hcs, ht⟩
  · have := (List.getElem?_eq_some_iff.1 hi).1; omega
  · cases e1
    refine ⟨g, rfl, ?_⟩
    rw [cell_of_row w g i _ e (0, 0) hg]
    have h1 := (List.getElem?_eq_some_iff.1 hi).1
    rw [← ht] at hi
    rw [List.getElem?_take_of_lt (by omega)] at hi
    simpa using hi
theorem row_slice {w : World} {base sz : Nat} {e : TypeId} {v : Value} {n : Nat} {T : List Value} (h : w.ownsRow base e sz v n T) : ∃ a c, v = .slice a n c := by
  rcases h.2 with ⟨rfl, rfl⟩ | ⟨g, cap, cur, rfl, _⟩
  · exact ⟨_, _, rfl⟩
  · exact ⟨_, _, rfl⟩
theorem hl_lt (f : Nat → Bool) (n : Nat) : ∀ x ∈ hl f n, x < n := by
  induction n with
  | zero => intro x hx; cases hx
  | succ n ih =>
    intro x hx
    rw [hl, List.mem_append] at hx
    rcases hx with hx | hx
    · have := ih x hx; omega
    · split at hx
      · simp at hx; omega
      · cases hx
/-- A list of numbers gone on with. -/
def API (args : Array Value) : Sem Value := Builtin.append_ #[72, 72] 72 args
@[go_sem ↓ high] theorem api (cs : Array Bool) (args : Array Value) : builtin .append #[72, 72] 72 cs args = (do pure (.value (← API args))) := rfl
set_option maxHeartbeats 1600000 in
theorem held_t (b hb vb m : Nat) (f : Nat → Bool) (g : Nat → Int) (w : World) (ht : RT w b hb vb m f g) (hm : m ≤ 64) : Calls Try.prog 35 #[.pointer (some ⟨b, 0, none⟩)] w fun e w' => ∃ hv vv, e = .returned (.tuple #[hv, vv]) ∧ w'.ownsRow w.heap.size 3 1 hv (hl f m).length (iv (nv (hl f m))) ∧ w'.ownsRow w.heap.size 3 1 vv (hl f m).length (iv ((hl f m).map g)) ∧ (∀ k, hv.ownBlock = some k → vv.ownBlock ≠ some k) ∧ Below w.heap.size w w' := by
  have HT := hid ht
  clear ht
  have hR := rheld_t b hb vb m f g w HT.out hm
  obtain ⟨L, hL⟩ : ∃ L, hl f m = L := ⟨_, rfl⟩
  have hll := hl_len f m
  have hlt := hl_lt f m
  rw [hL] at hR hll hlt ⊢
  obtain ⟨n, hn⟩ : ∃ n, L.length = n := ⟨_, rfl⟩
  rw [hn] at hR hll ⊢
  have HR := hid hR
  have HLT := hid hlt
  have HN := hid hn
  clear hR hL hlt hn
  go_enter Try.func35, Try.ntmps35
  go_wp2_with fail
  refine HR.out.mono ?_
  rintro e W ⟨v, rfl, ho, hbel⟩
  obtain ⟨ha, hc, rfl⟩ := row_slice ho
  have HO := hid ho
  have HB := hid hbel
  have hsz := hbel.size
  clear ho hbel HR
  go_wp2_with fail
  go_loopw [5, 6] (fun l i wr => ∃ j : Nat, j ≤ n ∧ i = .int .i64 j ∧ wr.ownsRow W.heap.size 3 1 l j (iv ((L.take j).map g)) ∧ Below W.heap.size W wr) (fun _ i _ => n - (intOf i).toNat)
  case atStart => exact ⟨0, Nat.zero_le _, rfl, World.ownsRow_nil _ _ _ _, Below.refl _ _⟩
  case round =>
    obtain ⟨j, hj, rfl, ho, hb⟩ := hrel
    have HV := hid ho
    have HW := hid hb
    have hw := hb.size
    clear ho hb
    by_cases hjn : j < n
    · obtain ⟨x, hx⟩ : ∃ x, L[j]? = some x := ⟨_, List.getElem?_eq_getElem (by rw [HN.out]; exact hjn)⟩
      have hxm := HLT.out x (List.mem_of_getElem? hx)
      have T := HT.out.below (nx HB.out HW.out)
      obtain ⟨hg, rfl, ch⟩ := row_cell (row_below HO.out HW.out) (iv_get _ _ _ (nv_get _ _ _ hx))
      have cv := T.vs.cell x _ (is_get g m x hxm)
      have c1 := T.tb.cell 1 _ rfl
      have l3 : (0 : Int) ≤ j := by omega
      have l5 : (j : Int) < n := by omega
      have l6 : (0 : Int) ≤ x := by omega
      have l7 : (x : Int) < m := by omega
      have HE : Hid (L.take (j + 1) = L.take j ++ [x]) := by show _ = _; rw [List.take_add_one, hx]; rfl
      clear hx T hxm
      obtain ⟨va, vc, rfl⟩ := row_slice HV.out
      obtain ⟨u', w1, hap, hown, hkp, hson⟩ := push_run (wr.alloc (.cells #[.int .i64 (g x)] 3)).drew 72 3 (.int .i64 0) 1 8 Try.underlying72 infoI rfl (by decide) (by decide) W.heap.size _ _ _ [.int .i64 (g x)] (row_below HV.out (nx (below_alloc _ _) (below_drewN _ 1))) rfl (by intro u hu; simp at hu; subst hu; rfl) (by show W.heap.size ≤ (wr.alloc _).heap.size; rw [size_alloc]; omega) (by omega) ⟨wr.heap.size, 0, none⟩ (cell_new1 _ _ _ _ rfl)
      have hap : (API #[.slice va j vc, .slice (some ⟨wr.heap.size, 0, none⟩) 1 1]).run Try.prog (wr.alloc (.cells #[.int .i64 (g x)] 3)).drew = .ok u' w1 := hap
      have R1 : Hid (w1.ownsRow W.heap.size 3 1 u' (j + 1) (iv ((L.take (j + 1)).map g))) := by
        show World.ownsRow _ _ _ _ _ _ _
        rw [HE.out, List.map_append, List.map_singleton, iv_snoc]; exact hown
      have R2 : Hid (Below W.heap.size W w1) := by
        refine (nx HW.out (nx (below_alloc _ _) (below_drewN _ 1))).trans (hkp.below (by show W.heap.size ≤ (wr.alloc _).heap.size; rw [size_alloc]; omega) (fun k hk e => ?_))
        have := (HV.out.lt k e).1; omega
      clear hown hkp hson HV HW
      go_wp2_with fail
      go_region
      go_wp2
      go_roundw
      case rel => exact ⟨j + 1, by omega, by go_num, R1.out, R2.out⟩
      case measure => simp [intOf]; omega
    · obtain rfl : j = n := by omega
      have e1 : Hid (L.take j = L) := List.take_of_length_le (by rw [HN.out]; exact Nat.le_refl _)
      go_wp2
      go_ret2
      refine ⟨_, _, rfl, row_below HO.out HW.out, ?_, fun k hk hk2 => ?_, nx HB.out HW.out⟩
      · have := row_base HV.out hsz
        rw [e1.out] at this
        exact this
      · have h1 := (HO.out.lt k hk).2
        have h2 := (HV.out.lt k hk2).1
        omega
/-- A number as a pair. -/
def pr (n : Int) : P.V := (n, bits BinOp.xor IntKind.i64 n 5)
theorem pair_t (n : Int) (w : World) : Calls Try.prog 38 #[.int .i64 n] w fun e w' => e = .returned (P.vv (pr n)) ∧ Below w.heap.size w w' := by
  obtain ⟨W2, hW2⟩ : ∃ W, w.alloc (.cells #[.int .i64 0, .int .i64 0] 31) = W := ⟨_, rfl⟩
  have hb2 : Blk W2 w.heap.size (P.vc P.vz) P.vt := by rw [← hW2]; exact Blk.new _ _ _
  obtain ⟨W3, s1, hb3, hk3⟩ := P.SVv_run (x := pr n) hb2
  have h1 : Below w.heap.size w W2 := by rw [← hW2]; exact below_alloc _ _
  have HB := hid (h1.trans (hk3.below h1.size (fun k hk e => by omega)))
  have HL := hid (P.LDv_run hb3)
  unfold pr at s1
  clear hb2 hk3 h1 hb3
  go_enter Try.func38, Try.ntmps38
  go_wp2
  refine bodyPost_ret (results_cell1 rfl rfl HL.out) rfl ?_
  exact ⟨rfl, HB.out⟩
end Go.Proofs.Ytodihepgfpbonaa.Tb
