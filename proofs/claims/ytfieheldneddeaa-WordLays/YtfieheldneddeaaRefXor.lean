/- The document's own exclusive or of two lists: a contract over this seat's program, for every two lists and worlds. -/
import Derived.Test.YtfieheldneddeaaRefs
import Derived.Deep.RegionHeld3
namespace Go.Proofs.Ytfieheldneddeaa
open Go.ChangeShapes Go.WideShapes Go.ChangeAt Go.RowKit
set_option maxRecDepth 100000 in
set_option maxHeartbeats 1000000 in
theorem refXor31_go (b1 o1 c1 b2 o2 c2 n m : Nat) (f g : Nat → Int) (w : World) (h0 : 0 < n) (h0' : 0 < m) (hf : ∀ i, 0 ≤ f i ∧ f i < 256) (hg : ∀ i, 0 ≤ g i ∧ g i < 256)
    (hn : n ≤ 140737488355000)
    (hc : Hid (∀ i, i < n → w.cell? ⟨b1, o1 + i, none⟩ = some (.int .u8 (f i)))) (hc' : Hid (∀ i, i < m → w.cell? ⟨b2, o2 + i, none⟩ = some (.int .u8 (g i)))) :
    Calls Try.prog 31 #[.slice (some ⟨b1, o1, none⟩) n c1, .slice (some ⟨b2, o2, none⟩) m c2] w fun e w' => ∃ v, e = .returned v ∧ Own w' w.heap.size v (min n m) (fun i => xb (f i) (g i)) ∧ Below w.heap.size w w' := by
  obtain ⟨i0, hi, hz0, hz1, hz2⟩ := info_parts info5
  have HX : Hid (∀ i, 0 ≤ xb (f i) (g i) ∧ xb (f i) (g i) < 256) := fun i => xb_bound _ _ (hf i) (hg i)
  have HXR : Hid (∀ i, (bits .or .u8 (f i) (g i) - bits .and .u8 (f i) (g i)) % 256 = xb (f i) (g i)) := fun i => xb_ref _ _ (hf i) (hg i)
  clear hf hg
  have hb1 : b1 < w.heap.size := block_lt_of_cell (hc.out 0 h0)
  have hb2 : b2 < w.heap.size := block_lt_of_cell (hc'.out 0 h0')
  go_enter Try.func31, Try.ntmps31
  go_wp2
  go_loopw [5, 6] (fun v i wr => ∃ k : Nat, k ≤ n ∧ k ≤ m ∧ i = .int .i64 k ∧ Own wr w.heap.size v k (fun i => xb (f i) (g i)) ∧ Below w.heap.size w wr) (fun _ i _ => n - (intOf i).toNat)
  case atStart => exact ⟨0, Nat.zero_le _, Nat.zero_le _, rfl, own_nil _ _ _ HX.out, Below.refl _ _⟩
  case round =>
    obtain ⟨k, hkn, hkm, rfl, hown, hbel⟩ := hrel
    have hsz := hbel.size
    have HO := hid hown
    have HB := hid hbel
    by_cases hlt : k < n
    · by_cases hlt' : k < m
      · have e1 : wr.cell? ⟨b1, o1 + k, none⟩ = some (.int .u8 (f k)) := (hbel.cell (p := ⟨b1, o1 + k, none⟩) hb1).trans (hc.out k hlt)
        have e2 : wr.cell? ⟨b2, o2 + k, none⟩ = some (.int .u8 (g k)) := (hbel.cell (p := ⟨b2, o2 + k, none⟩) hb2).trans (hc'.out k hlt')
        have l1 : (k : Int) < n := by omega
        have l2 : (k : Int) < m := by omega
        have s1 : b1 < wr.heap.size := by omega
        have s2 : b2 < wr.heap.size := by omega
        have n1 : ¬ b1 = wr.heap.size := by omega
        have n2 : ¬ b2 = wr.heap.size := by omega
        have N1 : Hid (∀ q, u5.ownBlock = some q → w.heap.size ≤ q) := own_row hown
        clear hown hbel
        go_wp2
        go_region_held3 (fun w' => w'.cell? ⟨b1, o1 + k, none⟩ = some (.int .u8 (f k)) ∧ w'.cell? ⟨b2, o2 + k, none⟩ = some (.int .u8 (g k))) (go_keep) (first | (refine step_append_lies _ rfl (.tmp 19) (.tmp 39) 32 rfl w.heap.size 5 i0 (.int .u8 0) 1 1 Try.underlying32 hi hz0 hz1 hz2 rfl (by decide) _ _ _ rfl (HO.out.2.alloc _) ⟨_, 0, none⟩ 1 1 [.int .u8 ((bits .or .u8 (f k) (g k) - bits .and .u8 (f k) (g k)) % 256)] rfl rfl (fun j u hj => cell_one_new _ _ _ j u hj) (by intro u hu; simp at hu; subst hu; rfl) (by decide) (by simp [maxLen]; omega) (by omega) (by simp; omega) _ rfl ?_; intro gq cq w1 hown hgrow hat hltq; have k1 := cell_past_push hgrow N1.out e1 hb1; have k2 := cell_past_push hgrow N1.out e2 hb2; have HW := hid hown; have HGr := hid hgrow; clear hown hgrow hat hltq))
        have R : Hid (Own w1 w.heap.size (.slice (some ⟨gq, 0, none⟩) (k + 1) cq) (k + 1) (fun i => xb (f i) (g i)) ∧ Below w.heap.size w w1) := by
          refine ⟨⟨HX.out, ?_⟩, below_push_drew HB.out hsz HO.out HGr.out⟩
          have ho := HW.out
          rw [HXR.out k] at ho
          rw [← bl_snoc]
          exact ho
        clear HW HGr HO HB
        go_wp2
        go_roundw
        case rel => exact ⟨k + 1, by omega, by omega, by go_num, R.out⟩
        case measure => simp [intOf]; omega
      · clear hown hbel
        go_wp2
        go_ret
        have e : min n m = k := by omega
        rw [e]
        exact ⟨_, rfl, HO.out, HB.out⟩
    · clear hown hbel
      go_wp2
      go_ret
      have e : min n m = k := by omega
      rw [e]
      exact ⟨_, rfl, HO.out, HB.out⟩
set_option maxHeartbeats 1000000 in
theorem refXor31_z (a1 a2 : Option Addr) (c1 c2 n m : Nat) (f : Nat → Int) (w : World) (hf : ∀ i, 0 ≤ f i ∧ f i < 256) (h0 : n = 0 ∨ m = 0) :
    Calls Try.prog 31 #[.slice a1 n c1, .slice a2 m c2] w fun e w' => ∃ v, e = .returned v ∧ Own w' w.heap.size v 0 f ∧ Below w.heap.size w w' := by
  have HF := hid hf
  clear hf
  by_cases hn : n = 0
  · subst hn
    clear h0
    go_enter Try.func31, Try.ntmps31
    go_wp2
    refine wp_loop_rounds 1 ?_
    rw [rounds_succ]
    go_wp2
    go_ret
    exact ⟨_, rfl, own_nil _ _ _ HF.out, Below.refl _ _⟩
  · have hm : m = 0 := by omega
    subst hm
    have hp : (0 : Int) < n := by omega
    clear h0
    go_enter Try.func31, Try.ntmps31
    go_wp2
    refine wp_loop_rounds 1 ?_
    rw [rounds_succ]
    go_wp2
    go_ret
    exact ⟨_, rfl, own_nil _ _ _ HF.out, Below.refl _ _⟩
theorem refXor31 (a b : Value) (n m : Nat) (f g : Nat → Int) (w : World) (ha : RB w a n f) (hb : RB w b m g) (hn : n ≤ 140737488355000) :
    Calls Try.prog 31 #[a, b] w fun e w' => ∃ v, e = .returned v ∧ Own w' w.heap.size v (min n m) (fun i => xb (f i) (g i)) ∧ Below w.heap.size w w' := by
  obtain ⟨hf, a, cap, rfl, h1, h2, hc⟩ := ha
  obtain ⟨hg, b, cap', rfl, h1', h2', hc'⟩ := hb
  have hx : ∀ i, 0 ≤ xb (f i) (g i) ∧ xb (f i) (g i) < 256 := fun i => xb_bound _ _ (hf i) (hg i)
  by_cases hz : n = 0 ∨ m = 0
  · rw [show min n m = 0 by omega]
    exact refXor31_z a b cap cap' n m _ w hx hz
  · rcases hc with ⟨h, _⟩ | ⟨b1, o1, rfl, hc⟩
    · omega
    rcases hc' with ⟨h, _⟩ | ⟨b2, o2, rfl, hc'⟩
    · omega
    exact refXor31_go b1 o1 cap b2 o2 cap' n m f g w (by omega) (by omega) hf hg hn hc hc'
theorem own_apart {w w' : World} {base base' : Nat} {v v' : Value} {n n' : Nat} {f f' : Nat → Int} (h : Own w base v n f) (hb : w.heap.size ≤ base') (h' : Own w' base' v' n' f') : v.ownBlock = none ∨ v.ownBlock ≠ v'.ownBlock := by
  rcases h.shape with ⟨rfl, _⟩ | ⟨g, cap, rfl, _, hl, _⟩
  · exact .inl rfl
  · refine .inr fun e => ?_
    have := own_row h' g e.symm
    omega
theorem apart_symm {a b : Option Nat} (h : a = none ∨ a ≠ b) : b = none ∨ b ≠ a := by
  rcases h with h | h
  · subst h
    cases b with
    | none => exact .inl rfl
    | some q => exact .inr (by simp)
  · exact .inr (fun e => h e.symm)
theorem own_drewN {w : World} {base : Nat} {v : Value} {n : Nat} {f : Nat → Int} (h : Own w base v n f) (k : Nat) : Own (w.drewN k) base v n f := h
theorem rb_lent {w : World} {base g n cap : Nat} {f : Nat → Int} (h : Own w base (.slice (some ⟨g, 0, none⟩) (n + 6) cap) (n + 6) (lent n f)) (hf : ∀ i, 0 ≤ f i ∧ f i < 256) : RB w (.slice (some ⟨g, 0, none⟩) n cap) n f :=
  (h.reads.first n (by omega)).congr hf (fun i hi => by unfold lent; rw [if_pos hi])
/-- The j-th of several values. -/
def lv (vs : List Value) (j : Nat) : Value := vs.getD j (.slice none 0 0)
theorem ap_of (vs : List Value) (L : Nat) (hd : ∀ i j, i < j → j < vs.length → (lv vs i).ownBlock = none ∨ (lv vs i).ownBlock ≠ (lv vs j).ownBlock) (hl : ∀ j, j < vs.length → ∀ q, (lv vs j).ownBlock = some q → q < L) : AP vs.length L (lv vs) := by
  refine ⟨fun i j hi hj hne => ?_, fun j hj e => ?_⟩
  · rcases Nat.lt_or_gt_of_ne hne with h | h
    · exact hd i j h hj
    · exact apart_symm (hd j i h hi)
  · have := hl j hj L e
    omega
theorem inv1_lit (w : World) (base : Nat) (vs : List Value) (cs : Array Value) (hcs : cs = vs.toArray) (N : Nat → Nat) (F : Nat → Nat → Int) (hO : ∀ j, j < vs.length → Own w base (lv vs j) (N j) (F j)) :
    Inv1 (w.alloc (.cells cs 32)) base vs.length w.heap.size (lv vs) N F := by
  subst hcs
  refine ⟨fun j hj => own_alloc (hO j hj) _, fun j hj => ?_⟩
  rw [World.cell?_alloc_at _ _ _ _ rfl]
  simp [lv, hj]
theorem own_lit_slice {w : World} {base : Nat} {v : Value} {n : Nat} {f : Nat → Int} (h : Own w base v n f) : ∃ a c, v = .slice a n c := by
  obtain ⟨_, a, c, h, _⟩ := h.reads
  exact ⟨a, c, h⟩
end Go.Proofs.Ytfieheldneddeaa
