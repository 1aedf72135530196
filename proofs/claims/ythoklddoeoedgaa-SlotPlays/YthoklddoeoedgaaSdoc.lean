/- The document's memory of a slot: what New, Len, Bytes, Put answer. -/
import Derived.Test.YthoklddoeoedgaaSeq
namespace Go.Proofs.Ythoklddoeoedgaa.Sl
open Go.ChangeShapes Go.WideShapes Go.ChangeAt Go.RowKit
open Go.Proofs.Ythoklddoeoedgaa.By
/-- The pointer p is a memory of the document's, of that kind; its list is bv. -/
def IsD (w : World) (p bv : Value) : Kd → Prop
  | none => p = .pointer none ∨ ∃ b, p = .pointer (some ⟨b, 0, none⟩) ∧ Blk w b [.slice none 0 0, .bool false] 38
  | some (n, f) => (∃ b, p = .pointer (some ⟨b, 0, none⟩) ∧ Blk w b [bv, .bool true] 38) ∧ By.Own w 0 bv n f ∧ n ≤ 1024 ∧ ∀ i, n ≤ i → f i = 0
/-- Its blocks. -/
def DF (p bv : Value) (j : Nat) : Prop := pb p j ∨ bv.ownBlock = some j
theorem IsD.kept {S : Nat → Prop} {w w' : World} {p bv : Value} {k : Kd} (h : IsD w p bv k) (hk : Kp S w w') (hn : ∀ j, DF p bv j → ¬ S j) : IsD w' p bv k := by
  cases k with
  | none => exact h.imp id (fun ⟨b, e, h⟩ => ⟨b, e, Blk.kept h hk (hn b (.inl e))⟩)
  | some z =>
    obtain ⟨n, f⟩ := z
    obtain ⟨⟨b, e, h⟩, ho, h2⟩ := h
    exact ⟨⟨b, e, h.kept hk (hn b (.inl e))⟩, own_keptB ho hk (fun g hg => hn g (.inr hg)), h2⟩
theorem IsD.below {w w' : World} {p bv : Value} {k : Kd} (h : IsD w p bv k) (hb : Below w.heap.size w w') : IsD w' p bv k := h.kept (Kp.of_below (fun _ => False) hb) (fun _ _ e => e)
theorem rnew_mem (w : World) : Calls Try.prog 10 #[] w fun e w' => e = .returned (.pointer (some ⟨w.heap.size, 0, none⟩)) ∧ IsD w' (.pointer (some ⟨w.heap.size, 0, none⟩)) (.slice none 0 0) (some (0, fun _ => 0)) ∧ Below w.heap.size w w' := by
  go_enter Try.func10, Try.ntmps10
  go_wp2
  go_ret
  exact ⟨rfl, ⟨⟨_, rfl, Blk.new _ _ _⟩, own_nil _ _ _ (fun _ => by show (0 : Int) ≤ 0 ∧ (0 : Int) < 256; decide), Nat.zero_le _, fun _ _ => rfl⟩, below_alloc _ _⟩
theorem rlen_m (p bv : Value) (k : Kd) (w : World) (h : IsD w p bv k) : Calls Try.prog 22 #[p] w fun e w' => e = .returned (.int .i64 (kn k)) ∧ w' = w := by
  cases k with
  | none =>
    rcases h with rfl | ⟨b, rfl, h⟩
    · go_enter Try.func22, Try.ntmps22
      go_wp2
      go_ret
      exact ⟨rfl, rfl⟩
    · have c0 := h.cell 0 _ rfl
      clear h
      go_enter Try.func22, Try.ntmps22
      go_wp2
      go_ret
      exact ⟨rfl, rfl⟩
  | some z =>
    obtain ⟨n, f⟩ := z
    obtain ⟨⟨b, rfl, h⟩, ho, hn, _⟩ := h
    obtain ⟨a, c, rfl⟩ : ∃ a c, bv = .slice a n c := By.RB.isSlice ho.reads
    have c0 := h.cell 0 _ rfl
    clear h ho
    go_enter Try.func22, Try.ntmps22
    go_wp2
    go_ret
    exact ⟨rfl, rfl⟩
set_option maxRecDepth 20000 in
set_option maxHeartbeats 1200000 in
theorem rbytes_m (p bv : Value) (k : Kd) (w : World) (h : IsD w p bv k) : Calls Try.prog 17 #[p] w fun e w' => ∃ v, e = .returned v ∧ By.Own w' w.heap.size v (kn k) (kf k) ∧ Below w.heap.size w w' := by
  obtain ⟨i0, hi, hz0, hz1, hz2⟩ := info_parts info5
  cases k with
  | none =>
    rcases h with rfl | ⟨b, rfl, h⟩
    · go_enter Try.func17, Try.ntmps17
      go_wp2
      go_ret
      exact ⟨_, rfl, own_nil _ _ _ (fun _ => by show (0 : Int) ≤ 0 ∧ (0 : Int) < 256; decide), Below.refl _ _⟩
    · have c0 := h.cell 0 _ rfl
      clear h
      go_enter Try.func17, Try.ntmps17
      go_wp2_with (at_builtin; refine wpList_append_own_none rfl _ _ 36 rfl w.heap.size 5 i0 1 Try.underlying36 hi _ _ _ rfl (World.ownsRow_nil _ _ _ _) rfl ?_)
      go_ret
      exact ⟨_, rfl, own_nil _ _ _ (fun _ => by show (0 : Int) ≤ 0 ∧ (0 : Int) < 256; decide), Below.refl _ _⟩
  | some z =>
    obtain ⟨n, f⟩ := z
    obtain ⟨⟨b, rfl, h⟩, ho, hn, _⟩ := h
    have c0 := h.cell 0 _ rfl
    have HF := hid ho.1
    have hr := ho.reads
    clear h
    rcases ho.shape with ⟨rfl, rfl⟩ | ⟨g, cap, rfl, _, _, hnc, hcm, hc, _⟩
    · clear ho hr
      go_enter Try.func17, Try.ntmps17
      go_wp2_with (at_builtin; refine wpList_append_own_none rfl _ _ 36 rfl w.heap.size 5 i0 1 Try.underlying36 hi _ _ _ rfl (World.ownsRow_nil _ _ _ _) rfl ?_)
      go_ret
      exact ⟨_, rfl, own_nil _ _ _ HF.out, Below.refl _ _⟩
    · have HC : Hid (∀ j u, (bl n f)[j]? = some u → w.cell? ((⟨g, 0, none⟩ : Addr).add j) = some u) := by
        intro j u hj
        obtain ⟨hj1, rfl⟩ := bl_get_inv _ _ _ _ hj
        rw [By.add_plain, Nat.zero_add]; exact hc j hj1
      clear ho hr hc
      go_enter Try.func17, Try.ntmps17
      go_wp2_with (at_builtin; refine wpList_append_own _ rfl _ _ 36 rfl w.heap.size 5 i0 (.int .u8 0) 1 1 Try.underlying36 hi hz0 hz1 hz2 rfl (by decide) _ _ _ rfl (World.ownsRow_nil _ _ _ _) ⟨g, 0, none⟩ n cap (bl n f) rfl (by rw [bl_length]; omega) HC.out (bl_one n f) (by simp [maxLen]; omega) (by omega) (Nat.le_refl _) ?_)
      intro v' w1 hown hgrow _
      have HR : Hid (By.Own w1 w.heap.size v' n f ∧ Below w.heap.size w w1) := ⟨⟨HF.out, hown⟩, By.Below.of_grown hgrow⟩
      clear hown hgrow
      go_wp2
      go_ret
      exact ⟨_, rfl, HR.out⟩
end Go.Proofs.Ythoklddoeoedgaa.Sl
