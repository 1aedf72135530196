/- The document's memory of a slot: what Put, Wipe, Look and Same answer. -/
import Derived.Test.YthoklddoeoedgaaSdoc
namespace Go.Proofs.Ythoklddoeoedgaa.Sl
open Go.ChangeShapes Go.WideShapes Go.ChangeAt Go.RowKit
open Go.Proofs.Ythoklddoeoedgaa.By
theorem put_here {w w1 : World} {b n : Nat} {f : Nat → Int} {bv v' : Value} {S : Nat → Prop} (h : Blk w b [bv, .bool true] 38) (hk : Kp S w w1) (hS : ¬ S b) (ho : By.Own w1 w.heap.size v' n f) (hn : n ≤ 1024) :
    IsD (w1.setCell ⟨b, 0, none⟩ v') (.pointer (some ⟨b, 0, none⟩)) v' (some (n, cut n f)) := by
  have hb := h.lt
  refine ⟨⟨b, rfl, (h.kept hk hS).set 0 v'⟩, own_congr (own_mono (own_keptB ho (Kp.setCell b 0 v') (fun g hg e => ?_)) (Nat.zero_le _)) (cut_bound n f ho.1) (fun i hi => (cut_in n f i hi).symm), hn, cut_out n f⟩
  have := own_row ho g hg; omega
set_option maxRecDepth 20000 in
set_option maxHeartbeats 1200000 in
theorem rput_m (p bv v : Value) (k : Kd) (n : Nat) (f : Nat → Int) (w : World) (h : IsD w p bv k) (hr : By.RB w v n f) : Calls Try.prog 14 #[p, v] w fun e w' => e = .returned (.int .i64 (pc k n)) ∧ ∃ bv', IsD w' p bv' (pk k n f) ∧ Kp (pb p) w w' ∧ (bv' = bv ∨ ∀ j, bv'.ownBlock = some j → w.heap.size ≤ j) := by
  obtain ⟨i0, hi, hz0, hz1, hz2⟩ := info_parts info5
  cases k with
  | none =>
    rcases h with rfl | ⟨b, rfl, h⟩
    · go_enter Try.func14, Try.ntmps14
      go_wp2
      go_ret
      exact ⟨rfl, bv, .inl rfl, Kp.refl _ _, .inl rfl⟩
    · have c1 := h.cell 1 _ rfl
      have H := hid h
      clear h
      go_enter Try.func14, Try.ntmps14
      go_wp2
      go_ret
      exact ⟨rfl, bv, .inr ⟨b, rfl, H.out⟩, Kp.refl _ _, .inl rfl⟩
  | some z =>
    obtain ⟨n0, f0⟩ := z
    by_cases hn : 1024 < n
    · have e1 : Hid (pc (some (n0, f0)) n = 9) := if_pos hn
      have e2 : Hid (pk (some (n0, f0)) n f = some (n0, f0)) := if_pos hn
      have H := hid h
      obtain ⟨⟨b, rfl, h⟩, ho, _⟩ := h
      obtain ⟨a, c, rfl⟩ := By.RB.isSlice hr
      have c1 := h.cell 1 _ rfl
      have l1 : (1024 : Int) < n := by omega
      clear h hr ho
      go_enter Try.func14, Try.ntmps14
      go_wp2
      go_ret
      rw [e1.out, e2.out]
      exact ⟨rfl, bv, H.out, Kp.refl _ _, .inl rfl⟩
    · have e1 : Hid (pc (some (n0, f0)) n = 0) := if_neg hn
      have e2 : Hid (pk (some (n0, f0)) n f = some (n, cut n f)) := if_neg hn
      obtain ⟨⟨b, rfl, h⟩, ho, _⟩ := h
      have c0 := h.cell 0 _ rfl
      have c1 := h.cell 1 _ rfl
      have z0 := h.frozen 0
      have H := hid h
      have hf := hid hr.1
      have l1 : ¬ (1024 : Int) < n := by omega
      have l2 : Hid (n ≤ 1024) := by show n ≤ 1024; omega
      clear h ho
      obtain ⟨_, a, c, rfl, h1, h2, hc⟩ := hr
      cases a with
      | none =>
        obtain ⟨rfl, rfl⟩ : n = 0 ∧ c = 0 := by
          rcases hc with ⟨x, y⟩ | ⟨_, _, x, _⟩
          · exact ⟨x, y rfl⟩
          · cases x
        clear hc
        have R : Hid (IsD (w.setCell ⟨b, 0, none⟩ (.slice none 0 0)) (.pointer (some ⟨b, 0, none⟩)) (.slice none 0 0) (some (0, cut 0 f))) := put_here H.out (Kp.refl (fun _ => False) w) id (own_nil _ _ f hf.out) (by omega)
        go_enter Try.func14, Try.ntmps14
        go_wp2_with (at_builtin; refine wpList_append_own_none rfl _ _ 36 rfl w.heap.size 5 i0 1 Try.underlying36 hi _ _ _ rfl (World.ownsRow_nil _ _ _ _) rfl ?_)
        go_ret
        rw [e1.out, e2.out]
        exact ⟨rfl, _, R.out, (Kp.setCell b 0 _).mono (fun j _ e => by show _ = _; rw [e]), .inr (fun j hj => by cases hj)⟩
      | some ad =>
        have HC : Hid (∀ j u, (bl n f)[j]? = some u → w.cell? (ad.add j) = some u) := by
          intro j u hj
          obtain ⟨hj1, rfl⟩ := bl_get_inv _ _ _ _ hj
          rcases hc with ⟨h, _⟩ | ⟨b, off, h, hc⟩
          · omega
          · cases h; rw [By.add_plain]; exact hc j hj1
        clear hc
        go_enter Try.func14, Try.ntmps14
        go_wp2_with (at_builtin; refine wpList_append_own _ rfl _ _ 36 rfl w.heap.size 5 i0 (.int .u8 0) 1 1 Try.underlying36 hi hz0 hz1 hz2 rfl (by decide) _ _ _ rfl (World.ownsRow_nil _ _ _ _) ad n c (bl n f) rfl (by rw [bl_length]; omega) HC.out (bl_one n f) (by simp [maxLen]; have := l2.out; omega) (by omega) (Nat.le_refl _) ?_)
        intro v' w1 hown hgrow _
        have ho : By.Own w1 w.heap.size v' n f := ⟨hf.out, hown⟩
        have hb := By.Below.of_grown hgrow
        obtain ⟨va, vc, rfl⟩ := By.RB.isSlice ho.reads
        have c0 := (H.out.below hb).cell 0 _ rfl
        have z0 := (H.out.below hb).frozen 0
        have R := hid (put_here H.out (Kp.of_below (fun _ => False) hb) id ho l2.out)
        have K := hid (((Kp.of_below (fun j => j = b) hb).trans (Kp.setCell b 0 (.slice va n vc)) (fun _ _ e => e)).mono (T := pb (.pointer (some ⟨b, 0, none⟩))) (fun j _ e => by show _ = _; rw [e]))
        have N := hid (own_row ho)
        clear hown hgrow ho hb
        go_wp2
        go_ret
        rw [e1.out, e2.out]
        exact ⟨rfl, _, R.out, K.out, .inr N.out⟩
end Go.Proofs.Ythoklddoeoedgaa.Sl
