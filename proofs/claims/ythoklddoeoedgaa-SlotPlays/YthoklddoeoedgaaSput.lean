/- The program's memory of a slot: what Put and Bytes answer. -/
import Derived.Test.YthoklddoeoedgaaSmem
import Derived.Deep.RegionLaw
import Derived.Lib.SliceRun
import Derived.Test.YthoklddoeoedgaaCref
namespace Go.Proofs.Ythoklddoeoedgaa.Sl
open Go.ChangeShapes Go.WideShapes Go.ChangeAt Go.RowKit
open Go.Proofs.Ythoklddoeoedgaa.By
theorem copy_in {w : World} {b n0 n : Nat} {md : Bool} {f0 f : Nat → Int} {a : Option Addr} {c : Nat} (ty : TypeId) (h : Blk w b (mc md f0 n0) 32) (hr : RB w (.slice a n c) n f) (hn : n ≤ 1024) :
    (Builtin.copy_ #[36, 36] ty #[.slice (some ⟨b, 1, none⟩) 1024 1024, .slice a n c]).run Try.prog w = .ok (.int .i64 n) (w.setCells b 1 (bl n f)) := by
  by_cases hz : n = 0
  · subst hz
    exact run_copy_none (P := Try.prog) w 36 36 ty 5 _ a 1024 1024 0 c Try.underlying36 (by kernel_rfl) (by simp)
  · obtain ⟨_, a', c', e, h1, h2, h0 | ⟨g, off, rfl, hc⟩⟩ := hr
    · omega
    · cases e
      have := run_copy_cells (P := Try.prog) w 36 36 ty 5 b 1 1024 1024 ⟨g, off, none⟩ n c (bl n f) Try.underlying36 (by kernel_rfl) (by rw [bl_length]; exact (Nat.min_eq_left hn).symm)
        (fun j v hv => by obtain ⟨hj, rfl⟩ := bl_get_inv _ _ _ _ hv; rw [By.add_plain]; exact hc j hj)
        (fun j hj => by rw [bl_length] at hj; rw [h.cell _ _ (mc_b _ _ _ j (by omega))]; rfl) (fun j _ => h.frozen _) (bl_one _ _)
      rw [bl_length] at this
      exact this
/-- The rest of the array from place n on. -/
def rs (b n : Nat) : Value := .slice (some ⟨b, if 1024 = n then 1 else 1 + n, none⟩) (1024 - n) (1024 - n)
theorem slice_l (W : World) (b n : Nat) (hn : n ≤ 1024) : (Instr.sliceAt 30 (.pointer (some ⟨b, 1, none⟩)) (some (.int .i64 (n : Int))) none none).run Try.prog W = .ok (rs b n) W := by
  have hl : Try.prog.arrayLen 30 = 1024 := by kernel_rfl
  have hs : (sizeOf (Try.prog.elem 30)).run Try.prog W = .ok 1 W := by kernel_rfl
  have h := run_sliceAt_array_l (P := Try.prog) W 30 ⟨b, 1, none⟩ Try.underlying30 .i64 (n : Int) (by omega) (by rw [hl]; omega)
  rw [h, hs, hl, Result.andThen_ok, slicedAt, By.add_plain]
  unfold rs
  rw [show ((n : Int)).toNat = n from by omega, Nat.mul_one]
  split <;> rfl
theorem clear_l (W : World) (b n : Nat) (f : Nat → Int) (x : Int) (ty : TypeId) (h : Blk W b (mc true f x) 32) (hn : n ≤ 1024) : (Builtin.clear_ #[36] ty #[rs b n]).run Try.prog W = .ok (.tuple #[]) (W.setCells b (1 + n) (bl (1024 - n) (fun _ => 0))) := by
  by_cases e : 1024 = n
  · subst e
    unfold rs
    simp [Builtin.clear_, run_underlying Try.underlying36]
    rfl
  · unfold rs
    rw [if_neg e, ← rep_bl]
    exact Lib.run_clear_slice W 36 5 ty (.int .u8 0) Try.underlying36 By.zero5 rfl rfl b (1 + n) (1024 - n) (1024 - n) (by omega) (fun j hj => by rw [Nat.add_assoc, h.cell _ _ (mc_b _ _ _ (n + j) (by omega))]; rfl) (fun j _ => h.frozen _)
/-- The bytes and noughts behind them. -/
def cut (n : Nat) (f : Nat → Int) (i : Nat) : Int := if i < n then f i else 0
theorem cut_bound (n : Nat) (f : Nat → Int) (hf : ∀ i, 0 ≤ f i ∧ f i < 256) (i : Nat) : 0 ≤ cut n f i ∧ cut n f i < 256 := by
  unfold cut; split
  · exact hf i
  · omega
theorem cut_in (n : Nat) (f : Nat → Int) (i : Nat) (h : i < n) : cut n f i = f i := if_pos h
theorem cut_out (n : Nat) (f : Nat → Int) (i : Nat) (h : n ≤ i) : cut n f i = 0 := if_neg (by omega)
theorem mc_congr (md : Bool) (f g : Nat → Int) (n : Int) (h : ∀ i, i < 1024 → f i = g i) : mc md f n = mc md g n := by
  unfold mc; rw [bl_congr 1024 f g h]
set_option maxRecDepth 20000 in
set_option maxHeartbeats 1200000 in
theorem put_ok (b n0 n : Nat) (f0 f : Nat → Int) (v : Value) (w : World) (h : Mem w b n0 f0) (hr : RB w v n f) (hn : n ≤ 1024) : Calls Try.prog 12 #[.pointer (some ⟨b, 0, none⟩), v] w fun e w' => e = .returned (.int .i64 0) ∧ Mem w' b n (cut n f) ∧ Kp (fun j => j = b) w w' := by
  have hf := hr.1
  obtain ⟨a, c, rfl⟩ : ∃ a c, v = .slice a n c := by obtain ⟨_, a, c, e, _⟩ := hr; exact ⟨a, c, e⟩
  have h0 := h.c0
  have l1 : ¬ (1024 : Int) < n := by omega
  have cp := fun ty => copy_in ty h.here hr hn
  obtain ⟨W1, hW1⟩ : ∃ W, w.setCells b 1 (bl n f) = W := ⟨_, rfl⟩
  have b1 : Blk W1 b _ _ := hW1 ▸ h.here.put 1 (bl n f)
  have k1 : Kp (fun j => j = b) w W1 := hW1 ▸ Kp.setCells b 1 _
  rw [show (1 : Nat) = 1 + 0 from rfl, mc_put _ _ _ _ 0 n (by omega)] at b1
  rw [hW1] at cp
  have c1 := b1.cell 1025 _ (mc_n _ _ _)
  have z1 := b1.frozen 1025
  obtain ⟨W2, hW2⟩ : ∃ W, W1.setCell ⟨b, 1025, none⟩ (.int .i64 n) = W := ⟨_, rfl⟩
  have b2 : Blk W2 b _ _ := hW2 ▸ b1.set 1025 (.int .i64 n)
  have k2 : Kp (fun j => j = b) W1 W2 := hW2 ▸ Kp.setCell b _ _
  rw [mc_setn] at b2
  have c2 := b2.cell 1025 _ (mc_n _ _ _)
  have sl := fun W => slice_l W b n hn
  have cl := fun ty => clear_l W2.drew b n _ _ ty (b2.drewN 1) hn
  obtain ⟨W3, hW3⟩ : ∃ W, W2.drew.setCells b (1 + n) (bl (1024 - n) (fun _ => 0)) = W := ⟨_, rfl⟩
  have b3 : Blk W3 b _ _ := hW3 ▸ (b2.drewN 1).put (1 + n) (bl (1024 - n) (fun _ => 0))
  have k3 : Kp (fun j => j = b) W2 W3 := hW3 ▸ ((Kp.of_below _ (below_drewN W2 1)).trans (Kp.setCells b _ _) (fun _ _ e => e))
  rw [mc_put _ _ _ _ n (1024 - n) (by omega)] at b3
  rw [hW3] at cl
  have R : Hid (Mem W3 b n (cut n f) ∧ Kp (fun j => j = b) w W3) := by
    refine ⟨⟨?_, hn, cut_bound n f hf, cut_out n f⟩, (k1.trans k2 (fun _ _ e => e)).trans k3 (fun _ _ e => e)⟩
    rw [mc_congr true (cut n f) _ n]
    · exact b3
    · intro i hi
      by_cases e : i < n
      · rw [cut_in _ _ _ e, if_neg (by omega), if_pos (by omega), Nat.sub_zero]
      · rw [cut_out _ _ _ (by omega), if_pos (by omega)]
  clear b1 b2 k1 k2 b3 k3 h hr hW1 hW3 hf
  go_enter Try.func12, Try.ntmps12
  go_wp2_with (go_at_call 35; refine (isNone_mem _ _ h0).mono ?_; rintro e w ⟨rfl, rfl⟩)
  go_region_law (fail)
  go_wp2
  go_ret
  exact ⟨rfl, R.out⟩
end Go.Proofs.Ythoklddoeoedgaa.Sl
