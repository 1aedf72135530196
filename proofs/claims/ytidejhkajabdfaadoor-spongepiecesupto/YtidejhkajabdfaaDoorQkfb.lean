/- What the program's functions From and Bytes answer. -/
import Derived.Test.YtidejhkajabdfaaDoorQfrom
import Derived.Laws.IdiomCopy
import Derived.Deep.RegionWith
namespace Go.Proofs.YtidejhkajabdfaaDoor.Kc
open Go.ChangeShapes Go.WideShapes Go.ChangeAt Go.RowKit
open Go.Proofs.YtidejhkajabdfaaDoor.By Go.Proofs.YtidejhkajabdfaaDoor.Wd
/-- The first k lanes. -/
def ff (f : Nat → Int) (k j : Nat) : Int := if j < k then fl f j else 0
theorem ff_zero (f : Nat → Int) : wl 25 (fun _ => (0 : Int)) = wl 25 (ff f 0) := wl_congr 25 _ _ (fun j _ => by unfold ff; rw [if_neg (by omega)])
theorem ff_end (f : Nat → Int) : wl 25 (ff f 25) = wl 25 (fl f) := wl_congr 25 _ _ (fun j hj => by unfold ff; rw [if_pos hj])
theorem ff_next (f : Nat → Int) (k : Nat) : (wl 25 (ff f k)).set k (.int .u64 (fl f k)) = wl 25 (ff f (k + 1)) := by
  rw [wl_set]
  refine wl_congr 25 _ _ (fun j _ => ?_)
  unfold ff
  by_cases h : j = k
  · rw [if_pos h, if_pos (by omega), h]
  · rw [if_neg h]
    by_cases h2 : j < k
    · rw [if_pos h2, if_pos (by omega)]
    · rw [if_neg h2, if_neg (by omega)]
theorem fl_byt (f : Nat → Int) (k : Nat) (hk : k < 25) : By.LE (fun i => Byt f 200 (8 * (k : Int) + i)) 8 = fl f k := by
  unfold fl
  refine LE_congr _ _ 8 (fun i hi => ?_)
  rw [Byt_in f 200 _ (by omega) (by omega)]
  congr 1
set_option maxRecDepth 4000 in
set_option maxHeartbeats 2000000 in
theorem from1 (f : Nat → Int) (hf : BB f) (w : World) :
    Calls Tryd.prog 66 #[.agg (bl 200 f).toArray] w fun e w' => e = .returned (.agg (wl 25 (fl f)).toArray) ∧ Below w.heap.size w w' := by
  have HF := hid hf
  clear hf
  go_enter Tryd.func66, Tryd.ntmps66
  go_wp2_with fail
  go_loopw [5] (fun i wr => ∃ k : Nat, k ≤ 25 ∧ i = .int .i64 k ∧ Blk wr w.heap.size (bl 200 f) 69 ∧ Blk wr (w.heap.size + 1) (wl 25 (fun _ => 0)) 103 ∧ Blk wr (w.heap.size + 1 + 1) (wl 25 (ff f k)) 103 ∧ Below w.heap.size w wr) (fun i _ => 25 - (intOf i).toNat)
  case atStart =>
    refine ⟨0, Nat.zero_le _, rfl, ((Blk.new w _ _).alloc _).alloc _, (Blk.newAt _ _ _ _ _ (by rw [size_alloc]) y25).alloc _, Blk.newAt _ _ _ _ _ (by rw [size_alloc, size_alloc]) (by rw [← ff_zero]; exact y25), ?_⟩
    exact below_next (below_next (below_alloc w _) (below_alloc _ _)) (below_alloc _ _)
  case round =>
    obtain ⟨k, hk, rfl, b0, b1, b2, hbel⟩ := hrel
    have B0 := hid b0
    have B1 := hid b1
    have B2 := hid b2
    have HB := hid hbel
    have HZ := hid b2.lt
    clear b0 b1 b2 hbel
    by_cases hlt : k < 25
    · have HR := hid (rb_blk B0.out HF.out (by decide))
      have c2 := B2.out.cell k _ (wl_get 25 _ k hlt)
      have f2 := B2.out.frozen k
      have HN := hid (ff_next f k)
      have HE := hid (fl_byt f k hlt)
      go_wp2_with (go_at_call 75; refine (takeLE64 _ _ f _ _ HR.out (by omega) (by omega) (by omega)).mono ?_; rintro e w' ⟨rfl, rfl⟩)
      rw [HE.out]
      have hz := HZ.out
      refine ⟨⟨k + 1, by omega, by go_num, B0.out.other (by omega) _ _, B1.out.other (by omega) _ _, ?_, below_set HB.out _ _ _ (by omega) (by omega)⟩, by simp [intOf]; omega⟩
      rw [← HN.out]
      exact B2.out.set _ _
    · have ek : k = 25 := by omega
      subst ek
      rw [ff_end] at B2
      have l1 := LDk_run (B2.out.range 0 _ (fun j v h => by rw [Nat.zero_add]; exact h)) (wl_length _ _)
      have s1 := SVk_run (cs := wl 25 (fl f)) (B1.out.there 0 25 (by rw [wl_length]; omega)) (wl_length _ _) (wl_one _ _)
      have b3 := B1.out.put 0 (wl 25 (fl f))
      rw [put_all _ _ (by rw [wl_length, wl_length])] at b3
      have l2 := hid (LDk_run (b3.range 0 _ (fun j v h => by rw [Nat.zero_add]; exact h)) (wl_length _ _))
      clear b3
      go_wp2
      have hz := HZ.out
      refine bodyPost_ret (v := .agg (wl 25 (fl f)).toArray) ?_ rfl ⟨rfl, below_cells HB.out _ _ _ (by omega) (by omega)⟩
      exact results_cell1 Tryd.results66 rfl l2.out
/-- The bytes of the first k lanes. -/
def bk (a : Nat → Int) (k i : Nat) : Int := if i < 8 * k then bf a i else 0
theorem bk_zero (a : Nat → Int) : bl 200 (fun _ => (0 : Int)) = bl 200 (bk a 0) := bl_congr 200 _ _ (fun i _ => by unfold bk; rw [if_neg (by omega)])
theorem bk_end (a : Nat → Int) : bl 200 (bk a 25) = bl 200 (bf a) := bl_congr 200 _ _ (fun i hi => by unfold bk; rw [if_pos (by omega)])
theorem bk_next (a : Nat → Int) (k : Nat) (hk : k < 25) : put (bl 200 (bk a k)) (8 * k) (bl 8 (leByte (a k))) = bl 200 (bk a (k + 1)) := by
  apply List.ext_getElem?
  intro i
  rw [put_get _ _ _ _ (by rw [bl_length, bl_length]; omega), bl_length]
  by_cases h : i < 200
  · rw [bl_get _ _ _ h, bl_get _ _ _ h]
    by_cases h2 : 8 * k ≤ i ∧ i < 8 * k + 8
    · rw [if_pos h2, bl_get _ _ _ (by omega)]
      unfold bk bf
      rw [if_pos (by omega), show i / 8 = k from by omega, show i % 8 = i - 8 * k from by omega]
    · rw [if_neg h2]
      unfold bk
      by_cases h3 : i < 8 * k
      · rw [if_pos h3, if_pos (by omega)]
      · rw [if_neg h3, if_neg (by omega)]
  · rw [if_neg (by omega), List.getElem?_eq_none (by rw [bl_length]; omega), List.getElem?_eq_none (by rw [bl_length]; omega)]
set_option maxRecDepth 4000 in
theorem copy8 (W : World) (b k pb : Nat) (ty : TypeId) (cells : List Value) (g : Nat → Int) (hb : Blk W b cells 69) (hl : cells.length = 200) (hk : k < 25) (hs : ∀ i, i < 8 → W.cell? ⟨pb, i, none⟩ = some (.int .u8 (g i))) :
    (Builtin.copy_ #[39, 39] ty #[.slice (some ⟨b, 8 * k, none⟩) (200 - 8 * k) (200 - 8 * k), .slice (some ⟨pb, 0, none⟩) 8 8]).run Tryd.prog W = .ok (.int .i64 8) (W.setCells b (8 * k) (bl 8 g)) := by
  have h := run_copy_cells (P := Tryd.prog) W 39 39 ty 5 b (8 * k) (200 - 8 * k) (200 - 8 * k) ⟨pb, 0, none⟩ 8 8 (bl 8 g) Tryd.underlying39 (by kernel_rfl) (by rw [bl_length]; exact (Nat.min_eq_left (by omega)).symm)
    (fun j v hj => by obtain ⟨hj1, rfl⟩ := bl_get_inv _ _ _ _ hj; rw [By.add_plain, Nat.zero_add]; exact hs j hj1)
    (fun j hj => (hb.there (8 * k) 8 (by omega) j (by rwa [bl_length] at hj)).1) (fun j hj => hb.frozen _) (bl_one 8 g)
  rw [bl_length] at h
  exact h
set_option maxRecDepth 4000 in
theorem slice8 (W : World) (b k : Nat) (hk : k < 25) : (Instr.sliceAt 69 (.pointer (some ⟨b, 0, none⟩)) (some (.int .i64 (8 * (k : Int)))) none none).run Tryd.prog W = .ok (.slice (some ⟨b, 8 * k, none⟩) (200 - 8 * k) (200 - 8 * k)) W := by
  have hl : Tryd.prog.arrayLen 69 = 200 := by kernel_rfl
  have hs : (sizeOf (Tryd.prog.elem 69)).run Tryd.prog W = .ok 1 W := by kernel_rfl
  have h := run_sliceAt_array_l (P := Tryd.prog) W 69 ⟨b, 0, none⟩ Tryd.underlying69 .i64 (8 * (k : Int)) (by omega) (by rw [hl]; omega)
  rw [h, hs, hl, Result.andThen_ok, slicedAt, if_neg (by omega), By.add_plain]
  simp only [Result.ok.injEq, Value.slice.injEq, Option.some.injEq, Addr.mk.injEq, and_true, true_and]
  omega
set_option maxRecDepth 4000 in
set_option maxHeartbeats 2000000 in
theorem bytes1 (a : Nat → Int) (ha : AW a) (w : World) :
    Calls Tryd.prog 64 #[.agg (wl 25 a).toArray] w fun e w' => e = .returned (.agg (bl 200 (bf a)).toArray) ∧ Below w.heap.size w w' := by
  have HA := hid ha
  clear ha
  go_enter Tryd.func64, Tryd.ntmps64
  go_wp2_with fail
  go_loopw [5] (fun i wr => ∃ k : Nat, k ≤ 25 ∧ i = .int .i64 k ∧ Blk wr w.heap.size (wl 25 a) 103 ∧ Blk wr (w.heap.size + 1) (bl 200 (fun _ => 0)) 69 ∧ Blk wr (w.heap.size + 1 + 1) (bl 200 (bk a k)) 69 ∧ Below w.heap.size w wr) (fun i _ => 25 - (intOf i).toNat)
  case atStart =>
    refine ⟨0, Nat.zero_le _, rfl, ((Blk.new w _ _).alloc _).alloc _, (Blk.newAt _ _ _ _ _ (by rw [size_alloc]) rfl).alloc _, Blk.newAt _ _ _ _ _ (by rw [size_alloc, size_alloc]) (by rw [← bk_zero]; rfl), ?_⟩
    exact below_next (below_next (below_alloc w _) (below_alloc _ _)) (below_alloc _ _)
  case round =>
    obtain ⟨k, hk, rfl, b0, b1, b2, hbel⟩ := hrel
    have B0 := hid b0
    have B1 := hid b1
    have B2 := hid b2
    have HB := hid hbel
    have HZ := hid b2.lt
    clear b0 b1 b2 hbel
    by_cases hlt : k < 25
    · have c0 := B0.out.cell k _ (wl_get 25 a k hlt)
      have HX := hid (HA.out k)
      have i0 : (k : Int) < 25 := by omega
      have i1 : 8 * (k : Int) ≤ 200 := by omega
      have w8 : IntKind.i64.wrap (8 * (k : Int)) = 8 * (k : Int) := by rw [IntKind.wrap_i64]; omega
      obtain ⟨x, ex⟩ : ∃ z, a k = z := ⟨_, rfl⟩
      rw [ex] at c0 HX
      have EX := hid ex
      clear ex
      have NB := hid (B2.out.alloc (.cells #[.int .u8 (x % 256), .int .u8 (x / 256 % 256), .int .u8 (x / 65536 % 256), .int .u8 (x / 16777216 % 256), .int .u8 (x / 4294967296 % 256), .int .u8 (x / 1099511627776 % 256), .int .u8 (x / 281474976710656 % 256), .int .u8 (x / 72057594037927936)] 5))
      have NC : Hid (∀ i, i < 8 → (wr.alloc (.cells #[.int .u8 (x % 256), .int .u8 (x / 256 % 256), .int .u8 (x / 65536 % 256), .int .u8 (x / 16777216 % 256), .int .u8 (x / 4294967296 % 256), .int .u8 (x / 1099511627776 % 256), .int .u8 (x / 281474976710656 % 256), .int .u8 (x / 72057594037927936)] 5)).cell? ⟨wr.heap.size, i, none⟩ = some (.int .u8 (leByte x i))) := fun i hi => by
        refine (Blk.newAt wr _ (bl 8 (leByte x)) 5 wr.heap.size rfl ?_).cell i _ (bl_get 8 _ i hi)
        have e0 : x / 72057594037927936 = x / 72057594037927936 % 256 := by have := HX.out.1; have := HX.out.2; omega
        rw [bl8, e0]
        simp [leByte]
      have hcp := fun ty => copy8 (wr.alloc (.cells #[.int .u8 (x % 256), .int .u8 (x / 256 % 256), .int .u8 (x / 65536 % 256), .int .u8 (x / 16777216 % 256), .int .u8 (x / 4294967296 % 256), .int .u8 (x / 1099511627776 % 256), .int .u8 (x / 281474976710656 % 256), .int .u8 (x / 72057594037927936)] 5)).drew (w.heap.size + 1 + 1) k wr.heap.size ty _ (leByte x) (NB.out.drewN 1) (bl_length _ _) hlt (fun i hi => NC.out i hi)
      have hcp2 := fun ty => copy8 (wr.drew.alloc (.cells #[.int .u8 (x % 256), .int .u8 (x / 256 % 256), .int .u8 (x / 65536 % 256), .int .u8 (x / 16777216 % 256), .int .u8 (x / 4294967296 % 256), .int .u8 (x / 1099511627776 % 256), .int .u8 (x / 281474976710656 % 256), .int .u8 (x / 72057594037927936)] 5)) (w.heap.size + 1 + 1) k wr.heap.size ty _ (leByte x) (NB.out.drewN 1) (bl_length _ _) hlt (fun i hi => NC.out i hi)
      have hsl := fun W => slice8 W (w.heap.size + 1 + 1) k hlt
      go_wp2_with fail
      go_region_with (first | (go_at_call 71; refine (layLE64_go x _ HX.out.1 HX.out.2).mono ?_; rintro e w' ⟨rfl, rfl⟩))
      go_wp2_with fail
      have hz := HZ.out
      refine ⟨⟨k + 1, by omega, by go_num, ((B0.out.alloc _).drewN 1).kept (Kp.setCells _ _ _) (by omega), ((B1.out.alloc _).drewN 1).kept (Kp.setCells _ _ _) (by omega), ?_, below_cells (below_drew' (below_next HB.out (below_alloc wr _)) 1) _ _ _ (by omega) (by show w.heap.size ≤ (wr.alloc _).heap.size; rw [size_alloc]; omega)⟩, by simp [intOf]; omega⟩
      rw [← bk_next a k hlt, EX.out]
      exact (NB.out.drewN 1).put _ _
    · have ek : k = 25 := by omega
      subst ek
      rw [bk_end] at B2
      have l1 := LDb_run (B2.out.range 0 _ (fun j v h => by rw [Nat.zero_add]; exact h)) (bl_length _ _)
      have s1 := SVb_run (cs := bl 200 (bf a)) (B1.out.there 0 200 (by rw [bl_length]; omega)) (bl_length _ _) (bl_one _ _)
      have b3 := B1.out.put 0 (bl 200 (bf a))
      rw [put_all _ _ (by rw [bl_length, bl_length])] at b3
      have l2 := hid (LDb_run (b3.range 0 _ (fun j v h => by rw [Nat.zero_add]; exact h)) (bl_length _ _))
      clear b3
      go_wp2
      have hz := HZ.out
      refine bodyPost_ret (v := .agg (bl 200 (bf a)).toArray) ?_ rfl ⟨rfl, below_cells HB.out _ _ _ (by omega) (by omega)⟩
      exact results_cell1 Tryd.results64 rfl l2.out
end Go.Proofs.YtidejhkajabdfaaDoor.Kc
