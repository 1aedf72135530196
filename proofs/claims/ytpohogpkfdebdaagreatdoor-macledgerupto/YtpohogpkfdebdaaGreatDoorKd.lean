/- A ledger that is handed in, or none: what Note makes of it, told by the blocks that it may turn. What the program's functions From and Bytes answer. A sponge of the program: its cells; what New, isNone, Rate, Shut, Clone answer. -/
import Derived.Test.YtpohogpkfdebdaaGreatDoorZr
import Derived.Test.YtpohogpkfdebdaaGreatDoorKa
import Derived.Test.YtpohogpkfdebdaaGreatDoorKb
import Derived.Laws.IdiomCopy
import Derived.Deep.RegionWith
import Derived.Laws.Cover3
namespace Go.Proofs.YtpohogpkfdebdaaGreatDoor.Kc
open Go.ChangeShapes Go.WideShapes Go.ChangeAt Go.RowKit
open Go.Proofs.YtpohogpkfdebdaaGreatDoor.By Go.Proofs.YtpohogpkfdebdaaGreatDoor.Wd

/-- A ledger's pointer. -/
def lpv : Option Nat → Value
  | none => .pointer none
  | some b => .pointer (some ⟨b, 0, none⟩)
/-- The ledger (if there is one) has L; of the blocks that were there in w0 it has only such as S names. -/
def LG (S : Nat → Prop) (w0 w : World) (lo : Option Nat) (L : List Rn) : Prop :=
  match lo with
  | none => True
  | some lb => S lb ∧ ∃ rv, Led w lb rv L ∧ ∀ g, rv.ownBlock = some g → g < w0.heap.size → S g
theorem own_type {w : World} {base : Nat} {v : Value} {L : List Rn} (h : Own w base v L) {g : Nat} (hg : v.ownBlock = some g) : ∃ cs, w.heap[g]? = some (.cells cs 78 (0, 0)) := by
  obtain ⟨_, _, h | ⟨g', cap, cur, rfl, _, hc, _⟩⟩ := h
  · obtain ⟨rfl, _⟩ := h; simp [Value.ownBlock] at hg
  · simp [Value.ownBlock] at hg; subst hg; exact ⟨cur, hc⟩
theorem led_apart {w : World} {lb : Nat} {rv : Value} {L : List Rn} (h : Led w lb rv L) {g : Nat} {cs : List Value} {t : TypeId} (hg : Blk w g cs t) (h1 : t ≠ 89) (h2 : t ≠ 78) : ¬ (g = lb ∨ rv.ownBlock = some g) := by
  rintro (e | e)
  · subst e
    have := Option.some.inj (hg.symm.trans h.here)
    simp only [Obj.cells.injEq] at this
    exact h1 this.2.1
  · obtain ⟨c, hc⟩ := own_type h.own e
    have := Option.some.inj (hg.symm.trans hc)
    simp only [Obj.cells.injEq] at this
    exact h2 this.2.1
/-- Blocks that are no ledger's stay. -/
def Kt (w w' : World) : Prop := ∀ g cs t, Blk w g cs t → t ≠ 89 → t ≠ 78 → Blk w' g cs t
theorem LG.kept {S : Nat → Prop} {w0 w w' : World} {lo : Option Nat} {L : List Rn} {T : Nat → Prop} (h : LG S w0 w lo L) (hk : Kp T w w') (hT : ∀ g, T g → ∃ cs t, Blk w g cs t ∧ t ≠ 89 ∧ t ≠ 78) : LG S w0 w' lo L := by
  cases lo with
  | none => exact trivial
  | some lb =>
    obtain ⟨hs, rv, hl, ho⟩ := h
    refine ⟨hs, rv, hl.kept hk (fun e => ?_) (fun g hg e => ?_), ho⟩
    · obtain ⟨cs, t, hb, h1, h2⟩ := hT _ e
      exact led_apart hl hb h1 h2 (.inl rfl)
    · obtain ⟨cs, t, hb, h1, h2⟩ := hT _ e
      exact led_apart hl hb h1 h2 (.inr hg)
theorem LG.below {S : Nat → Prop} {w0 w w' : World} {lo : Option Nat} {L : List Rn} (h : LG S w0 w lo L) (hb : Below w.heap.size w w') : LG S w0 w' lo L := h.kept (Kp.of_below (fun _ => False) hb) (fun _ e => e.elim)
/-- Room for one event more. -/
def Room (L : List Rn) : Prop := tot L ≤ 4611686018427387904 ∧ L.length ≤ 100000000
/-- Room for many. -/
def Big (L : List Rn) : Prop := tot L ≤ 2305843009213693952 ∧ L.length ≤ 10000000
theorem room_len {L : List Rn} (hr : Room L) : (L.length + 1) * 24 ≤ 140737488355328 := by
  have := hr.2; omega
theorem note_lg (S : Nat → Prop) (w0 w : World) (lo : Option Nat) (L : List Rn) (k s : Int) (hk : 0 ≤ k ∧ k < 256) (hs : 0 ≤ s ∧ s ≤ 1000) (h : LG S w0 w lo L) (h0 : Kp S w0 w) (hr : Room L) :
    Calls Tryz.prog 121 #[lpv lo, .agg #[.int .u8 k, .int .i64 s]] w fun e w' => e = .returned (.tuple #[]) ∧ LG S w0 w' lo (putL L ⟨k, s, 1⟩) ∧ Kp S w0 w' ∧ Kt w w' := by
  cases lo with
  | none =>
    refine (note16n k s w).mono ?_
    rintro e w' ⟨rfl, hb⟩
    exact ⟨rfl, trivial, h0.trans (Kp.of_below S hb) (fun _ _ e => e), fun g cs t hg _ _ => hg.below hb⟩
  | some lb =>
    obtain ⟨hs1, rv, hl, ho⟩ := h
    have hrl := room_len hr
    have hrt := hr.1
    refine (note16 lb rv L k s w hl ⟨hk, ⟨by show -9223372036854775808 ≤ s; omega, by show s ≤ 9223372036854775807; omega⟩, by show -9223372036854775808 ≤ (1 : Int) ∧ (1 : Int) ≤ 9223372036854775807; omega⟩ (by omega) hrl).mono ?_
    rintro e w' ⟨rfl, rv', hl', hkp, hsn⟩
    refine ⟨rfl, ⟨hs1, rv', hl', fun g hg hlt => ?_⟩, h0.trans hkp ?_, fun g cs t hg h1 h2 => hg.kept hkp (led_apart hl hg h1 h2)⟩
    · rcases hsn with e | e
      · exact ho g (by rw [← e]; exact hg) hlt
      · have := e g hg; have := h0.size; omega
    · rintro i hi (rfl | e)
      · exact hs1
      · exact ho i e hi
theorem putL_tot {L : List Rn} {r : Rn} (h : Pos L) (hr : r.c = 1) (hb : tot L ≤ 9000000000000000000) : tot (putL L r) = tot L + 1 := by
  rw [tot_put h (by omega) (by omega), hr]
end Go.Proofs.YtpohogpkfdebdaaGreatDoor.Kc
namespace Go.Proofs.YtpohogpkfdebdaaGreatDoor.Kc
open Go.ChangeShapes Go.WideShapes Go.ChangeAt Go.RowKit
open Go.Proofs.YtpohogpkfdebdaaGreatDoor.By Go.Proofs.YtpohogpkfdebdaaGreatDoor.Wd
/-- The first k lanes. -/
def ff (f : Nat → Int) (k j : Nat) : Int := if j < k then fl f j else 0
theorem ff_zero (f : Nat → Int) : wl 25 (fun _ => (0 : Int)) = wl 25 (ff f 0) := wl_congr 25 _ _ (fun j _ => by unfold ff; rw [if_neg (by omega)])
theorem ff_end (f : Nat → Int) : wl 25 (ff f 25) = wl 25 (fl f) := wl_congr 25 _ _ (fun j hj => by unfold ff; rw [if_pos hj])
theorem ff_next (f : Nat → Int) (k : Nat) : (wl 25 (ff f k)).set k (.int .u64 (fl f k)) = wl 25 (ff f (k + 1)) := by
  rw [wl_set]
  refine wl_congr 25 _ _ (fun j _ => ?_)
  unfold ff
  by_cases h : j = k
  · rw [if_pos h, if_pos (by omega), h]
  · rw [if_neg h]
    by_cases h2 : j < k
    · rw [if_pos h2, if_pos (by omega)]
    · rw [if_neg h2, if_neg (by omega)]
theorem fl_byt (f : Nat → Int) (k : Nat) (hk : k < 25) : By.LE (fun i => Byt f 200 (8 * (k : Int) + i)) 8 = fl f k := by
  unfold fl
  refine LE_congr _ _ 8 (fun i hi => ?_)
  rw [Byt_in f 200 _ (by omega) (by omega)]
  congr 1
set_option maxRecDepth 4000 in
set_option maxHeartbeats 2000000 in
theorem from1 (f : Nat → Int) (hf : BB f) (w : World) :
    Calls Tryz.prog 279 #[.agg (bl 200 f).toArray] w fun e w' => e = .returned (.agg (wl 25 (fl f)).toArray) ∧ Below w.heap.size w w' := by
  have HF := hid hf
  clear hf
  go_enter Tryz.func279, Tryz.ntmps279
  go_wp2_with fail
  go_loopw [5] (fun i wr => ∃ k : Nat, k ≤ 25 ∧ i = .int .i64 k ∧ Blk wr w.heap.size (bl 200 f) 167 ∧ Blk wr (w.heap.size + 1) (wl 25 (fun _ => 0)) 290 ∧ Blk wr (w.heap.size + 1 + 1) (wl 25 (ff f k)) 290 ∧ Below w.heap.size w wr) (fun i _ => 25 - (intOf i).toNat)
  case atStart =>
    refine ⟨0, Nat.zero_le _, rfl, ((Blk.new w _ _).alloc _).alloc _, (Blk.newAt _ _ _ _ _ (by rw [size_alloc]) y25).alloc _, Blk.newAt _ _ _ _ _ (by rw [size_alloc, size_alloc]) (by rw [← ff_zero]; exact y25), ?_⟩
    exact below_next (below_next (below_alloc w _) (below_alloc _ _)) (below_alloc _ _)
  case round =>
    obtain ⟨k, hk, rfl, b0, b1, b2, hbel⟩ := hrel
    have B0 := hid b0
    have B1 := hid b1
    have B2 := hid b2
    have HB := hid hbel
    have HZ := hid b2.lt
    clear b0 b1 b2 hbel
    by_cases hlt : k < 25
    · have HR := hid (rb_blk B0.out HF.out (by decide))
      have c2 := B2.out.cell k _ (wl_get 25 _ k hlt)
      have f2 := B2.out.frozen k
      have HN := hid (ff_next f k)
      have HE := hid (fl_byt f k hlt)
      go_wp2_with (go_at_call 294; refine (takeLE64 _ _ f _ _ HR.out (by omega) (by omega) (by omega)).mono ?_; rintro e w' ⟨rfl, rfl⟩)
      rw [HE.out]
      have hz := HZ.out
      refine ⟨⟨k + 1, by omega, by go_num, B0.out.other (by omega) _ _, B1.out.other (by omega) _ _, ?_, below_set HB.out _ _ _ (by omega) (by omega)⟩, by simp [intOf]; omega⟩
      rw [← HN.out]
      exact B2.out.set _ _
    · have ek : k = 25 := by omega
      subst ek
      rw [ff_end] at B2
      have l1 := LDk_run (B2.out.range 0 _ (fun j v h => by rw [Nat.zero_add]; exact h)) (wl_length _ _)
      have s1 := SVk_run (cs := wl 25 (fl f)) (B1.out.there 0 25 (by rw [wl_length]; omega)) (wl_length _ _) (wl_one _ _)
      have b3 := B1.out.put 0 (wl 25 (fl f))
      rw [put_all _ _ (by rw [wl_length, wl_length])] at b3
      have l2 := hid (LDk_run (b3.range 0 _ (fun j v h => by rw [Nat.zero_add]; exact h)) (wl_length _ _))
      clear b3
      go_wp2
      have hz := HZ.out
      refine bodyPost_ret (v := .agg (wl 25 (fl f)).toArray) ?_ rfl ⟨rfl, below_cells HB.out _ _ _ (by omega) (by omega)⟩
      exact results_cell1 Tryz.results279 rfl l2.out
/-- The bytes of the first k lanes. -/
def bk (a : Nat → Int) (k i : Nat) : Int := if i < 8 * k then bf a i else 0
theorem bk_zero (a : Nat → Int) : bl 200 (fun _ => (0 : Int)) = bl 200 (bk a 0) := bl_congr 200 _ _ (fun i _ => by unfold bk; rw [if_neg (by omega)])
theorem bk_end (a : Nat → Int) : bl 200 (bk a 25) = bl 200 (bf a) := bl_congr 200 _ _ (fun i hi => by unfold bk; rw [if_pos (by omega)])
theorem bk_next (a : Nat → Int) (k : Nat) (hk : k < 25) : put (bl 200 (bk a k)) (8 * k) (bl 8 (leByte (a k))) = bl 200 (bk a (k + 1)) := by
  apply List.ext_getElem?
  intro i
  rw [put_get _ _ _ _ (by rw [bl_length, bl_length]; omega), bl_length]
  by_cases h : i < 200
  · rw [bl_get _ _ _ h, bl_get _ _ _ h]
    by_cases h2 : 8 * k ≤ i ∧ i < 8 * k + 8
    · rw [if_pos h2, bl_get _ _ _ (by omega)]
      unfold bk bf
      rw [if_pos (by omega), show i / 8 = k from by omega, show i % 8 = i - 8 * k from by omega]
    · rw [if_neg h2]
      unfold bk
      by_cases h3 : i < 8 * k
      · rw [if_pos h3, if_pos (by omega)]
      · rw [if_neg h3, if_neg (by omega)]
  · rw [if_neg (by omega), List.getElem?_eq_none (by rw [bl_length]; omega), List.getElem?_eq_none (by rw [bl_length]; omega)]
set_option maxRecDepth 4000 in
theorem copy8 (W : World) (b k pb : Nat) (ty : TypeId) (cells : List Value) (g : Nat → Int) (hb : Blk W b cells 167) (hl : cells.length = 200) (hk : k < 25) (hs : ∀ i, i < 8 → W.cell? ⟨pb, i, none⟩ = some (.int .u8 (g i))) :
    (Builtin.copy_ #[23, 23] ty #[.slice (some ⟨b, 8 * k, none⟩) (200 - 8 * k) (200 - 8 * k), .slice (some ⟨pb, 0, none⟩) 8 8]).run Tryz.prog W = .ok (.int .i64 8) (W.setCells b (8 * k) (bl 8 g)) := by
  have h := run_copy_cells (P := Tryz.prog) W 23 23 ty 5 b (8 * k) (200 - 8 * k) (200 - 8 * k) ⟨pb, 0, none⟩ 8 8 (bl 8 g) Tryz.underlying23 (by kernel_rfl) (by rw [bl_length]; exact (Nat.min_eq_left (by omega)).symm)
    (fun j v hj => by obtain ⟨hj1, rfl⟩ := bl_get_inv _ _ _ _ hj; rw [By.add_plain, Nat.zero_add]; exact hs j hj1)
    (fun j hj => (hb.there (8 * k) 8 (by omega) j (by rwa [bl_length] at hj)).1) (fun j hj => hb.frozen _) (bl_one 8 g)
  rw [bl_length] at h
  exact h
set_option maxRecDepth 4000 in
theorem slice8 (W : World) (b k : Nat) (hk : k < 25) : (Instr.sliceAt 167 (.pointer (some ⟨b, 0, none⟩)) (some (.int .i64 (8 * (k : Int)))) none none).run Tryz.prog W = .ok (.slice (some ⟨b, 8 * k, none⟩) (200 - 8 * k) (200 - 8 * k)) W := by
  have hl : Tryz.prog.arrayLen 167 = 200 := by kernel_rfl
  have hs : (sizeOf (Tryz.prog.elem 167)).run Tryz.prog W = .ok 1 W := by kernel_rfl
  have h := run_sliceAt_array_l (P := Tryz.prog) W 167 ⟨b, 0, none⟩ Tryz.underlying167 .i64 (8 * (k : Int)) (by omega) (by rw [hl]; omega)
  rw [h, hs, hl, Result.andThen_ok, slicedAt, if_neg (by omega), By.add_plain]
  simp only [Result.ok.injEq, Value.slice.injEq, Option.some.injEq, Addr.mk.injEq, and_true, true_and]
  omega
set_option maxRecDepth 4000 in
set_option maxHeartbeats 2000000 in
theorem bytes1 (a : Nat → Int) (ha : AW a) (w : World) :
    Calls Tryz.prog 277 #[.agg (wl 25 a).toArray] w fun e w' => e = .returned (.agg (bl 200 (bf a)).toArray) ∧ Below w.heap.size w w' := by
  have HA := hid ha
  clear ha
  go_enter Tryz.func277, Tryz.ntmps277
  go_wp2_with fail
  go_loopw [5] (fun i wr => ∃ k : Nat, k ≤ 25 ∧ i = .int .i64 k ∧ Blk wr w.heap.size (wl 25 a) 290 ∧ Blk wr (w.heap.size + 1) (bl 200 (fun _ => 0)) 167 ∧ Blk wr (w.heap.size + 1 + 1) (bl 200 (bk a k)) 167 ∧ Below w.heap.size w wr) (fun i _ => 25 - (intOf i).toNat)
  case atStart =>
    refine ⟨0, Nat.zero_le _, rfl, ((Blk.new w _ _).alloc _).alloc _, (Blk.newAt _ _ _ _ _ (by rw [size_alloc]) rfl).alloc _, Blk.newAt _ _ _ _ _ (by rw [size_alloc, size_alloc]) (by rw [← bk_zero]; rfl), ?_⟩
    exact below_next (below_next (below_alloc w _) (below_alloc _ _)) (below_alloc _ _)
  case round =>
    obtain ⟨k, hk, rfl, b0, b1, b2, hbel⟩ := hrel
    have B0 := hid b0
    have B1 := hid b1
    have B2 := hid b2
    have HB := hid hbel
    have HZ := hid b2.lt
    clear b0 b1 b2 hbel
    by_cases hlt : k < 25
    · have c0 := B0.out.cell k _ (wl_get 25 a k hlt)
      have HX := hid (HA.out k)
      have i0 : (k : Int) < 25 := by omega
      have i1 : 8 * (k : Int) ≤ 200 := by omega
      have w8 : IntKind.i64.wrap (8 * (k : Int)) = 8 * (k : Int) := by rw [IntKind.wrap_i64]; omega
      obtain ⟨x, ex⟩ : ∃ z, a k = z := ⟨_, rfl⟩
      rw [ex] at c0 HX
      have EX := hid ex
      clear ex
      have NB := hid (B2.out.alloc (.cells #[.int .u8 (x % 256), .int .u8 (x / 256 % 256), .int .u8 (x / 65536 % 256), .int .u8 (x / 16777216 % 256), .int .u8 (x / 4294967296 % 256), .int .u8 (x / 1099511627776 % 256), .int .u8 (x / 281474976710656 % 256), .int .u8 (x / 72057594037927936)] 5))
      have NC : Hid (∀ i, i < 8 → (wr.alloc (.cells #[.int .u8 (x % 256), .int .u8 (x / 256 % 256), .int .u8 (x / 65536 % 256), .int .u8 (x / 16777216 % 256), .int .u8 (x / 4294967296 % 256), .int .u8 (x / 1099511627776 % 256), .int .u8 (x / 281474976710656 % 256), .int .u8 (x / 72057594037927936)] 5)).cell? ⟨wr.heap.size, i, none⟩ = some (.int .u8 (leByte x i))) := fun i hi => by
        refine (Blk.newAt wr _ (bl 8 (leByte x)) 5 wr.heap.size rfl ?_).cell i _ (bl_get 8 _ i hi)
        have e0 : x / 72057594037927936 = x / 72057594037927936 % 256 := by have := HX.out.1; have := HX.out.2; omega
        rw [bl8, e0]
        simp [leByte]
      have hcp := fun ty => copy8 (wr.alloc (.cells #[.int .u8 (x % 256), .int .u8 (x / 256 % 256), .int .u8 (x / 65536 % 256), .int .u8 (x / 16777216 % 256), .int .u8 (x / 4294967296 % 256), .int .u8 (x / 1099511627776 % 256), .int .u8 (x / 281474976710656 % 256), .int .u8 (x / 72057594037927936)] 5)).drew (w.heap.size + 1 + 1) k wr.heap.size ty _ (leByte x) (NB.out.drewN 1) (bl_length _ _) hlt (fun i hi => NC.out i hi)
      have hcp2 := fun ty => copy8 (wr.drew.alloc (.cells #[.int .u8 (x % 256), .int .u8 (x / 256 % 256), .int .u8 (x / 65536 % 256), .int .u8 (x / 16777216 % 256), .int .u8 (x / 4294967296 % 256), .int .u8 (x / 1099511627776 % 256), .int .u8 (x / 281474976710656 % 256), .int .u8 (x / 72057594037927936)] 5)) (w.heap.size + 1 + 1) k wr.heap.size ty _ (leByte x) (NB.out.drewN 1) (bl_length _ _) hlt (fun i hi => NC.out i hi)
      have hsl := fun W => slice8 W (w.heap.size + 1 + 1) k hlt
      go_wp2_with fail
      go_region_with (first | (go_at_call 290; refine (layLE64_go x _ HX.out.1 HX.out.2).mono ?_; rintro e w' ⟨rfl, rfl⟩))
      go_wp2_with fail
      have hz := HZ.out
      refine ⟨⟨k + 1, by omega, by go_num, ((B0.out.alloc _).drewN 1).kept (Kp.setCells _ _ _) (by omega), ((B1.out.alloc _).drewN 1).kept (Kp.setCells _ _ _) (by omega), ?_, below_cells (below_drew' (below_next HB.out (below_alloc wr _)) 1) _ _ _ (by omega) (by show w.heap.size ≤ (wr.alloc _).heap.size; rw [size_alloc]; omega)⟩, by simp [intOf]; omega⟩
      rw [← bk_next a k hlt, EX.out]
      exact (NB.out.drewN 1).put _ _
    · have ek : k = 25 := by omega
      subst ek
      rw [bk_end] at B2
      have l1 := LDb_run (B2.out.range 0 _ (fun j v h => by rw [Nat.zero_add]; exact h)) (bl_length _ _)
      have s1 := SVb_run (cs := bl 200 (bf a)) (B1.out.there 0 200 (by rw [bl_length]; omega)) (bl_length _ _) (bl_one _ _)
      have b3 := B1.out.put 0 (bl 200 (bf a))
      rw [put_all _ _ (by rw [bl_length, bl_length])] at b3
      have l2 := hid (LDb_run (b3.range 0 _ (fun j v h => by rw [Nat.zero_add]; exact h)) (bl_length _ _))
      clear b3
      go_wp2
      have hz := HZ.out
      refine bodyPost_ret (v := .agg (bl 200 (bf a)).toArray) ?_ rfl ⟨rfl, below_cells HB.out _ _ _ (by omega) (by omega)⟩
      exact results_cell1 Tryz.results277 rfl l2.out
end Go.Proofs.YtpohogpkfdebdaaGreatDoor.Kc
namespace Go.Proofs.YtpohogpkfdebdaaGreatDoor.Kc
open Go.ChangeShapes Go.WideShapes Go.ChangeAt Go.RowKit
open Go.Proofs.YtpohogpkfdebdaaGreatDoor.By Go.Proofs.YtpohogpkfdebdaaGreatDoor.Wd
/-- A sponge's cells. -/
def spc (r : Int) (sf : Int) (f : Nat → Int) (p : Int) (sh : Bool) : List Value := .int .i64 r :: .int .u8 sf :: (bl 200 f ++ [.int .i64 p, .bool sh])
theorem spc_length (r sf : Int) (f : Nat → Int) (p : Int) (sh : Bool) : (spc r sf f p sh).length = 204 := by simp [spc, bl_length]
theorem spc_b (r sf : Int) (f : Nat → Int) (p : Int) (sh : Bool) (i : Nat) (v : Value) (hv : (bl 200 f)[i]? = some v) : (spc r sf f p sh)[2 + i]? = some v := by
  have hi : i < 200 := by have := (List.getElem?_eq_some_iff.1 hv).1; rwa [bl_length] at this
  show (Value.int .i64 r :: .int .u8 sf :: (bl 200 f ++ [.int .i64 p, .bool sh]))[2 + i]? = some v
  rw [show 2 + i = i + 1 + 1 from by omega, List.getElem?_cons_succ, List.getElem?_cons_succ, List.getElem?_append_left (by rw [bl_length]; exact hi)]; exact hv
theorem spc_at (r sf : Int) (f : Nat → Int) (p : Int) (sh : Bool) (i : Nat) (h : i < 200) : (spc r sf f p sh)[2 + i]? = some (.int .u8 (f i)) := spc_b _ _ _ _ _ _ _ (bl_get 200 f i h)
theorem spc_p (r sf : Int) (f : Nat → Int) (p : Int) (sh : Bool) : (spc r sf f p sh)[202]? = some (.int .i64 p) := by
  show (Value.int .i64 r :: .int .u8 sf :: (bl 200 f ++ [.int .i64 p, .bool sh]))[200 + 1 + 1]? = _
  rw [List.getElem?_cons_succ, List.getElem?_cons_succ, List.getElem?_append_right (by rw [bl_length]; omega), bl_length]; rfl
theorem spc_s (r sf : Int) (f : Nat → Int) (p : Int) (sh : Bool) : (spc r sf f p sh)[203]? = some (.bool sh) := by
  show (Value.int .i64 r :: .int .u8 sf :: (bl 200 f ++ [.int .i64 p, .bool sh]))[201 + 1 + 1]? = _
  rw [List.getElem?_cons_succ, List.getElem?_cons_succ, List.getElem?_append_right (by rw [bl_length]; omega), bl_length]; rfl
theorem spc_one (r sf : Int) (f : Nat → Int) (p : Int) (sh : Bool) : ∀ u ∈ spc r sf f p sh, u.oneCell' = true := by
  intro u hu
  simp only [spc, List.mem_cons, List.mem_append, List.not_mem_nil, or_false] at hu
  rcases hu with rfl | rfl | hu | rfl | rfl
  · rfl
  · rfl
  · exact bl_one _ _ u hu
  · rfl
  · rfl
theorem spc_ext (r sf : Int) (f : Nat → Int) (p : Int) (sh : Bool) (cs : List Value) (hl : cs.length = 204) (h0 : cs[0]? = some (.int .i64 r)) (h1 : cs[1]? = some (.int .u8 sf)) (hb : ∀ i, i < 200 → cs[2 + i]? = some (.int .u8 (f i))) (hp : cs[202]? = some (.int .i64 p)) (hs : cs[203]? = some (.bool sh)) : cs = spc r sf f p sh := by
  apply List.ext_getElem?
  intro i
  by_cases h : i < 204
  · by_cases e0 : i = 0
    · subst e0; rw [h0]; rfl
    · by_cases e1 : i = 1
      · subst e1; rw [h1]; rfl
      · by_cases e2 : i < 202
        · have := hb (i - 2) (by omega)
          have h2 := spc_at r sf f p sh (i - 2) (by omega)
          rw [show 2 + (i - 2) = i from by omega] at this h2
          rw [this, h2]
        · by_cases e3 : i = 202
          · subst e3; rw [hp, spc_p]
          · obtain rfl : i = 203 := by omega
            rw [hs, spc_s]
  · rw [List.getElem?_eq_none (by omega), List.getElem?_eq_none (by rw [spc_length]; omega)]
theorem spc_setp (r sf : Int) (f : Nat → Int) (p p' : Int) (sh : Bool) : (spc r sf f p sh).set 202 (.int .i64 p') = spc r sf f p' sh := by
  refine spc_ext _ _ _ _ _ _ (by simp [spc_length]) ?_ ?_ (fun i hi => ?_) ?_ ?_ <;> rw [List.getElem?_set]
  · rw [if_neg (by omega)]; rfl
  · rw [if_neg (by omega)]; rfl
  · rw [if_neg (by omega)]; exact spc_at _ _ _ _ _ _ hi
  · rw [if_pos rfl, if_pos (by rw [spc_length]; omega)]
  · rw [if_neg (by omega)]; exact spc_s _ _ _ _ _
theorem spc_sets (r sf : Int) (f : Nat → Int) (p : Int) (sh sh' : Bool) : (spc r sf f p sh).set 203 (.bool sh') = spc r sf f p sh' := by
  refine spc_ext _ _ _ _ _ _ (by simp [spc_length]) ?_ ?_ (fun i hi => ?_) ?_ ?_ <;> rw [List.getElem?_set]
  · rw [if_neg (by omega)]; rfl
  · rw [if_neg (by omega)]; rfl
  · rw [if_neg (by omega)]; exact spc_at _ _ _ _ _ _ hi
  · rw [if_neg (by omega)]; exact spc_p _ _ _ _ _
  · rw [if_pos rfl, if_pos (by rw [spc_length]; omega)]
theorem spc_setb (r sf : Int) (f : Nat → Int) (p : Int) (sh : Bool) (i : Nat) (x : Int) (h : i < 200) : (spc r sf f p sh).set (2 + i) (.int .u8 x) = spc r sf (fun j => if j = i then x else f j) p sh := by
  refine spc_ext _ _ _ _ _ _ (by simp [spc_length]) ?_ ?_ (fun j hj => ?_) ?_ ?_ <;> rw [List.getElem?_set]
  · rw [if_neg (by omega)]; rfl
  · rw [if_neg (by omega)]; rfl
  · by_cases e : j = i
    · subst e; rw [if_pos rfl, if_pos (by rw [spc_length]; omega), if_pos rfl]
    · rw [if_neg (by omega), if_neg e]; exact spc_at _ _ _ _ _ _ hj
  · rw [if_neg (by omega)]; exact spc_p _ _ _ _ _
  · rw [if_neg (by omega)]; exact spc_s _ _ _ _ _
theorem spc_put (r sf : Int) (f g : Nat → Int) (p : Int) (sh : Bool) : put (spc r sf f p sh) 2 (bl 200 g) = spc r sf g p sh := by
  refine spc_ext _ _ _ _ _ _ (by rw [put_length, spc_length]) ?_ ?_ (fun i hi => ?_) ?_ ?_ <;> rw [put_get _ _ _ _ (by rw [spc_length, bl_length]; omega), bl_length]
  · rw [if_neg (by omega)]; rfl
  · rw [if_neg (by omega)]; rfl
  · rw [if_pos (by omega), show 2 + i - 2 = i from by omega]; exact bl_get 200 g i hi
  · rw [if_neg (by omega)]; exact spc_p _ _ _ _ _
  · rw [if_neg (by omega)]; exact spc_s _ _ _ _ _
/-- The sponge in block b. -/
structure Sp (w : World) (b r : Nat) (sf : Int) (z : Z) (sh : Bool) : Prop where
  here : Blk w b (spc r sf z.f z.p sh) 241
  ok : z.Ok r sh
  lo : 8 ≤ r
  hi : r ≤ 192
  sf : 0 ≤ sf ∧ sf < 256
/-- What is in block b is no sponge. -/
def NoSp (w : World) (b : Nat) : Prop := ∃ cs, Blk w b (.int .i64 0 :: cs) 241
section
variable {w w' : World} {b r : Nat} {sf : Int} {z : Z} {sh : Bool}
theorem Sp.kept {S : Nat → Prop} (h : Sp w b r sf z sh) (hk : Kp S w w') (hn : ¬ S b) : Sp w' b r sf z sh := ⟨h.here.kept hk hn, h.ok, h.lo, h.hi, h.sf⟩
theorem Sp.below (h : Sp w b r sf z sh) (hb : Below w.heap.size w w') : Sp w' b r sf z sh := ⟨h.here.below hb, h.ok, h.lo, h.hi, h.sf⟩
theorem Sp.c0 (h : Sp w b r sf z sh) : w.cell? ⟨b, 0, none⟩ = some (.int .i64 r) := h.here.cell 0 _ rfl
theorem Sp.c1 (h : Sp w b r sf z sh) : w.cell? ⟨b, 1, none⟩ = some (.int .u8 sf) := h.here.cell 1 _ rfl
theorem Sp.cp (h : Sp w b r sf z sh) : w.cell? ⟨b, 202, none⟩ = some (.int .i64 z.p) := h.here.cell 202 _ (spc_p _ _ _ _ _)
theorem Sp.cs (h : Sp w b r sf z sh) : w.cell? ⟨b, 203, none⟩ = some (.bool sh) := h.here.cell 203 _ (spc_s _ _ _ _ _)
theorem NoSp.c0 (h : NoSp w b) : w.cell? ⟨b, 0, none⟩ = some (.int .i64 0) := by
  obtain ⟨cs, h⟩ := h; exact h.cell 0 _ rfl
end
theorem isNone_sp (b : Nat) (w : World) (r : Nat) (h : w.cell? ⟨b, 0, none⟩ = some (.int .i64 r)) (hr : 8 ≤ r) : Calls Tryz.prog 213 #[.pointer (some ⟨b, 0, none⟩)] w fun e w' => e = .returned (.bool false) ∧ w' = w := by
  have e : ((r : Int) == 0) = false := by rw [beq_eq_false_iff_ne]; omega
  have e2 : ¬ (r : Int) = 0 := by omega
  have e3 : ¬ r = 0 := by omega
  go_enter Tryz.func213, Tryz.ntmps213
  go_wp2
  go_ret
  exact ⟨rfl, rfl⟩
theorem isNone_nil (w : World) : Calls Tryz.prog 213 #[.pointer none] w fun e w' => e = .returned (.bool true) ∧ w' = w := by
  go_enter Tryz.func213, Tryz.ntmps213
  go_wp2
  go_ret
  exact ⟨rfl, rfl⟩
set_option maxRecDepth 4000 in
theorem zero_sp : Tryz.zeroCells241 = (spc 0 0 (fun _ => 0) 0 false).toArray := by kernel_rfl
theorem newA (r sf : Int) : (Tryz.zeroCells241.setIfInBounds 0 (Value.int IntKind.i64 r)).setIfInBounds 1 (Value.int IntKind.u8 sf) = (spc r sf (fun _ => 0) 0 false).toArray := by
  rw [zero_sp]
  simp only [List.setIfInBounds_toArray]
  rfl
set_option maxRecDepth 4000 in
set_option maxHeartbeats 2000000 in
theorem newOk (r : Nat) (sf : Int) (w : World) (h1 : 8 ≤ r) (h2 : r ≤ 192) (h3 : r % 8 = 0) (hs : 0 ≤ sf ∧ sf < 256) : Calls Tryz.prog 209 #[.int .i64 r, .int .u8 sf] w fun e w' => e = .returned (.tuple #[.pointer (some ⟨w.heap.size, 0, none⟩), .int .i64 0]) ∧ Sp w' w.heap.size r sf ⟨fun _ => 0, 0, 0⟩ false ∧ Below w.heap.size w w' := by
  have e1 : ¬ (r : Int) < 8 := by omega
  have e2 : ¬ (192 : Int) < r := by omega
  have e3 : (r : Int).tmod 8 = 0 := by rw [Int.tmod_eq_emod_of_nonneg (by omega)]; omega
  have HS := hid hs
  clear hs
  go_enter Tryz.func209, Tryz.ntmps209
  go_wp2
  go_ret2
  exact ⟨rfl, ⟨Blk.newAt _ _ _ _ _ rfl (by rw [newA]; rfl), ⟨fun _ => by show (0 : Int) ≤ 0 ∧ (0 : Int) < 256; decide, Nat.zero_le _, fun _ => by show 0 < r; omega⟩, h1, h2, HS.out⟩, below_alloc _ _⟩
theorem rate_sp (b r : Nat) (sf : Int) (z : Z) (sh : Bool) (w : World) (h : Sp w b r sf z sh) : Calls Tryz.prog 161 #[.pointer (some ⟨b, 0, none⟩)] w fun e w' => e = .returned (.int .i64 r) ∧ w' = w := by
  have h0 := h.c0
  have HR := hid h.lo
  clear h
  go_enter Tryz.func161, Tryz.ntmps161
  go_wp2_with (go_at_call 213; refine (isNone_sp _ _ r h0 HR.out).mono ?_; rintro e w ⟨rfl, rfl⟩)
  go_ret
  exact ⟨rfl, rfl⟩
theorem rate_nil (w : World) : Calls Tryz.prog 161 #[.pointer none] w fun e w' => e = .returned (.int .i64 0) ∧ w' = w := by
  go_enter Tryz.func161, Tryz.ntmps161
  go_wp2_with (go_at_call 213; refine (isNone_nil _).mono ?_; rintro e w ⟨rfl, rfl⟩)
  go_ret
  exact ⟨rfl, rfl⟩
end Go.Proofs.YtpohogpkfdebdaaGreatDoor.Kc
