/- The program's 'multiplied': each column times the rows that begin with one. The program's Xor of two lists of four bytes; a piece put through a box on the spot. A cipher's cells; a round key added to a block. The document's 'Boxes': all inverses looked for, then the S-box bit by bit. The document's steps on a block: its rows turned, its columns mixed, a round key added, bytes put through the box. -/
import Derived.Test.YtpohogpkfdebdaaGreatDoorYf
import Derived.Test.YtpohogpkfdebdaaGreatDoorYb
import Derived.Deep.RegionLaw
import Derived.Deep.DeepMust
import Derived.Test.YtpohogpkfdebdaaGreatDoorZa
namespace Go.Proofs.YtpohogpkfdebdaaGreatDoor.Ae
open Go.ChangeShapes Go.WideShapes Go.ChangeAt Go.RowKit
open Go.Proofs.YtpohogpkfdebdaaGreatDoor.By Go.Proofs.YtpohogpkfdebdaaGreatDoor.Gf
theorem below_dr {B : Nat} {a w : World} (h : Below B a w) : Below B a w.drew := ⟨h.os, h.tape, h.output, h.size, h.block⟩
theorem quo4 (k : Nat) : (k : Int).tdiv 4 = ((k / 4 : Nat) : Int) := by
  rw [Int.tdiv_eq_ediv_of_nonneg (by omega)]; omega
theorem rem4 (k : Nat) : (k : Int).tmod 4 = ((k % 4 : Nat) : Int) := by
  rw [Int.tmod_eq_emod_of_nonneg (by omega)]; omega
set_option maxRecDepth 4000 in
theorem slice4 (W : World) (b c : Nat) (hc : c ≤ 3) : (Instr.sliceAt 175 (.pointer (some ⟨b, 0, none⟩)) (some (.int .i64 (4 * (c : Int)))) (some (.int .i64 (4 * ((c : Int) + 1)))) none).run Tryz.prog W = .ok (.slice (some ⟨b, 4 * c, none⟩) 4 (16 - 4 * c)) W := by
  have hl : Tryz.prog.arrayLen 175 = 16 := by kernel_rfl
  have hs : (sizeOf (Tryz.prog.elem 175)).run Tryz.prog W = .ok 1 W := by kernel_rfl
  have h := run_sliceAt_array_lh (P := Tryz.prog) W 175 ⟨b, 0, none⟩ Tryz.underlying175 .i64 .i64 (4 * (c : Int)) (4 * ((c : Int) + 1)) (by omega) (by omega) (by rw [hl]; omega)
  rw [h, hs, hl, Result.andThen_ok, slicedAt, if_neg (by omega), By.add_plain]
  simp only [Result.ok.injEq, Value.slice.injEq, Option.some.injEq, Addr.mk.injEq, and_true, true_and]
  omega
/-- The sum of the first j products. -/
def p4 (v a : Nat → Nat) : Nat → Nat
  | 0 => 0
  | j + 1 => p4 v a j ^^^ mul (v j) (a j)
theorem p4_lt (v a : Nat → Nat) (j : Nat) : p4 v a j < 256 := by
  induction j with
  | zero => exact Nat.zero_lt_succ _
  | succ j ih => exact xor_lt _ _ ih (mul_lt _ _)
theorem p4_all (v a : Nat → Nat) : p4 v a 4 = L4 v a := by
  show 0 ^^^ mul (v 0) (a 0) ^^^ mul (v 1) (a 1) ^^^ mul (v 2) (a 2) ^^^ mul (v 3) (a 3) = _
  rw [Nat.zero_xor]; rfl
def mrow (m : Nat → Nat) (r j : Nat) : Nat := m ((j + 4 - r) % 4)
def mcol (b : Nat → Nat) (c j : Nat) : Nat := b (4 * c + j)
theorem mix_p4 (m b : Nat → Nat) (k : Nat) : mix m b k = p4 (mrow m (k % 4)) (mcol b (k / 4)) 4 := (p4_all _ _).symm
/-- Bytes ahead of k are there, byte k is on its way. -/
def part (m b : Nat → Nat) (k x i : Nat) : Nat := if i < k then mix m b i else if i = k then x else 0
theorem part_zero (m b : Nat → Nat) (k : Nat) : bl 16 (cb (part m b k 0)) = bl 16 (cb (upto k (mix m b))) := bl_congr _ _ _ (fun i _ => by
  show ((part m b k 0 i : Nat) : Int) = ((upto k (mix m b) i : Nat) : Int)
  unfold part upto
  split
  · rfl
  · split <;> rfl)
theorem part_all (m b : Nat → Nat) (k : Nat) : bl 16 (cb (part m b k (mix m b k))) = bl 16 (cb (upto (k + 1) (mix m b))) := bl_congr _ _ _ (fun i _ => by
  show ((part m b k (mix m b k) i : Nat) : Int) = ((upto (k + 1) (mix m b) i : Nat) : Int)
  unfold part upto
  by_cases h : i < k
  · rw [if_pos h, if_pos (by omega)]
  · by_cases e : i = k
    · subst e; rw [if_neg h, if_pos rfl, if_pos (by omega)]
    · rw [if_neg h, if_neg e, if_neg (by omega)])
theorem part_at (m b : Nat → Nat) (k x : Nat) : part m b k x k = x := by unfold part; rw [if_neg (by omega), if_pos rfl]
theorem part_set (m b : Nat → Nat) (k x y : Nat) : (bl 16 (cb (part m b k x))).set k (.int .u8 (y : Int)) = bl 16 (cb (part m b k y)) := by
  rw [bl_set]
  refine bl_congr _ _ _ (fun i _ => ?_)
  show (if i = k then (y : Int) else ((part m b k x i : Nat) : Int)) = ((part m b k y i : Nat) : Int)
  unfold part
  by_cases e : i = k
  · subst e; rw [if_pos rfl, if_neg (by omega), if_pos rfl]
  · rw [if_neg e, if_neg e, if_neg e]
set_option maxRecDepth 8000 in
set_option maxHeartbeats 4000000 in
theorem mult1 (m b : Nat → Nat) (hm : ∀ i, m i < 256) (hb : B16 b) (w : World) : Calls Tryz.prog 201 #[bv b, .agg (bl 4 (cb m)).toArray] w fun e w' => e = .returned (bv (mix m b)) ∧ Below w.heap.size w w' := by
  unfold bv
  have HM := hid hm
  have HBB := hid hb
  clear hm hb
  go_enter Tryz.func201, Tryz.ntmps201
  go_wp2_with fail
  go_loopw [11] (fun i wr => ∃ k : Nat, k ≤ 16 ∧ i = .int .i64 k ∧ Blk wr w.heap.size (bl 16 (cb b)) 175 ∧ Blk wr (w.heap.size + 1) (bl 4 (cb m)) 222 ∧ Blk wr (w.heap.size + 1 + 1) (bl 16 (cb (upto 0 b))) 175 ∧ Blk wr (w.heap.size + 1 + 1 + 1) (bl 16 (cb (upto k (mix m b)))) 175 ∧ Below w.heap.size w wr) (fun i _ => 16 - (intOf i).toNat)
  case atStart =>
    exact ⟨0, Nat.zero_le _, rfl, (((Blk.newAt _ _ _ _ _ rfl rfl).alloc _).alloc _).alloc _, ((Blk.newAt _ _ _ _ _ (by simp) rfl).alloc _).alloc _, (Blk.newAt _ _ _ _ _ (by simp) (zero16 b)).alloc _, Blk.newAt _ _ _ _ _ (by simp) (zero16 _), (below3 _ _ _ _).alloc (by simp; omega) _⟩
  case round =>
    obtain ⟨k, hk, rfl, b0, b1, b2, b3, hbel⟩ := hrel
    have B0 := hid b0
    have B1 := hid b1
    have B2 := hid b2
    have B3 := hid b3
    have HB := hid hbel
    have HZ := hid b3.lt
    clear b0 b1 b2 b3 hbel
    by_cases hlt : k < 16
    · have e1 := quo4 k
      have e2 := rem4 k
      obtain ⟨C, hC⟩ : ∃ C, C = k / 4 := ⟨_, rfl⟩
      obtain ⟨R, hR⟩ : ∃ R, R = k % 4 := ⟨_, rfl⟩
      have hC3 : C ≤ 3 := by omega
      have hR3 : R ≤ 3 := by omega
      rw [← hC] at e1
      rw [← hR] at e2
      have KC := hid hC
      have KR := hid hR
      have hsl := fun W => slice4 W w.heap.size C hC3
      clear hC hR
      go_wp2_with fail
      rw [show decide ((k : Int) < 16) = true from decide_eq_true (by omega)]
      go_loopw [25] (fun i wr => ∃ j : Nat, j ≤ 4 ∧ i = .int .i64 j ∧ Blk wr w.heap.size (bl 16 (cb b)) 175 ∧ Blk wr (w.heap.size + 1) (bl 4 (cb m)) 222 ∧ Blk wr (w.heap.size + 1 + 1) (bl 16 (cb (upto 0 b))) 175 ∧ Blk wr (w.heap.size + 1 + 1 + 1) (bl 16 (cb (part m b k (p4 (mrow m R) (mcol b C) j)))) 175 ∧ Below w.heap.size w wr) (fun i _ => 4 - (intOf i).toNat)
      case atStart =>
        refine ⟨0, Nat.zero_le _, rfl, B0.out, B1.out, B2.out, ?_, HB.out⟩
        show Blk _ _ (bl 16 (cb (part m b k 0))) _
        rw [part_zero]; exact B3.out
      case round =>
        clear B0 B1 B2 B3 HB HZ e1 e2 hsl
        obtain ⟨j, hj, rfl, b0, b1, b2, b3, hbel⟩ := hrel
        have B0 := hid b0
        have B1 := hid b1
        have B2 := hid b2
        have B3 := hid b3
        have HB := hid hbel
        have HZ := hid b3.lt
        clear b0 b1 b2 b3 hbel
        by_cases hlj : j < 4
        · have c0 := B0.out.cell (4 * C + j) _ (bl_get 16 _ _ (by omega))
          have c1 := B1.out.cell ((j + 4 - R) % 4) _ (bl_get 4 _ _ (Nat.mod_lt _ (by decide)))
          have c3 := B3.out.cell k _ (bl_get 16 _ k hlt)
          have f3 := B3.out.frozen k
          rw [show cb (part m b k (p4 (mrow m R) (mcol b C) j)) k = ((p4 (mrow m R) (mcol b C) j : Nat) : Int) from congrArg Nat.cast (part_at m b k _)] at c3
          have HP := hid (show p4 (mrow m R) (mcol b C) (j + 1) = p4 (mrow m R) (mcol b C) j ^^^ mul (m ((j + 4 - R) % 4)) (b (4 * C + j)) from rfl)
          have hx := HM.out ((j + 4 - R) % 4)
          have hy := HBB.out (4 * C + j) (by omega)
          have hp := p4_lt (mrow m R) (mcol b C) j
          obtain ⟨P, eP⟩ : ∃ P, p4 (mrow m R) (mcol b C) j = P := ⟨_, rfl⟩
          rw [eP] at c3 HP hp B3
          clear eP
          change wr.cell? ⟨w.heap.size + 1, (j + 4 - R) % 4, none⟩ = some (.int .u8 ((m ((j + 4 - R) % 4) : Nat) : Int)) at c1
          change wr.cell? ⟨w.heap.size, 4 * C + j, none⟩ = some (.int .u8 ((b (4 * C + j) : Nat) : Int)) at c0
          obtain ⟨x, ex⟩ : ∃ x, m ((j + 4 - R) % 4) = x := ⟨_, rfl⟩
          rw [ex] at c1 HP hx
          obtain ⟨y, ey⟩ : ∃ y, b (4 * C + j) = y := ⟨_, rfl⟩
          rw [ey] at c0 HP hy
          clear ex ey
          have HX := hid (xor8 P (mul x y) hp (mul_lt _ _))
          have e3 : (IntKind.i64.wrap (IntKind.i64.wrap (4 + (j : Int)) - (R : Int))).tmod 4 = (((j + 4 - R) % 4 : Nat) : Int) := by
            rw [show IntKind.i64.wrap (4 + (j : Int)) = 4 + (j : Int) from by rw [IntKind.wrap_i64]; omega]
            rw [show IntKind.i64.wrap (4 + (j : Int) - (R : Int)) = 4 + (j : Int) - (R : Int) from by rw [IntKind.wrap_i64]; omega]
            rw [Int.tmod_eq_emod_of_nonneg (by omega)]; omega
          obtain ⟨I, hI⟩ : ∃ I, (j + 4 - R) % 4 = I := ⟨_, rfl⟩
          rw [hI] at c1 e3
          have hI4 : (I : Int) < 4 := by omega
          clear hI
          go_wp2_with fail
          go_region_law (go_simp; go_at_call 245; refine (mul_walk x y _ hx hy).mono ?_; rintro e w' ⟨rfl, rfl⟩)
          all_goals
            go_wp2_with fail
            have hz := HZ.out
            refine ⟨⟨j + 1, by omega, by go_num, B0.out.other (by omega) _ _, B1.out.other (by omega) _ _, B2.out.other (by omega) _ _, ?_, below_set (below_dr HB.out) _ _ _ (by omega) (by show _ ≤ wr.heap.size; omega)⟩, by simp [intOf]; omega⟩
            rw [HX.out, HP.out, ← part_set m b k P]
            exact B3.out.set _ _
        · have ej : j = 4 := by omega
          subst ej
          have HE := hid (show p4 (mrow m R) (mcol b C) 4 = mix m b k from by rw [mix_p4, ← KC.out, ← KR.out])
          rw [HE.out, part_all] at B3
          go_wp2_with fail
          exact ⟨⟨k + 1, by omega, by go_num, B0.out, B1.out, B2.out, B3.out, HB.out⟩, by simp [intOf]; omega⟩
    · have ek : k = 16 := by omega
      subst ek
      rw [upto_all] at B3
      have l1 := LDb_run (range0 B3.out) (bl_length _ _)
      have s1 := SVb_run (cs := bl 16 (cb (mix m b))) (B2.out.there 0 16 (by rw [bl_length]; omega)) (bl_length _ _) (bl_one _ _)
      have b4 := B2.out.put 0 (bl 16 (cb (mix m b)))
      rw [put_all _ _ (by rw [bl_length, bl_length])] at b4
      have l2 := hid (LDb_run (range0 b4) (bl_length _ _))
      clear b4
      go_wp2
      have hz := HZ.out
      refine bodyPost_ret ?_ rfl ⟨rfl, below_cells HB.out _ _ _ (by omega) HB.out.size⟩
      exact results_cell1 Tryz.results201 rfl l2.out
end Go.Proofs.YtpohogpkfdebdaaGreatDoor.Ae
namespace Go.Proofs.YtpohogpkfdebdaaGreatDoor.Ae
open Go.ChangeShapes Go.WideShapes Go.ChangeAt Go.RowKit
open Go.Proofs.YtpohogpkfdebdaaGreatDoor.By Go.Proofs.YtpohogpkfdebdaaGreatDoor.Gf
theorem uptoN_set (n : Nat) (f : Nat → Nat) (k : Nat) : (bl n (cb (upto k f))).set k (.int .u8 (f k)) = bl n (cb (upto (k + 1) f)) := by
  rw [bl_set]
  refine bl_congr _ _ _ (fun i _ => ?_)
  show (if i = k then (f k : Int) else ((upto k f i : Nat) : Int)) = ((upto (k + 1) f i : Nat) : Int)
  unfold upto
  by_cases e : i = k
  · subst e; rw [if_pos rfl, if_pos (by omega)]
  · rw [if_neg e]
    by_cases h : i < k
    · rw [if_pos h, if_pos (by omega)]
    · rw [if_neg h, if_neg (by omega)]
theorem uptoN_all (n : Nat) (f : Nat → Nat) : bl n (cb (upto n f)) = bl n (cb f) := bl_congr _ _ _ (fun i hi => by show ((upto n f i : Nat) : Int) = _; unfold upto; rw [if_pos hi])
def xr (a b : Nat → Nat) (i : Nat) : Nat := a i ^^^ b i
set_option maxRecDepth 8000 in
set_option maxHeartbeats 4000000 in
theorem xor4 (g1 o1 c1 g2 o2 c2 : Nat) (a b : Nat → Nat) (w : World) (ha : ∀ i, i < 4 → a i < 256) (hb : ∀ i, i < 4 → b i < 256) (h1 : ∀ i, i < 4 → w.cell? ⟨g1, o1 + i, none⟩ = some (.int .u8 (a i))) (h2 : ∀ i, i < 4 → w.cell? ⟨g2, o2 + i, none⟩ = some (.int .u8 (b i))) :
    Calls Tryz.prog 246 #[.slice (some ⟨g1, o1, none⟩) 4 c1, .slice (some ⟨g2, o2, none⟩) 4 c2] w fun e w' => e = .returned (.slice (some ⟨w.heap.size, 0, none⟩) 4 4) ∧ Blk w' w.heap.size (bl 4 (cb (xr a b))) 5 ∧ Below w.heap.size w w' := by
  have hmk := Wd.make4
  have HX := hid (fun i (hi : i < 4) => xor8 _ _ (ha i hi) (hb i hi))
  have H1 := hid h1
  have H2 := hid h2
  have q1 := block_lt_of_cell (h1 0 (by decide))
  have q2 := block_lt_of_cell (h2 0 (by decide))
  clear ha hb h1 h2
  go_enter Tryz.func246, Tryz.ntmps246
  go_wp2_with fail
  go_loopw [15] (fun i wr => ∃ k : Nat, k ≤ 4 ∧ i = .int .i64 k ∧ Blk wr w.heap.size (bl 4 (cb (upto k (xr a b)))) 5 ∧ Below w.heap.size w wr) (fun i _ => 4 - (intOf i).toNat)
  case atStart => exact ⟨0, Nat.zero_le _, rfl, Blk.newAt _ _ _ _ _ rfl rfl, below_alloc _ _⟩
  case round =>
    obtain ⟨k, hk, rfl, b0, hbel⟩ := hrel
    have B0 := hid b0
    have HB := hid hbel
    have HZ := hid b0.lt
    clear b0
    by_cases hlt : k < 4
    · have x1 := (hbel.cell (p := ⟨g1, o1 + k, none⟩) q1).trans (H1.out k hlt)
      have x2 := (hbel.cell (p := ⟨g2, o2 + k, none⟩) q2).trans (H2.out k hlt)
      have x3 := B0.out.cell k _ (bl_get 4 _ k hlt)
      have f3 := B0.out.frozen k
      have HK := hid (HX.out k hlt)
      clear hbel
      go_wp2_with fail
      go_region
      all_goals
        go_wp2_with fail
        have hz := HZ.out
        refine ⟨⟨k + 1, by omega, by go_num, ?_, below_set (below_dr HB.out) _ _ _ (Nat.le_refl _) (by show _ ≤ wr.heap.size; omega)⟩, by simp [intOf]; omega⟩
        rw [HK.out, ← uptoN_set 4 (xr a b) k]
        exact B0.out.set _ _
    · have ek : k = 4 := by omega
      subst ek
      rw [uptoN_all] at B0
      clear hbel
      go_wp2
      go_ret
      exact ⟨rfl, B0.out, HB.out⟩
/-- The first k bytes are through, the others as they were. -/
def thru (bx : Nat → Nat) (b : Nat → Nat) (k i : Nat) : Nat := if i < k then bx (b i) else b i
theorem thru_zero (bx b : Nat → Nat) (n : Nat) : bl n (cb (thru bx b 0)) = bl n (cb b) := bl_congr _ _ _ (fun i _ => by show ((thru bx b 0 i : Nat) : Int) = _; unfold thru; rw [if_neg (by omega)])
theorem thru_all (bx b : Nat → Nat) (n : Nat) : bl n (cb (thru bx b n)) = bl n (cb (fun i => bx (b i))) := bl_congr _ _ _ (fun i hi => by show ((thru bx b n i : Nat) : Int) = _; unfold thru; rw [if_pos hi])
theorem thru_at (bx b : Nat → Nat) (k : Nat) : thru bx b k k = b k := by unfold thru; rw [if_neg (by omega)]
theorem thru_set (bx b : Nat → Nat) (n k : Nat) : (bl n (cb (thru bx b k))).set k (.int .u8 (bx (b k) : Nat)) = bl n (cb (thru bx b (k + 1))) := by
  rw [bl_set]
  refine bl_congr _ _ _ (fun i _ => ?_)
  show (if i = k then ((bx (b k) : Nat) : Int) else ((thru bx b k i : Nat) : Int)) = ((thru bx b (k + 1) i : Nat) : Int)
  unfold thru
  by_cases e : i = k
  · subst e; rw [if_pos rfl, if_pos (by omega)]
  · rw [if_neg e]
    by_cases h : i < k
    · rw [if_pos h, if_pos (by omega)]
    · rw [if_neg h, if_neg (by omega)]
set_option maxRecDepth 8000 in
set_option maxHeartbeats 4000000 in
theorem putBox (g n : Nat) (t : TypeId) (b : Nat → Nat) (hb : ∀ i, i < n → b i < 256) (hn : n ≤ 16) (w : World) (h : Blk w g (bl n (cb b)) t) :
    Calls Tryz.prog 198 #[.func (.func 199) #[] #[], .slice (some ⟨g, 0, none⟩) n n] w fun e w' => e = .returned (.tuple #[]) ∧ Blk w' g (bl n (cb (fun i => box (b i)))) t ∧ Kp (fun k => k = g) w w' := by
  have H := hid h
  have HBB := hid hb
  clear h hb
  go_enter Tryz.func198, Tryz.ntmps198
  go_wp2_with fail
  go_loopw [8] (fun i wr => ∃ k : Nat, k ≤ n ∧ i = .int .i64 k ∧ Blk wr g (bl n (cb (thru box b k))) t ∧ Kp (fun k => k = g) w wr) (fun i _ => n - (intOf i).toNat)
  case atStart => exact ⟨0, Nat.zero_le _, rfl, by rw [thru_zero]; exact H.out, Kp.refl _ _⟩
  case round =>
    obtain ⟨k, hk, rfl, b0, hkp⟩ := hrel
    have B0 := hid b0
    have HK := hid hkp
    clear b0 hkp
    by_cases hlt : k < n
    · have x1 := B0.out.cell k _ (bl_get n _ k hlt)
      have f1 := B0.out.frozen k
      have hx := HBB.out k hlt
      rw [show cb (thru box b k) k = ((b k : Nat) : Int) from congrArg Nat.cast (thru_at box b k)] at x1
      have HS := hid (thru_set box b n k)
      obtain ⟨x, ex⟩ : ∃ x, b k = x := ⟨_, rfl⟩
      rw [ex] at x1 hx HS
      clear ex
      go_wp2_with (go_at_call 199; refine (box_walk x _ hx).mono ?_; rintro e w' ⟨rfl, rfl⟩)
      refine ⟨⟨k + 1, by omega, by go_num, ?_, HK.out.trans (Kp.setCell g k _) (fun _ _ e => e)⟩, by simp [intOf]; omega⟩
      rw [← HS.out]
      exact B0.out.set _ _
    · have ek : k = n := by omega
      subst ek
      rw [thru_all] at B0
      go_wp2
      go_end0
      exact ⟨rfl, B0.out, HK.out⟩
end Go.Proofs.YtpohogpkfdebdaaGreatDoor.Ae
namespace Go.Proofs.YtpohogpkfdebdaaGreatDoor.Ae
open Go.ChangeShapes Go.WideShapes Go.ChangeAt Go.RowKit
open Go.Proofs.YtpohogpkfdebdaaGreatDoor.By Go.Proofs.YtpohogpkfdebdaaGreatDoor.Gf
/-- A cipher's cells: the key's words, the round keys' bytes. -/
def cic (k : Nat) (ws : Nat → Nat) : List Value := .int .i64 k :: bl 240 (cb ws)
theorem cic_length (k : Nat) (ws : Nat → Nat) : (cic k ws).length = 241 := by simp [cic, bl_length]
theorem cic_at (k : Nat) (ws : Nat → Nat) (i : Nat) (h : i < 240) : (cic k ws)[1 + i]? = some (.int .u8 (ws i : Nat)) := by
  rw [show 1 + i = i + 1 from by omega]
  show (Value.int .i64 k :: bl 240 (cb ws))[i + 1]? = _
  rw [List.getElem?_cons_succ]
  exact bl_get 240 _ i h
theorem cic_one (k : Nat) (ws : Nat → Nat) : ∀ u ∈ cic k ws, u.oneCell' = true := by
  intro u hu
  simp only [cic, List.mem_cons] at hu
  rcases hu with rfl | hu
  · rfl
  · exact bl_one _ _ u hu
set_option maxRecDepth 4000 in
theorem sliceK (W : World) (g r : Nat) (hr : r ≤ 14) : (Instr.sliceAt 228 (.pointer (some ⟨g, 1, none⟩)) (some (.int .i64 (4 * (r : Int)))) (some (.int .i64 (4 * ((r : Int) + 1)))) none).run Tryz.prog W = .ok (.slice (some ⟨g, 1 + 16 * r, none⟩) 4 (60 - 4 * r)) W := by
  have hl : Tryz.prog.arrayLen 228 = 60 := by kernel_rfl
  have hs : (sizeOf (Tryz.prog.elem 228)).run Tryz.prog W = .ok 4 W := by kernel_rfl
  have h := run_sliceAt_array_lh (P := Tryz.prog) W 228 ⟨g, 1, none⟩ Tryz.underlying228 .i64 .i64 (4 * (r : Int)) (4 * ((r : Int) + 1)) (by omega) (by omega) (by rw [hl]; omega)
  rw [h, hs, hl, Result.andThen_ok, slicedAt, if_neg (by omega), By.add_plain]
  simp only [Result.ok.injEq, Value.slice.injEq, Option.some.injEq, Addr.mk.injEq, and_true, true_and]
  omega
set_option maxRecDepth 4000 in
theorem sliceQ (W : World) (g o : Nat) : (Instr.sliceAt 222 (.pointer (some ⟨g, o, none⟩)) none none none).run Tryz.prog W = .ok (.slice (some ⟨g, o, none⟩) 4 4) W := by
  have hl : Tryz.prog.arrayLen 222 = 4 := by kernel_rfl
  have hs : (sizeOf (Tryz.prog.elem 222)).run Tryz.prog W = .ok 1 W := by kernel_rfl
  have h := run_sliceAt_array_all (P := Tryz.prog) W 222 ⟨g, o, none⟩ Tryz.underlying222
  rw [h, hs, hl, Result.andThen_ok, slicedAt]
  rfl
theorem copy4 (W : World) (g o cd gs os m c : Nat) (ty t : TypeId) (cells : List Value) (f : Nat → Nat) (hb : Blk W g cells t) (hl : o + 4 ≤ cells.length) (hm : 4 ≤ m) (hs : ∀ i, i < 4 → W.cell? ⟨gs, os + i, none⟩ = some (.int .u8 (f i : Nat))) :
    (Builtin.copy_ #[23, 23] ty #[.slice (some ⟨g, o, none⟩) 4 cd, .slice (some ⟨gs, os, none⟩) m c]).run Tryz.prog W = .ok (.int .i64 4) (W.setCells g o (bl 4 (cb f))) := by
  have h := run_copy_cells (P := Tryz.prog) W 23 23 ty 5 g o 4 cd ⟨gs, os, none⟩ m c (bl 4 (cb f)) Tryz.underlying23 (by kernel_rfl) (by rw [bl_length]; exact (Nat.min_eq_right hm).symm)
    (fun j v hj => by obtain ⟨hj1, rfl⟩ := bl_get_inv _ _ _ _ hj; rw [By.add_plain]; exact hs j hj1)
    (fun j hj => (hb.there o 4 hl j (by rwa [bl_length] at hj)).1) (fun j hj => hb.frozen _) (bl_one 4 (cb f))
  rw [bl_length] at h
  exact h
/-- The first 4 k bytes have the round key. -/
def adkTo (ws : Nat → Nat) (r : Nat) (b : Nat → Nat) (k i : Nat) : Nat := if i < 4 * k then b i ^^^ ws (16 * r + i) else b i
theorem adkTo_zero (ws : Nat → Nat) (r : Nat) (b : Nat → Nat) : bl 16 (cb (adkTo ws r b 0)) = bl 16 (cb b) := bl_congr _ _ _ (fun i _ => by show ((adkTo ws r b 0 i : Nat) : Int) = _; unfold adkTo; rw [if_neg (by omega)])
theorem adkTo_all (ws : Nat → Nat) (r : Nat) (b : Nat → Nat) : bl 16 (cb (adkTo ws r b 4)) = bl 16 (cb (adk ws r b)) := bl_congr _ _ _ (fun i hi => by show ((adkTo ws r b 4 i : Nat) : Int) = ((adk ws r b i : Nat) : Int); unfold adkTo adk; rw [if_pos (by omega)])
theorem adkTo_put (ws : Nat → Nat) (r : Nat) (b : Nat → Nat) (k : Nat) (hk : k < 4) : put (bl 16 (cb (adkTo ws r b k))) (4 * k) (bl 4 (cb (xr (fun i => b (4 * k + i)) (fun i => ws (16 * r + 4 * k + i))))) = bl 16 (cb (adkTo ws r b (k + 1))) := by
  apply List.ext_getElem?
  intro i
  rw [put_get _ _ _ _ (by rw [bl_length, bl_length]; omega), bl_length]
  by_cases h : i < 16
  · rw [bl_get _ _ _ h, bl_get _ _ _ h]
    by_cases e : 4 * k ≤ i ∧ i < 4 * k + 4
    · rw [if_pos e, bl_get _ _ _ (by omega)]
      congr 2
      show (((b (4 * k + (i - 4 * k)) ^^^ ws (16 * r + 4 * k + (i - 4 * k)) : Nat)) : Int) = ((adkTo ws r b (k + 1) i : Nat) : Int)
      unfold adkTo
      rw [if_pos (by omega), show 4 * k + (i - 4 * k) = i from by omega, show 16 * r + 4 * k + (i - 4 * k) = 16 * r + i from by omega]
    · rw [if_neg e]
      congr 2
      show ((adkTo ws r b k i : Nat) : Int) = ((adkTo ws r b (k + 1) i : Nat) : Int)
      unfold adkTo
      by_cases h2 : i < 4 * k
      · rw [if_pos h2, if_pos (by omega)]
      · rw [if_neg h2, if_neg (by omega)]
  · rw [List.getElem?_eq_none (l := bl 16 (cb (adkTo ws r b (k + 1)))) (by rw [bl_length]; omega), if_neg (by omega), List.getElem?_eq_none (by rw [bl_length]; omega)]
theorem zero4 : #[Value.int IntKind.u8 0, Value.int IntKind.u8 0, Value.int IntKind.u8 0, Value.int IntKind.u8 0] = (bl 4 (cb (fun _ => 0))).toArray := rfl
set_option maxRecDepth 8000 in
set_option maxHeartbeats 4000000 in
theorem keyed1 (g k : Nat) (ws b : Nat → Nat) (r : Nat) (hr : r ≤ 14) (hw : ∀ i, ws i < 256) (hb : B16 b) (w : World) (h : Blk w g (cic k ws) 231) : Calls Tryz.prog 197 #[.pointer (some ⟨g, 0, none⟩), bv b, .int .i64 r] w fun e w' => e = .returned (bv (adk ws r b)) ∧ Below w.heap.size w w' := by
  unfold bv
  have H := hid h
  have HW := hid hw
  have HBB := hid hb
  have hgl := h.lt
  have hsk := fun W => sliceK W g r hr
  clear h hw hb
  go_enter Tryz.func197, Tryz.ntmps197
  go_wp2_with fail
  go_loopw [20] (fun i wr => ∃ k : Nat, k ≤ 4 ∧ i = .int .i64 k ∧ Blk wr w.heap.size (bl 16 (cb (adkTo ws r b k))) 175 ∧ Blk wr (w.heap.size + 1) (bl 16 (cb (upto 0 b))) 175 ∧ Below w.heap.size w wr) (fun i _ => 4 - (intOf i).toNat)
  case atStart => exact ⟨0, Nat.zero_le _, rfl, by rw [adkTo_zero]; exact (Blk.newAt _ _ _ _ _ rfl rfl).alloc _, Blk.newAt _ _ _ _ _ (by simp) (zero16 b), ((below_alloc w _).alloc (by simp) _)⟩
  case round =>
    clear hsk
    obtain ⟨k', hk, rfl, b0, b1, hbel⟩ := hrel
    have B0 := hid b0
    have B1 := hid b1
    have HB := hid hbel
    have HZ := hid b1.lt
    have C0 := hid (H.out.below hbel)
    clear b0 b1 hbel
    by_cases hlt : k' < 4
    · have l1 := LDq_run (C0.out.range (1 + 16 * r + k' * 4) (bl 4 (cb (fun i => ws (16 * r + 4 * k' + i)))) (fun j v hv => by obtain ⟨hj, rfl⟩ := bl_get_inv _ _ _ _ hv; rw [show 1 + 16 * r + k' * 4 + j = 1 + (16 * r + 4 * k' + j) from by omega]; exact cic_at _ _ _ (by omega))) (bl_length _ _)
      have N0 := hid (Blk.newAt wr _ _ 222 _ rfl zero4)
      have s1 := SVq_run (cs := bl 4 (cb (fun i => ws (16 * r + 4 * k' + i)))) (N0.out.there 0 4 (by rw [bl_length]; omega)) (bl_length _ _) (bl_one _ _)
      have N1 := hid (show Blk _ wr.heap.size (bl 4 (cb (fun i => ws (16 * r + 4 * k' + i)))) 222 from by rw [← put_all (bl 4 (cb (fun _ => 0))) (bl 4 (cb (fun i => ws (16 * r + 4 * k' + i)))) (by rw [bl_length, bl_length])]; exact N0.out.put 0 (bl 4 (cb (fun i => ws (16 * r + 4 * k' + i)))))
      have hz := HZ.out
      have K1 := hid ((Kp.of_below (fun k => k = wr.heap.size) (below_alloc wr (.cells (bl 4 (cb (fun _ => 0))).toArray 222))).trans (Kp.setCells wr.heap.size 0 (bl 4 (cb (fun i => ws (16 * r + 4 * k' + i))))) (fun _ _ e => e))
      rw [← zero4] at K1
      have D0 := hid (B0.out.kept K1.out (by omega))
      have D1 := hid (B1.out.kept K1.out (by omega))
      have KB := hid (HB.out.trans (K1.out.below HB.out.size (fun k hk e => by omega)))
      have hs4 := fun W => slice4 W w.heap.size k' (by omega)
      have hsq := fun W => sliceQ W wr.heap.size 0
      generalize ((wr.alloc (Obj.cells #[Value.int IntKind.u8 0, Value.int IntKind.u8 0, Value.int IntKind.u8 0, Value.int IntKind.u8 0] 222)).setCells wr.heap.size 0 (bl 4 (cb fun i => ws (16 * r + 4 * k' + i)))) = W2 at *
      clear hz K1
      have XC := hid (xor4 w.heap.size (4 * k') (16 - 4 * k') wr.heap.size 0 4 (fun i => b (4 * k' + i)) (fun i => ws (16 * r + 4 * k' + i)) W2 (fun i hi => HBB.out _ (by omega)) (fun i _ => HW.out _)
        (fun i hi => by
          have h1 := D0.out.cell (4 * k' + i) _ (bl_get 16 _ _ (by omega))
          rw [show cb (adkTo ws r b k') (4 * k' + i) = ((b (4 * k' + i) : Nat) : Int) from congrArg Nat.cast (by unfold adkTo; rw [if_neg (by omega)])] at h1
          exact h1)
        (fun i hi => by rw [Nat.zero_add]; exact N1.out.cell i _ (bl_get 4 _ i hi)))
      go_wp2_with fail
      refine XC.out.mono ?_
      rintro e W3 ⟨rfl, n3, hb3⟩
      have E0 := hid (D0.out.below hb3)
      have E1 := hid (D1.out.below hb3)
      have EB := hid (KB.out.trans ((Kp.of_below (fun _ => False) hb3).below KB.out.size (fun _ _ e => e)))
      have hcp := fun ty => copy4 W3 w.heap.size (4 * k') (16 - 4 * k') W2.heap.size 0 4 4 ty 175 _ (xr (fun i => b (4 * k' + i)) (fun i => ws (16 * r + 4 * k' + i))) E0.out (by rw [bl_length]; omega) (by omega) (fun i hi => by rw [Nat.zero_add]; exact n3.cell i _ (bl_get 4 _ i hi))
      clear n3 hb3 XC D0 D1 KB
      go_wp2_with fail
      have hz := E1.out.lt
      refine ⟨⟨k' + 1, by omega, by go_num, ?_, E1.out.kept (Kp.setCells _ _ _) (by omega), below_cells EB.out _ _ _ (Nat.le_refl _) EB.out.size⟩, by simp [intOf]; omega⟩
      rw [← adkTo_put ws r b k' hlt]
      exact E0.out.put _ _
    · have ek : k' = 4 := by omega
      subst ek
      rw [adkTo_all] at B0
      have l1 := LDb_run (range0 B0.out) (bl_length _ _)
      have s1 := SVb_run (cs := bl 16 (cb (adk ws r b))) (B1.out.there 0 16 (by rw [bl_length]; omega)) (bl_length _ _) (bl_one _ _)
      have b4 := B1.out.put 0 (bl 16 (cb (adk ws r b)))
      rw [put_all _ _ (by rw [bl_length, bl_length])] at b4
      have l2 := hid (LDb_run (range0 b4) (bl_length _ _))
      clear b4
      go_wp2
      have hz := HZ.out
      refine bodyPost_ret ?_ rfl ⟨rfl, below_cells HB.out _ _ _ (by omega) HB.out.size⟩
      exact results_cell1 Tryz.results197 rfl l2.out
end Go.Proofs.YtpohogpkfdebdaaGreatDoor.Ae
namespace Go.Proofs.YtpohogpkfdebdaaGreatDoor.Ae
open Go.ChangeShapes Go.WideShapes Go.ChangeAt Go.RowKit
open Go.Proofs.YtpohogpkfdebdaaGreatDoor.By Go.Proofs.YtpohogpkfdebdaaGreatDoor.Gf
theorem zero256 (f : Nat → Nat) : Tryz.zeroCells217 = (bl 256 (cb (upto 0 f))).toArray := by kernel_rfl
/-- What is found of the inverses: all of those below a. -/
def nul0 (_ : Nat) : Nat := 0
structure Iv (iv : Nat → Nat) (a : Nat) : Prop where
  some : ∀ y, y < 256 → iv y = 0 ∨ iv y = inv y
  all : ∀ y, y < a → y < 256 → iv y = inv y
def set1 (iv : Nat → Nat) (k v : Nat) (i : Nat) : Nat := if i = k then v else iv i
theorem Iv.found {iv : Nat → Nat} {a x : Nat} (h : Iv iv a) (ha : a < 256) (hx : x < 256) (hm : mul a x = 1) : Iv (set1 (set1 iv a x) x a) (a + 1) := by
  have e1 : x = inv a := inv_only a x ha hx hm
  have e2 : a = inv x := inv_only x a hx ha (by rw [mul_comm x a hx ha]; exact hm)
  refine ⟨fun y hy => ?_, fun y hya hy => ?_⟩
  · unfold set1
    by_cases e : y = x
    · rw [if_pos e]; right; rw [e]; exact e2
    · rw [if_neg e]
      by_cases e' : y = a
      · rw [if_pos e']; right; rw [e']; exact e1
      · rw [if_neg e']; exact h.some y hy
  · unfold set1
    by_cases e : y = x
    · rw [if_pos e, e]; exact e2
    · rw [if_neg e]
      by_cases e' : y = a
      · rw [if_pos e', e']; exact e1
      · rw [if_neg e']; exact h.all y (by omega) hy
theorem Iv.next {iv : Nat → Nat} {a : Nat} (h : Iv iv a) (ha : iv a = inv a) : Iv iv (a + 1) :=
  ⟨h.some, fun y hy hb => by
    by_cases e : y = a
    · rw [e]; exact ha
    · exact h.all y (by omega) hb⟩
/-- Byte a on its way, those ahead of it there. -/
def onw (f : Nat → Nat) (a x i : Nat) : Nat := if i < a then f i else if i = a then x else 0
end Go.Proofs.YtpohogpkfdebdaaGreatDoor.Ae
namespace Go.Proofs.YtpohogpkfdebdaaGreatDoor.Ae
open Go.ChangeShapes Go.WideShapes Go.ChangeAt Go.RowKit
open Go.Proofs.YtpohogpkfdebdaaGreatDoor.By Go.Proofs.YtpohogpkfdebdaaGreatDoor.Gf
theorem fin16 {w W : World} {g q : Nat} {z y : Nat → Nat} (B : Blk W g (bl 16 (cb z)) 175) (Q : Blk W q (bl 16 (cb y)) 175) (hb : Below w.heap.size w W) (hq : w.heap.size ≤ q) :
    (LDb ⟨g, 0, none⟩).run Tryz.prog W = .ok (.agg (bl 16 (cb z)).toArray) W ∧ (SVb ⟨q, 0, none⟩ (.agg (bl 16 (cb z)).toArray)).run Tryz.prog W = .ok () (W.setCells q 0 (bl 16 (cb z))) ∧ (LDb ⟨q, 0, none⟩).run Tryz.prog (W.setCells q 0 (bl 16 (cb z))) = .ok (.agg (bl 16 (cb z)).toArray) (W.setCells q 0 (bl 16 (cb z))) ∧ Below w.heap.size w (W.setCells q 0 (bl 16 (cb z))) := by
  refine ⟨LDb_run (range0 B) (bl_length _ _), SVb_run (Q.there 0 16 (by rw [bl_length]; omega)) (bl_length _ _) (bl_one _ _), ?_, below_cells hb _ _ _ hq hb.size⟩
  have b := Q.put 0 (bl 16 (cb z))
  rw [put_all _ _ (by rw [bl_length, bl_length])] at b
  exact LDb_run (range0 b) (bl_length _ _)
end Go.Proofs.YtpohogpkfdebdaaGreatDoor.Ae
