/- The program's Xor of two lists of four bytes; a piece put through a box on the spot. -/
import Derived.Test.YtbommnigljmfkaaDoorAmul
import Derived.Test.YtbommnigljmfkaaDoorKword
namespace Go.Proofs.YtbommnigljmfkaaDoor.Ae
open Go.ChangeShapes Go.WideShapes Go.ChangeAt Go.RowKit
open Go.Proofs.YtbommnigljmfkaaDoor.By Go.Proofs.YtbommnigljmfkaaDoor.Gf
theorem uptoN_set (n : Nat) (f : Nat → Nat) (k : Nat) : (bl n (cb (upto k f))).set k (.int .u8 (f k)) = bl n (cb (upto (k + 1) f)) := by
  rw [bl_set]
  refine bl_congr _ _ _ (fun i _ => ?_)
  show (if i = k then (f k : Int) else ((upto k f i : Nat) : Int)) = ((upto (k + 1) f i : Nat) : Int)
  unfold upto
  by_cases e : i = k
  · subst e; rw [if_pos rfl, if_pos (by omega)]
  · rw [if_neg e]
    by_cases h : i < k
    · rw [if_pos h, if_pos (by omega)]
    · rw [if_neg h, if_neg (by omega)]
theorem uptoN_all (n : Nat) (f : Nat → Nat) : bl n (cb (upto n f)) = bl n (cb f) := bl_congr _ _ _ (fun i hi => by show ((upto n f i : Nat) : Int) = _; unfold upto; rw [if_pos hi])
def xr (a b : Nat → Nat) (i : Nat) : Nat := a i ^^^ b i
set_option maxRecDepth 8000 in
set_option maxHeartbeats 4000000 in
theorem xor4 (g1 o1 c1 g2 o2 c2 : Nat) (a b : Nat → Nat) (w : World) (ha : ∀ i, i < 4 → a i < 256) (hb : ∀ i, i < 4 → b i < 256) (h1 : ∀ i, i < 4 → w.cell? ⟨g1, o1 + i, none⟩ = some (.int .u8 (a i))) (h2 : ∀ i, i < 4 → w.cell? ⟨g2, o2 + i, none⟩ = some (.int .u8 (b i))) :
    Calls Tryd.prog 66 #[.slice (some ⟨g1, o1, none⟩) 4 c1, .slice (some ⟨g2, o2, none⟩) 4 c2] w fun e w' => e = .returned (.slice (some ⟨w.heap.size, 0, none⟩) 4 4) ∧ Blk w' w.heap.size (bl 4 (cb (xr a b))) 5 ∧ Below w.heap.size w w' := by
  have hmk := Wd.make4
  have HX := hid (fun i (hi : i < 4) => xor8 _ _ (ha i hi) (hb i hi))
  have H1 := hid h1
  have H2 := hid h2
  have q1 := block_lt_of_cell (h1 0 (by decide))
  have q2 := block_lt_of_cell (h2 0 (by decide))
  clear ha hb h1 h2
  go_enter Tryd.func66, Tryd.ntmps66
  go_wp2_with fail
  go_loopw [15] (fun i wr => ∃ k : Nat, k ≤ 4 ∧ i = .int .i64 k ∧ Blk wr w.heap.size (bl 4 (cb (upto k (xr a b)))) 5 ∧ Below w.heap.size w wr) (fun i _ => 4 - (intOf i).toNat)
  case atStart => exact ⟨0, Nat.zero_le _, rfl, Blk.newAt _ _ _ _ _ rfl rfl, below_alloc _ _⟩
  case round =>
    obtain ⟨k, hk, rfl, b0, hbel⟩ := hrel
    have B0 := hid b0
    have HB := hid hbel
    have HZ := hid b0.lt
    clear b0
    by_cases hlt : k < 4
    · have x1 := (hbel.cell (p := ⟨g1, o1 + k, none⟩) q1).trans (H1.out k hlt)
      have x2 := (hbel.cell (p := ⟨g2, o2 + k, none⟩) q2).trans (H2.out k hlt)
      have x3 := B0.out.cell k _ (bl_get 4 _ k hlt)
      have f3 := B0.out.frozen k
      have HK := hid (HX.out k hlt)
      clear hbel
      go_wp2_with fail
      go_region
      all_goals
        go_wp2_with fail
        have hz := HZ.out
        refine ⟨⟨k + 1, by omega, by go_num, ?_, below_set (below_dr HB.out) _ _ _ (Nat.le_refl _) (by show _ ≤ wr.heap.size; omega)⟩, by simp [intOf]; omega⟩
        rw [HK.out, ← uptoN_set 4 (xr a b) k]
        exact B0.out.set _ _
    · have ek : k = 4 := by omega
      subst ek
      rw [uptoN_all] at B0
      clear hbel
      go_wp2
      go_ret
      exact ⟨rfl, B0.out, HB.out⟩
/-- The first k bytes are through, the others as they were. -/
def thru (bx : Nat → Nat) (b : Nat → Nat) (k i : Nat) : Nat := if i < k then bx (b i) else b i
theorem thru_zero (bx b : Nat → Nat) (n : Nat) : bl n (cb (thru bx b 0)) = bl n (cb b) := bl_congr _ _ _ (fun i _ => by show ((thru bx b 0 i : Nat) : Int) = _; unfold thru; rw [if_neg (by omega)])
theorem thru_all (bx b : Nat → Nat) (n : Nat) : bl n (cb (thru bx b n)) = bl n (cb (fun i => bx (b i))) := bl_congr _ _ _ (fun i hi => by show ((thru bx b n i : Nat) : Int) = _; unfold thru; rw [if_pos hi])
theorem thru_at (bx b : Nat → Nat) (k : Nat) : thru bx b k k = b k := by unfold thru; rw [if_neg (by omega)]
theorem thru_set (bx b : Nat → Nat) (n k : Nat) : (bl n (cb (thru bx b k))).set k (.int .u8 (bx (b k) : Nat)) = bl n (cb (thru bx b (k + 1))) := by
  rw [bl_set]
  refine bl_congr _ _ _ (fun i _ => ?_)
  show (if i = k then ((bx (b k) : Nat) : Int) else ((thru bx b k i : Nat) : Int)) = ((thru bx b (k + 1) i : Nat) : Int)
  unfold thru
  by_cases e : i = k
  · subst e; rw [if_pos rfl, if_pos (by omega)]
  · rw [if_neg e]
    by_cases h : i < k
    · rw [if_pos h, if_pos (by omega)]
    · rw [if_neg h, if_neg (by omega)]
set_option maxRecDepth 8000 in
set_option maxHeartbeats 4000000 in
theorem putBox (g n : Nat) (t : TypeId) (b : Nat → Nat) (hb : ∀ i, i < n → b i < 256) (hn : n ≤ 16) (w : World) (h : Blk w g (bl n (cb b)) t) :
    Calls Tryd.prog 49 #[.func (.func 50) #[] #[], .slice (some ⟨g, 0, none⟩) n n] w fun e w' => e = .returned (.tuple #[]) ∧ Blk w' g (bl n (cb (fun i => box (b i)))) t ∧ Kp (fun k => k = g) w w' := by
  have H := hid h
  have HBB := hid hb
  clear h hb
  go_enter Tryd.func49, Tryd.ntmps49
  go_wp2_with fail
  go_loopw [8] (fun i wr => ∃ k : Nat, k ≤ n ∧ i = .int .i64 k ∧ Blk wr g (bl n (cb (thru box b k))) t ∧ Kp (fun k => k = g) w wr) (fun i _ => n - (intOf i).toNat)
  case atStart => exact ⟨0, Nat.zero_le _, rfl, by rw [thru_zero]; exact H.out, Kp.refl _ _⟩
  case round =>
    obtain ⟨k, hk, rfl, b0, hkp⟩ := hrel
    have B0 := hid b0
    have HK := hid hkp
    clear b0 hkp
    by_cases hlt : k < n
    · have x1 := B0.out.cell k _ (bl_get n _ k hlt)
      have f1 := B0.out.frozen k
      have hx := HBB.out k hlt
      rw [show cb (thru box b k) k = ((b k : Nat) : Int) from congrArg Nat.cast (thru_at box b k)] at x1
      have HS := hid (thru_set box b n k)
      obtain ⟨x, ex⟩ : ∃ x, b k = x := ⟨_, rfl⟩
      rw [ex] at x1 hx HS
      clear ex
      go_wp2_with (go_at_call 50; refine (box_walk x _ hx).mono ?_; rintro e w' ⟨rfl, rfl⟩)
      refine ⟨⟨k + 1, by omega, by go_num, ?_, HK.out.trans (Kp.setCell g k _) (fun _ _ e => e)⟩, by simp [intOf]; omega⟩
      rw [← HS.out]
      exact B0.out.set _ _
    · have ek : k = n := by omega
      subst ek
      rw [thru_all] at B0
      go_wp2
      go_end0
      exact ⟨rfl, B0.out, HK.out⟩
set_option maxRecDepth 8000 in
set_option maxHeartbeats 4000000 in
theorem putBack (g n : Nat) (t : TypeId) (b : Nat → Nat) (hb : ∀ i, i < n → b i < 256) (hn : n ≤ 16) (w : World) (h : Blk w g (bl n (cb b)) t) :
    Calls Tryd.prog 49 #[.func (.func 53) #[] #[], .slice (some ⟨g, 0, none⟩) n n] w fun e w' => e = .returned (.tuple #[]) ∧ Blk w' g (bl n (cb (fun i => back (b i)))) t ∧ Kp (fun k => k = g) w w' := by
  have H := hid h
  have HBB := hid hb
  clear h hb
  go_enter Tryd.func49, Tryd.ntmps49
  go_wp2_with fail
  go_loopw [8] (fun i wr => ∃ k : Nat, k ≤ n ∧ i = .int .i64 k ∧ Blk wr g (bl n (cb (thru back b k))) t ∧ Kp (fun k => k = g) w wr) (fun i _ => n - (intOf i).toNat)
  case atStart => exact ⟨0, Nat.zero_le _, rfl, by rw [thru_zero]; exact H.out, Kp.refl _ _⟩
  case round =>
    obtain ⟨k, hk, rfl, b0, hkp⟩ := hrel
    have B0 := hid b0
    have HK := hid hkp
    clear b0 hkp
    by_cases hlt : k < n
    · have x1 := B0.out.cell k _ (bl_get n _ k hlt)
      have f1 := B0.out.frozen k
      have hx := HBB.out k hlt
      rw [show cb (thru back b k) k = ((b k : Nat) : Int) from congrArg Nat.cast (thru_at back b k)] at x1
      have HS := hid (thru_set back b n k)
      obtain ⟨x, ex⟩ : ∃ x, b k = x := ⟨_, rfl⟩
      rw [ex] at x1 hx HS
      clear ex
      go_wp2_with (go_at_call 53; refine (back_walk x _ hx).mono ?_; rintro e w' ⟨rfl, rfl⟩)
      refine ⟨⟨k + 1, by omega, by go_num, ?_, HK.out.trans (Kp.setCell g k _) (fun _ _ e => e)⟩, by simp [intOf]; omega⟩
      rw [← HS.out]
      exact B0.out.set _ _
    · have ek : k = n := by omega
      subst ek
      rw [thru_all] at B0
      go_wp2
      go_end0
      exact ⟨rfl, B0.out, HK.out⟩
end Go.Proofs.YtbommnigljmfkaaDoor.Ae
