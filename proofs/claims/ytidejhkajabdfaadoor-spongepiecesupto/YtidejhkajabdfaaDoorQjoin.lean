/- What the program's function joined answers: step 3 of a round. -/
import Derived.Test.YtidejhkajabdfaaDoorQmix
namespace Go.Proofs.YtidejhkajabdfaaDoor.Kc
open Go.ChangeShapes Go.WideShapes Go.ChangeAt Go.RowKit
open Go.Proofs.YtidejhkajabdfaaDoor.By Go.Proofs.YtidejhkajabdfaaDoor.Wd
/-- The lanes behind y whole rows. -/
def jf (b : Nat → Int) (y i : Nat) : Int := if i / 5 < y then jn b i else b i
theorem jf_zero (b : Nat → Int) : wl 25 (jf b 0) = wl 25 b := wl_congr 25 _ _ (fun i hi => by unfold jf; rw [if_neg (by omega)])
theorem jf_end (b : Nat → Int) : wl 25 (jf b 5) = wl 25 (jn b) := wl_congr 25 _ _ (fun i hi => by unfold jf; rw [if_pos (by omega)])
theorem jf_at (b : Nat → Int) (y x : Nat) (hx : x < 5) : jf b y (5 * y + x) = b (5 * y + x) := by unfold jf; rw [if_neg (by omega)]
theorem jf_next (b : Nat → Int) (y : Nat) (p q r s t : Int) (hp : b (5 * y) = p) (hq : b (5 * y + 1) = q) (hr : b (5 * y + 2) = r) (hs : b (5 * y + 3) = s) (ht : b (5 * y + 4) = t) :
    (((((wl 25 (jf b y)).set (5 * y) (.int .u64 (xr p (dn r q)))).set (5 * y + 1) (.int .u64 (xr q (dn s r)))).set (5 * y + 2) (.int .u64 (xr r (dn t s)))).set (5 * y + 3) (.int .u64 (xr s (dn p t)))).set (5 * y + 4) (.int .u64 (xr t (dn q p))) = wl 25 (jf b (y + 1)) := by
  subst hp hq hr hs ht
  rw [wl_set, wl_set, wl_set, wl_set, wl_set]
  refine wl_congr 25 _ _ (fun i hi => ?_)
  by_cases h : i / 5 = y
  · have hi5 : i = 5 * y + i % 5 := by omega
    have : i % 5 < 5 := Nat.mod_lt _ (by omega)
    have e : jf b (y + 1) i = jn b i := by unfold jf; rw [if_pos (by omega)]
    rw [e]
    generalize hx : i % 5 = x at *
    subst hi5
    have m1 : n1 (5 * y + x) = 5 * y + (x + 1) % 5 := by unfold n1; omega
    have m2 : n2 (5 * y + x) = 5 * y + (x + 2) % 5 := by unfold n2; omega
    unfold jn
    rw [m1, m2]
    match x, this with
    | 0, _ => simp
    | 1, _ => simp
    | 2, _ => simp
    | 3, _ => simp
    | 4, _ => simp
  · rw [if_neg (by omega), if_neg (by omega), if_neg (by omega), if_neg (by omega), if_neg (by omega)]
    unfold jf
    by_cases h2 : i / 5 < y
    · rw [if_pos h2, if_pos (by omega)]
    · rw [if_neg h2, if_neg (by omega)]
set_option maxRecDepth 4000 in
set_option maxHeartbeats 2000000 in
theorem joined1 (a : Nat → Int) (w : World) :
    Calls Tryd.prog 72 #[.agg (wl 25 a).toArray] w fun e w' => e = .returned (.agg (wl 25 (jn a)).toArray) ∧ Below w.heap.size w w' := by
  go_enter Tryd.func72, Tryd.ntmps72
  go_wp2_with fail
  go_loopw [10] (fun i wr => ∃ k : Nat, k ≤ 5 ∧ i = .int .i64 k ∧ Blk wr w.heap.size (wl 25 (jf a k)) 103 ∧ Blk wr (w.heap.size + 1) (wl 25 (fun _ => 0)) 103 ∧ Below w.heap.size w wr) (fun i _ => 5 - (intOf i).toNat)
  case atStart =>
    refine ⟨0, Nat.zero_le _, rfl, by rw [jf_zero]; exact (Blk.new w _ _).alloc _, Blk.newAt _ _ _ _ _ (by rw [size_alloc]) z25, ?_⟩
    exact below_next (below_alloc w _) (below_alloc _ _)
  case round =>
    obtain ⟨k, hk, rfl, b0, b1, hbel⟩ := hrel
    have B0 := hid b0
    have B1 := hid b1
    have HB := hid hbel
    have HZ := hid b1.lt
    clear b0 b1 hbel
    by_cases hlt : k < 5
    · have c0 := B0.out.cell (5 * k) _ (wl_get 25 _ (5 * k) (by omega))
      have c1 := B0.out.cell (5 * k + 1) _ (wl_get 25 _ (5 * k + 1) (by omega))
      have c2 := B0.out.cell (5 * k + 2) _ (wl_get 25 _ (5 * k + 2) (by omega))
      have c3 := B0.out.cell (5 * k + 3) _ (wl_get 25 _ (5 * k + 3) (by omega))
      have c4 := B0.out.cell (5 * k + 4) _ (wl_get 25 _ (5 * k + 4) (by omega))
      rw [show 5 * k = 5 * k + 0 from rfl, jf_at a k 0 (by omega)] at c0
      rw [jf_at a k 1 (by omega)] at c1
      rw [jf_at a k 2 (by omega)] at c2
      rw [jf_at a k 3 (by omega)] at c3
      rw [jf_at a k 4 (by omega)] at c4
      have f0 := B0.out.frozen (5 * k)
      have f1 := B0.out.frozen (5 * k + 1)
      have f2 := B0.out.frozen (5 * k + 2)
      have f3 := B0.out.frozen (5 * k + 3)
      have f4 := B0.out.frozen (5 * k + 4)
      have e0 : (5 * (k : Int)).toNat = 5 * k := by omega
      have e1 : (5 * (k : Int) + 1).toNat = 5 * k + 1 := by omega
      have e2 : (5 * (k : Int) + 2).toNat = 5 * k + 2 := by omega
      have e3 : (5 * (k : Int) + 3).toNat = 5 * k + 3 := by omega
      have e4 : (5 * (k : Int) + 4).toNat = 5 * k + 4 := by omega
      have HN := hid (jf_next a k _ _ _ _ _ rfl rfl rfl rfl rfl)
      simp only [Nat.add_zero] at c0
      obtain ⟨p, ep⟩ : ∃ z, a (5 * k) = z := ⟨_, rfl⟩
      obtain ⟨q, eq⟩ : ∃ z, a (5 * k + 1) = z := ⟨_, rfl⟩
      obtain ⟨r, er⟩ : ∃ z, a (5 * k + 2) = z := ⟨_, rfl⟩
      obtain ⟨s, es⟩ : ∃ z, a (5 * k + 3) = z := ⟨_, rfl⟩
      obtain ⟨t, et⟩ : ∃ z, a (5 * k + 4) = z := ⟨_, rfl⟩
      rw [ep] at c0 HN
      rw [eq] at c1 HN
      rw [er] at c2 HN
      rw [es] at c3 HN
      rw [et] at c4 HN
      clear ep eq er es et
      have w1 : IntKind.i64.wrap (5 * (k : Int) + 1) = 5 * (k : Int) + 1 := by rw [IntKind.wrap_i64]; omega
      have w2 : IntKind.i64.wrap (5 * (k : Int) + 2) = 5 * (k : Int) + 2 := by rw [IntKind.wrap_i64]; omega
      have w3 : IntKind.i64.wrap (5 * (k : Int) + 3) = 5 * (k : Int) + 3 := by rw [IntKind.wrap_i64]; omega
      have w4 : IntKind.i64.wrap (5 * (k : Int) + 4) = 5 * (k : Int) + 4 := by rw [IntKind.wrap_i64]; omega
      have i0 : 5 * (k : Int) < 25 := by omega
      have i1 : 5 * (k : Int) + 1 < 25 := by omega
      have i2 : 5 * (k : Int) + 2 < 25 := by omega
      have i3 : 5 * (k : Int) + 3 < 25 := by omega
      have i4 : 5 * (k : Int) + 4 < 25 := by omega
      have j0 : 0 ≤ 5 * (k : Int) := by omega
      have j1 : 0 ≤ 5 * (k : Int) + 1 := by omega
      have j2 : 0 ≤ 5 * (k : Int) + 2 := by omega
      have j3 : 0 ≤ 5 * (k : Int) + 3 := by omega
      have j4 : 0 ≤ 5 * (k : Int) + 4 := by omega
      go_wp2_with fail
      go_quiet (fail)
      clear w1 w2 w3 w4
      go_wp2_with fail
      have hz := HZ.out
      have z := HB.out.size
      refine ⟨⟨k + 1, by omega, by go_num, ?_, (((((B1.out.drewN nq).other (by omega) _ _).other (by omega) _ _).other (by omega) _ _).other (by omega) _ _).other (by omega) _ _, ?_⟩, by simp [intOf]; omega⟩
      · rw [← HN.out]
        exact (((((B0.out.drewN nq).set _ _).set _ _).set _ _).set _ _).set _ _
      · exact below_set (below_set (below_set (below_set (below_set (below_drew' HB.out nq) _ _ _ (Nat.le_refl _) z) _ _ _ (Nat.le_refl _) (by simpa [World.setCell] using z)) _ _ _ (Nat.le_refl _) (by simpa [World.setCell] using z)) _ _ _ (Nat.le_refl _) (by simpa [World.setCell] using z)) _ _ _ (Nat.le_refl _) (by simpa [World.setCell] using z)
    · have ek : k = 5 := by omega
      subst ek
      rw [jf_end] at B0
      have l1 := LDk_run (B0.out.range 0 _ (fun j v h => by rw [Nat.zero_add]; exact h)) (wl_length _ _)
      have s1 := SVk_run (cs := wl 25 (jn a)) (B1.out.there 0 25 (by rw [wl_length]; omega)) (wl_length _ _) (wl_one _ _)
      have b3 := B1.out.put 0 (wl 25 (jn a))
      rw [put_all _ _ (by rw [wl_length, wl_length])] at b3
      have l2 := hid (LDk_run (b3.range 0 _ (fun j v h => by rw [Nat.zero_add]; exact h)) (wl_length _ _))
      clear b3
      go_wp2
      have hz := HZ.out
      refine bodyPost_ret (v := .agg (wl 25 (jn a)).toArray) ?_ rfl ⟨rfl, below_cells HB.out _ _ _ (by omega) (by omega)⟩
      exact results_cell1 Tryd.results72 rfl l2.out
end Go.Proofs.YtidejhkajabdfaaDoor.Kc
