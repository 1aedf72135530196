/- Lanes and bytes: numbers; what the document's From answers, and the statements' state of any list. -/
import Derived.Test.YtidejhkajabdfaaDoorQcel
import Derived.Test.YtidejhkajabdfaaDoorQkw
namespace Go.Proofs.YtidejhkajabdfaaDoor.Kc
open Go.ChangeShapes Go.WideShapes Go.ChangeAt Go.RowKit
open Go.Proofs.YtidejhkajabdfaaDoor.By Go.Proofs.YtidejhkajabdfaaDoor.Wd
/-- 200 noughts. -/
def zc200 : Array Value := (bl 200 (fun _ => 0)).toArray
theorem zc200_size : zc200.size = 200 := by simp [zc200, bl]
@[go_sem high] theorem zc200_ne : ¬ zc200 = #[] := by
  intro h
  have := congrArg Array.size h
  rw [zc200_size] at this
  simp at this
@[go_sem high] theorem zv200 (w : World) : (zeroValue 69).run Tryd.prog w = .ok (.agg zc200) w := by kernel_rfl
theorem y25 : #[Value.int .u64 0, .int .u64 0, .int .u64 0, .int .u64 0, .int .u64 0, .int .u64 0, .int .u64 0, .int .u64 0, .int .u64 0, .int .u64 0, .int .u64 0, .int .u64 0, .int .u64 0, .int .u64 0, .int .u64 0, .int .u64 0, .int .u64 0, .int .u64 0, .int .u64 0, .int .u64 0, .int .u64 0, .int .u64 0, .int .u64 0, .int .u64 0, .int .u64 0] = (wl 25 (fun _ => 0)).toArray := by kernel_rfl
def BB (f : Nat → Int) : Prop := ∀ i, 0 ≤ f i ∧ f i < 256
/-- The lanes of bytes; the bytes of lanes. -/
def fl (f : Nat → Int) (j : Nat) : Int := By.LE (fun i => f (8 * j + i)) 8
def bf (a : Nat → Int) (i : Nat) : Int := leByte (a (i / 8)) (i % 8)
theorem fl_w {f : Nat → Int} (h : BB f) : AW (fl f) := fun j => LE_bound (fun i => f (8 * j + i)) (fun _ => h _) 8
theorem bf_b (a : Nat → Int) : BB (bf a) := fun _ => leByte_bound _ _
theorem le_back {x : Int} (h : W64 x) : By.LE (fun i => leByte x i) 8 = x := by
  have h1 := h.1
  have h2 := h.2
  simp only [By.LE, leByte]
  simp only [Int.reducePow]
  omega
theorem le_byte (g : Nat → Int) (h : BB g) (k : Nat) (hk : k < 8) : leByte (By.LE g 8) k = g k := by
  have h0 := h 0
  have h1 := h 1
  have h2 := h 2
  have h3 := h 3
  have h4 := h 4
  have h5 := h 5
  have h6 := h 6
  have h7 := h 7
  simp only [By.LE, leByte]
  match k, hk with
  | 0, _ => simp only [Int.reducePow]; omega
  | 1, _ => simp only [Int.reducePow]; omega
  | 2, _ => simp only [Int.reducePow]; omega
  | 3, _ => simp only [Int.reducePow]; omega
  | 4, _ => simp only [Int.reducePow]; omega
  | 5, _ => simp only [Int.reducePow]; omega
  | 6, _ => simp only [Int.reducePow]; omega
  | 7, _ => simp only [Int.reducePow]; omega
theorem fl_bf {a : Nat → Int} (h : AW a) (j : Nat) : fl (bf a) j = a j := by
  unfold fl
  rw [LE_congr _ (fun i => leByte (a j) i) 8 (fun i hi => by
    show leByte (a ((8 * j + i) / 8)) ((8 * j + i) % 8) = _
    rw [show (8 * j + i) / 8 = j from by omega, show (8 * j + i) % 8 = i from by omega])]
  exact le_back (h j)
theorem bf_fl {f : Nat → Int} (h : BB f) (i : Nat) : bf (fl f) i = f i := by
  unfold bf fl
  rw [le_byte (fun k => f (8 * (i / 8) + k)) (fun k => h _) (i % 8) (Nat.mod_lt _ (by omega))]
  show f _ = f i
  congr 1; omega
theorem bf_congr {a b : Nat → Int} (h : ∀ i, i < 25 → a i = b i) : ∀ i, i < 200 → bf a i = bf b i := fun i hi => by
  unfold bf
  rw [h (i / 8) (by omega)]
/-- The lanes behind n of the bytes. -/
def fr (f : Nat → Int) (n j : Nat) : Int := By.LE (fun i => f (8 * j + i)) (min 8 (n - 8 * j))
theorem fr_zero (f : Nat → Int) : wl 25 (fun _ => (0 : Int)) = wl 25 (fr f 0) := wl_congr 25 _ _ (fun j _ => by unfold fr; rw [Nat.zero_sub]; rfl)
theorem fr_end (f : Nat → Int) : wl 25 (fr f 200) = wl 25 (fl f) := wl_congr 25 _ _ (fun j hj => by unfold fr fl; rw [show min 8 (200 - 8 * j) = 8 from by omega])
theorem fr_at (f : Nat → Int) (n : Nat) : fr f (n + 1) (n / 8) = fr f n (n / 8) + f n * 256 ^ (n % 8) := by
  unfold fr
  rw [show min 8 (n + 1 - 8 * (n / 8)) = n % 8 + 1 from by omega, show min 8 (n - 8 * (n / 8)) = n % 8 from by omega, By.LE]
  show _ + f (8 * (n / 8) + n % 8) * _ = _
  rw [show 8 * (n / 8) + n % 8 = n from by omega]
theorem fr_next (f : Nat → Int) (n : Nat) (x : Int) (hx : x = fr f (n + 1) (n / 8)) : (wl 25 (fr f n)).set (n / 8) (.int .u64 x) = wl 25 (fr f (n + 1)) := by
  rw [wl_set]
  refine wl_congr 25 _ _ (fun j hj => ?_)
  by_cases h : j = n / 8
  · rw [if_pos h, h, hx]
  · rw [if_neg h]
    unfold fr
    rw [show min 8 (n + 1 - 8 * j) = min 8 (n - 8 * j) from by omega]
theorem fr_b {f : Nat → Int} (h : BB f) (n j : Nat) : W64 (fr f n j) := by
  have h1 := LE_bound (fun i => f (8 * j + i)) (fun i => h _) (min 8 (n - 8 * j))
  have h2 := pow_le_of (min 8 (n - 8 * j)) 8 (by omega)
  unfold fr W64
  omega
theorem fr_add {f : Nat → Int} (h : BB f) (n : Nat) (v : Int) (hv : f n = v) : IntKind.u64.wrap (fr f n (n / 8) + IntKind.u64.wrap (v * 2 ^ (8 * (n % 8)))) = fr f (n + 1) (n / 8) := by
  subst hv
  have e := fr_at f n
  have b := fr_b h (n + 1) (n / 8)
  have b0 := fr_b h n (n / 8)
  have p : (2 : Int) ^ (8 * (n % 8)) = 256 ^ (n % 8) := by rw [Int.pow_mul]; rfl
  have q : 0 ≤ f n * (256 : Int) ^ (n % 8) := Int.mul_nonneg (h n).1 (Int.pow_nonneg (by omega))
  have b1 := b.2
  have b2 := b0.1
  rw [p]
  rw [e] at b1 ⊢
  generalize f n * (256 : Int) ^ (n % 8) = z at *
  rw [IntKind.wrap_u64, IntKind.wrap_u64]
  omega
set_option maxRecDepth 4000 in
set_option maxHeartbeats 2000000 in
theorem refFrom1 (f : Nat → Int) (hf : BB f) (w : World) :
    Calls Tryd.prog 62 #[.agg (bl 200 f).toArray] w fun e w' => e = .returned (.agg (wl 25 (fl f)).toArray) ∧ Below w.heap.size w w' := by
  have HF := hid hf
  clear hf
  go_enter Tryd.func62, Tryd.ntmps62
  go_wp2_with fail
  go_loopw [4] (fun i wr => ∃ n : Nat, n ≤ 200 ∧ i = .int .i64 n ∧ Blk wr w.heap.size (bl 200 f) 69 ∧ Blk wr (w.heap.size + 1) (wl 25 (fun _ => 0)) 99 ∧ Blk wr (w.heap.size + 1 + 1) (wl 25 (fr f n)) 99 ∧ Below w.heap.size w wr) (fun i _ => 200 - (intOf i).toNat)
  case atStart =>
    refine ⟨0, Nat.zero_le _, rfl, ((Blk.new w _ _).alloc _).alloc _, (Blk.newAt _ _ _ _ _ (by rw [size_alloc]) y25).alloc _, Blk.newAt _ _ _ _ _ (by rw [size_alloc, size_alloc]) (by rw [← fr_zero]; exact y25), ?_⟩
    exact below_next (below_next (below_alloc w _) (below_alloc _ _)) (below_alloc _ _)
  case round =>
    obtain ⟨n, hn, rfl, b0, b1, b2, hbel⟩ := hrel
    have B0 := hid b0
    have B1 := hid b1
    have B2 := hid b2
    have HB := hid hbel
    have HZ := hid b2.lt
    clear b0 b1 b2 hbel
    by_cases hlt : n < 200
    · have c0 := B0.out.cell n _ (bl_get 200 f n hlt)
      have c2 := B2.out.cell (n / 8) _ (wl_get 25 _ (n / 8) (by omega))
      have f2 := B2.out.frozen (n / 8)
      have eq : ((n : Int)).tdiv 8 = ((n / 8 : Nat) : Int) := by rw [Int.tdiv_eq_ediv_of_nonneg (by omega)]; omega
      have er : ((n : Int)).tmod 8 = ((n % 8 : Nat) : Int) := by rw [Int.tmod_eq_emod_of_nonneg (by omega)]; omega
      have hv := HF.out n
      have HN := hid (fr_next f n _ (fr_add HF.out n _ rfl))
      have hq : n / 8 < 25 := by omega
      have hr : n % 8 < 8 := by omega
      have i0 : ((n / 8 : Nat) : Int) < 25 := by omega
      obtain ⟨v, ev⟩ : ∃ z, f n = z := ⟨_, rfl⟩
      obtain ⟨m, em⟩ : ∃ z, fr f n (n / 8) = z := ⟨_, rfl⟩
      have hm := fr_b HF.out n (n / 8)
      rw [em] at hm
      have hm0 := hm.1
      have hm1 := hm.2
      clear hm
      rw [ev] at c0 hv HN
      rw [em] at c2 HN
      clear ev em
      generalize n / 8 = q at *
      generalize n % 8 = r at *
      go_wp2_with fail
      go_region
      go_wp2_with fail
      have hz := HZ.out
      refine ⟨⟨n + 1, by omega, by go_num, (B0.out.other (by omega) _ _).drewN _, (B1.out.other (by omega) _ _).drewN _, ?_, below_drew' (below_set HB.out _ _ _ (by omega) (by omega)) _⟩, by simp [intOf]; omega⟩
      rw [← HN.out]
      exact (B2.out.set _ _).drewN _
    · have ek : n = 200 := by omega
      subst ek
      rw [fr_end] at B2
      have l1 := LDt_run (B2.out.range 0 _ (fun j v h => by rw [Nat.zero_add]; exact h)) (wl_length _ _)
      have s1 := SVt_run (cs := wl 25 (fl f)) (B1.out.there 0 25 (by rw [wl_length]; omega)) (wl_length _ _) (wl_one _ _)
      have b3 := B1.out.put 0 (wl 25 (fl f))
      rw [put_all _ _ (by rw [wl_length, wl_length])] at b3
      have l2 := hid (LDt_run (b3.range 0 _ (fun j v h => by rw [Nat.zero_add]; exact h)) (wl_length _ _))
      clear b3
      go_wp2
      have hz := HZ.out
      refine bodyPost_ret (v := .agg (wl 25 (fl f)).toArray) ?_ rfl ⟨rfl, below_cells HB.out _ _ _ (by omega) (by omega)⟩
      exact results_cell1 Tryd.results62 rfl l2.out
end Go.Proofs.YtidejhkajabdfaaDoor.Kc
