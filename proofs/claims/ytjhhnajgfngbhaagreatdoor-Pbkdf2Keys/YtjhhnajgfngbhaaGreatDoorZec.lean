/- The document's words, Digest, FormOf, Last. The document's function Sum, and the law Sha512Sums, walked. -/
import Derived.Test.YtjhhnajgfngbhaaGreatDoorZeb
import Derived.Test.YtjhhnajgfngbhaaGreatDoorZrr
import Derived.Test.YtjhhnajgfngbhaaGreatDoorZjd
namespace Go.Proofs.YtjhhnajgfngbhaaGreatDoor.Sg
open Go.ChangeShapes Go.WideShapes Go.ChangeAt Go.RowKit
open Go.Proofs.YtjhhnajgfngbhaaGreatDoor.By Go.Proofs.YtjhhnajgfngbhaaGreatDoor.Wd

@[go_sem high] theorem sub_lh (w : World) (a : Option Addr) (n cap : Nat) (l h : Int) (h0 : 0 ≤ l) (h1 : l ≤ h) (h2 : h ≤ cap) : (Instr.sliceAt 22 (.slice a n cap) (some (.int .i64 l)) (some (.int .i64 h)) none).run Tryz.prog w = .ok (sub a cap l h) w := by
  rw [run_sliceAt_slice w 22 _ _ _ _ elem22, run_slice_lh w 22 a n cap elem22 .i64 .i64 l h h0 h1 h2, size5]
  rfl
theorem rb_two {w : World} {a : Option Addr} {n cap j : Nat} {f : Nat → Int} (hr : By.RB w (.slice a n cap) n f) (h : 128 * j + 128 ≤ n) : By.RB w (sub a cap (128 * (j : Int)) (128 * (j : Int) + 128)) 128 (fun i => f (128 * j + i)) := by
  obtain ⟨hf, a', cap', he, h1, h2, hcc⟩ := hr
  simp only [Value.slice.injEq] at he
  obtain ⟨rfl, _, rfl⟩ := he
  rcases hcc with ⟨e, _⟩ | ⟨b, off, rfl, hcc⟩
  · omega
  · refine ⟨fun j => hf _, some ⟨b, off + 128 * j, none⟩, cap - 128 * j, ?_, by omega, by omega, .inr ⟨b, off + 128 * j, rfl, fun i hi => by rw [Nat.add_assoc]; exact hcc (128 * j + i) (by omega)⟩⟩
    unfold sub
    rw [show (128 * (j : Int)).toNat = 128 * j from by omega, show (128 * (j : Int) + 128).toNat = 128 * j + 128 from by omega, if_neg (by omega), Option.map_some, By.add_plain, Nat.mul_one, Nat.add_sub_cancel_left]
set_option maxRecDepth 4000 in
set_option maxHeartbeats 400000 in
theorem words59 (n : Nat) (v : Value) (f : Nat → Int) (w : World) (hr : By.RB w v n f) (hn : n ≤ 281474976710656) :
    Calls Tryz.prog 96 #[v] w fun e w' => e = .returned (.agg (wl 8 (hw f (n / 128))).toArray) ∧ Below w.heap.size w w' := by
  have HR := hid hr
  obtain ⟨-, a, cap, rfl, hcap, -, -⟩ := hr
  go_enter Tryz.func96, Tryz.ntmps96
  go_wp2_with fail
  refine (begin72 _).mono ?_
  rintro e w1 ⟨rfl, hb1⟩
  have B0 := hid ((Blk.newAt w _ (wl 8 (fun _ => 0)) 120 w.heap.size rfl h8).below hb1)
  have b1 := hid (below_next (below_alloc w _) hb1)
  clear hb1
  have nb := Blk.newAt w1 _ (wl 8 (fun _ => 0)) 120 w1.heap.size rfl h8
  have x1 := SVh_run (cs := wl 8 bg) (nb.there 0 8 (by rw [wl_length]; omega)) (wl_length _ _) (wl_one _ _)
  have nb2 := nb.put 0 (wl 8 bg)
  rw [put_all _ _ (by rw [wl_length, wl_length])] at nb2
  have NB := hid nb2
  clear nb nb2
  go_upto_region 2 with fail
  obtain ⟨X0, hX0⟩ : ∃ x, World.setCells (w1.alloc (.cells (wl 8 (fun _ => 0)).toArray 120)) w1.heap.size 0 (wl 8 bg) = x := ⟨_, rfl⟩
  have z1 := b1.out.size
  have l0 := B0.out.lt
  have p0 := hid ((B0.out.alloc (.cells (wl 8 (fun _ => 0)).toArray 120)).kept (Kp.setCells w1.heap.size 0 (wl 8 bg)) (by omega))
  have p2 := hid (below_cells (below_next b1.out (below_alloc w1 (.cells (wl 8 (fun _ => 0)).toArray 120))) w1.heap.size 0 (wl 8 bg) z1 (by rw [size_alloc]; omega))
  rw [hX0] at p0 p2
  rw [h8, hX0] at NB
  rw [h8, hX0]
  obtain ⟨gx, hgx⟩ : ∃ x, w1.heap.size = x := ⟨_, rfl⟩
  rw [hgx] at NB
  rw [hgx]
  have hgg : w.heap.size < gx := by rw [← hgx]; exact l0
  clear hX0 hgx l0 z1 B0 b1 x1
  go_wp2_with fail
  go_loopw [4] (fun i wr => ∃ j : Nat, 128 * j ≤ n ∧ i = .int .i64 (128 * (j : Int)) ∧ Blk wr w.heap.size (wl 8 (fun _ => 0)) 120 ∧ Blk wr gx (wl 8 (hw f j)) 120 ∧ Below w.heap.size w wr) (fun i _ => 600000000000000 - (intOf i).toNat)
  case atStart => exact ⟨0, by omega, rfl, p0.out, NB.out, p2.out⟩
  case round =>
    clear p0 NB p2
    obtain ⟨j, hj, rfl, h1, h2, h3⟩ := hrel
    have E0 := hid h1
    have X := hid h2
    have E2 := hid h3
    have zl := h2.lt
    clear h1 h2 h3
    have l1 := LDh_run (X.out.range 0 _ (fun j v h => by rw [Nat.zero_add]; exact h)) (wl_length _ _)
    by_cases hlt : 128 * j + 128 ≤ n
    · have hlt' : 128 * (j : Int) + 128 ≤ n := by omega
      have s0 : 0 ≤ 128 * (j : Int) := by omega
      have s1 : 128 * (j : Int) ≤ 128 * (j : Int) + 128 := by omega
      have s2 : 128 * (j : Int) + 128 ≤ (cap : Int) := by omega
      have s3 : IntKind.i64.wrap (128 * (j : Int) + 128) = 128 * (j : Int) + 128 := by rw [IntKind.wrap_i64]; omega
      have l1' := LDh_run (w := wr.drew) ((X.out.drewN 1).range 0 _ (fun j v h => by rw [Nat.zero_add]; exact h)) (wl_length _ _)
      clear l1
      go_wp2_with fail
      go_region_with (first | (go_at_call 109; go_must (refine (compress66 (hw f j) (fun i => f (128 * j + i)) _ 128 (hw_w f j) _ (rb_two (HR.out.below (below_drew' E2.out 1)) hlt) (by omega) (by omega)).mono ?_; rintro e w4 ⟨rfl, hb4⟩; have X4 := hid ((X.out.drewN 1).below hb4); have s1 := SVh_run (cs := wl 8 (comp (hw f j) (fun i => f (128 * j + i)))) (X4.out.there 0 8 (by rw [wl_length]; omega)) (wl_length _ _) (wl_one _ _); have E4 := hid ((E0.out.drewN 1).below hb4); have b4 := hid ((below_drew' E2.out 1).trans (hb4.mono E2.out.size)); clear hb4)))
      all_goals go_wp2
      all_goals have b5 := X4.out.put 0 (wl 8 (comp (hw f j) (fun i => f (128 * j + i))))
      all_goals rw [put_all _ _ (by rw [wl_length, wl_length])] at b5
      all_goals refine ⟨⟨j + 1, by omega, by go_num, E4.out.kept (Kp.setCells _ _ _) (by omega), b5, below_cells b4.out _ _ _ (by omega) b4.out.size⟩, by simp [intOf]; omega⟩
    · have ej : n / 128 = j := by omega
      have hlt' : ¬ 128 * (j : Int) + 128 ≤ n := by omega
      have s1 := SVh_run (cs := wl 8 (hw f j)) (E0.out.there 0 8 (by rw [wl_length]; omega)) (wl_length _ _) (wl_one _ _)
      have b3 := E0.out.put 0 (wl 8 (hw f j))
      rw [put_all _ _ (by rw [wl_length, wl_length])] at b3
      have l2 := hid (LDh_run (b3.range 0 _ (fun j v h => by rw [Nat.zero_add]; exact h)) (wl_length _ _))
      have EJ := hid ej
      clear b3 ej
      go_wp2
      refine bodyPost_ret (v := .agg (wl 8 (hw f j)).toArray) ?_ rfl ⟨by rw [EJ.out], below_cells E2.out _ _ _ (Nat.le_refl _) E2.out.size⟩
      exact results_cell1 Tryz.results96 rfl l2.out
/-- The padded message. -/
def padf (m : Nat) (f : Nat → Int) : Nat → Int := cat m f (endf m)
theorem padf_bound (m : Nat) (f : Nat → Int) (hf : ∀ i, 0 ≤ f i ∧ f i < 256) (i : Nat) : 0 ≤ padf m f i ∧ padf m f i < 256 := cat_bound hf (endf_bound m) i
theorem padf_m (m : Nat) (f : Nat → Int) (i : Nat) (h : i < m) : padf m f i = f i := by unfold padf cat; rw [if_pos h]
theorem padf_128 (m : Nat) (f : Nat → Int) : padf m f m = 128 := by
  unfold padf endf cat
  rw [if_neg (by omega), if_pos (by omega)]
  show (if m - m = 0 then (128 : Int) else 0) = 128
  rw [if_pos (by omega)]
theorem padf_0 (m : Nat) (f : Nat → Int) (k : Nat) (h0 : 0 < k) (h : k < 1 + zs m + 8) : padf m f (m + k) = 0 := by
  unfold padf endf cat
  rw [if_neg (by omega), if_pos (by omega)]
  show (if m + k - m = 0 then (128 : Int) else 0) = 0
  rw [if_neg (by omega)]
theorem padf_e (m : Nat) (f : Nat → Int) (k : Nat) : padf m f (m + (1 + zs m + 8) + k) = beByte 8 (8 * (m : Int)) k := by
  unfold padf endf cat
  rw [if_neg (by omega), if_neg (by omega)]
  congr 1
  omega
set_option maxRecDepth 4000 in
set_option maxHeartbeats 2000000 in
theorem digest52 (m : Nat) (v : Value) (f : Nat → Int) (w : World) (hr : By.RB w v m f) (hm : m ≤ 140737488353328) :
    Calls Tryz.prog 83 #[v] w fun e w' => ∃ u, e = .returned u ∧ By.Own w' w.heap.size u 64 (dig m f) ∧ Below w.heap.size w w' := by
  have HR := hid hr
  have hf := hid hr.1
  obtain ⟨_, a, cap, rfl, -, -, -⟩ := hr
  have hzs : zs m < 128 := by unfold zs; omega
  have hze : (m + (1 + zs m)) % 128 = 112 := by unfold zs; omega
  have hzn : ∀ k, k < 1 + zs m → 0 < k → (m + k) % 128 ≠ 112 := by unfold zs; intro k h1 h2; omega
  have HZN := hid hzn
  have HZE := hid hze
  clear hzn hze
  go_enter Tryz.func83, Tryz.ntmps83
  go_wp2_with (at_builtin; go_must (refine wpList_cat rfl _ _ rfl w.heap.size 0 m _ _ f f rfl (By.own_nil _ _ _ hf.out) rfl HR.out (by omega) (Nat.le_refl _) ?_))
  intro v1 w1 hv1 hg1
  have O1 := hid (show By.Own w1 w.heap.size v1 m (padf m f) from own_congr (f := cat 0 f f) hv1 (padf_bound m f hf.out) (fun i hi => by rw [padf_m m f i hi, cat0]))
  have b1 := hid (below_grow (Below.refl w.heap.size w) (Nat.le_refl _) (By.own_nil w w.heap.size f hf.out) hg1)
  clear hv1 hg1
  go_wp2_with (at_builtin; go_must (refine wpList_cat rfl _ _ rfl w.heap.size m 1 _ _ (padf m f) (fun _ => 128) rfl (own_below O1.out (below_alloc w1 _)) rfl (rb_one w1 128 (by decide)) (by omega) (Nat.le_trans b1.out.size (below_alloc w1 _).size) ?_))
  intro v2 w2 hv2 hg2
  have O2 := hid (own_congr hv2 (padf_bound m f hf.out) (cat_one m (padf m f) (padf m f) 128 (fun _ _ => rfl) (padf_128 m f).symm))
  have b2 := hid (below_grow (below_next b1.out (below_alloc w1 (.cells #[.int .u8 128] 5))) (Nat.le_trans b1.out.size (below_alloc w1 _).size) (own_below O1.out (below_alloc w1 (.cells #[.int .u8 128] 5))) hg2)
  clear hv2 hg2
  go_wp2_with fail
  go_loopw [3] (fun u wr => ∃ k : Nat, 1 ≤ k ∧ k ≤ 1 + zs m ∧ By.Own wr w.heap.size u (m + k) (padf m f) ∧ Below w.heap.size w wr) (fun u _ => 600000000000000 - slLen u)
  case atStart => exact ⟨1, by omega, by omega, O2.out, b2.out⟩
  case round =>
    clear O1 O2 b1 b2
    obtain ⟨k, hk0, hk, hown, hbel⟩ := hrel
    have O := hid hown
    have b := hid hbel
    obtain ⟨gg, cc, rfl, -⟩ := own_cells hown (by omega)
    clear hown hbel
    by_cases hlt : k < 1 + zs m
    · have hne : ¬ ((m + k : Nat) : Int) % 128 = 112 := by have := HZN.out k hlt hk0; omega
      go_wp2_with (at_builtin; go_must (refine wpList_cat rfl _ _ rfl w.heap.size (m + k) 1 _ _ (padf m f) (fun _ => 0) rfl (own_below O.out (below_alloc wr _)) rfl (rb_one wr 0 (by decide)) (by omega) (Nat.le_trans b.out.size (below_alloc wr _).size) ?_))
      intro v3 w3 hv3 hg3
      have O3 := hid (own_congr hv3 (padf_bound m f hf.out) (cat_one (m + k) (padf m f) (padf m f) 0 (fun _ _ => rfl) (padf_0 m f k hk0 (by omega)).symm))
      have b3 := hid (below_grow (below_next b.out (below_alloc wr (.cells #[.int .u8 0] 5))) (Nat.le_trans b.out.size (below_alloc wr _).size) (own_below O.out (below_alloc wr (.cells #[.int .u8 0] 5))) hg3)
      obtain ⟨g3, c3, rfl, -⟩ := own_cells O3.out (by omega)
      clear hv3 hg3
      go_wp2
      exact ⟨⟨k + 1, by omega, by omega, O3.out, b3.out⟩, by simp [slLen]; omega⟩
    · have ek : k = 1 + zs m := by omega
      subst ek
      have he : ((m + (1 + zs m) : Nat) : Int) % 128 = 112 := by have := HZE.out; omega
      go_wp2_with (at_builtin; go_must (refine wpList_zeros rfl _ _ rfl w.heap.size (m + (1 + zs m)) 8 _ (padf m f) rfl O.out rfl (by omega) (by omega) b.out.size ?_))
      intro v4 w4 hv4 hg4
      have O4 := hid (own_congr (g := padf m f) hv4 (padf_bound m f hf.out) (fun i hi => by
        unfold cat
        split
        · rfl
        · rw [show i = m + (i - m) from by omega, padf_0 m f (i - m) (by omega) (by omega)]))
      have b4 := hid (below_grow b.out b.out.size O.out hg4)
      clear hv4 hg4 O b
      go_wp2_with fail
      refine (number60 (8 * m) (by omega) _).mono ?_
      rintro e w5 ⟨u, rfl, hu, hb5⟩
      have HU := hid hu.reads
      have O5 := hid (own_below O4.out hb5)
      have b5 := hid (below_next b4.out hb5)
      have z5 := hid b5.out.size
      clear hu hb5
      go_wp2_with (at_builtin; go_must (refine wpList_cat rfl _ _ rfl w.heap.size (m + (1 + zs m) + 8) 8 _ _ (padf m f) (beByte 8 (8 * m)) rfl O5.out rfl HU.out (by omega) z5.out ?_))
      intro v6 w6 hv6 hg6
      have O6 := hid (own_congr (g := padf m f) hv6 (padf_bound m f hf.out) (fun i hi => by
        unfold cat
        split
        · rfl
        · rw [show i = m + (1 + zs m + 8) + (i - (m + (1 + zs m) + 8)) from by omega, padf_e]; congr 1; omega))
      have b6 := hid (below_grow b5.out z5.out O5.out hg6)
      clear hv6 hg6
      go_wp2_with fail
      refine (words59 _ _ _ _ O6.out.reads (by omega)).mono ?_
      rintro e w7 ⟨rfl, hb7⟩
      have b7 := hid (below_next b6.out hb7)
      clear hb7
      go_wp2_with fail
      refine (rlaid58 _ (hw_w _ _) _).mono ?_
      rintro e w8 ⟨u8, rfl, hu, hb⟩
      have U8 := hid (own_mono hu b7.out.size)
      have b8 := hid (below_next b7.out hb)
      clear hu hb
      go_wp2
      go_ret
      refine ⟨_, rfl, ?_, b8.out⟩
      have := U8.out
      rw [show m + (1 + zs m) + 8 + 8 = m + (1 + zs m + 16) from by omega] at this
      exact this
theorem rb_tail {w : World} {a : Option Addr} {n cap : Nat} {f : Nat → Int} (hr : By.RB w (.slice a n cap) n f) : By.RB w (sub a cap ((n : Int) / 128 * 128) (n : Int)) (n % 128) (fun i => f (n / 128 * 128 + i)) := by
  obtain ⟨hf, a', cap', he, h1, h2, hcc⟩ := hr
  simp only [Value.slice.injEq] at he
  obtain ⟨rfl, _, rfl⟩ := he
  have hq : n / 128 * 128 ≤ n := by omega
  refine ⟨fun j => hf _, if cap = n / 128 * 128 then a else a.map (·.add (n / 128 * 128)), cap - n / 128 * 128, ?_, by omega, by omega, ?_⟩
  · unfold sub
    rw [show ((n : Int) / 128 * 128).toNat = n / 128 * 128 from by omega, Int.toNat_natCast, Nat.mul_one, show n - n / 128 * 128 = n % 128 from by omega]
  · rcases hcc with ⟨e, e2⟩ | ⟨b, off, rfl, hcc⟩
    · refine .inl ⟨by omega, fun e3 => ?_⟩
      split at e3
      · have := e2 e3; omega
      · cases a with
        | none => have := e2 rfl; omega
        | some x => simp at e3
    · by_cases h0 : n % 128 = 0
      · refine .inl ⟨h0, fun e3 => ?_⟩
        split at e3
        · cases e3
        · simp at e3
      · refine .inr ⟨b, off + n / 128 * 128, ?_, fun i hi => by rw [Nat.add_assoc]; exact hcc (n / 128 * 128 + i) (by omega)⟩
        rw [if_neg (by omega), Option.map_some, By.add_plain]
end Go.Proofs.YtjhhnajgfngbhaaGreatDoor.Sg
namespace Go.Proofs.YtjhhnajgfngbhaaGreatDoor.Sg
open Go.ChangeShapes Go.WideShapes Go.ChangeAt Go.RowKit
open Go.Proofs.YtjhhnajgfngbhaaGreatDoor.By Go.Proofs.YtjhhnajgfngbhaaGreatDoor.Wd

theorem last51 (n : Nat) (w : World) (hn : n ≤ 281474976710656) : Calls Tryz.prog 54 #[.int .i64 n] w fun e w' => e = .returned (.int .i64 (last n)) ∧ w' = w := by
  by_cases h : n % 128 < 112
  · have h1 : (n : Int) % 128 < 112 := by omega
    have e : last n = 1 := by unfold last zs; omega
    go_enter Tryz.func54, Tryz.ntmps54
    go_wp2
    go_ret
    exact ⟨by rw [e]; rfl, rfl⟩
  · have h1 : ¬ (n : Int) % 128 < 112 := by omega
    have e : last n = 2 := by unfold last zs; omega
    go_enter Tryz.func54, Tryz.ntmps54
    go_wp2
    go_ret
    exact ⟨rfl, rfl⟩
theorem noteTimes0 (b : Nat) (k s : Int) (w : World) :
    Calls Tryz.prog 53 #[.pointer (some ⟨b, 0, none⟩), .agg #[.int .u8 k, .int .i64 s], .int .i64 0] w fun e w' => e = .returned (.tuple #[]) ∧ Below w.heap.size w w' := by
  have HA := hid (below_alloc w (.cells #[.int .u8 k, .int .i64 s] 64))
  go_enter Tryz.func53, Tryz.ntmps53
  go_wp2
  refine bodyPost_ret (results_none rfl _ _ _) rfl ?_
  exact ⟨rfl, HA.out⟩
theorem apart3 (B n : Nat) (a b c : Value) (f g h : Nat → Int) (w : World) (ha : By.Own w B a n f) (hb : By.Own w B b 64 g) (hc : By.Own w B c 64 h) (hn : n ≤ 140737488355000) (h1 : a.ownBlock ≠ b.ownBlock) (h2 : a.ownBlock ≠ c.ownBlock) (h3 : b.ownBlock ≠ c.ownBlock) (hB : B ≤ w.heap.size) :
    Calls Tryz.prog 14 #[.slice (some ⟨w.heap.size, 0, none⟩) 3 3] (w.alloc (.cells #[a, b, c] 22)) fun e w' => e = .returned (.bool true) ∧ Below B (w.alloc (.cells #[a, b, c] 22)) w' := by
  have ha' := own_below ha (below_alloc w (.cells #[a, b, c] 22))
  have hb' := own_below hb (below_alloc w (.cells #[a, b, c] 22))
  have hc' := own_below hc (below_alloc w (.cells #[a, b, c] 22))
  have bz := Blk.newAt w #[a, b, c] [a, b, c] 22 w.heap.size rfl rfl
  have lt1 : ∀ (v : Value) (k : Nat) (h : Nat → Int), By.Own w B v k h → v.ownBlock ≠ some w.heap.size := by
    intro v k h ho e
    obtain ⟨cs, hc⟩ := own8_type ho e
    have := (Array.getElem?_eq_some_iff.1 hc).1
    omega
  refine By.apart30 B 3 w.heap.size 3 (fun j => if j = 0 then a else if j = 1 then b else c) (fun j => if j = 0 then n else 64) (fun j => if j = 0 then f else if j = 1 then g else h) _ ⟨?_, ?_⟩ ⟨?_, ?_⟩ ?_ (by omega) (by omega) (fun j _ => by split <;> omega) (by rw [size_alloc]; omega)
  · intro i j hi hj hij
    right
    match i, j, hi, hj, hij with
    | 0, 1, _, _, _ => exact h1
    | 1, 0, _, _, _ => exact fun e => h1 e.symm
    | 0, 2, _, _, _ => exact h2
    | 2, 0, _, _, _ => exact fun e => h2 e.symm
    | 1, 2, _, _, _ => exact h3
    | 2, 1, _, _, _ => exact fun e => h3 e.symm
    | 0, 0, _, _, h => exact absurd rfl h
    | 1, 1, _, _, h => exact absurd rfl h
    | 2, 2, _, _, h => exact absurd rfl h
  · intro j hj
    match j, hj with
    | 0, _ => exact lt1 a n f ha
    | 1, _ => exact lt1 b 64 g hb
    | 2, _ => exact lt1 c 64 h hc
  · intro j hj
    match j, hj with
    | 0, _ => exact ha'
    | 1, _ => exact hb'
    | 2, _ => exact hc'
  · intro j hj
    match j, hj with
    | 0, _ => exact bz.cell 0 _ rfl
    | 1, _ => exact bz.cell 1 _ rfl
    | 2, _ => exact bz.cell 2 _ rfl
  · intro j i
    by_cases q : j = 0
    · simp only [q, if_true]; exact ha.1 i
    · by_cases q2 : j = 1
      · simp only [q2, if_true]; exact hb.1 i
      · simp only [q, q2, if_false]; exact hc.1 i
/-- Lists that were there ahead of one another are no one another. -/
theorem own_ne {w w' : World} {B B' n m : Nat} {u v : Value} {f g : Nat → Int} (hu : By.Own w B u n f) (hn : 0 < n) (hv : By.Own w' B' v m g) (hB : w.heap.size ≤ B') : u.ownBlock ≠ v.ownBlock := fun e => by
  obtain ⟨g5, c5, e5, -⟩ := own_cells hu hn
  have q5 : u.ownBlock = some g5 := by rw [e5]; rfl
  have := (Array.getElem?_eq_some_iff.1 (own8_type hu q5).choose_spec).1
  have := own_row hv g5 (by rw [← e]; exact q5)
  omega
theorem own_grown {w w' : World} {base n : Nat} {v : Value} {f : Nat → Int} {r : Option Nat} (h : By.Own w base v n f) (hg : w.grownBy w' r) (hne : v.ownBlock ≠ r) : By.Own w' base v n f :=
  own_kept h (Kp.of_grown hg) (fun q hq e => hne (by rw [hq]; exact e.symm))
theorem led_grown {w w' : World} {lb : Nat} {rv : Value} {L : List Rn} {g n base : Nat} {v : Value} {f : Nat → Int} (h : Led w lb rv L) (ho : By.Own w base v n f) (hv : v.ownBlock = some g) (hg : w.grownBy w' (some g)) : Led w' lb rv L := by
  obtain ⟨cs, hc⟩ := own8_type ho hv
  have key := led_apart h (g := g) (cs := cs.toList) (t := 5) (by show w.heap[g]? = _; rw [hc]) (by decide) (by decide)
  exact h.kept (Kp.of_grown hg) (fun e => key (.inl (Option.some.inj e))) (fun q hq e => key (.inr (by rw [hq]; exact e.symm)))
theorem rled_grown {w w' : World} {lb : Nat} {rv : Value} {L : List Rn} {g n base : Nat} {v : Value} {f : Nat → Int} (h : RLed w lb rv L) (ho : By.Own w base v n f) (hv : v.ownBlock = some g) (hg : w.grownBy w' (some g)) : RLed w' lb rv L := by
  obtain ⟨cs, hc⟩ := own8_type ho hv
  refine h.kept (Kp.of_grown hg) (fun e => ?_) (fun q hq e => ?_)
  · have e' : g = lb := Option.some.inj e
    subst e'
    have := Option.some.inj (hc.symm.trans h.here)
    simp at this
  · have e' : g = q := Option.some.inj e
    subst e'
    obtain ⟨cs', hc'⟩ := own_type h.own hq
    have := Option.some.inj (hc.symm.trans hc')
    simp at this
end Go.Proofs.YtjhhnajgfngbhaaGreatDoor.Sg
