/- The document's functions on a block: right, table, begin. The document's Compressed. -/
import Derived.Test.YtjhhnajgfngbhaaGreatDoorZha
import Derived.Deep.Cut
namespace Go.Proofs.YtjhhnajgfngbhaaGreatDoor.Sh
open Go.ChangeShapes Go.WideShapes Go.ChangeAt Go.RowKit
open Go.Proofs.YtjhhnajgfngbhaaGreatDoor.By Go.Proofs.YtjhhnajgfngbhaaGreatDoor.Wd

theorem or_comm32 (a b : Int) : bits .or .u32 a b = bits .or .u32 b a := by
  show IntKind.u32.wrap _ = IntKind.u32.wrap _
  rw [BitVec.or_comm]
theorem right_eq (x n : Int) (hx : W32 x) (h1 : 1 ≤ n) (h2 : n ≤ 31) : bits .or .u32 (x / 2 ^ n.toNat) (x * 2 ^ (32 - n).toNat % 4294967296) = rr x n := by
  have h := turned32 x (32 - n) hx.1 hx.2
  rw [show (32 - n) % 32 = 32 - n from by omega, show 32 - (32 - n) = n from by omega] at h
  rw [or_comm32]
  exact h
theorem right81 (x n : Int) (w : World) (hx : W32 x) (h1 : 1 ≤ n) (h2 : n ≤ 31) :
    Calls Tryz.prog 122 #[.int .u32 x, .int .i64 n] w fun e w' => e = .returned (.int .u32 (rr x n)) ∧ ∃ k, w' = w.drewN k := by
  have E := hid (right_eq x n hx h1 h2)
  clear hx
  go_enter Tryz.func122, Tryz.ntmps122
  go_wp2_with fail
  go_quiet (fail)
  go_wp2
  go_ret
  exact ⟨congrArg (fun z => Ending.returned (Value.int IntKind.u32 z)) E.out, _, rfl⟩
theorem klit : [Value.int .u32 1116352408, .int .u32 1899447441, .int .u32 3049323471, .int .u32 3921009573, .int .u32 961987163, .int .u32 1508970993, .int .u32 2453635748, .int .u32 2870763221, .int .u32 3624381080, .int .u32 310598401, .int .u32 607225278, .int .u32 1426881987, .int .u32 1925078388, .int .u32 2162078206, .int .u32 2614888103, .int .u32 3248222580, .int .u32 3835390401, .int .u32 4022224774, .int .u32 264347078, .int .u32 604807628, .int .u32 770255983, .int .u32 1249150122, .int .u32 1555081692, .int .u32 1996064986, .int .u32 2554220882, .int .u32 2821834349, .int .u32 2952996808, .int .u32 3210313671, .int .u32 3336571891, .int .u32 3584528711, .int .u32 113926993, .int .u32 338241895, .int .u32 666307205, .int .u32 773529912, .int .u32 1294757372, .int .u32 1396182291, .int .u32 1695183700, .int .u32 1986661051, .int .u32 2177026350, .int .u32 2456956037, .int .u32 2730485921, .int .u32 2820302411, .int .u32 3259730800, .int .u32 3345764771, .int .u32 3516065817, .int .u32 3600352804, .int .u32 4094571909, .int .u32 275423344, .int .u32 430227734, .int .u32 506948616, .int .u32 659060556, .int .u32 883997877, .int .u32 958139571, .int .u32 1322822218, .int .u32 1537002063, .int .u32 1747873779, .int .u32 1955562222, .int .u32 2024104815, .int .u32 2227730452, .int .u32 2361852424, .int .u32 2428436474, .int .u32 2756734187, .int .u32 3204031479, .int .u32 3329325298] = wl 64 K := by kernel_rfl
theorem blit : [Value.int .u32 1779033703, .int .u32 3144134277, .int .u32 1013904242, .int .u32 2773480762, .int .u32 1359893119, .int .u32 2600822924, .int .u32 528734635, .int .u32 1541459225] = wl 8 bg := by kernel_rfl
set_option maxRecDepth 20000 in
set_option maxHeartbeats 8000000 in
theorem table80 (w : World) : Calls Tryz.prog 121 #[] w fun e w' => e = .returned (.agg (wl 64 K).toArray) ∧ Below w.heap.size w w' := by
  have b0 := Blk.newAt w _ (wl 64 (fun _ => 0)) 128 w.heap.size rfl wz64
  have x1 := SVw_run (cs := wl 64 K) (b0.there 0 64 (by rw [wl_length]; omega)) (wl_length _ _) (wl_one _ _)
  have b1 := b0.put 0 (wl 64 K)
  rw [put_all _ _ (by rw [wl_length, wl_length])] at b1
  have l2 := hid (LDw_run (b1.range 0 _ (fun j v h => by rw [Nat.zero_add]; exact h)) (wl_length _ _))
  rw [← klit] at x1
  clear b0 b1
  go_enter Tryz.func121, Tryz.ntmps121
  go_wp2
  refine bodyPost_ret (v := .agg (wl 64 K).toArray) ?_ rfl ⟨rfl, ?_⟩
  · rw [klit]; exact results_cell1 Tryz.results121 rfl l2.out
  · exact below_cells (below_alloc w _) _ _ _ (Nat.le_refl _) (by rw [size_alloc]; omega)
set_option maxRecDepth 8000 in
theorem begin72 (w : World) : Calls Tryz.prog 115 #[] w fun e w' => e = .returned (.agg (wl 8 bg).toArray) ∧ Below w.heap.size w w' := by
  have b0 := Blk.newAt w _ (wl 8 (fun _ => 0)) 112 w.heap.size rfl h8
  have x1 := SVh_run (cs := wl 8 bg) (b0.there 0 8 (by rw [wl_length]; omega)) (wl_length _ _) (wl_one _ _)
  have b1 := b0.put 0 (wl 8 bg)
  rw [put_all _ _ (by rw [wl_length, wl_length])] at b1
  have l2 := hid (LDh_run (b1.range 0 _ (fun j v h => by rw [Nat.zero_add]; exact h)) (wl_length _ _))
  rw [← blit] at x1
  clear b0 b1
  go_enter Tryz.func115, Tryz.ntmps115
  go_wp2
  refine bodyPost_ret (v := .agg (wl 8 bg).toArray) ?_ rfl ⟨rfl, ?_⟩
  · rw [blit]; exact results_cell1 Tryz.results115 rfl l2.out
  · exact below_cells (below_alloc w _) _ _ _ (Nat.le_refl _) (by rw [size_alloc]; omega)
end Go.Proofs.YtjhhnajgfngbhaaGreatDoor.Sh
namespace Go.Proofs.YtjhhnajgfngbhaaGreatDoor.Sh
open Go.ChangeShapes Go.WideShapes Go.ChangeAt Go.RowKit
open Go.Proofs.YtjhhnajgfngbhaaGreatDoor.By Go.Proofs.YtjhhnajgfngbhaaGreatDoor.Wd

theorem tab_zero (b : Nat → Int) (t q : Nat) (h : t ≤ q) : tab b t q = 0 := by
  induction t with
  | zero => rfl
  | succ t ih =>
    show (if q = t then nxt b t (tab b t) else tab b t q) = 0
    rw [if_neg (by omega)]; exact ih (by omega)
/-- w[t] half made. -/
def tabI (b : Nat → Int) (t i : Nat) (q : Nat) : Int := if q = t then BE (fun j => b (4 * t + j)) i else tab b t q
theorem tabI_0 (b : Nat → Int) (t : Nat) : tabI b t 0 = tab b t := by
  funext q
  unfold tabI
  split
  · rename_i h; rw [tab_zero b t q (by omega)]; rfl
  · rfl
theorem tabI_4 (b : Nat → Int) (t : Nat) (ht : t < 16) : tabI b t 4 = tab b (t + 1) := by
  funext q
  show _ = (if q = t then nxt b t (tab b t) else tab b t q)
  unfold tabI nxt
  rw [if_pos ht]
theorem tabI_set (b : Nat → Int) (t i : Nat) (x : Int) (hx : x = BE (fun j => b (4 * t + j)) (i + 1)) : (wl 64 (tabI b t i)).set t (.int .u32 x) = wl 64 (tabI b t (i + 1)) := by
  rw [wl_set, hx]
  refine wl_congr _ _ _ (fun q _ => ?_)
  unfold tabI
  by_cases h : q = t
  · rw [if_pos h, if_pos h]
  · rw [if_neg h, if_neg h, if_neg h]
theorem size_cells (b : Nat) (vs : List Value) (o : Nat) (w : World) : (w.setCells b o vs).heap.size = w.heap.size := by
  induction vs generalizing o w with
  | nil => rfl
  | cons v r ih => rw [World.setCells, ih]; simp [World.setCell]
structure CW (w W : World) (h : Nat → Int) (g : Nat) (T : Nat → Int) : Prop where
  ha : Blk W w.heap.size (wl 8 h) 112
  res : Blk W (w.heap.size + 1) (wl 8 (fun _ => 0)) 112
  tk : Blk W g (wl 64 K) 128
  tw : Blk W (g + 1) (wl 64 T) 128
  bel : Below w.heap.size w W
  lt : w.heap.size + 1 < g
theorem CW.drewN {w W : World} {h : Nat → Int} {g : Nat} {T : Nat → Int} (c : CW w W h g T) (d : Nat) : CW w (W.drewN d) h g T := ⟨c.ha, c.res, c.tk, c.tw, below_drew' c.bel d, c.lt⟩
theorem CW.set {w W : World} {h : Nat → Int} {g : Nat} {T T' : Nat → Int} (c : CW w W h g T) (i : Nat) (x : Int) (e : (wl 64 T).set i (.int .u32 x) = wl 64 T') : CW w (W.setCell ⟨g + 1, i, none⟩ (.int .u32 x)) h g T' :=
  have hl := c.lt
  ⟨c.ha.other (by omega) _ _, c.res.other (by omega) _ _, c.tk.other (by omega) _ _, by rw [← e]; exact c.tw.set i _, below_set c.bel _ _ _ (by omega) c.bel.size, c.lt⟩
theorem CW.cells {w W : World} {h : Nat → Int} {g gx : Nat} {T : Nat → Int} (c : CW w W h g T) (hx : g + 1 < gx) (vs : List Value) : CW w (W.setCells gx 0 vs) h g T :=
  have hl := c.lt
  ⟨c.ha.kept (Kp.setCells _ _ _) (by omega), c.res.kept (Kp.setCells _ _ _) (by omega), c.tk.kept (Kp.setCells _ _ _) (by omega), c.tw.kept (Kp.setCells _ _ _) (by omega), below_cells c.bel _ _ _ (by omega) c.bel.size, c.lt⟩
/-- The words of which the first i are added. -/
def hI (h X : Nat → Int) (i q : Nat) : Int := if q < i then ad (h q) (X q) else h q
theorem hI_set (h X : Nat → Int) (i : Nat) (x : Int) (e : x = ad (h i) (X i)) : (wl 8 (hI h X i)).set i (.int .u32 x) = wl 8 (hI h X (i + 1)) := by
  rw [wl_set, e]
  refine wl_congr _ _ _ (fun q _ => ?_)
  unfold hI
  by_cases h1 : q = i
  · subst h1; rw [if_pos rfl, if_pos (by omega)]
  · rw [if_neg h1]
    by_cases h2 : q < i
    · rw [if_pos h2, if_pos (by omega)]
    · rw [if_neg h2, if_neg (by omega)]
set_option maxRecDepth 8000 in
set_option maxHeartbeats 8000000 in
theorem compressed73 (h f : Nat → Int) (v : Value) (n at' : Nat) (hh : ∀ i, W32 (h i)) (w : World) (hr : By.RB w v n f) (ha : at' + 64 ≤ n) (hn : n ≤ 140737488354328) :
    Calls Tryz.prog 116 #[.agg (wl 8 h).toArray, v, .int .i64 at'] w fun e w' => e = .returned (.agg (wl 8 (comp h (fun i => f (at' + i)))).toArray) ∧ Below w.heap.size w w' := by
  have HH := hid hh
  have HF := hid (show ∀ i, 0 ≤ f (at' + i) ∧ f (at' + i) < 256 from fun i => hr.1 _)
  obtain ⟨hf, a, cap, rfl, h1, h2, hc⟩ := hr
  rcases hc with ⟨e, _⟩ | ⟨pb, po, rfl, hc⟩
  · omega
  have HC := hid hc
  have hpl : Hid (pb < w.heap.size) := block_lt_of_cell (hc 0 (by omega))
  clear hc hf hh
  obtain ⟨b, hb⟩ : ∃ b, b = fun i => f (at' + i) := ⟨_, rfl⟩
  have HBB := hid hb
  rw [← hb]
  clear hb
  go_enter Tryz.func116, Tryz.ntmps116
  go_wp2_with fail
  refine (table80 _).mono ?_
  rintro e w1 ⟨rfl, hb1⟩
  have B0 := hid (((Blk.new w (wl 8 h) 112).alloc (.cells (wl 8 (fun _ => 0)).toArray 112)).below hb1)
  have B1 := hid ((Blk.newAt (w.alloc (.cells (wl 8 h).toArray 112)) _ (wl 8 (fun _ => 0)) 112 (w.heap.size + 1) (by simp) h8).below hb1)
  have b1 := hid (below_next (below_next (below_alloc w _) (below_alloc _ _)) hb1)
  clear hb1
  have nb := Blk.newAt w1 _ (wl 64 (fun _ => 0)) 128 w1.heap.size rfl wz64
  have x1 := SVw_run (cs := wl 64 K) (nb.there 0 64 (by rw [wl_length]; omega)) (wl_length _ _) (wl_one _ _)
  have nb2 := nb.put 0 (wl 64 K)
  rw [put_all _ _ (by rw [wl_length, wl_length])] at nb2
  have NB := hid nb2
  clear nb nb2
  go_upto_region 2 with fail
  obtain ⟨W2, hW2⟩ : ∃ x, World.setCells (w1.alloc (.cells (wl 64 (fun _ => 0)).toArray 128)) w1.heap.size 0 (wl 64 K) = x := ⟨_, rfl⟩
  have z1 := b1.out.size
  have l0 := B0.out.lt
  have l1 := B1.out.lt
  have p0 := (B0.out.alloc (.cells (wl 64 (fun _ => 0)).toArray 128)).kept (Kp.setCells w1.heap.size 0 (wl 64 K)) (by omega)
  have p1 := (B1.out.alloc (.cells (wl 64 (fun _ => 0)).toArray 128)).kept (Kp.setCells w1.heap.size 0 (wl 64 K)) (by omega)
  have p2 := below_cells (below_next b1.out (below_alloc w1 (.cells (wl 64 (fun _ => 0)).toArray 128))) w1.heap.size 0 (wl 64 K) z1 (by rw [size_alloc]; omega)
  have sz : W2.heap.size = w1.heap.size + 1 := by rw [← hW2, size_cells, size_alloc]
  rw [hW2] at p0 p1 p2
  rw [wz64, hW2] at NB
  rw [wz64, hW2]
  clear hW2 x1
  have C0 := hid (show CW w (W2.alloc (.cells (wl 64 (fun _ => 0)).toArray 128)) h w1.heap.size (tab b 0) from ⟨p0.alloc _, p1.alloc _, NB.out.alloc _, Blk.newAt W2 _ _ _ _ sz.symm rfl, below_next p2 (below_alloc _ _), l1⟩)
  clear p0 p1 p2 NB B0 B1 b1 z1 l0 l1
  go_wp2_with fail
  rw [wz64]
  obtain ⟨g, hg⟩ : ∃ g, w1.heap.size = g := ⟨_, rfl⟩
  rw [hg] at C0
  rw [hg]
  clear hg sz
  obtain ⟨W3, hW3⟩ : ∃ x, W2.alloc (.cells (wl 64 (fun _ => 0)).toArray 128) = x := ⟨_, rfl⟩
  rw [hW3] at C0
  rw [hW3]
  clear hW3
  go_loopw [9] (fun i wr => ∃ t : Nat, t ≤ 64 ∧ i = .int .i64 t ∧ CW w wr h g (tab b t)) (fun i _ => 64 - (intOf i).toNat)
  case atStart => exact ⟨0, by omega, rfl, C0.out⟩
  case round =>
    clear C0
    obtain ⟨t, ht, rfl, hc⟩ := hrel
    have C := hid hc
    have HW := hid (tab_w b (by rw [HBB.out]; exact HF.out) t)
    clear hc
    by_cases hlt : t < 64
    · by_cases h16 : t < 16
      · go_wp2_with fail
        go_loopw [10] (fun i wq => ∃ k : Nat, k ≤ 4 ∧ i = .int .i64 k ∧ CW w wq h g (tabI b t k)) (fun i _ => 4 - (intOf i).toNat)
        case atStart => exact ⟨0, by omega, rfl, by rw [tabI_0]; exact C.out⟩
        case round =>
          obtain ⟨k, hk, rfl, hc⟩ := hrel
          have D := hid hc
          clear hc C HW
          by_cases hlk : k < 4
          · have c1 := D.out.tw.cell t _ (wl_get 64 _ t hlt)
            have cf := D.out.tw.frozen t
            have c2 := (D.out.bel.cell (p := ⟨pb, po + (at' + (4 * t + k)), none⟩) hpl.out).trans (HC.out (at' + (4 * t + k)) (by omega))
            have e1 : ((at' : Int) + 4 * t + k).toNat = at' + (4 * t + k) := by omega
            have e2 : (at' : Int) + 4 * t + k < n := by omega
            have ev : Hid (tabI b t k t = BE (fun j => b (4 * t + j)) k) := by show tabI b t k t = _; unfold tabI; rw [if_pos rfl]
            have bb := hid (fun i => BE_bound (fun j => b (4 * t + j)) (fun j => by rw [HBB.out]; exact HF.out _) i)
            go_wp2_with fail
            go_region
            go_wp2
            refine ⟨⟨k + 1, by omega, by go_num, (D.out.drewN _).set t _ (tabI_set b t k _ ?_)⟩, by simp [intOf]; omega⟩
            rw [ev.out]
            have q1 := bb.out k
            have q2 := pow_le_of k 3 (by omega)
            have q3 := HF.out (4 * t + k)
            rw [Int.emod_eq_of_lt q3.1 (by omega), or_be32 _ _ q1.1 (by omega) q3.1 q3.2, HBB.out]
            rfl
          · have ek : k = 4 := by omega
            subst ek
            have D2 := hid (show CW w wr h g (tab b (t + 1)) from by rw [← tabI_4 b t h16]; exact D.out)
            go_wp2
            exact ⟨⟨t + 1, by omega, by go_num, D2.out⟩, by simp [intOf]; omega⟩
      · have c15 := C.out.tw.cell (t - 15) _ (wl_get 64 _ (t - 15) (by omega))
        have c2 := C.out.tw.cell (t - 2) _ (wl_get 64 _ (t - 2) (by omega))
        have c7 := C.out.tw.cell (t - 7) _ (wl_get 64 _ (t - 7) (by omega))
        have c16 := C.out.tw.cell (t - 16) _ (wl_get 64 _ (t - 16) (by omega))
        have c1 := C.out.tw.cell t _ (wl_get 64 _ t (by omega))
        have cf := C.out.tw.frozen t
        have e15 : ((t : Int) - 15).toNat = t - 15 := by omega
        have e2 : ((t : Int) - 2).toNat = t - 2 := by omega
        have e7 : ((t : Int) - 7).toNat = t - 7 := by omega
        have e16 : ((t : Int) - 16).toNat = t - 16 := by omega
        go_wp2_with fail
        go_quiet ((go_at_call 122; (first | with_reducible refine (right81 (tab b t (t - 15)) 7 _ (HW.out _) (by omega) (by omega)).mono ?_ | with_reducible refine (right81 (tab b t (t - 15)) 18 _ (HW.out _) (by omega) (by omega)).mono ?_); rintro e w4 ⟨rfl, d, rfl⟩; (first | exact ⟨rfl, _, drewN_two _ _ _⟩ | exact ⟨rfl, _, drewN_three _ _ _ _⟩)))
        go_wp2_with fail
        go_quiet ((go_at_call 122; (first | with_reducible refine (right81 (tab b t (t - 2)) 17 _ (HW.out _) (by omega) (by omega)).mono ?_ | with_reducible refine (right81 (tab b t (t - 2)) 19 _ (HW.out _) (by omega) (by omega)).mono ?_); rintro e w4 ⟨rfl, d, rfl⟩; (first | exact ⟨rfl, _, drewN_two _ _ _⟩ | exact ⟨rfl, _, drewN_three _ _ _ _⟩)))
        go_wp2_with fail
        go_region
        go_wp2
        go_roundw
        case rel =>
          exact ⟨t + 1, by omega, by go_num, (C.out.drewN _).set t _ (wl_tab b 64 t _ (show _ = nxt b t (tab b t) from by unfold nxt; rw [if_neg (by omega)]; rfl))⟩
        case measure => simp [intOf]; omega
    · have et : t = 64 := by omega
      subst et
      have l1 := LDh_run (C.out.ha.range 0 _ (fun j v h => by rw [Nat.zero_add]; exact h)) (wl_length _ _)
      have nb := Blk.newAt wr _ (wl 8 (fun _ => 0)) 112 wr.heap.size rfl h8
      have x1 := SVh_run (cs := wl 8 h) (nb.there 0 8 (by rw [wl_length]; omega)) (wl_length _ _) (wl_one _ _)
      have nb2 := nb.put 0 (wl 8 h)
      rw [put_all _ _ (by rw [wl_length, wl_length])] at nb2
      have NB := hid nb2
      have HT := hid (tab_w b (by rw [HBB.out]; exact HF.out) 64)
      clear nb nb2
      go_upto_region 15 with fail
      obtain ⟨X0, hX0⟩ : ∃ x, World.setCells (wr.alloc (.cells (wl 8 (fun _ => 0)).toArray 112)) wr.heap.size 0 (wl 8 h) = x := ⟨_, rfl⟩
      have hl := C.out.lt
      have q0 := C.out.tw.lt
      have D0 : CW w X0 h g (tab b 64) := by
        rw [← hX0]
        exact ⟨(C.out.ha.alloc _).kept (Kp.setCells _ _ _) (by omega), (C.out.res.alloc _).kept (Kp.setCells _ _ _) (by omega), (C.out.tk.alloc _).kept (Kp.setCells _ _ _) (by omega), (C.out.tw.alloc _).kept (Kp.setCells _ _ _) (by omega), below_cells (below_next C.out.bel (below_alloc wr _)) _ _ _ C.out.bel.size (by rw [size_alloc]; have := C.out.bel.size; omega), hl⟩
      rw [h8, hX0] at NB
      rw [h8, hX0]
      obtain ⟨gx, hgx⟩ : ∃ x, wr.heap.size = x := ⟨_, rfl⟩
      rw [hgx] at NB
      rw [hgx]
      have hgg : g + 1 < gx := by rw [← hgx]; exact q0
      obtain ⟨T, eT⟩ : ∃ T, tab b 64 = T := ⟨_, rfl⟩
      rw [eT] at D0 HT
      have hT := hid eT
      have D := hid D0
      clear hX0 hgx q0 D0 C l1 x1 HW eT
      go_wp2_with fail
      go_loopw [14] (fun i wq => ∃ t : Nat, t ≤ 64 ∧ i = .int .i64 t ∧ CW w wq h g T ∧ Blk wq gx (wl 8 (rnds h T t)) 112) (fun i _ => 64 - (intOf i).toNat)
      case atStart => exact ⟨0, by omega, rfl, D.out, NB.out⟩
      case round =>
        clear D NB
        obtain ⟨t, ht, rfl, hc, hx⟩ := hrel
        have D := hid hc
        have X := hid hx
        have HX := hid (rnds_w h T HH.out t)
        clear hc hx
        by_cases hlt : t < 64
        · have ck := D.out.tk.cell t _ (wl_get 64 K t hlt)
          have ct := D.out.tw.cell t _ (wl_get 64 T t hlt)
          have EX : Hid (rnds h T (t + 1) = stp (rnds h T t) (K t) (T t)) := rfl
          obtain ⟨x, ex⟩ : ∃ x, rnds h T t = x := ⟨_, rfl⟩
          rw [ex] at X HX EX
          obtain ⟨kt, ekt⟩ : ∃ x, K t = x := ⟨_, rfl⟩
          rw [ekt] at ck EX
          obtain ⟨tt, ett⟩ : ∃ x, T t = x := ⟨_, rfl⟩
          rw [ett] at ct EX
          clear ex ekt ett
          have c0 := X.out.cell 0 _ (wl_get 8 x 0 (by omega))
          have c1 := X.out.cell 1 _ (wl_get 8 x 1 (by omega))
          have c2 := X.out.cell 2 _ (wl_get 8 x 2 (by omega))
          have c3 := X.out.cell 3 _ (wl_get 8 x 3 (by omega))
          have c4 := X.out.cell 4 _ (wl_get 8 x 4 (by omega))
          have c5 := X.out.cell 5 _ (wl_get 8 x 5 (by omega))
          have c6 := X.out.cell 6 _ (wl_get 8 x 6 (by omega))
          have c7 := X.out.cell 7 _ (wl_get 8 x 7 (by omega))
          have eP : Hid (((x 7 + bits .xor .u32 (bits .xor .u32 (rr (x 4) 6) (rr (x 4) 11)) (rr (x 4) 25) + bits .xor .u32 (bits .and .u32 (x 4) (x 5)) (bits .and .u32 (bits .xor .u32 (if IntKind.u32.signed = true then -1 else IntKind.u32.max) (x 4)) (x 6)) + kt) % 4294967296 + tt) % 4294967296 = pp x kt tt) := Int.emod_add_emod _ _ _
          have eQ : Hid ((bits .xor .u32 (bits .xor .u32 (rr (x 0) 2) (rr (x 0) 13)) (rr (x 0) 22) + bits .xor .u32 (bits .xor .u32 (bits .and .u32 (x 0) (x 1)) (bits .and .u32 (x 0) (x 2))) (bits .and .u32 (x 1) (x 2))) % 4294967296 = qq x) := rfl
          have s1 := fun d => SVh_run (w := wr.drewN d) (cs := [.int .u32 ((pp x kt tt + qq x) % 4294967296), .int .u32 (x 0), .int .u32 (x 1), .int .u32 (x 2), .int .u32 ((x 3 + pp x kt tt) % 4294967296), .int .u32 (x 4), .int .u32 (x 5), .int .u32 (x 6)]) ((X.out.drewN d).there 0 8 (by rw [wl_length]; omega)) rfl (by intro u hu; simp at hu; rcases hu with rfl | rfl | rfl | rfl | rfl | rfl | rfl | rfl <;> rfl)
          go_wp2_with fail
          go_quiet ((go_at_call 122; (first | with_reducible refine (right81 (x 4) 6 _ (HX.out _) (by omega) (by omega)).mono ?_ | with_reducible refine (right81 (x 4) 11 _ (HX.out _) (by omega) (by omega)).mono ?_ | with_reducible refine (right81 (x 4) 25 _ (HX.out _) (by omega) (by omega)).mono ?_); rintro e w4 ⟨rfl, d, rfl⟩; (first | exact ⟨rfl, _, drewN_two _ _ _⟩ | exact ⟨rfl, _, drewN_three _ _ _ _⟩)))
          rw [eP.out]
          go_wp2_with fail
          go_quiet ((go_at_call 122; (first | with_reducible refine (right81 (x 0) 2 _ (HX.out _) (by omega) (by omega)).mono ?_ | with_reducible refine (right81 (x 0) 13 _ (HX.out _) (by omega) (by omega)).mono ?_ | with_reducible refine (right81 (x 0) 22 _ (HX.out _) (by omega) (by omega)).mono ?_); rintro e w4 ⟨rfl, d, rfl⟩; (first | exact ⟨rfl, _, drewN_two _ _ _⟩ | exact ⟨rfl, _, drewN_three _ _ _ _⟩)))
          rw [eQ.out]
          go_wp2
          refine ⟨⟨_, _, _, _, _, _, _, _, _, _, _, _, _, _, _, _, _, _, _, _, _, _, _, _, _, _, _, _, _, _, _, _, _, _, _, _, _, _, _, _, _, _, _, _, _, _, _, _, _, _, _, _, _, _, _, _, _, _, _, _, _, _, _, _, _, _, _, _, _, _, _, _, _, _, _, _, _, _, _, _, _, _, _, _, _, _, _, _, _, _, _, ?_, rfl⟩, by simp [intOf]; omega⟩
          refine ⟨t + 1, by omega, by go_num, (D.out.drewN _).cells hgg _, ?_⟩
          have b4 := fun d => (X.out.drewN d).put 0 [.int .u32 ((pp x kt tt + qq x) % 4294967296), .int .u32 (x 0), .int .u32 (x 1), .int .u32 (x 2), .int .u32 ((x 3 + pp x kt tt) % 4294967296), .int .u32 (x 4), .int .u32 (x 5), .int .u32 (x 6)]
          rw [EX.out, wl8]
          have b5 := b4 (by assumption)
          rw [put_all _ _ (by rw [wl_length]; rfl)] at b5
          exact b5
        · have et : t = 64 := by omega
          subst et
          obtain ⟨Y, eY⟩ : ∃ Y, rnds h T 64 = Y := ⟨_, rfl⟩
          have HC2 : Hid (∀ i, comp h b i = ad (h i) (Y i)) := fun i => by unfold comp; rw [hT.out, eY]
          rw [eY] at X
          clear eY HX
          have w1' := D.out.ha
          have w2' := D.out.res
          have w3' := D.out.bel
          have w4' := D.out.lt
          have E0 := hid w1'
          have E1 := hid w2'
          have E2 := hid w3'
          have E3 := hid w4'
          clear w1' w2' w3' w4'
          go_wp2_with fail
          go_loopw [17] (fun i wq => ∃ k : Nat, k ≤ 8 ∧ i = .int .i64 k ∧ Blk wq w.heap.size (wl 8 (hI h Y k)) 112 ∧ Blk wq (w.heap.size + 1) (wl 8 (fun _ => 0)) 112 ∧ Blk wq gx (wl 8 Y) 112 ∧ Below w.heap.size w wq) (fun i _ => 8 - (intOf i).toNat)
          case atStart => exact ⟨0, by omega, rfl, E0.out, E1.out, X.out, E2.out⟩
          case round =>
            clear E0 E1 X E2 D
            obtain ⟨k, hk, rfl, h1', h2', h3', h4'⟩ := hrel
            have E0 := hid h1'
            have E1 := hid h2'
            have X := hid h3'
            have E2 := hid h4'
            have E3' := E3.out
            have z0 := h1'.lt
            clear h1' h2' h3' h4'
            by_cases hlk : k < 8
            · have c1 := E0.out.cell k _ (wl_get 8 _ k hlk)
              have c2 := X.out.cell k _ (wl_get 8 _ k hlk)
              have cf := E0.out.frozen k
              have ev : hI h Y k k = h k := by unfold hI; rw [if_neg (by omega)]
              rw [ev] at c1
              clear ev
              go_wp2_with fail
              go_region
              go_wp2
              refine ⟨⟨k + 1, by omega, by go_num, ?_, (E1.out.other (by omega) _ _).drewN 1, (X.out.other (by omega) _ _).drewN 1, below_drew' (below_set E2.out _ _ _ (Nat.le_refl _) E2.out.size) 1⟩, by simp [intOf]; omega⟩
              rw [← hI_set h Y k _ rfl]
              exact (E0.out.set k _).drewN 1
            · have ek : k = 8 := by omega
              subst ek
              have eh : wl 8 (hI h Y 8) = wl 8 (comp h b) := wl_congr _ _ _ (fun q hq => by unfold hI; rw [if_pos hq, HC2.out])
              rw [eh] at E0
              clear eh
              have l1 := LDh_run (E0.out.range 0 _ (fun j v h => by rw [Nat.zero_add]; exact h)) (wl_length _ _)
              have s1 := SVh_run (cs := wl 8 (comp h b)) (E1.out.there 0 8 (by rw [wl_length]; omega)) (wl_length _ _) (wl_one _ _)
              have b3 := E1.out.put 0 (wl 8 (comp h b))
              rw [put_all _ _ (by rw [wl_length, wl_length])] at b3
              have l2 := hid (LDh_run (b3.range 0 _ (fun j v h => by rw [Nat.zero_add]; exact h)) (wl_length _ _))
              clear b3
              go_wp2
              refine bodyPost_ret (v := .agg (wl 8 (comp h b)).toArray) ?_ rfl ⟨rfl, below_cells E2.out _ _ _ (by omega) E2.out.size⟩
              exact results_cell1 Tryz.results116 rfl l2.out
end Go.Proofs.YtjhhnajgfngbhaaGreatDoor.Sh
