/- The document's functions on a block: right, table, begin. The document's schedule of a block. -/
import Derived.Test.YtjhhnajgfngbhaaGreatDoorZja
import Derived.Deep.Cut
namespace Go.Proofs.YtjhhnajgfngbhaaGreatDoor.Sg
open Go.ChangeShapes Go.WideShapes Go.ChangeAt Go.RowKit
open Go.Proofs.YtjhhnajgfngbhaaGreatDoor.By Go.Proofs.YtjhhnajgfngbhaaGreatDoor.Wd

theorem or_comm64 (a b : Int) : bits .or .u64 a b = bits .or .u64 b a := by
  show IntKind.u64.wrap _ = IntKind.u64.wrap _
  rw [BitVec.or_comm]
theorem right_eq (x n : Int) (hx : W64 x) (h1 : 1 ≤ n) (h2 : n ≤ 63) : bits .or .u64 (x / 2 ^ n.toNat) (x * 2 ^ (64 - n).toNat % 18446744073709551616) = rr x n := by
  have h := turned64 x (-n) hx.1 hx.2
  rw [show (-n) % 64 = 64 - n from by omega, show 64 - (64 - n) = n from by omega] at h
  rw [or_comm64]
  exact h
theorem right81 (x n : Int) (w : World) (hx : W64 x) (h1 : 1 ≤ n) (h2 : n ≤ 63) :
    Calls Tryz.prog 119 #[.int .u64 x, .int .u64 n] w fun e w' => e = .returned (.int .u64 (rr x n)) ∧ w' = w := by
  have E := hid (right_eq x n hx h1 h2)
  rw [← IntKind.wrap_u64] at E
  clear hx
  go_enter Tryz.func119, Tryz.ntmps119
  go_wp2
  go_ret
  exact ⟨congrArg (fun z => Ending.returned (Value.int IntKind.u64 z)) E.out, rfl⟩
theorem blit : [Value.int .u64 7640891576956012808, .int .u64 13503953896175478587, .int .u64 4354685564936845355, .int .u64 11912009170470909681, .int .u64 5840696475078001361, .int .u64 11170449401992604703, .int .u64 2270897969802886507, .int .u64 6620516959819538809] = wl 8 bg := by kernel_rfl
/-- The table as an operation's parts. -/
def partsK : Array (Nat × Operand) := ((List.range 80).map fun i => (i, Operand.const (.int .u64 (K i)))).toArray
theorem builtK (a : Act) : Instr.fill (fun i => some (i, 1)) Tryz.zeroCells140 (List.map (fun x => (x.fst, a.eval x.snd)) partsK.toList) = some (wl 80 K).toArray := by kernel_rfl
set_option maxRecDepth 20000 in
set_option maxHeartbeats 8000000 in
theorem table80 (w : World) : Calls Tryz.prog 117 #[] w fun e w' => e = .returned (.agg (wl 80 K).toArray) ∧ Below w.heap.size w w' := by
  have b0 := Blk.newAt w _ (wl 80 (fun _ => 0)) 140 w.heap.size rfl wz64
  have x1 := SVw_run (cs := wl 80 K) (b0.there 0 80 (by rw [wl_length]; omega)) (wl_length _ _) (wl_one _ _)
  have b1 := b0.put 0 (wl 80 K)
  rw [put_all _ _ (by rw [wl_length, wl_length])] at b1
  have l2 := hid (LDw_run (b1.range 0 _ (fun j v h => by rw [Nat.zero_add]; exact h)) (wl_length _ _))
  clear b0 b1
  go_enter Tryz.func117, Tryz.ntmps117
  have hcode : Code.wp Tryz.prog ((Code.region 0 #[{ dst := some 0, op := Op.alloc 140, type := 0, pos := "ref.go:17", after := #[], guard := none }] false).seq
      ((Code.region 1 #[{ dst := some 1, op := Op.build 140 partsK, type := 140, pos := "ref.go:18", after := #[], guard := none },
        { dst := none, op := Op.store 140 (Operand.tmp 0) (Operand.tmp 1), type := 0, pos := "ref.go:18", after := #[{ on := 0, ground := Ground.data }, { on := 0, ground := Ground.phase }], guard := none }] false).seq Code.ret))
      (bodyPost Tryz.prog Tryz.f117 fun e w' => e = .returned (.agg (wl 80 K).toArray) ∧ Below w.heap.size w w') { tmps := #[undef, undef], defers := [] } w := by
    obtain ⟨pk, hpk⟩ : ∃ x, partsK = x := ⟨_, rfl⟩
    have hb := builtK
    rw [hpk] at hb
    rw [hpk]
    clear hpk
    obtain ⟨KV, hKV⟩ : ∃ x, wl 80 K = x := ⟨_, rfl⟩
    rw [hKV] at x1 l2 hb
    rw [hKV]
    clear hKV
    go_wp2
    refine bodyPost_ret (v := .agg KV.toArray) ?_ rfl ⟨rfl, ?_⟩
    · exact results_cell1 Tryz.results117 rfl l2.out
    · exact below_cells (below_alloc w _) _ _ _ (Nat.le_refl _) (by rw [size_alloc]; omega)
  exact hcode
set_option maxRecDepth 8000 in
theorem begin72 (w : World) : Calls Tryz.prog 108 #[] w fun e w' => e = .returned (.agg (wl 8 bg).toArray) ∧ Below w.heap.size w w' := by
  have b0 := Blk.newAt w _ (wl 8 (fun _ => 0)) 120 w.heap.size rfl h8
  have x1 := SVh_run (cs := wl 8 bg) (b0.there 0 8 (by rw [wl_length]; omega)) (wl_length _ _) (wl_one _ _)
  have b1 := b0.put 0 (wl 8 bg)
  rw [put_all _ _ (by rw [wl_length, wl_length])] at b1
  have l2 := hid (LDh_run (b1.range 0 _ (fun j v h => by rw [Nat.zero_add]; exact h)) (wl_length _ _))
  rw [← blit] at x1
  clear b0 b1
  go_enter Tryz.func108, Tryz.ntmps108
  go_wp2
  refine bodyPost_ret (v := .agg (wl 8 bg).toArray) ?_ rfl ⟨rfl, ?_⟩
  · rw [blit]; exact results_cell1 Tryz.results108 rfl l2.out
  · exact below_cells (below_alloc w _) _ _ _ (Nat.le_refl _) (by rw [size_alloc]; omega)
end Go.Proofs.YtjhhnajgfngbhaaGreatDoor.Sg
namespace Go.Proofs.YtjhhnajgfngbhaaGreatDoor.Sg
open Go.ChangeShapes Go.WideShapes Go.ChangeAt Go.RowKit
open Go.Proofs.YtjhhnajgfngbhaaGreatDoor.By Go.Proofs.YtjhhnajgfngbhaaGreatDoor.Wd

theorem tab_zero (b : Nat → Int) (t q : Nat) (h : t ≤ q) : tab b t q = 0 := by
  induction t with
  | zero => rfl
  | succ t ih =>
    show (if q = t then nxt b t (tab b t) else tab b t q) = 0
    rw [if_neg (by omega)]; exact ih (by omega)
/-- w[t] half made. -/
def tabI (b : Nat → Int) (t i : Nat) (q : Nat) : Int := if q = t then BE (fun j => b (8 * t + j)) i else tab b t q
theorem tabI_0 (b : Nat → Int) (t : Nat) : tabI b t 0 = tab b t := by
  funext q
  unfold tabI
  split
  · rename_i h; rw [tab_zero b t q (by omega)]; rfl
  · rfl
theorem tabI_8 (b : Nat → Int) (t : Nat) (ht : t < 16) : tabI b t 8 = tab b (t + 1) := by
  funext q
  show _ = (if q = t then nxt b t (tab b t) else tab b t q)
  unfold tabI nxt
  rw [if_pos ht]
theorem tabI_set (b : Nat → Int) (t i : Nat) (x : Int) (hx : x = BE (fun j => b (8 * t + j)) (i + 1)) : (wl 80 (tabI b t i)).set t (.int .u64 x) = wl 80 (tabI b t (i + 1)) := by
  rw [wl_set, hx]
  refine wl_congr _ _ _ (fun q _ => ?_)
  unfold tabI
  by_cases h : q = t
  · rw [if_pos h, if_pos h]
  · rw [if_neg h, if_neg h, if_neg h]
theorem size_cells (b : Nat) (vs : List Value) (o : Nat) (w : World) : (w.setCells b o vs).heap.size = w.heap.size := by
  induction vs generalizing o w with
  | nil => rfl
  | cons v r ih => rw [World.setCells, ih]; simp [World.setCell]
/-- The words of which the first i are added. -/
def hI (h X : Nat → Int) (i q : Nat) : Int := if q < i then ad (h q) (X q) else h q
theorem hI_set (h X : Nat → Int) (i : Nat) (x : Int) (e : x = ad (h i) (X i)) : (wl 8 (hI h X i)).set i (.int .u64 x) = wl 8 (hI h X (i + 1)) := by
  rw [wl_set, e]
  refine wl_congr _ _ _ (fun q _ => ?_)
  unfold hI
  by_cases h1 : q = i
  · subst h1; rw [if_pos rfl, if_pos (by omega)]
  · rw [if_neg h1]
    by_cases h2 : q < i
    · rw [if_pos h2, if_pos (by omega)]
    · rw [if_neg h2, if_neg (by omega)]
/-- The result's cells, and those of w, half made. -/
structure CW (w W : World) (T : Nat → Int) : Prop where
  res : Blk W w.heap.size (wl 80 (fun _ => 0)) 140
  tw : Blk W (w.heap.size + 1) (wl 80 T) 140
  bel : Below w.heap.size w W
theorem CW.drewN {w W : World} {T : Nat → Int} (c : CW w W T) (d : Nat) : CW w (W.drewN d) T := ⟨c.res, c.tw, below_drew' c.bel d⟩
theorem CW.set {w W : World} {T T' : Nat → Int} (c : CW w W T) (i : Nat) (x : Int) (e : (wl 80 T).set i (.int .u64 x) = wl 80 T') : CW w (W.setCell ⟨w.heap.size + 1, i, none⟩ (.int .u64 x)) T' :=
  ⟨c.res.other (by omega) _ _, by rw [← e]; exact c.tw.set i _, below_set c.bel _ _ _ (by omega) c.bel.size⟩
set_option maxRecDepth 8000 in
set_option maxHeartbeats 4000000 in
theorem schedule72 (f : Nat → Int) (v : Value) (n : Nat) (w : World) (hr : By.RB w v n f) (ha : 128 ≤ n) (hn : n ≤ 281474976710656) :
    Calls Tryz.prog 118 #[v] w fun e w' => e = .returned (.agg (wl 80 (tab f 80)).toArray) ∧ Below w.heap.size w w' := by
  have HF := hid hr.1
  obtain ⟨hf, a, cap, rfl, h1, h2, hc⟩ := hr
  rcases hc with ⟨e, _⟩ | ⟨pb, po, rfl, hc⟩
  · omega
  have HC := hid hc
  have hpl : Hid (pb < w.heap.size) := block_lt_of_cell (hc 0 (by omega))
  clear hc hf
  have C0 := hid (show CW w ((w.alloc (.cells Tryz.zeroCells140 140)).alloc (.cells Tryz.zeroCells140 140)) (tab f 0) from
    ⟨(Blk.newAt w _ _ _ _ rfl wz64).alloc _, Blk.newAt _ _ _ _ _ (by rw [size_alloc]) wz64, below_next (below_alloc w _) (below_alloc _ _)⟩)
  go_enter Tryz.func118, Tryz.ntmps118
  go_wp2_with fail
  go_loopw [4] (fun i wr => ∃ t : Nat, t ≤ 16 ∧ i = .int .i64 t ∧ CW w wr (tab f t)) (fun i _ => 16 - (intOf i).toNat)
  case atStart => exact ⟨0, by omega, rfl, C0.out⟩
  case round =>
    clear C0
    obtain ⟨t, ht, rfl, hc⟩ := hrel
    have C := hid hc
    clear hc
    by_cases hlt : t < 16
    · go_wp2_with fail
      go_loopw [5] (fun i wq => ∃ k : Nat, k ≤ 8 ∧ i = .int .i64 k ∧ CW w wq (tabI f t k)) (fun i _ => 8 - (intOf i).toNat)
      case atStart => exact ⟨0, by omega, rfl, by rw [tabI_0]; exact C.out⟩
      case round =>
        obtain ⟨k, hk, rfl, hc⟩ := hrel
        have D := hid hc
        clear hc C
        by_cases hlk : k < 8
        · have c1 := D.out.tw.cell t _ (wl_get 80 _ t (by omega))
          have cf := D.out.tw.frozen t
          have c2 := (D.out.bel.cell (p := ⟨pb, po + (8 * t + k), none⟩) hpl.out).trans (HC.out (8 * t + k) (by omega))
          have e1 : (8 * (t : Int) + k).toNat = 8 * t + k := by omega
          have e2 : 8 * (t : Int) + k < n := by omega
          have ev : Hid (tabI f t k t = BE (fun j => f (8 * t + j)) k) := by show tabI f t k t = _; unfold tabI; rw [if_pos rfl]
          have bb := hid (fun i => BE_bound (fun j => f (8 * t + j)) (fun j => HF.out _) i)
          go_wp2_with fail
          go_region
          go_wp2
          refine ⟨⟨k + 1, by omega, by go_num, (D.out.drewN _).set t _ (tabI_set f t k _ ?_)⟩, by simp [intOf]; omega⟩
          rw [ev.out]
          have q1 := bb.out k
          have q2 := pow_le_of k 7 (by omega)
          have q3 := HF.out (8 * t + k)
          simp only [IntKind.wrap_u64]
          rw [Int.emod_eq_of_lt q3.1 (by omega), or_be64 _ _ q1.1 (by omega) q3.1 q3.2]
          rfl
        · have ek : k = 8 := by omega
          subst ek
          have D2 := hid (show CW w wr (tab f (t + 1)) from by rw [← tabI_8 f t hlt]; exact D.out)
          go_wp2
          exact ⟨⟨t + 1, by omega, by go_num, D2.out⟩, by simp [intOf]; omega⟩
    · have et : t = 16 := by omega
      subst et
      go_wp2_with fail
      go_loopw [6] (fun i wr => ∃ t : Nat, 16 ≤ t ∧ t ≤ 80 ∧ i = .int .i64 t ∧ CW w wr (tab f t)) (fun i _ => 80 - (intOf i).toNat)
      case atStart => exact ⟨16, by omega, by omega, rfl, C.out⟩
      case round =>
        clear C
        obtain ⟨t, ht0, ht, rfl, hc⟩ := hrel
        have C := hid hc
        have HW := hid (tab_w f HF.out t)
        clear hc
        by_cases hlt : t < 80
        · have c15 := C.out.tw.cell (t - 15) _ (wl_get 80 _ (t - 15) (by omega))
          have c2 := C.out.tw.cell (t - 2) _ (wl_get 80 _ (t - 2) (by omega))
          have c7 := C.out.tw.cell (t - 7) _ (wl_get 80 _ (t - 7) (by omega))
          have c16 := C.out.tw.cell (t - 16) _ (wl_get 80 _ (t - 16) (by omega))
          have c1 := C.out.tw.cell t _ (wl_get 80 _ t (by omega))
          have cf := C.out.tw.frozen t
          have e15 : ((t : Int) - 15).toNat = t - 15 := by omega
          have e2 : ((t : Int) - 2).toNat = t - 2 := by omega
          have e7 : ((t : Int) - 7).toNat = t - 7 := by omega
          have e16 : ((t : Int) - 16).toNat = t - 16 := by omega
          go_wp2_with (go_at_call 119; refine (right81 _ _ _ (HW.out _) (by omega) (by omega)).mono ?_; rintro e w' ⟨rfl, rfl⟩)
          go_region
          go_wp2
          go_roundw
          case rel =>
            refine ⟨_, _, _, _, _, _, _, _, _, _, _, _, _, _, _, _, _, _, _, _, _, _, _, _, _, _, _, _, _, _, _, _, _, _, _, _, _, _, _, _, _, _, _, _, _, _, _, _, ?_, rfl⟩
            exact ⟨t + 1, by omega, by omega, by go_num, (C.out.drewN _).set t _ (wl_tab f 80 t _ (show _ = nxt f t (tab f t) from by unfold nxt; rw [if_neg (by omega)]; rfl))⟩
          case measure => simp [intOf]; omega
        · have et : t = 80 := by omega
          subst et
          have l1 := LDw_run (C.out.tw.range 0 _ (fun j v h => by rw [Nat.zero_add]; exact h)) (wl_length _ _)
          have s1 := SVw_run (cs := wl 80 (tab f 80)) (C.out.res.there 0 80 (by rw [wl_length]; omega)) (wl_length _ _) (wl_one _ _)
          have b3 := C.out.res.put 0 (wl 80 (tab f 80))
          rw [put_all _ _ (by rw [wl_length, wl_length])] at b3
          have l2 := hid (LDw_run (b3.range 0 _ (fun j v h => by rw [Nat.zero_add]; exact h)) (wl_length _ _))
          clear b3
          go_wp2
          refine bodyPost_ret (v := .agg (wl 80 (tab f 80)).toArray) ?_ rfl ⟨rfl, below_cells C.out.bel _ _ _ (Nat.le_refl _) C.out.bel.size⟩
          exact results_cell1 Tryz.results118 rfl l2.out
end Go.Proofs.YtjhhnajgfngbhaaGreatDoor.Sg
