/- ApartBytes, of any lists that there is room for. -/
import Derived.Test.YthoklddoeoedgaaBapart
namespace Go.Proofs.Ythoklddoeoedgaa.By
open Go.ChangeShapes Go.WideShapes Go.ChangeAt Go.RowKit
theorem mark42b (k i : Int) (w : World) (h0 : 0 ≤ i) (h1 : i ≤ 140737488355999) (k0 : 0 ≤ k) (k1 : k ≤ 6000000002000) :
    Calls Try.prog 34 #[.int .i64 k, .int .i64 i] w fun e w' => e = .returned (.int .u8 ((7 * k + i + 1) % 256)) ∧ w' = w := by
  go_enter Try.func34, Try.ntmps34
  go_wp2
  go_ret
  exact ⟨rfl, rfl⟩
/-- Below, and one block more is as it was. -/
structure BX (base : Nat) (xk : Nat → Prop) (w w' : World) : Prop where
  bel : Below base w w'
  same : ∀ x, xk x → w'.heap[x]? = w.heap[x]?
  lt : ∀ x, xk x → x < w.heap.size
theorem BX.refl {base : Nat} {xk : Nat → Prop} {w : World} (h : ∀ x, xk x → x < w.heap.size) : BX base xk w w := ⟨Below.refl _ _, fun _ _ => rfl, h⟩
theorem BX.grown {base : Nat} {xk : Nat → Prop} {w w' w2 : World} {row : Option Nat} (h : BX base xk w w') (hg : w'.grownBy w2 row) (hB : base ≤ w'.heap.size) (hr : ∀ q, row = some q → base ≤ q) (hx : ∀ x, xk x → row ≠ some x) : BX base xk w w2 :=
  ⟨h.bel.grown hg hB hr, fun x hs => (hg.block x (Nat.lt_of_lt_of_le (h.lt x hs) h.bel.size) (fun e => hx x hs e.symm)).trans (h.same x hs), h.lt⟩
theorem BX.drew {base : Nat} {xk : Nat → Prop} {w w' : World} (h : BX base xk w w') : BX base xk w w'.drew := ⟨Below.drew h.bel, h.same, h.lt⟩
theorem BX.drewN {base : Nat} {xk : Nat → Prop} {w w' : World} (h : BX base xk w w') (k : Nat) : BX base xk w (w'.drewN k) := ⟨Below.drewN' h.bel k, h.same, h.lt⟩
set_option maxRecDepth 100000 in
set_option maxHeartbeats 2000000 in
theorem apart30z (xk : Nat → Prop) (base m L capL : Nat) (V : Nat → Value) (N : Nat → Nat) (F : Nat → Nat → Int) (w : World) (hA : AP m L V) (hI : Inv1 w base m L V N F) (hF : ∀ j i, 0 ≤ F j i ∧ F j i < 256) (hm : m ≤ 5000000000000) (hm0 : 0 < m) (hNb : ∀ j, j < m → N j ≤ 140737488355000) (hb : base ≤ w.heap.size) (hxl : ∀ x, xk x → x < w.heap.size) (hxn : ∀ j, j < m → ∀ x, xk x → (V j).ownBlock ≠ some x) :
    Calls Try.prog 30 #[.slice (some ⟨L, 0, none⟩) m capL] w fun e w' => e = .returned (.bool true) ∧ BX base xk w w' := by
  have HI : Hid (Inv1 w base m L V N (G1 F 0 0)) := inv1_congr hI (G1_bound F hF 0 0) (fun j i _ _ => by unfold G1; rw [if_neg (by omega)])
  have HF := hid hF
  have HN := hid hNb
  have HA := hid hA
  have HXN := hid hxn
  clear hI hF hNb hA hxn
  go_enter Try.func30, Try.ntmps30
  go_wp2
  go_loopw [3] (fun x wr => ∃ k : Nat, k ≤ m ∧ x = .int .i64 k ∧ Inv1 wr base m L V N (G1 F k 0) ∧ BX base xk w wr) (fun x _ => m - (intOf x).toNat)
  case atStart => exact ⟨0, Nat.zero_le _, rfl, HI.out, BX.refl hxl⟩
  case round =>
    obtain ⟨k, hk, rfl, hinv, hbel⟩ := hrel
    clear HI
    have HI := hid hinv
    have HB := hid hbel
    clear hinv hbel
    by_cases hlt : k < m
    · have hNk := HN.out k hlt
      rcases (HI.out.1 k hlt).shape with ⟨hv, h0⟩ | ⟨g, cap, hv, hgb, hgl, hnc, hcm, _, _⟩
      · have hc := HI.out.2 k hlt
        rw [hv] at hc
        have hv := hid hv
        go_wp2
        go_loopw [4] (fun y wr' => y = .int .i64 0 ∧ wr' = wr) (fun _ _ => 0)
        case atStart => exact ⟨rfl, rfl⟩
        case round =>
          obtain ⟨rfl, rfl⟩ := hrel
          go_wp2
          go_roundw
          case rel =>
            refine ⟨k + 1, by omega, by go_num, inv1_congr HI.out (G1_bound F HF.out (k + 1) 0) (fun j i _ hi => ?_), HB.out⟩
            rw [← G1_next F N k j i hi, h0]
          case measure => simp [intOf]; omega
      · obtain ⟨n, hn⟩ : ∃ n, N k = n := ⟨_, rfl⟩
        rw [hn] at hv hnc hNk
        have HV := hid hv
        have Hn := hid hn
        clear hv hn
        go_wp2
        go_loopw [4] (fun y wr' => ∃ i : Nat, i ≤ n ∧ y = .int .i64 i ∧ Inv1 wr' base m L V N (G1 F k i) ∧ BX base xk w wr') (fun y _ => n - (intOf y).toNat)
        case atStart => exact ⟨0, Nat.zero_le _, rfl, HI.out, HB.out⟩
        case round =>
          obtain ⟨i, hi, rfl, hinv, hbel⟩ := hrel
          clear HI HB
          have HI := hid hinv
          have HB := hid hbel
          have hc := hinv.2 k hlt
          rw [HV.out] at hc
          have hO := hinv.1 k hlt
          rw [HV.out, Hn.out] at hO
          clear hinv hbel
          by_cases hil : i < n
          · have hcell : _ = some (Value.int .u8 (G1 F k i k i)) := (hO.2.cellAt i (by omega)).trans (bl_get _ _ _ hil)
            have hfz := hO.2.frozenAt i
            have HO := hid hO
            clear hO
            have l1 : (i : Int) < n := by omega
            have l2 : (k : Int) < m := by omega
            have hw10 : IntKind.i64.wrap ((k : Int) + 10) = (k : Int) + 10 := by rw [IntKind.wrap_i64]; omega
            have hgL : ¬ g = L := fun e => by have := HA.out.dl k hlt; rw [HV.out, e] at this; exact this rfl
            have hLg : ¬ L = g := fun e => hgL e.symm
            go_wp2
            go_region_held3 (fun w' => w'.cell? ⟨L, k, none⟩ = some (.slice (some ⟨g, 0, none⟩) n cap)) (go_keep) (first | (go_at_call 34; refine (mark42b _ _ _ (by omega) (by omega) (by omega) (by omega)).mono ?_; rintro e w' ⟨rfl, rfl⟩))
            have S := inv1_store HA.out HI.out k i g n cap hlt HV.out Hn.out (Mk k i) (Mk_bound k i)
            have S1 := hid (inv1_congr S.1 (G1_bound F HF.out k (i + 1)) (fun j i' _ _ => G1_step F k i j i'))
            have S2 := hid (HB.out.grown S.2 (Nat.le_trans hb HB.out.bel.size) (fun q hq => by cases hq; exact hgb) (fun x hs e => HXN.out k hlt x hs (by rw [HV.out]; exact e)))
            clear S
            go_wp2
            go_roundw
            case rel => exact ⟨i + 1, by omega, by go_num, S1.out, BX.drew S2.out⟩
            case measure => simp [intOf]; omega
          · have e : i = n := by omega
            subst e
            clear hO
            go_wp2
            go_roundw
            case rel =>
              refine ⟨k + 1, by omega, by go_num, inv1_congr HI.out (G1_bound F HF.out (k + 1) 0) (fun j i' _ hi' => ?_), HB.out⟩
              rw [← G1_next F N k j i' hi', Hn.out]
            case measure => simp [intOf]; omega
    · have e : m = k := by omega
      subst e
      have HE := hid (inv1_end HI.out)
      have HC := hid HI.out.2
      obtain ⟨wp, hwp⟩ : ∃ x, x = wr := ⟨_, rfl⟩
      subst hwp
      have hLlt : L < wp.heap.size := block_lt_of_cell (HC.out 0 hm0)
      have hXP : Hid (∀ x, xk x → x < wp.heap.size) := fun x hs => Nat.lt_of_lt_of_le (hxl x hs) HB.out.bel.size
      have hbr : base ≤ wp.heap.size := Nat.le_trans hb HB.out.bel.size
      clear HI hk hlt
      obtain ⟨i0, hi, hz0, hz1, hz2⟩ := info_parts info32
      go_wp2
      go_loopw [5, 6] (fun gsv x wq => ∃ k : Nat, k ≤ m ∧ x = .int .i64 k ∧ (∃ Wv, Inv2 wq base m L V N wp.heap.size k Wv gsv) ∧ BX base xk w wq ∧ wp.heap.size ≤ wq.heap.size) (fun _ x _ => m - (intOf x).toNat)
      case atStart => exact ⟨0, Nat.zero_le _, rfl, ⟨fun _ => .slice none 0 0, ⟨HE.out, fun j hj => by omega, HC.out, fun j hj => by omega, World.ownsRow_nil _ _ _ _⟩⟩, HB.out, Nat.le_refl _⟩
      case round =>
        obtain ⟨k, hk, rfl, ⟨Wv, hinv⟩, hbel, hsz⟩ := hrel
        clear HE HC HB
        have HI := hid hinv
        have HB := hid hbel
        clear hinv hbel
        obtain ⟨wq, hwq⟩ : ∃ x, x = wr := ⟨_, rfl⟩
        subst hwq
        by_cases hlt : k < m
        · have hNk := HN.out k hlt
          have hOk := HI.out.olds k hlt
          obtain ⟨n, hn⟩ : ∃ n, N k = n := ⟨_, rfl⟩
          rw [hn] at hOk hNk
          obtain ⟨a, cap, hv⟩ : ∃ a cap, V k = .slice a n cap := by
            rcases hOk.shape with ⟨h1, h2⟩ | ⟨g, cap, h1, _⟩
            · exact ⟨none, 0, by rw [h1, h2]⟩
            · exact ⟨_, _, h1⟩
          have hG0 : Hid (Going wq wq base (V k) (V k) n 0 (Mk k)) := by
            refine ⟨World.grownBy.refl _ _, hOk, hOk, ?_⟩
            rcases hOk.shape with ⟨h1, h2⟩ | ⟨g, cap, h1, _⟩
            · exact .inr (fun q hq => by rw [h1] at hq; simp [Value.ownBlock] at hq)
            · exact .inl ⟨g, cap, h1, h1⟩
          have hltb : Hid (∀ q, (V k).ownBlock = some q → q < wq.heap.size) := own_lt hOk
          have hc := HI.out.cell k hlt
          have hbq : base ≤ wq.heap.size := Nat.le_trans hb HB.out.bel.size
          rw [hv] at hc
          have HV := hid hv
          have Hn := hid hn
          have HO := hid hOk
          clear hv hn hOk
          go_wp2
          go_loopw [7, 8] (fun u y w1 => ∃ i : Nat, i ≤ 6 ∧ y = .int .i64 i ∧ Going wq w1 base (V k) u n i (Mk k) ∧ BX base xk w w1) (fun _ y _ => 6 - (intOf y).toNat)
          case atStart => exact ⟨0, Nat.zero_le _, rfl, by rw [HV.out] at hG0 ⊢; exact hG0.out, HB.out⟩
          case round =>
            obtain ⟨i, hi6, rfl, hgo, hbel⟩ := hrel
            have HG := hid hgo
            have HB1 := hid hbel
            have hc1 : wr.cell? ⟨L, k, none⟩ = some (.slice a n cap) := grown_cell hgo.1 hc (HA.out.dl k hlt)
            clear hgo hbel hc
            have hw10 : IntKind.i64.wrap ((k : Int) + 10) = (k : Int) + 10 := by rw [IntKind.wrap_i64]; omega
            have l2 : (k : Int) < m := by omega
            by_cases hil : i < 6
            · go_wp2_with (first | (go_at_call 34; refine (mark42b _ _ _ (by omega) (by omega) (by omega) (by omega)).mono ?_; rintro e w' ⟨rfl, rfl⟩) | (at_builtin; go_must (refine wpList_push rfl _ _ rfl base (V k) _ n i (Mk k) HG.out hbq hltb.out (by omega) _ (by unfold Mk; omega) rfl rfl ?_); intro u' w2 hgo; have HG2 := hid hgo; clear hgo))
              exact ⟨⟨i + 1, by omega, by go_num, HG2.out, HB.out.grown HG2.out.1 hbq (own_row HO.out) (HXN.out k hlt)⟩, by simp [intOf]; omega⟩
            · have e : i = 6 := by omega
              subst e
              obtain ⟨a7, c7, hu7⟩ : ∃ a c, u7 = .slice a (n + 6) c := by
                obtain ⟨_, a, c, h, _⟩ := HG.out.2.2.1.reads
                exact ⟨a, c, h⟩
              subst hu7
              have HG6 : Hid (Going wq wr base (V k) (.slice a7 (n + 6) c7) (N k) 6 (Mk k)) := by rw [Hn.out]; exact HG.out
              have HJ := hid (inv2_going HA.out hlt HI.out HG6.out)
              have hszr : wp.heap.size ≤ wr.heap.size := Nat.le_trans hsz HG.out.1.size
              clear hG0 hltb HO
              go_wp2_with (at_builtin; go_must (refine wpList_append_own _ rfl _ _ 40 rfl wp.heap.size 36 i0 (.slice none 0 0) 1 24 Try.underlying40 hi hz0 hz1 hz2 rfl (by decide) _ _ _ rfl (HJ.out.row.alloc _) ⟨_, 0, none⟩ 1 1 [.slice a7 (n + 6) c7] rfl rfl (cell_one_new _ _ _) ?c2 ?c3 ?c4 ?c5 ?_))
              case c2 => intro v hv; simp at hv; subst hv; rfl
              case c3 => simp [maxLen]; omega
              case c4 => omega
              case c5 => simp; omega
              intro gs' w2 hrow hgr _
              have HS := hid (inv2_step HA.out hlt hLlt HI.out HG6.out hrow hgr)
              have hB1 : BX base xk w wr := HB.out.grown HG6.out.1 hbq (own_row (HI.out.olds k hlt)) (HXN.out k hlt)
              have HB2 : Hid (BX base xk w w2) := hB1.grown (grown_of_alloc hgr) (Nat.le_trans hb hB1.bel.size) (fun q hq => by
                rcases HJ.out.row.2 with ⟨h, _⟩ | ⟨g', c', cur', h, hgb', _⟩
                · rw [h] at hq; simp [Value.ownBlock] at hq
                · rw [h] at hq; simp [Value.ownBlock] at hq; omega) (fun x hs e => by
                have hxw := hXP.out x hs
                rcases HJ.out.row.2 with ⟨h, _⟩ | ⟨g', c', cur', h, hgb', _⟩
                · rw [h] at e; simp [Value.ownBlock] at e
                · rw [h] at e; simp [Value.ownBlock] at e; omega)
              have hszz : wp.heap.size ≤ w2.heap.size := Nat.le_trans hszr (grown_of_alloc hgr).size
              clear hrow hgr hB1
              go_wp2
              go_roundw
              case rel => exact ⟨k + 1, by omega, by go_num, ⟨_, HS.out⟩, HB2.out, hszz⟩
              case measure => simp [intOf]; omega
        · have e : m = k := by omega
          subst e
          obtain ⟨q, capg, hgs, hgcell⟩ : ∃ q c, u5 = .slice (some ⟨q, 0, none⟩) m c ∧ ∀ j, j < m → wq.cell? ⟨q, j, none⟩ = some (Wv j) := by
            have hrow := HI.out.row
            rcases hrow.2 with ⟨_, h⟩ | ⟨q, c, cur, h, _⟩
            · omega
            · refine ⟨q, c, h, fun j hj => ?_⟩
              rw [h] at hrow
              rw [hrow.cellAt j (by omega)]
              simp [hj]
          subst hgs
          have HGC := hid hgcell
          clear hgcell hk hlt
          go_wp2
          go_loopw [9] (fun x w3 => ∃ k : Nat, k ≤ m ∧ x = .int .i64 k ∧ ∃ d, w3 = wq.drewN d) (fun x _ => m - (intOf x).toNat)
          case atStart => exact ⟨0, Nat.zero_le _, rfl, 0, rfl⟩
          case round =>
            obtain ⟨k, hk, rfl, d, rfl⟩ := hrel
            by_cases hlt : k < m
            · have hNk := HN.out k hlt
              obtain ⟨n, hn⟩ : ∃ n, N k = n := ⟨_, rfl⟩
              have hnew := HI.out.news k hlt
              have hold := HI.out.olds k hlt
              rw [hn] at hnew hold hNk
              obtain ⟨gk, ck, hw, hgk⟩ := own_cells hnew (by omega)
              have c1 := HGC.out k hlt
              rw [hw] at c1
              have c3 := HI.out.cell k hlt
              obtain ⟨a, cap, hv⟩ : ∃ a cap, V k = .slice a n cap := by
                rcases hold.shape with ⟨h1, h2⟩ | ⟨g, cap, h1, _⟩
                · exact ⟨none, 0, by rw [h1, h2]⟩
                · exact ⟨_, _, h1⟩
              rw [hv] at c3
              have Hn := hid hn
              have HV := hid hv
              have HK := hid hgk
              have HO := hid hold
              clear hn hv hw hgk hnew hold
              go_wp2
              go_loopw [10] (fun y w3 => ∃ i : Nat, i ≤ n + 6 ∧ y = .int .i64 i ∧ ∃ d, w3 = wq.drewN d) (fun y _ => n + 6 - (intOf y).toNat)
              case atStart => exact ⟨0, Nat.zero_le _, rfl, d, rfl⟩
              case round =>
                obtain ⟨i, hi, rfl, d', rfl⟩ := hrel
                have hw10 : IntKind.i64.wrap ((k : Int) + 10) = (k : Int) + 10 := by rw [IntKind.wrap_i64]; omega
                have l2 : (k : Int) < m := by omega
                by_cases hil : i < n + 6
                · have c2 : wq.cell? ⟨gk, i, none⟩ = some (.int .u8 ((7 * ((k : Int) + 10) + (i : Int) + 1) % 256)) := HK.out i hil
                  have l3 : (i : Int) < n + 6 := by omega
                  by_cases hin : i < n
                  · obtain ⟨gv, cv, hv2, hcv⟩ := own_cells HO.out (by omega)
                    have c4 : wq.cell? ⟨gv, i, none⟩ = some (.int .u8 ((7 * ((k : Int) + 10) + (i : Int) + 1) % 256)) := hcv i hin
                    have hva : a = some ⟨gv, 0, none⟩ := by
                      have := HV.out.symm.trans hv2
                      simp at this
                      exact this.1
                    subst hva
                    have l4 : (i : Int) < n := by omega
                    clear hcv hv2
                    go_wp2
                    go_quiet ((go_at_call 34; refine (mark42b ((k : Int) + 10) (i : Int) _ (by omega) (by omega) (by omega) (by omega)).mono ?_; rintro e w4 ⟨rfl, rfl⟩; exact ⟨rfl, _, rfl⟩))
                    go_wp2
                    go_roundw
                    case rel => exact ⟨i + 1, by omega, by go_num, _, rfl⟩
                    case measure => simp [intOf]; omega
                  · have l4 : decide ((i : Int) < n) = false := by simp; omega
                    go_wp2
                    go_quiet ((go_at_call 34; refine (mark42b ((k : Int) + 10) (i : Int) _ (by omega) (by omega) (by omega) (by omega)).mono ?_; rintro e w4 ⟨rfl, rfl⟩; exact ⟨rfl, _, rfl⟩))
                    go_wp2
                    go_roundw
                    case rel => exact ⟨i + 1, by omega, by go_num, _, rfl⟩
                    case measure => simp [intOf]; omega
                · go_wp2
                  go_roundw
                  case rel => exact ⟨k + 1, by omega, by go_num, _, rfl⟩
                  case measure => simp [intOf]; omega
            · go_wp2
              go_ret
              exact ⟨rfl, HB.out.drewN _⟩
end Go.Proofs.Ythoklddoeoedgaa.By
