/- Lists of skeletons that lie apart: what the helper ApartSkeletons answers. -/
import Derived.Test.YtdahogdfonhnfaaVap
import Derived.Deep.RegionHeld3
namespace Go.Proofs.Ytdahogdfonhnfaa.Sp
open Go.ChangeShapes Go.WideShapes Go.ChangeAt Go.RowKit
open Go.Proofs.Ytdahogdfonhnfaa.By (hid grown_none grown_of_alloc grown_step grown_cell apart_symm lv)
open Go.Proofs.Ytdahogdfonhnfaa.Ou (Sk sL sv LDk SVk sL_one infok zS)
open Go.Proofs.Ytdahogdfonhnfaa.Sx (sl sl_length sl_snoc sl_take sl_congr upd mk mark_ok infoS cells_new own_put own_cell own_ld eqS eqS_refl)
theorem infoL : (Try.prog.info? 35).map (fun i => (i.zero, i.size, i.bytes)) = some (some (.slice none 0 0), 1, 24) := by kernel_rfl
theorem cell_below {w w' : World} {p : Addr} {v : Value} (h : w.cell? p = some v) (hb : Below w.heap.size w w') : w'.cell? p = some v := by rw [hb.cell (p := p) (block_lt_of_cell h)]; exact h
theorem inv1_below {w w' : World} {base m L : Nat} {V : Nat → Value} {N : Nat → Nat} {G : Nat → Nat → Sk} (h : Inv1 w base m L V N G) (hb : Below w.heap.size w w') : Inv1 w' base m L V N G :=
  ⟨fun j hj => own_below (h.1 j hj) hb, fun j hj => cell_below (h.2 j hj) hb⟩
theorem grown_below {w w' : World} {row : Option Nat} (hb : Below w.heap.size w w') : w.grownBy w' row := ⟨hb.os, hb.tape, hb.output, hb.size, fun k hk _ => hb.block k hk⟩
theorem going_below {w0 w w' : World} {base : Nat} {Vk u : Value} {n i : Nat} {f : Nat → Sk} (h : Going w0 w base Vk u n i f) (hb : Below w.heap.size w w') : Going w0 w' base Vk u n i f :=
  ⟨grown_step h.1 (grown_below (row := none) hb) (.inr (by simp)), own_below h.2.1 hb, own_below h.2.2.1 hb, h.2.2.2⟩
/-- The worlds that have all that V has. -/
structure BW (V : World) where
  W : World
  h : Below V.heap.size V W
instance (V : World) : Nonempty (BW V) := ⟨⟨V, Below.refl _ _⟩⟩
/-- A region that draws its order, reads, and makes only what is new: one walk, in the order of the text. -/
theorem region_new {P : Program} {id : Nat} {Q : Exit → Act → World → Prop} {a : Act} {w : World} {L : List Oper} (hm : P.follows .mixedOrders = true) (hB : Region.lexB .any L.toArray = true)
    (h : wpQuiet P L.toArray (fun w' => ∃ i : BW w, w' = i.W) (fun a' => ∀ w', (∃ i : BW w, w' = i.W) → Q .normal a' w') L a) : (Code.region id L.toArray true).wp P Q a w :=
  wp_region_quiet (C := fun w' => ∃ i : BW w, w' = i.W) hm hB ⟨⟨w.drewN 1, below_drewN w 1⟩, rfl⟩ (by simpa using h)
theorem mark_q {V : World} (k i : Int) (k0 : 0 ≤ k) (k1 : k ≤ 1000) (i0 : 0 ≤ i) (i1 : i ≤ 140737488355328) (b : BW V) : Calls Try.prog 35 #[.int .i64 k, .int .i64 i] b.W fun e w'' => e = .returned (sv (mk k i)) ∧ ∃ j : BW V, w'' = j.W :=
  (mark_ok k i b.W k0 k1 i0 i1).mono (fun _ w'' ⟨he, hb⟩ => ⟨he, ⟨w'', below_next b.h hb⟩, rfl⟩)
set_option maxRecDepth 100000 in
set_option maxHeartbeats 2000000 in
theorem apartS (base m L capL : Nat) (V : Nat → Value) (N : Nat → Nat) (F : Nat → Nat → Sk) (w : World) (hA : AP m L V) (hI : Inv1 w base m L V N F) (hF : ∀ j i, Bd (F j i)) (hm : m ≤ 80) (hm0 : 0 < m) (hNb : ∀ j, j < m → (N j + 6) * 56 ≤ 140737488355328) (hb : base ≤ w.heap.size) :
    Calls Try.prog 18 #[.slice (some ⟨L, 0, none⟩) m capL] w fun e w' => e = .returned (.bool true) ∧ Below base w w' := by
  have HI : Hid (Inv1 w base m L V N (G1 F 0 0)) := inv1_congr hI (G1_bound F hF 0 0) (fun j i _ _ => by unfold G1; rw [if_neg (by omega)])
  have HF := hid hF
  have HN := hid hNb
  have HA := hid hA
  clear hI hF hNb hA
  go_enter Try.func18, Try.ntmps18
  go_wp2
  go_loopw [3] (fun x wr => ∃ k : Nat, k ≤ m ∧ x = .int .i64 k ∧ Inv1 wr base m L V N (G1 F k 0) ∧ Below base w wr) (fun x _ => m - (intOf x).toNat)
  case atStart => exact ⟨0, Nat.zero_le _, rfl, HI.out, Below.refl _ _⟩
  case round =>
    obtain ⟨k, hk, rfl, hinv, hbel⟩ := hrel
    clear HI
    have HI := hid hinv
    have HB := hid hbel
    clear hinv hbel
    by_cases hlt : k < m
    · have hNk : N k ≤ 100000000000000 := by have := HN.out k hlt; omega
      rcases (HI.out.1 k hlt).shape with ⟨hv, h0⟩ | ⟨g, cap, hv, hgb, hgl, hnc, hcm, _, _⟩
      · have hc := HI.out.2 k hlt
        rw [hv] at hc
        have hv := hid hv
        go_wp2
        go_loopw [4] (fun y wr' => y = .int .i64 0 ∧ wr' = wr) (fun _ _ => 0)
        case atStart => exact ⟨rfl, rfl⟩
        case round =>
          obtain ⟨rfl, rfl⟩ := hrel
          go_wp2
          go_roundw
          case rel =>
            refine ⟨k + 1, by omega, by go_num, inv1_congr HI.out (G1_bound F HF.out (k + 1) 0) (fun j i _ hi => ?_), HB.out⟩
            rw [← G1_next F N k j i hi, h0]
          case measure => simp [intOf]; omega
      · obtain ⟨n, hn⟩ : ∃ n, N k = n := ⟨_, rfl⟩
        rw [hn] at hv hnc hNk
        have HV := hid hv
        have Hn := hid hn
        clear hv hn
        go_wp2
        go_loopw [4] (fun y wr' => ∃ i : Nat, i ≤ n ∧ y = .int .i64 i ∧ Inv1 wr' base m L V N (G1 F k i) ∧ Below base w wr') (fun y _ => n - (intOf y).toNat)
        case atStart => exact ⟨0, Nat.zero_le _, rfl, HI.out, HB.out⟩
        case round =>
          obtain ⟨i, hi, rfl, hinv, hbel⟩ := hrel
          clear HI HB
          have HI := hid hinv
          have HB := hid hbel
          have hc := hinv.2 k hlt
          rw [HV.out] at hc
          clear hinv hbel
          by_cases hil : i < n
          · have l1 : (i : Int) < n := by omega
            have l2 : (k : Int) < m := by omega
            have hw10 : IntKind.i64.wrap ((k : Int) + 10) = (k : Int) + 10 := by rw [IntKind.wrap_i64]; omega
            have hy : mk ((k : Int) + 10) (i : Int) = Mk k i := rfl
            obtain ⟨y, ey⟩ : ∃ y, Mk k i = y := ⟨_, rfl⟩
            rw [ey] at hy
            have mo := mark_ok ((k : Int) + 10) (i : Int) wr.drew (by omega) (by omega) (by omega) (by omega)
            rw [hy] at mo
            have MK := hid mo
            have HY := hid ey
            clear mo ey hy
            have CE : Hid (∀ w1, Below wr.heap.size wr w1 → ∃ w9, w1.cell? ⟨L, k, none⟩ = some (.slice (some ⟨g, 0, none⟩) n cap) ∧ (SVk ⟨g, i * 7, none⟩ (sv y)).run Try.prog w1 = .ok () w9 ∧ w9.cell? ⟨L, k, none⟩ = some (.slice (some ⟨g, 0, none⟩) n cap) ∧ Inv1 w9 base m L V N (fun j i' => if j = k ∧ i' = i then y else G1 F k i j i') ∧ w1.grownBy w9 (some g)) := by
              refine hid fun w1 hb1 => ?_
              have I1 := inv1_below HI.out hb1
              have St := inv1_store HA.out I1 k i g n cap hlt HV.out Hn.out hil y
              have c1 := I1.2 k hlt
              have c2 := St.2.1.2 k hlt
              rw [HV.out] at c1 c2
              exact ⟨_, c1, St.1, c2, St.2.1, St.2.2⟩
            have D1 : Hid (Below wr.heap.size wr wr.drew) := hid (below_drewN wr 1)
            have hgL : ¬ g = L := fun e => by have := HA.out.dl k hlt; rw [HV.out, e] at this; exact this rfl
            have hLg : ¬ L = g := fun e => hgL e.symm
            obtain ⟨_, z1, _⟩ := CE.out wr.drew D1.out
            go_wp2
            go_region_held3 (fun w' => w'.cell? ⟨L, k, none⟩ = some (.slice (some ⟨g, 0, none⟩) n cap)) (go_keep) (first | (go_at_call 35; with_reducible refine MK.out.mono ?_; rintro e w1 ⟨rfl, hb1⟩; have tt := CE.out w1 (below_next D1.out hb1); obtain ⟨w9, y1, y2, y3, i9, g9⟩ := tt; have I9 := hid i9; have GR := hid g9; have N1 := hid (below_next D1.out hb1); clear hb1 i9 g9))
            have S1 := hid (inv1_congr I9.out (G1_bound F HF.out k (i + 1)) (fun j i' _ _ => by rw [← HY.out]; exact G1_step F k i j i'))
            have B1 : Below base w w1 := HB.out.trans (N1.out.mono (Nat.le_trans hb HB.out.size))
            have S2 := hid (B1.grown GR.out (Nat.le_trans hb B1.size) (fun q hq => by cases hq; exact hgb))
            clear y1 y2 y3 B1 CE MK z1
            go_wp2
            go_roundw
            case rel => exact ⟨i + 1, by omega, by go_num, S1.out, S2.out⟩
            case measure => simp [intOf]; omega
          · have e : i = n := by omega
            subst e
            go_wp2
            go_roundw
            case rel =>
              refine ⟨k + 1, by omega, by go_num, inv1_congr HI.out (G1_bound F HF.out (k + 1) 0) (fun j i' _ hi' => ?_), HB.out⟩
              rw [← G1_next F N k j i' hi', Hn.out]
            case measure => simp [intOf]; omega
    · have e : m = k := by omega
      subst e
      have HE := hid (inv1_end HI.out)
      have HC := hid HI.out.2
      obtain ⟨wp, hwp⟩ : ∃ x, x = wr := ⟨_, rfl⟩
      subst hwp
      have hLlt : L < wp.heap.size := block_lt_of_cell (HC.out 0 hm0)
      have hbr : base ≤ wp.heap.size := Nat.le_trans hb HB.out.size
      clear HI hk hlt
      obtain ⟨i0, hi, hz0, hz1, hz2⟩ := info_parts infoL
      go_wp2
      go_loopw [5, 6] (fun gsv x wq => ∃ k : Nat, k ≤ m ∧ x = .int .i64 k ∧ (∃ Wv, Inv2 wq base m L V N wp.heap.size k Wv gsv) ∧ Below base w wq ∧ wp.heap.size ≤ wq.heap.size) (fun _ x _ => m - (intOf x).toNat)
      case atStart => exact ⟨0, Nat.zero_le _, rfl, ⟨fun _ => .slice none 0 0, ⟨HE.out, fun j hj => by omega, HC.out, fun j hj => by omega, World.ownsRow_nil _ _ _ _⟩⟩, HB.out, Nat.le_refl _⟩
      case round =>
        obtain ⟨k, hk, rfl, ⟨Wv, hinv⟩, hbel, hsz⟩ := hrel
        clear HE HC HB
        have HI := hid hinv
        have HB := hid hbel
        clear hinv hbel
        obtain ⟨wq, hwq⟩ : ∃ x, x = wr := ⟨_, rfl⟩
        subst hwq
        by_cases hlt : k < m
        · have hNq := HN.out k hlt
          have hOk := HI.out.olds k hlt
          obtain ⟨n, hn⟩ : ∃ n, N k = n := ⟨_, rfl⟩
          rw [hn] at hOk hNq
          have HNQ := hid hNq
          have hNk : n ≤ 100000000000000 := by omega
          clear hNq
          obtain ⟨a, cap, hv⟩ : ∃ a cap, V k = .slice a n cap := by
            rcases hOk.shape with ⟨h1, h2⟩ | ⟨g, cap, h1, _⟩
            · exact ⟨none, 0, by rw [h1, h2]⟩
            · exact ⟨_, _, h1⟩
          have hG0 : Hid (Going wq wq base (V k) (V k) n 0 (Mk k)) := by
            refine ⟨World.grownBy.refl _ _, hOk, hOk, ?_⟩
            rcases hOk.shape with ⟨h1, h2⟩ | ⟨g, cap, h1, _⟩
            · exact .inr (fun q hq => by rw [h1] at hq; simp [Value.ownBlock] at hq)
            · exact .inl ⟨g, cap, h1, h1⟩
          have hltb : Hid (∀ q, (V k).ownBlock = some q → q < wq.heap.size) := own_lt hOk
          have hc := HI.out.cell k hlt
          have hbq : base ≤ wq.heap.size := Nat.le_trans hb HB.out.size
          rw [hv] at hc
          have HV := hid hv
          have Hn := hid hn
          have HO := hid hOk
          clear hv hn hOk
          go_wp2
          go_loopw [7, 8] (fun u y w1 => ∃ i : Nat, i ≤ 6 ∧ y = .int .i64 i ∧ Going wq w1 base (V k) u n i (Mk k) ∧ Below base w w1) (fun _ y _ => 6 - (intOf y).toNat)
          case atStart => exact ⟨0, Nat.zero_le _, rfl, by rw [HV.out] at hG0 ⊢; exact hG0.out, HB.out⟩
          case round =>
            obtain ⟨i, hi6, rfl, hgo, hbel⟩ := hrel
            have HG := hid hgo
            have HB1 := hid hbel
            have hc1 : wr.cell? ⟨L, k, none⟩ = some (.slice a n cap) := grown_cell hgo.1 hc (HA.out.dl k hlt)
            clear hgo hbel hc
            have hw10 : IntKind.i64.wrap ((k : Int) + 10) = (k : Int) + 10 := by rw [IntKind.wrap_i64]; omega
            have l2 : (k : Int) < m := by omega
            by_cases hil : i < 6
            · have wn : IntKind.i64.wrap ((n : Int) + i) = (n : Int) + i := by rw [IntKind.wrap_i64]; omega
              have hy : mk ((k : Int) + 10) ((n : Int) + i) = Mk k (n + i) := by unfold Mk; rw [Int.natCast_add]
              obtain ⟨y, ey⟩ : ∃ y, Mk k (n + i) = y := ⟨_, rfl⟩
              rw [ey] at hy
              have mo := mark_ok ((k : Int) + 10) ((n : Int) + i) wr (by omega) (by omega) (by omega) (by omega)
              rw [hy] at mo
              have MK := hid mo
              have HY := hid ey
              have HR := hid (Sx.room (n := n) (k := i + 1) HNQ.out hil)
              clear mo ey hy
              go_wp2_with fail
              refine MK.out.mono ?_
              rintro e w1 ⟨rfl, hb1⟩
              have HG1 := hid (going_below HG.out hb1)
              clear hb1 MK
              go_wp2_with (at_builtin; go_must (refine wpList_push rfl _ _ rfl base (V k) _ n i (Mk k) HG1.out hbq hltb.out HR.out y HY.out.symm rfl rfl ?_); intro u' w2 hgo; have HG2 := hid hgo; clear hgo)
              exact ⟨⟨i + 1, by omega, by go_num, HG2.out, HB.out.grown HG2.out.1 hbq (own_row HO.out)⟩, by simp [intOf]; omega⟩
            · have e : i = 6 := by omega
              subst e
              obtain ⟨a7, c7, hu7⟩ : ∃ a c, u7 = .slice a (n + 6) c := by
                exact own_lit_slice HG.out.2.2.1
              subst hu7
              have HG6 : Hid (Going wq wr base (V k) (.slice a7 (n + 6) c7) (N k) 6 (Mk k)) := by rw [Hn.out]; exact HG.out
              have HJ := hid (inv2_going HA.out hlt HI.out HG6.out)
              have hszr : wp.heap.size ≤ wr.heap.size := Nat.le_trans hsz HG.out.1.size
              clear hG0 hltb HO
              go_wp2_with (at_builtin; go_must (refine wpList_append_own _ rfl _ _ 42 rfl wp.heap.size 35 i0 (.slice none 0 0) 1 24 Try.underlying42 hi hz0 hz1 hz2 rfl (by decide) _ _ _ rfl (HJ.out.row.alloc _) ⟨_, 0, none⟩ 1 1 [.slice a7 (n + 6) c7] rfl rfl (cell_one_new _ _ _) ?c2 ?c3 ?c4 ?c5 ?_))
              case c2 => intro v hv; simp at hv; subst hv; rfl
              case c3 => simp [maxLen]; omega
              case c4 => omega
              case c5 => simp; omega
              intro gs' w2 hrow hgr _
              have HS := hid (inv2_step HA.out hlt hLlt HI.out HG6.out hrow hgr)
              have hB1 : Below base w wr := HB.out.grown HG6.out.1 hbq (own_row (HI.out.olds k hlt))
              have HB2 : Hid (Below base w w2) := hB1.grown (grown_of_alloc hgr) (Nat.le_trans hb hB1.size) (fun q hq => by
                rcases HJ.out.row.2 with ⟨h, _⟩ | ⟨g', c', cur', h, hgb', _⟩
                · rw [h] at hq; simp [Value.ownBlock] at hq
                · rw [h] at hq; simp [Value.ownBlock] at hq; omega)
              have hszz : wp.heap.size ≤ w2.heap.size := Nat.le_trans hszr (grown_of_alloc hgr).size
              clear hrow hgr hB1
              go_wp2
              go_roundw
              case rel => exact ⟨k + 1, by omega, by go_num, ⟨_, HS.out⟩, HB2.out, hszz⟩
              case measure => simp [intOf]; omega
        · have e : m = k := by omega
          subst e
          obtain ⟨q, capg, hgs, hgcell⟩ : ∃ q c, u5 = .slice (some ⟨q, 0, none⟩) m c ∧ ∀ j, j < m → wq.cell? ⟨q, j, none⟩ = some (Wv j) := by
            have hrow := HI.out.row
            rcases hrow.2 with ⟨_, h⟩ | ⟨q, c, cur, h, _⟩
            · omega
            · refine ⟨q, c, h, fun j hj => ?_⟩
              rw [h] at hrow
              rw [hrow.cellAt j (by omega)]
              simp [hj]
          subst hgs
          have HGC := hid hgcell
          clear hgcell hk hlt
          go_wp2
          go_loopw [9] (fun x w3 => ∃ k : Nat, k ≤ m ∧ x = .int .i64 k ∧ Below wq.heap.size wq w3) (fun x _ => m - (intOf x).toNat)
          case atStart => exact ⟨0, Nat.zero_le _, rfl, Below.refl _ _⟩
          case round =>
            obtain ⟨k, hk, rfl, hb3⟩ := hrel
            have B3 := hid hb3
            clear hb3
            by_cases hlt : k < m
            · have hNk : N k ≤ 100000000000000 := by have := HN.out k hlt; omega
              obtain ⟨n, hn⟩ : ∃ n, N k = n := ⟨_, rfl⟩
              have hnew := HI.out.news k hlt
              have hold := HI.out.olds k hlt
              rw [hn] at hnew hold hNk
              obtain ⟨gk, ck, hw, _⟩ := Sx.own_some hnew.sx (by omega)
              have hgk := hnew.sx
              rw [hw] at hgk
              have c1 := HGC.out k hlt
              rw [hw] at c1
              have c3 := HI.out.cell k hlt
              obtain ⟨a, cap, hv⟩ : ∃ a cap, V k = .slice a n cap := by
                rcases hold.shape with ⟨h1, h2⟩ | ⟨g, cap, h1, _⟩
                · exact ⟨none, 0, by rw [h1, h2]⟩
                · exact ⟨_, _, h1⟩
              rw [hv] at c3
              have Hn := hid hn
              have HV := hid hv
              have HK := hid hgk
              have HO := hid hold
              have C1 := hid c1
              have C3 := hid c3
              have c1 := cell_below C1.out B3.out
              clear hn hv hw hgk hnew hold c3
              go_wp2
              clear c1
              go_loopw [10] (fun y w3 => ∃ i : Nat, i ≤ n + 6 ∧ y = .int .i64 i ∧ Below wq.heap.size wq w3) (fun y _ => n + 6 - (intOf y).toNat)
              case atStart => exact ⟨0, Nat.zero_le _, rfl, B3.out⟩
              case round =>
                obtain ⟨i, hi, rfl, hb4⟩ := hrel
                have B4 := hid hb4
                clear hb4
                have hw10 : IntKind.i64.wrap ((k : Int) + 10) = (k : Int) + 10 := by rw [IntKind.wrap_i64]; omega
                have l2 : (k : Int) < m := by omega
                have c1 := cell_below C1.out B4.out
                by_cases hil : i < n + 6
                · have l3 : (i : Int) < n + 6 := by omega
                  have hy : mk ((k : Int) + 10) (i : Int) = Mk k i := rfl
                  obtain ⟨y, ey⟩ : ∃ y, Mk k i = y := ⟨_, rfl⟩
                  rw [ey] at hy
                  have mo := fun V => mark_ok ((k : Int) + 10) (i : Int) V (by omega) (by omega) (by omega) (by omega)
                  simp only [hy] at mo
                  have MQ := hid mo
                  have HY := hid ey
                  have qq := eqS_refl y
                  clear mo ey hy
                  have c2' : ∀ w1, Below wq.heap.size wq w1 → (LDk ⟨gk, i * 7, none⟩).run Try.prog w1 = .ok (sv y) w1 := fun w1 h1 => by
                    have := own_ld (Sx.own_below HK.out h1) hil
                    rwa [HY.out] at this
                  have C2 := hid c2'
                  have D1 : Hid (Below wr.heap.size wr wr.drew) := hid (below_drewN wr 1)
                  clear c2'
                  by_cases hin : i < n
                  · obtain ⟨gv, cv, hv2, _⟩ := Sx.own_some HO.out.sx (by omega)
                    have hva : a = some ⟨gv, 0, none⟩ := by
                      have := HV.out.symm.trans hv2
                      simp at this
                      exact this.1
                    have HOs := HO.out.sx
                    rw [hv2] at HOs
                    have c4' : ∀ w1, Below wq.heap.size wq w1 → (LDk ⟨gv, i * 7, none⟩).run Try.prog w1 = .ok (sv y) w1 := fun w1 h1 => by
                      have := own_ld (Sx.own_below HOs h1) hin
                      rwa [HY.out] at this
                    have C4 := hid c4'
                    subst hva
                    have l4 : (i : Int) < n := by omega
                    have CE : Hid (∀ w1, Below wr.heap.size wr w1 → w1.cell? ⟨q, k, none⟩ = some (.slice (some ⟨gk, 0, none⟩) (n + 6) ck) ∧ (LDk ⟨gk, i * 7, none⟩).run Try.prog w1 = .ok (sv y) w1 ∧ w1.cell? ⟨L, k, none⟩ = some (.slice (some ⟨gv, 0, none⟩) n cap) ∧ (LDk ⟨gv, i * 7, none⟩).run Try.prog w1 = .ok (sv y) w1) := hid fun w1 h1 =>
                      ⟨cell_below C1.out (below_next B4.out h1), C2.out w1 (below_next B4.out h1), cell_below C3.out (below_next B4.out h1), C4.out w1 (below_next B4.out h1)⟩
                    obtain ⟨x1, x2, x3, x4⟩ := CE.out wr.drew D1.out
                    have MK := hid (MQ.out wr.drew)
                    clear hv2 c4' HOs
                    go_wp2
                    go_region_held3 (fun w1 => w1.cell? ⟨q, k, none⟩ = some (.slice (some ⟨gk, 0, none⟩) (n + 6) ck) ∧ (LDk ⟨gk, i * 7, none⟩).run Try.prog w1 = .ok (sv y) w1 ∧ w1.cell? ⟨L, k, none⟩ = some (.slice (some ⟨gv, 0, none⟩) n cap) ∧ (LDk ⟨gv, i * 7, none⟩).run Try.prog w1 = .ok (sv y) w1) (first | exact ⟨x1, x2, x3, x4⟩ | exact ⟨y1, y2, y3, y4⟩) (first | (go_at_call 35; with_reducible refine MK.out.mono ?_; rintro e w1 ⟨rfl, hb1⟩; have tt := CE.out w1 (below_next D1.out hb1); have y1 := tt.1; have y2 := tt.2.1; have y3 := tt.2.2.1; have y4 := tt.2.2.2; have N1 := hid (below_next D1.out hb1); clear tt hb1))
                    go_wp2
                    go_roundw
                    case rel => exact ⟨i + 1, by omega, by go_num, below_next B4.out N1.out⟩
                    case measure => simp [intOf]; omega
                  · have l4 : decide ((i : Int) < n) = false := by simp; omega
                    have l5 : ¬ (i : Int) < n := by omega
                    have x1 : ∀ b : BW wr, b.W.cell? ⟨q, k, none⟩ = some (.slice (some ⟨gk, 0, none⟩) (n + 6) ck) := fun b => cell_below C1.out (below_next B4.out b.h)
                    have x2 : ∀ b : BW wr, (LDk ⟨gk, i * 7, none⟩).run Try.prog b.W = .ok (sv y) b.W := fun b => C2.out b.W (below_next B4.out b.h)
                    have x3 : ∀ b : BW wr, b.W.cell? ⟨L, k, none⟩ = some (.slice a n cap) := fun b => cell_below C3.out (below_next B4.out b.h)
                    have MB : ∀ b : BW wr, Calls Try.prog 35 #[.int .i64 ((k : Int) + 10), .int .i64 (i : Int)] b.W fun e w'' => e = .returned (sv y) ∧ ∃ j : BW wr, w'' = j.W := fun b => (MQ.out b.W).mono (fun _ w'' ⟨he, hb⟩ => ⟨he, ⟨w'', below_next b.h hb⟩, rfl⟩)
                    clear D1
                    go_wp2_with fail
                    clear c1
                    refine region_new (by kernel_rfl) (by kernel_rfl) ?_
                    repeat (go_big_quiet_step (exact MB _))
                    refine wpQuiet_nil ?_
                    intro _ hw'
                    obtain ⟨b, hw''⟩ := hw'
                    subst hw''
                    have N1 := hid b.h
                    clear x1 x2 x3 MB
                    go_wp2
                    go_roundw
                    case rel => exact ⟨i + 1, by omega, by go_num, below_next B4.out N1.out⟩
                    case measure => simp [intOf]; omega
                · have l3 : ¬ (i : Int) < n + 6 := by omega
                  go_wp2
                  go_roundw
                  case rel => exact ⟨k + 1, by omega, by go_num, B4.out⟩
                  case measure => simp [intOf]; omega
            · go_wp2
              go_ret
              exact ⟨rfl, HB.out.trans (B3.out.mono (Nat.le_trans hb HB.out.size))⟩
end Go.Proofs.Ytdahogdfonhnfaa.Sp
