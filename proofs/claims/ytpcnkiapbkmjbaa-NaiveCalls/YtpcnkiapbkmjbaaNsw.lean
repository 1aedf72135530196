/- What Sort answers, and what it records, of the program. -/
import Derived.Test.YtpcnkiapbkmjbaaNso
import Derived.WalkMore
namespace Go.Proofs.Ytpcnkiapbkmjbaa.Nv
open Go.ChangeShapes Go.WideShapes Go.ChangeAt Go.RowKit
open Go.Proofs.Ytpcnkiapbkmjbaa
theorem hids {p : Prop} (h : p) : Hid p := h
theorem own_slice {w : World} {base n : Nat} {v : Value} {f : Nat → Int} (h : By.Own w base v n f) : ∃ a c, v = .slice a n c := by
  rcases h.shape with ⟨rfl, rfl⟩ | ⟨g, cap, rfl, _⟩
  · exact ⟨none, 0, rfl⟩
  · exact ⟨_, _, rfl⟩
theorem srt_tot {L : List Rn} (h : Pos L) (hL : tot L ≤ 900000) (bs : List Bool) (hb : bs.length ≤ 40200) : tot (nts L bs) ≤ 1000000 := by
  have := nts_tot h bs (by omega)
  omega
theorem low_snoc (a b : List Bool) (f : Nat → Int) (n : Nat) (hn : n ≤ 200) (m : Nat) (hm : m < n) (e : (srt f m).2 ++ (sink (srt f m).1 m).2 = a ++ b) : a.length ≤ 40000 := by
  have h1 := srt_len f (m + 1)
  have h2 : (srt f (m + 1)).2 = (srt f m).2 ++ (sink (srt f m).1 m).2 := rfl
  rw [h2, e] at h1
  simp only [List.length_append] at h1
  have : (m + 1) * (m + 1) ≤ 200 * 200 := Nat.mul_le_mul (by omega) (by omega)
  omega
set_option maxRecDepth 100000 in
set_option maxHeartbeats 4000000 in
theorem so_walk {w0 w : World} {lo : Option Nat} {rv0 : Value} {L : List Rn} (a : Value) (n : Nat) (f : Nat → Int) (h : ST w0 lo rv0 w L) (hL : tot L ≤ 900000) (hn : n ≤ 200) (ha : By.RB w a n f) :
    Calls Try.prog 21 #[lpv lo, a] w fun r w' => ∃ u, r = .returned u ∧ SL w0 lo rv0 w.heap.size u n w' (nts L (srt f n).2) (srt f n).1 := by
  have CL := hids (clone_own a n f w ha (by omega))
  have hB : w0.heap.size ≤ w.heap.size := h.kp.size
  have HP := hids h.pos
  have H0 := hids h
  have HL := hids hL
  clear ha h hL
  go_enter Try.func21, Try.ntmps21
  go_wp2_with (go_at_call 45; refine CL.out.mono ?_; rintro e w1 ⟨u, rfl, ho, hb⟩; have HO := hids ho; have HU := hids hb; clear ho hb)
  have S0 := hids (H0.out.sl HU.out HO.out)
  obtain ⟨ua, uc, rfl⟩ := own_slice HO.out
  by_cases hn0 : n = 0
  · subst hn0
    refine wp_loop_rounds 1 ?_
    rw [rounds_succ]
    go_wp2
    go_ret
    exact ⟨_, rfl, S0.out⟩
  obtain ⟨gb, gc, eg, -⟩ := By.own_cells HO.out (by omega)
  simp only [Value.slice.injEq] at eg
  obtain ⟨rfl, -, rfl⟩ := eg
  clear HO HU CL H0
  go_loopw [6] (fun i wr => ∃ q : Nat, 1 ≤ q ∧ q ≤ n ∧ i = .int .i64 q ∧ SL w0 lo rv0 w.heap.size (.slice (some ⟨gb, 0, none⟩) n uc) n wr (nts L (srt f q).2) (srt f q).1) (fun i _ => n - (intOf i).toNat)
  case atStart => exact ⟨1, Nat.le_refl _, by omega, rfl, S0.out⟩
  case round =>
    obtain ⟨q, hq1, hq, rfl, hs⟩ := hrel
    have HS := hids hs
    clear hs
    by_cases hlt : q < n
    · have SQ := hids (show (srt f (q + 1)) = ((sink (srt f q).1 q).1, (srt f q).2 ++ (sink (srt f q).1 q).2) from rfl)
      have LOW := hids (fun a b e => low_snoc a b f n hn q hlt e)
      go_wp2_with fail
      go_step3
      go_wp2_with fail
      go_step3
      go_wp2_with fail
      go_loopw [7] (fun k wr' => ∃ (c : Nat) (g : Nat → Int) (pre : List Bool), c ≤ q ∧ k = .int .i64 c ∧ sink (srt f q).1 q = ((sink g c).1, pre ++ (sink g c).2) ∧ SL w0 lo rv0 w.heap.size (.slice (some ⟨gb, 0, none⟩) n uc) n wr' (nts L ((srt f q).2 ++ pre)) g) (fun k _ => (intOf k).toNat)
      case atStart => exact ⟨q, (srt f q).1, [], Nat.le_refl _, rfl, rfl, by rw [List.append_nil]; exact HS.out⟩
      case round =>
        obtain ⟨c, g, pre, hc, rfl, hsk, hs⟩ := hrel
        have HT := hids hs
        have HK := hids hsk
        clear hs hsk
        by_cases hc0 : c = 0
        · subst hc0
          go_wp2_with fail
          rw [Exit.noGoto_normal]
          go_wp2_with fail
          go_roundw
          case rel => exact ⟨q + 1, by omega, by omega, by go_num, by rw [SQ.out, HK.out]; simp only [sink, List.append_nil]; exact HT.out⟩
          case measure => (simp [intOf] <;> omega)
        · obtain ⟨d, hd⟩ : ∃ d, c = d + 1 := ⟨c - 1, by omega⟩
          have hcn : c < n := by omega
          have hdn : d < n := by omega
          have Z := hids (fun W M (hs : SL w0 lo rv0 w.heap.size (.slice (some ⟨gb, 0, none⟩) n uc) n W M g) => show W.cell? ⟨gb, d, none⟩ = some (.int .u8 (g d)) ∧ W.cell? ⟨gb, c, none⟩ = some (.int .u8 (g c)) from by
            rcases hs.own.shape with ⟨_, h0⟩ | ⟨g', cap', e, _, _, _, _, hcell, _⟩
            · omega
            · cases e; exact ⟨hcell d (by omega), hcell c hcn⟩)
          have FZ := hids (fun W M (hs : SL w0 lo rv0 w.heap.size (.slice (some ⟨gb, 0, none⟩) n uc) n W M g) => show ∀ i, W.frozen? ⟨gb, i, none⟩ = false from fun i => hs.own.2.frozenAt i)
          have z1 := (Z.out _ _ HT.out).1
          have z2 := (Z.out _ _ HT.out).2
          have T := hids (srt_tot (L := L) HP.out HL.out ((srt f q).2 ++ pre) (by have := LOW.out ((srt f q).2 ++ pre) (sink g c).2 (by rw [HK.out, List.append_assoc]); omega))
          have BQ := hids (fun (x : Bool) W (hs : SL w0 lo rv0 w.heap.size (.slice (some ⟨gb, 0, none⟩) n uc) n W (nts L ((srt f q).2 ++ pre)) g) => hs.branch x T.out)
          have hw : IntKind.i64.wrap ((c : Int) - 1) = (d : Int) := by rw [IntKind.wrap_i64]; omega
          have l1 : (d : Int) < (n : Int) := by omega
          have l2 : (c : Int) < (n : Int) := by omega
          have HD := hids hd
          by_cases hlt2 : g c < g d
          · have SK := hids (show sink g c = ((sink (swp g d) d).1, true :: (sink (swp g d) d).2) by rw [HD.out, sink, if_pos (by rw [← HD.out]; exact hlt2)])
            clear hd
            go_wp2_with fail
            go_region_held3 (fun W => W.cell? ⟨gb, d, none⟩ = some (.int .u8 (g d)) ∧ W.cell? ⟨gb, c, none⟩ = some (.int .u8 (g c))) (go_keep) (first | (go_at_call 38; refine (BQ.out true _ (HT.out.below (below_drewN _ _))).mono ?_; rintro e w' ⟨rfl, hq⟩; have y1 := (Z.out w' _ hq).1; have y2 := (Z.out w' _ hq).2; have HQ := hids hq; clear hq))
            go_wp2_with fail
            have f1 := FZ.out _ _ HQ.out d
            have f2 := FZ.out _ _ HQ.out c
            have ne1 : ¬ d = c := by have := HD.out; omega
            have ne2 : ¬ c = d := by have := HD.out; omega
            go_region
            have HW := hids ((show SL w0 lo rv0 w.heap.size (.slice (some ⟨gb, 0, none⟩) n uc) n ((w'.setCell ⟨gb, d, none⟩ (.int .u8 (g c))).setCell ⟨gb, c, none⟩ (.int .u8 (g d))) (putL (nts L ((srt f q).2 ++ pre)) (br true)) (swp g d) from by
              have := HQ.out.swap hB d
              rw [← HD.out] at this
              exact this).below (below_drewN _ 1))
            clear HQ BQ Z FZ z1 z2 y1 y2 f1 f2
            go_wp2_with fail
            go_roundw
            case rel => exact ⟨d, swp g d, pre ++ [true], by have := HD.out; omega, by go_num, by rw [HK.out, SK.out]; simp, by rw [← List.append_assoc, nts_snoc]; exact HW.out⟩
            case measure => (have := HD.out; simp [intOf] <;> omega)
          · have SK := hids (show sink g c = (g, [false]) by rw [HD.out, sink, if_neg (by rw [← HD.out]; exact hlt2)])
            clear hd
            have hge : decide (g c < g d) = false := decide_eq_false hlt2
            go_wp2_with fail
            go_region_held3 (fun W => W.cell? ⟨gb, d, none⟩ = some (.int .u8 (g d)) ∧ W.cell? ⟨gb, c, none⟩ = some (.int .u8 (g c))) (go_keep) (first | (go_at_call 38; refine (BQ.out false _ (HT.out.below (below_drewN _ _))).mono ?_; rintro e w' ⟨rfl, hq⟩; have y1 := (Z.out w' _ hq).1; have y2 := (Z.out w' _ hq).2; have HQ := hids hq; clear hq))
            go_wp2_with fail
            rw [Exit.noGoto_normal]
            go_wp2_with fail
            go_roundw
            case rel => exact ⟨q + 1, by omega, by omega, by go_num, by rw [SQ.out, HK.out, SK.out, ← List.append_assoc, nts_snoc]; exact HQ.out⟩
            case measure => (simp [intOf] <;> omega)
    · obtain rfl : q = n := by omega
      go_wp2
      go_ret
      exact ⟨_, rfl, HS.out⟩
end Go.Proofs.Ytpcnkiapbkmjbaa.Nv
