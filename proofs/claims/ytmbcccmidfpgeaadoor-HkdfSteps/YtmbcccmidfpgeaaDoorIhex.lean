/- Digits as bytes: the statements' unhex. -/
import Derived.Test.YtmbcccmidfpgeaaDoorZma
import Derived.Deep.DeepCutAuto
namespace Go.Proofs.YtmbcccmidfpgeaaDoor.Dg
open Go.ChangeShapes Go.WideShapes Go.ChangeAt Go.RowKit
open Go.Proofs.YtmbcccmidfpgeaaDoor.By
theorem own_one (w : World) (x : Int) (hx : 0 ≤ x ∧ x < 256) : By.Own (w.alloc (.cells #[.int .u8 x] 5)) w.heap.size (.slice (some ⟨w.heap.size, 0, none⟩) 1 1) 1 (fun _ => x) := By.own_lit w _ 1 _ (fun _ => hx) (by decide) rfl (bl_singleton x)
/-- The byte at a place of a text. -/
def sx (s : ByteArray) (p : Nat) : Int := if h : p < s.size then ((s[p]'h).toNat : Int) else 0
theorem sx_b (s : ByteArray) (p : Nat) : 0 ≤ sx s p ∧ sx s p < 256 := by
  unfold sx; split
  · have := (s[p]).toNat_lt; omega
  · decide
@[go_sem high] theorem run_sx (w : World) (s : ByteArray) (p : Nat) (h : p < s.size) : (Instr.index 9 (.string s) (.int .i64 (p : Int))).run Tryd.prog w = .ok (.int .u8 (sx s p)) w := by
  rw [run_index_string w 9 s .i64 p Tryd.underlying9, dif_pos ⟨by omega, by omega⟩]
  unfold sx; rw [dif_pos h]; rfl
/-- A digit. -/
def hx (b : Int) : Int := if 97 ≤ b then b - 87 else b - 48
theorem hx_b {b : Int} (h : 0 ≤ b ∧ b < 256) : -48 ≤ hx b ∧ hx b ≤ 168 := by unfold hx; split <;> omega
/-- The digits of one byte, so far. -/
def hv (s : ByteArray) (J : Nat) : Nat → Int
  | 0 => 0
  | 1 => hx (sx s J)
  | _ => 16 * hx (sx s J) + hx (sx s (J + 1))
theorem hv_b (s : ByteArray) (J q : Nat) : -1000 ≤ hv s J q ∧ hv s J q ≤ 4000 := by
  have h1 := hx_b (sx_b s J)
  have h2 := hx_b (sx_b s (J + 1))
  match q with
  | 0 => exact ⟨by show (-1000 : Int) ≤ 0; decide, by show (0 : Int) ≤ 4000; decide⟩
  | 1 => exact ⟨by show -1000 ≤ hx (sx s J); omega, by show hx (sx s J) ≤ 4000; omega⟩
  | q + 2 => exact ⟨by show -1000 ≤ 16 * hx (sx s J) + hx (sx s (J + 1)); omega, by show 16 * hx (sx s J) + hx (sx s (J + 1)) ≤ 4000; omega⟩
theorem hv_next (s : ByteArray) (J q : Nat) (h : q < 2) : hv s J (q + 1) = 16 * hv s J q + hx (sx s (J + q)) := by
  match q, h with
  | 0, _ => show hx (sx s J) = 16 * 0 + hx (sx s (J + 0)); rw [Nat.add_zero]; omega
  | 1, _ => rfl
def hf (s : ByteArray) (i : Nat) : Int := hv s (2 * i) 2 % 256
theorem hf_b (s : ByteArray) (i : Nat) : 0 ≤ hf s i ∧ hf s i < 256 := by unfold hf; omega
set_option maxHeartbeats 2000000 in
theorem unhex1 (s : ByteArray) (n : Nat) (w : World) (hs : s.size = 2 * n) (hn : n ≤ 1000) :
    Calls Tryd.prog 26 #[.string s] w fun e w' => ∃ v, e = .returned v ∧ By.Own w' w.heap.size v n (hf s) ∧ Below w.heap.size w w' := by
  have HS := hid hs
  clear hs
  go_enter Tryd.func26, Tryd.ntmps26
  go_wp2
  go_loopw [3, 4] (fun v i wr => ∃ j J : Nat, j ≤ n ∧ J = 2 * j ∧ i = .int .i64 J ∧ By.Own wr w.heap.size v j (hf s) ∧ Below w.heap.size w wr) (fun _ i _ => 2 * n - (intOf i).toNat)
  case atStart => exact ⟨0, 0, Nat.zero_le _, rfl, rfl, own_nil _ _ _ (hf_b s), Below.refl _ _⟩
  case round =>
    obtain ⟨j, J, hj, hJ, rfl, hown, hbel⟩ := hrel
    have HJ := hid hJ
    have hJ2 : J ≤ 2000 := by omega
    have HO := hid hown
    have HB := hid hbel
    clear hown hbel hJ
    by_cases hlt : j < n
    · have f1 : (J : Int) + 1 < (s.size : Int) := by have := HS.out; have := HJ.out; omega
      go_wp2
      go_loopw [5, 6] (fun N k wq => ∃ q K : Nat, q ≤ 2 ∧ K = J + q ∧ k = .int .i64 K ∧ N = .int .i64 (hv s J q) ∧ wq = wr) (fun _ k _ => J + 2 - (intOf k).toNat)
      case atStart => exact ⟨0, J, by omega, rfl, rfl, rfl, rfl⟩
      case round =>
        obtain ⟨q, K, hq, hK, rfl, rfl, rfl⟩ := hrel
        have HK := hid hK
        have hK2 : K ≤ 2002 := by omega
        clear hK
        by_cases hq2 : q < 2
        · have g1 : (K : Int) < (J : Int) + 2 := by have := HK.out; omega
          have g2 : K < s.size := by have := HK.out; omega
          obtain ⟨N, hN⟩ : ∃ N, hv s J q = N := ⟨_, rfl⟩
          have hN2 : -1000 ≤ N ∧ N ≤ 4000 := by rw [← hN]; exact hv_b s J q
          obtain ⟨n1, n2⟩ := hN2
          obtain ⟨b1, b2⟩ := sx_b s K
          have HE : Hid (hv s J (q + 1) = 16 * N + hx (sx s K)) := by
            show hv s J (q + 1) = 16 * N + hx (sx s K)
            rw [hv_next s J q hq2, hN, HK.out]
          rw [hN]
          clear hN
          by_cases h97 : 97 ≤ sx s K
          · have HX : Hid (hx (sx s K) = sx s K - 87) := if_pos h97
            go_wp2
            refine ⟨⟨q + 1, K + 1, by omega, by rw [HK.out]; omega, by go_num, ?_, trivial⟩, by simp [intOf]; have := HK.out; omega⟩
            rw [HE.out, HX.out]
            congr 1
            omega
          · have HX : Hid (hx (sx s K) = sx s K - 48) := if_neg h97
            go_wp2
            refine ⟨⟨q + 1, K + 1, by omega, by rw [HK.out]; omega, by go_num, ?_, trivial⟩, by simp [intOf]; have := HK.out; omega⟩
            rw [HE.out, HX.out]
        · have eq2 : q = 2 := by omega
          subst eq2
          have g1 : ¬ (K : Int) < (J : Int) + 2 := by have := HK.out; omega
          obtain ⟨N, hN⟩ : ∃ N, hv s J 2 = N := ⟨_, rfl⟩
          have HNN : Hid (hf s j = N % 256) := by show hf s j = N % 256; unfold hf; rw [← HJ.out, hN]
          rw [hN]
          clear hN
          have HSz : Hid (w.heap.size ≤ wr.heap.size) := HB.out.size
          have HX : Hid (0 ≤ N % 256 ∧ N % 256 < 256) := by show 0 ≤ N % 256 ∧ N % 256 < 256; omega
          have OV := hid (own_below HO.out (below_alloc wr (.cells #[.int .u8 (N % 256)] 5)))
          have OL := hid (own_one wr (N % 256) HX.out)
          go_wp2_with (at_builtin; go_must (refine Sg.wpList_cat rfl _ _ rfl w.heap.size j 1 _ _ (hf s) (fun _ => N % 256) rfl OV.out rfl OL.out.reads (by omega) (by simp; have := HSz.out; omega) ?_))
          intro v3 w3 hown3 hgrow3
          have R1 : Hid (By.Own w3 w.heap.size v3 (j + 1) (hf s)) := own_congr hown3 (hf_b s) (fun i hi => by
            unfold Sg.cat
            by_cases h : i < j
            · rw [if_pos h]
            · obtain rfl : i = j := by omega
              rw [if_neg h, HNN.out])
          have R2 : Hid (Below w.heap.size w w3) := (HB.out.alloc HSz.out _).grown hgrow3 (by simp; have := HSz.out; omega) (own_row OV.out)
          clear hown3 hgrow3 HO HB OV OL HSz
          go_wp2
          exact ⟨⟨j + 1, J + 2, by omega, by have := HJ.out; omega, by go_num, R1.out, R2.out⟩, by simp [intOf]; have := HJ.out; omega⟩
    · have e : j = n := by omega
      subst e
      have f1 : ¬ (J : Int) + 1 < (s.size : Int) := by have := HS.out; have := HJ.out; omega
      go_wp2
      go_ret
      exact ⟨_, rfl, HO.out, HB.out⟩
end Go.Proofs.YtmbcccmidfpgeaaDoor.Dg
