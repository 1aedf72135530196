/- The statements' helpers of layer 15: rows, fill, alg, awake. -/
import Derived.Test.YtmbcccmidfpgeaaDoorIex
import Derived.Test.YtmbcccmidfpgeaaDoorIeval
import Derived.Test.YtmbcccmidfpgeaaDoorIhex
import Derived.Deep.RegionHeld3
namespace Go.Proofs.YtmbcccmidfpgeaaDoor.Dg
open Go.ChangeShapes Go.WideShapes Go.ChangeAt Go.RowKit
open Go.Proofs.YtmbcccmidfpgeaaDoor.By
open Go.Proofs.YtmbcccmidfpgeaaDoor.Sh (Blk size_alloc)
theorem fill1 (n : Nat) (x : Int) (hx : 0 ≤ x ∧ x < 256) (w : World) (hn : n ≤ 140737488355000) :
    Calls Tryd.prog 9 #[.int .i64 n, .int .u8 x] w fun e w' => ∃ v, e = .returned v ∧ By.Own w' w.heap.size v n (fun _ => x) ∧ Below w.heap.size w w' := by
  have HX := hid hx
  clear hx
  go_enter Tryd.func9, Tryd.ntmps9
  go_wp2
  go_loopw [5, 6] (fun v i wr => ∃ k : Nat, k ≤ n ∧ i = .int .i64 k ∧ By.Own wr w.heap.size v k (fun _ => x) ∧ Below w.heap.size w wr) (fun _ i _ => n - (intOf i).toNat)
  case atStart => exact ⟨0, Nat.zero_le _, rfl, own_nil _ _ _ (fun _ => HX.out), Below.refl _ _⟩
  case round =>
    obtain ⟨k, hk, rfl, hown, hbel⟩ := hrel
    have HO := hid hown
    have HB := hid hbel
    clear hown hbel
    by_cases hlt : k < n
    · have HS : Hid (w.heap.size ≤ wr.heap.size) := HB.out.size
      have OV := hid (own_below HO.out (below_alloc wr (.cells #[.int .u8 x] 5)))
      have OL := hid (own_one wr x HX.out)
      go_wp2_with (at_builtin; go_must (refine Sg.wpList_cat rfl _ _ rfl w.heap.size k 1 _ _ (fun _ => x) (fun _ => x) rfl OV.out rfl OL.out.reads (by omega) (by simp; have := HS.out; omega) ?_))
      intro v3 w3 hown3 hgrow3
      have R1 : Hid (By.Own w3 w.heap.size v3 (k + 1) (fun _ => x)) := own_congr hown3 (fun _ => HX.out) (fun j hj => by unfold Sg.cat; split <;> rfl)
      have R2 : Hid (Below w.heap.size w w3) := (HB.out.alloc HS.out _).grown hgrow3 (by simp; have := HS.out; omega) (own_row OV.out)
      clear hown3 hgrow3 HO HB OV OL HS
      go_wp2
      exact ⟨⟨k + 1, by omega, by go_num, R1.out, R2.out⟩, by simp [intOf]; omega⟩
    · have e : k = n := by omega
      subst e
      go_wp2
      go_ret
      exact ⟨_, rfl, HO.out, HB.out⟩
theorem rows1 (x : Int) (n : Nat) (f : Nat → Int) (hf : BB f) (hx : 0 ≤ x ∧ x < 256) (hn : n ≤ 200) (h : ∀ k, k < n → f k = (x + k) % 256) (w : World) :
    Calls Tryd.prog 8 #[.int .u8 x, .int .i64 n] w fun e w' => ∃ v, e = .returned v ∧ By.Own w' w.heap.size v n f ∧ Below w.heap.size w w' := by
  have HX := hid hx
  have HF := hid hf
  have HH := hid h
  clear hf h
  go_enter Tryd.func8, Tryd.ntmps8
  go_wp2
  go_loopw [5, 6] (fun v i wr => ∃ k : Nat, k ≤ n ∧ i = .int .i64 k ∧ By.Own wr w.heap.size v k f ∧ Below w.heap.size w wr) (fun _ i _ => n - (intOf i).toNat)
  case atStart => exact ⟨0, Nat.zero_le _, rfl, own_nil _ _ _ HF.out, Below.refl _ _⟩
  case round =>
    obtain ⟨k, hk, rfl, hown, hbel⟩ := hrel
    have HO := hid hown
    have HB := hid hbel
    clear hown hbel
    by_cases hlt : k < n
    · have HS : Hid (w.heap.size ≤ wr.heap.size) := HB.out.size
      obtain ⟨y, hy⟩ : ∃ y, (x + (k : Int)) % 256 = y := ⟨_, rfl⟩
      have hm : (k : Int) % 256 = k := by omega
      have HY := hid (show 0 ≤ y ∧ y < 256 by omega)
      have HE := hid (show f k = y by rw [HH.out k hlt, hy])
      have OV := hid (own_below HO.out (below_alloc wr (.cells #[.int .u8 y] 5)))
      have OL := hid (own_one wr y HY.out)
      go_wp2_with (at_builtin; go_must (refine Sg.wpList_cat rfl _ _ rfl w.heap.size k 1 _ _ f (fun _ => y) rfl OV.out rfl OL.out.reads (by omega) (by simp; have := HS.out; omega) ?_))
      intro v3 w3 hown3 hgrow3
      have R1 : Hid (By.Own w3 w.heap.size v3 (k + 1) f) := own_congr hown3 HF.out (fun j hj => by
        unfold Sg.cat
        by_cases h : j < k
        · rw [if_pos h]
        · obtain rfl : j = k := by omega
          rw [if_neg h, HE.out])
      have R2 : Hid (Below w.heap.size w w3) := (HB.out.alloc HS.out _).grown hgrow3 (by simp; have := HS.out; omega) (own_row OV.out)
      clear hown3 hgrow3 HO HB OV OL HS
      go_wp2
      exact ⟨⟨k + 1, by omega, by go_num, R1.out, R2.out⟩, by simp [intOf]; omega⟩
    · have e : k = n := by omega
      subst e
      go_wp2
      go_ret
      exact ⟨_, rfl, HO.out, HB.out⟩
theorem alg1 (a : Bool) (w : World) : Calls Tryd.prog 14 #[.bool a] w fun e w' => e = .returned (.tuple #[.int .u8 (an a), .int .i64 (sz a)]) ∧ w' = w := by
  cases a
  · go_enter Tryd.func14, Tryd.ntmps14
    go_wp2
    go_ret2
    exact ⟨rfl, rfl⟩
  · go_enter Tryd.func14, Tryd.ntmps14
    go_wp2
    go_ret2
    exact ⟨rfl, rfl⟩
theorem rows13 (w : World) : Calls Tryd.prog 8 #[.int .u8 0, .int .i64 13] w fun e w' => ∃ v, e = .returned v ∧ By.Own w' w.heap.size v 13 ksal ∧ Below w.heap.size w w' := rows1 0 13 ksal ksal_b (by omega) (by omega) (by decide) w
theorem rows10 (w : World) : Calls Tryd.prog 8 #[.int .u8 240, .int .i64 10] w fun e w' => ∃ v, e = .returned v ∧ By.Own w' w.heap.size v 10 kinf ∧ Below w.heap.size w w' := rows1 240 10 kinf kinf_b (by omega) (by omega) (by decide) w
theorem fill22 (w : World) : Calls Tryd.prog 9 #[.int .i64 22, .int .u8 11] w fun e w' => ∃ v, e = .returned v ∧ By.Own w' w.heap.size v 22 kel ∧ Below w.heap.size w w' := fill1 22 11 (by omega) w (by omega)
def sE : ByteArray := ⟨#[48, 55, 55, 55, 48, 57, 51, 54, 50, 99, 50, 101, 51, 50, 100, 102, 48, 100, 100, 99, 51, 102, 48, 100, 99, 52, 55, 98, 98, 97, 54, 51, 57, 48, 98, 54, 99, 55, 51, 98, 98, 53, 48, 102, 57, 99, 51, 49, 50, 50, 101, 99, 56, 52, 52, 97, 100, 55, 99, 50, 98, 51, 101, 53]⟩
def sK : ByteArray := ⟨#[51, 99, 98, 50, 53, 102, 50, 53, 102, 97, 97, 99, 100, 53, 55, 97, 57, 48, 52, 51, 52, 102, 54, 52, 100, 48, 51, 54, 50, 102, 50, 97, 50, 100, 50, 100, 48, 97, 57, 48, 99, 102, 49, 97, 53, 97, 52, 99, 53, 100, 98, 48, 50, 100, 53, 54, 101, 99, 99, 52, 99, 53, 98, 102, 51, 52, 48, 48, 55, 50, 48, 56, 100, 53, 98, 56, 56, 55, 49, 56, 53, 56, 54, 53]⟩
theorem hexE : ∀ i, i < 32 → Sh.lf (wof wo_e) i = hf sE i := by decide +kernel
theorem hexK : ∀ i, i < 42 → (if i < 32 then Sh.lf (wof wo_t1) i else Sh.lf (wof wo_t2) (i - 32)) = hf sK i := by decide +kernel
theorem lgn (S : Nat → Prop) (w w' : World) (L : List Rn) : LG S w w' none L := trivial
set_option maxRecDepth 8000 in
set_option maxHeartbeats 4000000 in
theorem awake1 (w : World) (hk : KT w) : Calls Tryd.prog 13 #[] w fun e w' => e = .returned (.bool true) ∧ Below w.heap.size w w' := by
  have HK := hid hk
  clear hk
  go_enter Tryd.func13, Tryd.ntmps13
  go_wp2_with fail
  refine (rows13 _).mono ?_
  rintro e w1 ⟨v1, rfl, h1, b1⟩
  have V1 := hid h1
  have B1 := hid b1
  clear h1 b1
  go_wp2_with fail
  refine (fill22 _).mono ?_
  rintro e w2 ⟨v2, rfl, h2, b2⟩
  have V2 := hid h2
  have U2 := hid (own_below V1.out b2)
  have B2 := hid (below_next B1.out b2)
  clear h2 b2 V1 B1
  go_wp2_with fail
  refine (extract_ok false 13 22 v1 v2 ksal kel none [] (fun _ => False) _ (HK.out.below B2.out) id id (lgn _ _ _ _) Sg.pos_nil' (fun w' hk' => U2.out.reads.below (Sg.below_kp hk')) (fun w' hk' => V2.out.reads.below (Sg.below_kp hk')) (by omega) (by omega) (by decide)).mono ?_
  rintro e w3 ⟨x3, rfl, hx, -, hk3⟩
  have X3 := hid hx
  have B3 := hid (below_next B2.out (Sg.below_kp hk3))
  clear hx hk3 U2 V2 B2
  go_wp2_with fail
  refine (fill22 _).mono ?_
  rintro e w4 ⟨v4, rfl, h4, b4⟩
  have V4 := hid h4
  have X4 := hid (own_below X3.out b4)
  have B4 := hid (below_next B3.out b4)
  clear h4 b4 X3 B3
  go_wp2_with fail
  refine (rows13 _).mono ?_
  rintro e w5 ⟨v5, rfl, h5, b5⟩
  have V5 := hid h5
  have U5 := hid (own_below V4.out b5)
  have X5 := hid (own_below X4.out b5)
  have B5 := hid (below_next B4.out b5)
  clear h5 b5 X4 B4 V4
  go_wp2_with fail
  refine (rows10 _).mono ?_
  rintro e w6 ⟨v6, rfl, h6, b6⟩
  have V6 := hid h6
  have T6 := hid (own_below V5.out b6)
  have U6 := hid (own_below U5.out b6)
  have X6 := hid (own_below X5.out b6)
  have B6 := hid (below_next B5.out b6)
  clear h6 b6 X5 B5 U5 V5
  go_wp2_with fail
  refine (key_ok false 22 13 10 42 v4 v5 v6 kel ksal kinf none [] (fun _ => False) _ (HK.out.below B6.out) id id (lgn _ _ _ _) Sg.pos_nil' (fun w' hk' => U6.out.reads.below (Sg.below_kp hk')) (fun w' hk' => T6.out.reads.below (Sg.below_kp hk')) (fun w' hk' => V6.out.reads.below (Sg.below_kp hk')) (by omega) (by omega) (by omega) (by decide) (by decide)).mono ?_
  rintro e w7 ⟨x7, rfl, hx, -, hk7⟩
  have Y7 := hid hx
  have X7 := hid (own_below X6.out (Sg.below_kp hk7))
  have B7 := hid (below_next B6.out (Sg.below_kp hk7))
  clear hx hk7 V6 T6 U6 X6 B6
  go_wp2_with fail
  refine (unhex1 sE 32 _ rfl (by omega)).mono ?_
  rintro e w8 ⟨u8, rfl, h8, b8⟩
  have Z8 := hid h8
  have X8 := hid (own_below X7.out b8)
  have Y8 := hid (own_below Y7.out b8)
  have B8 := hid (below_next B7.out b8)
  clear h8 b8 X7 Y7 B7
  go_wp2_with fail
  refine (same_true _ _ 32 _ _ _ X8.out.reads Z8.out.reads (by decide) (fun i hi => (hm_e i hi).trans (hexE i hi))).mono ?_
  rintro e w9 ⟨rfl, d9, hw⟩
  have b9 : Below w8.heap.size w8 w9 := by rw [hw]; exact below_drewN w8 d9
  have Y9 := hid (own_below Y8.out b9)
  have B9 := hid (below_next B8.out b9)
  clear b9 hw X8 Y8 Z8 B8
  go_wp2_with fail
  refine (unhex1 sK 42 _ rfl (by omega)).mono ?_
  rintro e w10 ⟨u10, rfl, h8, b8⟩
  have Z10 := hid h8
  have Y10 := hid (own_below Y9.out b8)
  have B10 := hid (below_next B9.out b8)
  clear h8 b8 Y9 B9
  go_wp2_with fail
  refine (same_true _ _ 42 _ _ _ Y10.out.reads Z10.out.reads (by decide) (fun i hi => (okm_e i hi).trans (hexK i hi))).mono ?_
  rintro e w11 ⟨rfl, d11, hw⟩
  have B11 := hid (below_next B10.out (show Below w10.heap.size w10 w11 by rw [hw]; exact below_drewN w10 d11))
  clear hw
  go_wp2
  go_ret
  exact ⟨rfl, B11.out⟩
end Go.Proofs.YtmbcccmidfpgeaaDoor.Dg
