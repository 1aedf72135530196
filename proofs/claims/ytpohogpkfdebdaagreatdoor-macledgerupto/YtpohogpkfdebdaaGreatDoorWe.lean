/- The program's mac: Form. The program's mac: Form. The program's mac: Wipe. -/
import Derived.Test.YtpohogpkfdebdaaGreatDoorWc
import Derived.Test.YtpohogpkfdebdaaGreatDoorWb
import Derived.Test.YtpohogpkfdebdaaGreatDoorYr
namespace Go.Proofs.YtpohogpkfdebdaaGreatDoor.Vm
open Go.ChangeShapes Go.WideShapes Go.ChangeAt Go.RowKit
open Go.Proofs.YtpohogpkfdebdaaGreatDoor.By Go.Proofs.YtpohogpkfdebdaaGreatDoor.Gf Go.Proofs.YtpohogpkfdebdaaGreatDoor.Ae
open Go.Proofs.YtpohogpkfdebdaaGreatDoor.Kc (own_kept own_mono own8_type cat cat_bound wpList_cat below_grow)
/-- All the ways through a region end alike: the end is shown once. -/
theorem once {T G : Prop} (f : T → G) (t : T) : G := f t
def z64 : List Value := bl 64 (cb (four nought nought nought nought))
@[go_sem high] theorem zlit64 : #[Value.int IntKind.u8 0, Value.int IntKind.u8 0, Value.int IntKind.u8 0, Value.int IntKind.u8 0, Value.int IntKind.u8 0, Value.int IntKind.u8 0, Value.int IntKind.u8 0, Value.int IntKind.u8 0, Value.int IntKind.u8 0, Value.int IntKind.u8 0, Value.int IntKind.u8 0, Value.int IntKind.u8 0, Value.int IntKind.u8 0, Value.int IntKind.u8 0, Value.int IntKind.u8 0, Value.int IntKind.u8 0, Value.int IntKind.u8 0, Value.int IntKind.u8 0, Value.int IntKind.u8 0, Value.int IntKind.u8 0, Value.int IntKind.u8 0, Value.int IntKind.u8 0, Value.int IntKind.u8 0, Value.int IntKind.u8 0, Value.int IntKind.u8 0, Value.int IntKind.u8 0, Value.int IntKind.u8 0, Value.int IntKind.u8 0, Value.int IntKind.u8 0, Value.int IntKind.u8 0, Value.int IntKind.u8 0, Value.int IntKind.u8 0, Value.int IntKind.u8 0, Value.int IntKind.u8 0, Value.int IntKind.u8 0, Value.int IntKind.u8 0, Value.int IntKind.u8 0, Value.int IntKind.u8 0, Value.int IntKind.u8 0, Value.int IntKind.u8 0, Value.int IntKind.u8 0, Value.int IntKind.u8 0, Value.int IntKind.u8 0, Value.int IntKind.u8 0, Value.int IntKind.u8 0, Value.int IntKind.u8 0, Value.int IntKind.u8 0, Value.int IntKind.u8 0, Value.int IntKind.u8 0, Value.int IntKind.u8 0, Value.int IntKind.u8 0, Value.int IntKind.u8 0, Value.int IntKind.u8 0, Value.int IntKind.u8 0, Value.int IntKind.u8 0, Value.int IntKind.u8 0, Value.int IntKind.u8 0, Value.int IntKind.u8 0, Value.int IntKind.u8 0, Value.int IntKind.u8 0, Value.int IntKind.u8 0, Value.int IntKind.u8 0, Value.int IntKind.u8 0, Value.int IntKind.u8 0] = z64.toArray := by kernel_rfl
theorem put64 (f : Nat → Nat) (o t : Nat) (a g : Nat → Nat) (ho : o + t ≤ 64) (h : ∀ i, i < 64 → (if o ≤ i ∧ i < o + t then a (i - o) else f i) = g i) : put (bl 64 (cb f)) o (bl t (cb a)) = bl 64 (cb g) := by
  apply List.ext_getElem?
  intro i
  rw [put_get _ _ _ _ (by rw [bl_length, bl_length]; omega), bl_length]
  by_cases hi : i < 64
  · rw [bl_get 64 (cb g) i hi, show cb g i = ((g i : Nat) : Int) from rfl, ← h i hi]
    split
    · rw [bl_get _ _ _ (by omega)]
    · rw [bl_get _ _ _ hi]
  · rw [if_neg (by omega), List.getElem?_eq_none (by rw [bl_length]; omega), List.getElem?_eq_none (by rw [bl_length]; omega)]
theorem fold0 (a : Nat → Nat) : List.foldl (fun (cs : Array Value) (x : Value × Nat) => cs.setIfInBounds x.2 x.1) z64.toArray (bl 16 (cb a)).zipIdx = (bl 64 (cb (four a nought nought nought))).toArray := by
  have h := foldl_put (bl 16 (cb a)) z64 0 0
  simp only [Nat.zero_add] at h
  rw [h]
  unfold z64
  rw [put64 _ 0 16 a (four a nought nought nought) (by omega) (fun i hi => by
    unfold four
    by_cases h : i < 16
    · rw [if_pos (by omega), if_pos h]; rfl
    · rw [if_neg (by omega), if_neg h, if_neg h])]
theorem fold1 (a b : Nat → Nat) : List.foldl (fun (cs : Array Value) (x : Value × Nat) => cs.setIfInBounds (16 + x.2) x.1) (bl 64 (cb (four a nought nought nought))).toArray (bl 16 (cb b)).zipIdx = (bl 64 (cb (four a b nought nought))).toArray := by
  rw [foldl_put, put64 _ 16 16 b (four a b nought nought) (by omega) (fun i hi => by
    unfold four
    by_cases h : i < 16
    · rw [if_neg (by omega), if_pos h, if_pos h]
    · by_cases h2 : i < 32
      · rw [if_pos (by omega), if_neg h, if_pos h2]
      · rw [if_neg (by omega), if_neg h, if_neg h, if_neg h2, if_neg h2])]
theorem fold2 (a b c : Nat → Nat) : List.foldl (fun (cs : Array Value) (x : Value × Nat) => cs.setIfInBounds (32 + x.2) x.1) (bl 64 (cb (four a b nought nought))).toArray (bl 16 (cb c)).zipIdx = (bl 64 (cb (four a b c nought))).toArray := by
  rw [foldl_put, put64 _ 32 16 c (four a b c nought) (by omega) (fun i hi => by
    by_cases hc : 32 ≤ i ∧ i < 32 + 16
    · rw [if_pos hc]
      unfold four
      rw [if_neg (show ¬ i < 16 by omega), if_neg (show ¬ i < 32 by omega), if_pos (show i < 48 by omega)]
    · rw [if_neg hc]
      unfold four
      split
      · rfl
      split
      · rfl
      simp only [if_neg (show ¬ i < 48 by omega)])]
theorem fold3 (a b c d : Nat → Nat) : List.foldl (fun (cs : Array Value) (x : Value × Nat) => cs.setIfInBounds (48 + x.2) x.1) (bl 64 (cb (four a b c nought))).toArray (bl 16 (cb d)).zipIdx = (bl 64 (cb (four a b c d))).toArray := by
  rw [foldl_put, put64 _ 48 16 d (four a b c d) (by omega) (fun i hi => by
    unfold four
    by_cases h : 48 ≤ i
    · rw [if_pos (by omega), if_neg (show ¬ i < 16 by omega), if_neg (show ¬ i < 32 by omega), if_neg (show ¬ i < 48 by omega)]
    · rw [if_neg (by omega), if_pos (show i < 48 by omega), if_pos (show i < 48 by omega)])]
/-- The form's bytes. -/
def fmf (k : Nat) (ws : Nat → Nat) (n : Nat) (m : Nat → Nat) (i : Nat) : Nat :=
  if i < 16 * (k + 7) then ws i else if i < 16 * (k + 7) + 64 then four (sk1 ws (k + 6)) (sk2 ws (k + 6)) (chn ws (k + 6) m (nbl n)) (wtn m n) (i - 16 * (k + 7)) else ctn n
def fml (k : Nat) : Nat := 16 * (k + 7) + 65
theorem fmf_lt {k n : Nat} {ws m : Nat → Nat} (hw : ∀ i, ws i < 256) (hm : ∀ i, m i < 256) (i : Nat) : fmf k ws n m i < 256 := by
  unfold fmf
  split
  · exact hw _
  split
  · unfold four
    split
    · exact dbl_lt (enc_b hw _ nought_b) _
    split
    · exact dbl_lt (sk1_b hw _) _
    split
    · exact chn_b hw hm _ _ _ (by omega)
    · exact wtn_lt hm _ _
  · have := ctn_le n; omega
theorem four_lt {k n : Nat} {ws m : Nat → Nat} (hw : ∀ i, ws i < 256) (hm : ∀ i, m i < 256) (i : Nat) : four (sk1 ws (k + 6)) (sk2 ws (k + 6)) (chn ws (k + 6) m (nbl n)) (wtn m n) i < 256 := by
  unfold four
  split
  · exact dbl_lt (enc_b hw _ nought_b) _
  split
  · exact dbl_lt (sk1_b hw _) _
  split
  · exact chn_b hw hm _ _ _ (by omega)
  · exact wtn_lt hm _ _
theorem fmf_b {k n : Nat} {ws m : Nat → Nat} (hw : ∀ i, ws i < 256) (hm : ∀ i, m i < 256) (i : Nat) : 0 ≤ cb (fmf k ws n m) i ∧ cb (fmf k ws n m) i < 256 := ⟨Int.natCast_nonneg _, Int.ofNat_lt.2 (fmf_lt hw hm i)⟩
theorem fmf_mid (k n : Nat) (ws m : Nat → Nat) (i : Nat) (hi : i < 64) : fmf k ws n m (16 * (k + 7) + i) = four (sk1 ws (k + 6)) (sk2 ws (k + 6)) (chn ws (k + 6) m (nbl n)) (wtn m n) i := by
  unfold fmf
  rw [if_neg (by omega), if_pos (by omega)]
  congr 1; omega
theorem fmf_low (k n : Nat) (ws m : Nat → Nat) (i : Nat) (hi : i < 16 * (k + 7) + 16 * 0) : cb ws i = cb (fmf k ws n m) i := by
  show ((ws i : Nat) : Int) = ((fmf k ws n m i : Nat) : Int)
  unfold fmf
  rw [if_pos (by omega)]
theorem fmf_cat (k n : Nat) (ws m F : Nat → Nat) (hF : ∀ i, i < 64 → fmf k ws n m (16 * (k + 7) + i) = F i) (j : Nat) (hj : j < 4) (i : Nat) (hi : i < 16 * (k + 7) + 16 * j + 16) : Kc.cat (16 * (k + 7) + 16 * j) (cb (fmf k ws n m)) (cb fun i => F (16 * j + i)) i = cb (fmf k ws n m) i := by
  unfold Kc.cat
  split
  · rfl
  · show ((F (16 * j + (i - (16 * (k + 7) + 16 * j))) : Nat) : Int) = ((fmf k ws n m i : Nat) : Int)
    rw [← hF _ (by omega)]
    congr 2; omega
theorem fmf_end (k n : Nat) (ws m : Nat → Nat) (i : Nat) (hi : i < 16 * (k + 7) + 16 * 4 + 1) : Kc.cat (16 * (k + 7) + 16 * 4) (cb (fmf k ws n m)) (fun _ => ((ctn n : Nat) : Int)) i = cb (fmf k ws n m) i := by
  unfold Kc.cat
  split
  · rfl
  · show ((ctn n : Nat) : Int) = ((fmf k ws n m i : Nat) : Int)
    unfold fmf
    rw [if_neg (by omega), if_neg (by omega)]
theorem fmf_room (k j : Nat) (hk : k ≤ 8) (hj : j ≤ 4) : 16 * (k + 7) + 16 * j + 16 ≤ 140737488355328 := by omega
theorem four_more (k j : Nat) : 16 * (k + 7) + 16 * (j + 1) = 16 * (k + 7) + 16 * j + 16 := by omega
theorem j_more (j : Nat) (h : j < 4) : 4 - (j + 1) < 4 - j := by omega
theorem kk_le {k : Nat} (h : k = 4 ∨ k = 6 ∨ k = 8) : k ≤ 8 := by omega
theorem ctn_mod (n : Nat) : ((ctn n : Nat) : Int) % 256 = ((ctn n : Nat) : Int) := by have := ctn_le n; omega
theorem ctn_byte (n : Nat) : 0 ≤ ((ctn n : Nat) : Int) ∧ ((ctn n : Nat) : Int) < 256 := by have := ctn_le n; omega
theorem index64 (F : Nat → Nat) (j : Nat) (hj : j < 4) (w : World) : (Instr.index 236 (.agg (bl 64 (cb F)).toArray) (.int .i64 j)).run Tryz.prog w = .ok (.agg (bl 16 (cb (fun i => F (16 * j + i)))).toArray) w := by
  have e : List.take 16 (List.drop (j * 16) (bl 64 (cb F))) = bl 16 (cb (fun i => F (16 * j + i))) := by
    apply List.ext_getElem?
    intro i
    by_cases hi : i < 16
    · rw [bl_get 16 _ i hi, List.getElem?_take, if_pos hi, List.getElem?_drop, bl_get 64 _ _ (by omega)]
      show some (Value.int IntKind.u8 ((F (j * 16 + i) : Nat) : Int)) = some (Value.int IntKind.u8 ((F (16 * j + i) : Nat) : Int))
      rw [Nat.mul_comm]
    · rw [List.getElem?_eq_none (by simp [bl_length]; omega), List.getElem?_eq_none (by rw [bl_length]; omega)]
  simp [Instr.index, go_sem, hj, e]
end Go.Proofs.YtpohogpkfdebdaaGreatDoor.Vm
namespace Go.Proofs.YtpohogpkfdebdaaGreatDoor.Vm
open Go.ChangeShapes Go.WideShapes Go.ChangeAt Go.RowKit
open Go.Proofs.YtpohogpkfdebdaaGreatDoor.By Go.Proofs.YtpohogpkfdebdaaGreatDoor.Gf Go.Proofs.YtpohogpkfdebdaaGreatDoor.Ae
open Go.Proofs.YtpohogpkfdebdaaGreatDoor.Kc (own_kept own_mono own8_type cat cat_bound wpList_cat below_grow)
set_option maxRecDepth 8000 in
set_option maxHeartbeats 4000000 in
theorem form_mc (g gc k n : Nat) (ws m : Nat → Nat) (w : World) (h : Mc w g gc k ws n m) : Calls Tryz.prog 157 #[.pointer (some ⟨g, 0, none⟩)] w fun e w' => ∃ v, e = .returned v ∧ By.Own w' w.heap.size v (fml k) (cb (fmf k ws n m)) ∧ Below w.heap.size w w' := by
  have H := hid h
  have c0 := h.c0
  clear h
  go_enter Tryz.func157, Tryz.ntmps157
  go_wp2_with (first | (go_at_call 202; refine (isNone_mc g gc _ c0).mono ?_; rintro e w' ⟨rfl, hw'⟩; subst w') | (go_at_call 207; refine (form_ci gc k ws _ H.out.ci).mono ?_; rintro e w2 ⟨v2, rfl, ho2, hb2⟩; have H2 := hid (H.out.below hb2); have O2 := hid ho2; have B2 := hid hb2; clear ho2 hb2))
  have la := LDb_run (mcl_a (H2.out.here.drewN 1)) (bl_length _ _)
  have lb := LDb_run (mcl_b (H2.out.here.drewN 1)) (bl_length _ _)
  have lc := LDb_run (mcl_c (H2.out.here.drewN 1)) (bl_length _ _)
  have ld := LDb_run (mcl_d (H2.out.here.drewN 1)) (bl_length _ _)
  rw [show w2.drewN 1 = w2.drew from rfl] at la lb lc ld
  have h1 := bl_length 16 (cb (sk1 ws (k + 6)))
  have h2 := bl_length 16 (cb (sk2 ws (k + 6)))
  have h3 := bl_length 16 (cb (chn ws (k + 6) m (nbl n)))
  have h4 := bl_length 16 (cb (wtn m n))
  have g0 := fold0 (sk1 ws (k + 6))
  have g1 := fold1 (sk1 ws (k + 6)) (sk2 ws (k + 6))
  have g2 := fold2 (sk1 ws (k + 6)) (sk2 ws (k + 6)) (chn ws (k + 6) m (nbl n))
  have g3 := fold3 (sk1 ws (k + 6)) (sk2 ws (k + 6)) (chn ws (k + 6) m (nbl n)) (wtn m n)
  have g4 := bl_length 64 (cb (four (sk1 ws (k + 6)) nought nought nought))
  have g5 := bl_length 64 (cb (four (sk1 ws (k + 6)) (sk2 ws (k + 6)) nought nought))
  have g6 := bl_length 64 (cb (four (sk1 ws (k + 6)) (sk2 ws (k + 6)) (chn ws (k + 6) m (nbl n)) nought))
  have g7 : z64.length = 64 := bl_length _ _
  apply once
  · intro key
    go_region_law (fail)
    all_goals
      exact key
  · go_simp
    go_wp2_with fail
    have FB := hid (fmf_b (k := k) (n := n) H.out.ci.lt H.out.lt)
    have HFF0 := fmf_mid k n ws m
    have HF40 := four_lt (k := k) (n := n) H.out.ci.lt H.out.lt
    generalize four (sk1 ws (k + 6)) (sk2 ws (k + 6)) (chn ws (k + 6) m (nbl n)) (wtn m n) = F at HFF0 HF40 ⊢
    have HFF := hid HFF0
    have HF4 := hid HF40
    clear la lb lc ld h1 h2 h3 h4 g0 g1 g2 g3 g4 g5 g6 g7 HFF0 HF40
    have hk8 := kk_le H.out.ci.kk
    go_loopw [3, 30] (fun v i wr => ∃ j : Nat, j ≤ 4 ∧ i = .int .i64 j ∧ By.Own wr w.heap.size v (16 * (k + 7) + 16 * j) (cb (fmf k ws n m)) ∧ Below w.heap.size w wr) (fun _ i _ => 4 - (intOf i).toNat)
    case atStart =>
      exact ⟨0, Nat.zero_le _, rfl, own_congr (own_below O2.out (below_drewN w2 1)) FB.out (fmf_low k n ws m), below_dr B2.out⟩
    case round =>
      clear O2 B2 H2
      obtain ⟨j, hj, rfl, o1, hbel⟩ := hrel
      have O1 := hid o1
      have HB := hid hbel
      clear o1 hbel
      by_cases hlt : j < 4
      · have hix := index64 F j hlt wr
        obtain ⟨W1, s1, b1, k1⟩ := z_var wr (fun i => F (16 * j + i))
        have OA := hid (own_below O1.out k1)
        have RA := hid (rb_blk b1 (fun i => ⟨Int.natCast_nonneg _, Int.ofNat_lt.2 (HF4.out _)⟩) (by simp [maxLen]))
        have HB2 := hid (below_next HB.out k1)
        have hsl := sliceB
        have RM := hid (fmf_room k j hk8 hj)
        have FC := hid (fmf_cat k n ws m F HFF.out j hlt)
        have JM := hid (j_more j hlt)
        have JL := hid hlt
        clear b1 k1
        go_wp2_with (at_builtin; go_must (refine wpList_cat rfl _ _ rfl w.heap.size (16 * (k + 7) + 16 * j) 16 _ _ (cb (fmf k ws n m)) (cb fun i => F (16 * j + i)) rfl OA.out rfl RA.out RM.out HB2.out.size ?_))
        intro v' w' hown hgrow
        have O3 := hid (own_congr hown (g := cb (fmf k ws n m)) FB.out FC.out)
        have B3 := hid (below_grow HB2.out HB2.out.size OA.out hgrow)
        clear hown hgrow
        go_wp2_with fail
        exact ⟨⟨j + 1, JL.out, by go_num, by rw [four_more]; exact O3.out, B3.out⟩, JM.out⟩
      · have ej : j = 4 := Nat.le_antisymm hj (Nat.le_of_not_lt hlt)
        subst ej
        have cn := (H.out.below HB.out).cn
        have hcb := ctn_mod n
        have OA := hid (own_below O1.out (below_alloc wr (.cells #[.int .u8 ((ctn n : Nat) : Int)] 5)))
        have RA := hid (rb_one wr ((ctn n : Nat) : Int) (ctn_byte n))
        have HB2 := hid (below_next HB.out (below_alloc wr (.cells #[.int .u8 ((ctn n : Nat) : Int)] 5)))
        have RM := hid (show 16 * (k + 7) + 16 * 4 + 1 ≤ 140737488355328 from Nat.le_trans (Nat.add_le_add_left (by decide) _) (fmf_room k 4 hk8 (Nat.le_refl _)))
        go_wp2_with (at_builtin; go_must (refine wpList_cat rfl _ _ rfl w.heap.size (16 * (k + 7) + 16 * 4) 1 _ _ (cb (fmf k ws n m)) (fun _ => ((ctn n : Nat) : Int)) rfl OA.out rfl RA.out RM.out HB2.out.size ?_))
        intro v' w' hown hgrow
        have O3 := hid (own_congr hown (g := cb (fmf k ws n m)) FB.out (fmf_end k n ws m))
        have B3 := hid (below_grow HB2.out HB2.out.size OA.out hgrow)
        clear hown hgrow
        go_wp2_with fail
        go_ret
        exact ⟨_, rfl, O3.out, B3.out⟩
end Go.Proofs.YtpohogpkfdebdaaGreatDoor.Vm
namespace Go.Proofs.YtpohogpkfdebdaaGreatDoor.Vm
open Go.ChangeShapes Go.WideShapes Go.ChangeAt Go.RowKit
open Go.Proofs.YtpohogpkfdebdaaGreatDoor.By Go.Proofs.YtpohogpkfdebdaaGreatDoor.Gf Go.Proofs.YtpohogpkfdebdaaGreatDoor.Ae
theorem room_nil : Room [] := ⟨by simp [tot], by simp⟩
theorem own8_slice {w : World} {B n : Nat} {v : Value} {f : Nat → Int} (h : By.Own w B v n f) : ∃ a cap, v = .slice a n cap := by
  obtain ⟨_, a, cap, e, _⟩ := h.reads
  exact ⟨a, cap, e⟩
set_option maxRecDepth 8000 in
set_option maxHeartbeats 4000000 in
theorem wipe_mc (S : Nat → Prop) (w0 w : World) (lo : Option Nat) (L : List Rn) (g gc k n : Nat) (ws m : Nat → Nat) (hm : Mc w g gc k ws n m) (h : LG S w0 w lo L) (h0 : Kp S w0 w) (hr : Room L) (hS : g < w0.heap.size → S g) (hSc : gc < w0.heap.size → S gc) :
    Calls Tryz.prog 156 #[.pointer (some ⟨g, 0, none⟩), lpv lo] w fun e w' => e = .returned (.int .i64 0) ∧ NoMc w' g ∧ LG S w0 w' lo (putL L ⟨8, ((fml k : Nat) : Int), 1⟩) ∧ Kp S w0 w' ∧ w.heap.size ≤ w'.heap.size ∧ ∀ x cs t, x ≠ g → x ≠ gc → Blk w x cs t → t ≠ 89 → t ≠ 78 → Blk w' x cs t := by
  have H := hid hm
  have HL := hid h
  have HK := hid h0
  have HR := hid hr
  have HS := hid hS
  have HSc := hid hSc
  have c0 := hm.c0
  clear hm h h0 hr hS hSc
  go_enter Tryz.func156, Tryz.ntmps156
  go_wp2_with (go_at_call 202; refine (isNone_mc g gc _ c0).mono ?_; rintro e w' ⟨rfl, hw'⟩; subst w')
  refine (form_mc g gc k n ws m w H.out).mono ?_
  rintro e w2 ⟨v2, rfl, ho2, hb2⟩
  obtain ⟨a2, cp2, rfl⟩ := own8_slice ho2
  have H2 := hid (H.out.below hb2)
  have L2 := hid (HL.out.below hb2)
  have K2 := hid (HK.out.trans (Kp.of_below S hb2) (fun _ _ e => e))
  have B2 := hid hb2
  have c2 := H2.out.c0
  clear ho2 hb2
  go_wp2_with fail
  refine (wipe_ci (fun j => j = gc) w2 w2 none [] gc k ws H2.out.ci trivial (Kp.refl _ _) room_nil (fun _ => rfl)).mono ?_
  rintro e w3 ⟨rfl, -, -, hk3, -⟩
  have hne := H2.out.ne
  have b3 := H2.out.here.kept hk3 (fun e => hne e.symm)
  have L3 := hid (L2.out.kept hk3 (fun x e => by have e' : x = gc := e; subst e'; exact ⟨_, _, H2.out.ci.here, by decide, by decide⟩))
  have K3 := hid (K2.out.trans hk3 (fun i hi e => by have e' : i = gc := e; subst e'; exact HSc.out hi))
  have s4 := SVm_run (cs := mcl (.pointer none) nought nought nought nought 0) (b3.there 0 66 (by rw [mcl_len]; omega)) (mcl_len _ _ _ _ _ _) (mcl_one _ _ _ _ _ _ rfl)
  rw [← zero_mc] at s4
  have b4 := b3.put 0 (mcl (.pointer none) nought nought nought nought 0)
  rw [put_all _ _ (by rw [mcl_len, mcl_len])] at b4
  have k4 : Kp (fun j => j = g) w3 (w3.setCells g 0 (mcl (.pointer none) nought nought nought nought 0)) := Kp.setCells g 0 _
  obtain ⟨W4, hW4⟩ : ∃ x, w3.setCells g 0 (mcl (.pointer none) nought nought nought nought 0) = x := ⟨_, rfl⟩
  rw [hW4] at s4 b4 k4
  have L4 := hid (L3.out.kept k4 (fun x e => by have e' : x = g := e; subst e'; exact ⟨_, _, b3, by decide, by decide⟩))
  have K4 := hid (K3.out.trans k4 (fun i hi e => by have e' : i = g := e; subst e'; exact HS.out hi))
  have B4 := hid b4
  have X4 := hid (show w.heap.size ≤ W4.heap.size ∧ ∀ x cs t, x ≠ g → x ≠ gc → Blk w x cs t → Blk W4 x cs t from ⟨Nat.le_trans B2.out.size (Nat.le_trans hk3.size k4.size), fun x cs t h1 h2 hb => ((hb.below B2.out).kept hk3 h2).kept k4 h1⟩)
  clear b3 b4 k4 hk3 hne
  have hfk : fml k ≤ 1000 := by have := H2.out.ci.kk; unfold fml; omega
  go_wp2_with fail
  refine (note_lg S w0 W4 lo L 8 ((fml k : Nat) : Int) (by omega) (by omega) L4.out K4.out HR.out).mono ?_
  rintro e w5 ⟨rfl, l5, k5, t5⟩
  have R := hid (show NoMc w5 g ∧ LG S w0 w5 lo (putL L ⟨8, ((fml k : Nat) : Int), 1⟩) ∧ Kp S w0 w5 ∧ w.heap.size ≤ w5.heap.size ∧ ∀ x cs t, x ≠ g → x ≠ gc → Blk w x cs t → t ≠ 89 → t ≠ 78 → Blk w5 x cs t from
    ⟨⟨_, t5.2 _ _ _ B4.out (by decide) (by decide)⟩, l5, k5, Nat.le_trans X4.out.1 t5.1, fun x cs t h1 h2 hb t1 t2 => t5.2 _ _ _ (X4.out.2 x cs t h1 h2 hb) t1 t2⟩)
  clear l5 k5 t5
  go_wp2_with fail
  go_ret
  exact ⟨rfl, R.out⟩
end Go.Proofs.YtpohogpkfdebdaaGreatDoor.Vm
