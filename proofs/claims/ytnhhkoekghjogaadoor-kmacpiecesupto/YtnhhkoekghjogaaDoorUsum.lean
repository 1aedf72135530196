/- What New, Sum and Tag of the program answer. -/
import Derived.Test.YtnhhkoekghjogaaDoorUmac
import Derived.Lib.SlBytesConst
namespace Go.Proofs.YtnhhkoekghjogaaDoor.Kc
open Go.ChangeShapes Go.WideShapes Go.ChangeAt Go.RowKit
open Go.Proofs.YtnhhkoekghjogaaDoor.By Go.Proofs.YtnhhkoekghjogaaDoor.Wd
theorem told_ok (n : Nat) (w : World) (hn : n ≤ 65536) : Calls Tryd.prog 36 #[.int .i64 n] w fun e w' => e = .returned (.bool true) ∧ w' = w := by
  have n1 : ¬ (n : Int) < 0 := by omega
  have n2 : ¬ (65536 : Int) < n := by omega
  have n3 : (0 : Int) ≤ n := by omega
  have n4 : (n : Int) ≤ 65536 := by omega
  go_enter Tryd.func36, Tryd.ntmps36
  go_wp2
  go_ret
  exact ⟨rfl, rfl⟩
theorem told_no (n : Int) (w : World) (hn : n < 0 ∨ 65536 < n) : Calls Tryd.prog 36 #[.int .i64 n] w fun e w' => e = .returned (.bool false) ∧ w' = w := by
  by_cases h1 : n < 0
  · have n1 : ¬ (0 : Int) ≤ n := by omega
    go_enter Tryd.func36, Tryd.ntmps36
    go_wp2
    go_ret
    exact ⟨rfl, rfl⟩
  · have h2 : 65536 < n := by omega
    have n1 : (0 : Int) ≤ n := by omega
    have n2 : ¬ n ≤ 65536 := by omega
    go_enter Tryd.func36, Tryd.ntmps36
    go_wp2
    go_ret
    exact ⟨rfl, rfl⟩
theorem lastOf1 (n : Nat) (xof : Bool) (w : World) (hn : n ≤ 65536) : Calls Tryd.prog 49 #[.int .i64 n, .bool xof] w fun e w' => ∃ v, e = .returned (.tuple #[v, .int .i64 0]) ∧ By.Own w' w.heap.size v (nb (ku n xof) + 1) (rt (ku n xof)) ∧ Below w.heap.size w w' := by
  cases xof with
  | true =>
    go_enter Tryd.func49, Tryd.ntmps49
    go_wp2_with fail
    refine (rightOk 0 w (by omega)).mono ?_
    rintro e w1 ⟨v, rfl, ho, hb⟩
    have HO := hid ho
    have HB := hid hb
    clear ho hb
    go_wp2
    go_ret2
    exact ⟨_, rfl, HO.out, HB.out⟩
  | false =>
    go_enter Tryd.func49, Tryd.ntmps49
    go_wp2_with fail
    refine (rightOk (8 * n) w (by omega)).mono ?_
    rintro e w1 ⟨v, rfl, ho, hb⟩
    have HO := hid ho
    have HB := hid hb
    clear ho hb
    go_wp2
    go_ret2
    exact ⟨_, rfl, HO.out, HB.out⟩
section
variable {w : World} {g b : Nat} {st : Int} {r : Nat} {z : Z}
theorem Mk.sum_no (h : Mk w g b st r z) (lp x : Value) (n : Int) (hn : n < 0 ∨ 65536 < n) : Calls Tryd.prog 26 #[.pointer (some ⟨g, 0, none⟩), lp, .int .i64 n, x] w fun e w' => e = .returned (.tuple #[.slice none 0 0, .int .i64 2]) ∧ w' = w := by
  have H := hid h
  have HN := hid hn
  clear h hn
  go_enter Tryd.func26, Tryd.ntmps26
  go_wp2_with (first
    | (go_at_call 46; refine (kisNone_mk H.out).mono ?_; rintro e w ⟨rfl, rfl⟩)
    | (go_at_call 36; refine (told_no n _ HN.out).mono ?_; rintro e w ⟨rfl, rfl⟩))
  go_ret2
  exact ⟨rfl, rfl⟩
set_option maxRecDepth 4000 in
set_option maxHeartbeats 2000000 in
theorem Mk.sum (h : Mk w g b st r z) (lo : Option Nat) (L : List Rn) (S : Nat → Prop) (n : Nat) (xof : Bool) (hk : KT w) (hS0 : ¬ S 0) (hS1 : ¬ S 1) (hl : LG S w w lo L) (hpos : Pos L) (hT : Tiny L) (hn : n ≤ 65536) :
    Calls Tryd.prog 26 #[.pointer (some ⟨g, 0, none⟩), lpv lo, .int .i64 n, .bool xof] w fun e w' => ∃ v, e = .returned (.tuple #[v, .int .i64 0]) ∧ By.Own w' w.heap.size v n (Z.say r (ky r z n xof)) ∧ LG S w w' lo (evk L (kN r z n xof)) ∧ Kp S w w' := by
  have H := hid h
  have c0 := h.here.cell 0 _ rfl
  have HST := hid h.str
  have HZ := hid h.sp.ok
  have HK := hid hk
  have HS0 := hid hS0
  have HS1 := hid hS1
  have HL := hid hl
  have HPOS := hid hpos
  have HT := hid hT
  clear h hk hS0 hS1 hl hpos hT
  go_enter Tryd.func26, Tryd.ntmps26
  go_wp2_with (first
    | (go_at_call 46; refine (kisNone_mk H.out).mono ?_; rintro e w' ⟨rfl, rfl⟩)
    | (go_at_call 36; refine (told_ok n _ hn).mono ?_; rintro e w' ⟨rfl, rfl⟩))
  refine (clone_sp _ _ _ _ _ _ H.out.sp).mono ?_
  rintro e w1 ⟨rfl, hs, hb⟩
  have S1 := hid hs
  have B1 := hid hb
  clear hs hb c0
  obtain ⟨bb, eb⟩ : ∃ b, w'.heap.size = b := ⟨_, rfl⟩
  have EB := hid eb
  rw [eb] at S1
  rw [eb]
  clear eb
  go_wp2_with fail
  refine (lastOf1 n xof w1 hn).mono ?_
  rintro e w2 ⟨v2, rfl, ho, hb⟩
  have O2 := hid ho
  have B2 := hid (below_next B1.out hb)
  have S2 := hid (S1.out.below hb)
  have Z1 : Hid (bb < w1.heap.size) := by have := S1.out.here.lt; exact this
  clear ho hb S1
  have hnb : nb (ku n xof) + 1 ≤ 9000000 := by have := (nb_pos (ku n xof)).2; omega
  go_wp2_with fail
  refine (write_sp bb r (nb (ku n xof) + 1) 4 v2 z (rt (ku n xof)) lo L (Sb w' S bb) w2 S2.out (HK.out.below B2.out) (sb_no HS0.out EB.out (by have := kt_lt HK.out; omega)) (sb_no HS1.out EB.out (kt_lt HK.out)) (.inr rfl) (HL.out.sb B2.out) HPOS.out (fun w' hk' => (own_kept O2.out hk' (fun g hg e => by
    have h1 := own_row O2.out g hg
    have h2 := Z1.out
    have h3 := B1.out.size
    rcases e with ⟨_, e⟩ | e <;> omega)).reads) hnb HT.out.mono).mono ?_
  rintro e w3 ⟨rfl, hs, hlg, hkp⟩
  have S3 := hid hs
  have L3 := hid (HL.out.sbBack hlg EB.out B2.out.size)
  have K3 : Hid (Kp S w' w3) := (Kp.of_below S B2.out).trans hkp (fun i hi e => by have := EB.out; rcases e with ⟨e, _⟩ | e; exact e; omega)
  clear hs hlg hkp O2 B2 S2
  have hge : w'.heap.size ≤ bb := Nat.le_of_eq EB.out
  have hcc : (ke r z n xof).c - z.c ≤ 3000000 := by have := ke_le HST.out HZ.out n xof; omega
  go_wp2_with fail
  refine (read_open bb r n 4 _ (ky r z n xof) lo _ (Nw w' S) w3 S3.out (HK.out.kept K3.out HS0.out HS1.out) (nw0 HK.out HS0.out) (nw1 HK.out HS1.out) (.inr hge) L3.out.nw (evk_pos HPOS.out _) hn (HT.out.big HPOS.out _ hcc) _ rfl rfl).mono ?_
  rintro e w4 ⟨gb, rfl, hgb, hs, hbl, hlg, hkp⟩
  have R1 := hid (own_blk hbl (say_kb HST.out z n xof) (show w'.heap.size ≤ gb by have := K3.out.size; omega) (by simp [maxLen]; omega))
  have R2 : Hid (LG S w' w4 lo (evk L (kN r z n xof))) := by
    have hlg2 : LG (Nw w' S) w3 w4 lo (evk L (kN r z n xof)) := by
      rw [← kN_eq HZ.out n xof, evk_add, evk_add]; exact hlg
    exact HL.out.back hlg2 K3.out.size
  have R3 := hid (Kp.nw K3.out hkp)
  clear hs hbl hlg hkp S3 L3
  go_wp2
  go_ret2
  exact ⟨_, rfl, R1.out, R2.out, R3.out⟩
end
end Go.Proofs.YtnhhkoekghjogaaDoor.Kc
