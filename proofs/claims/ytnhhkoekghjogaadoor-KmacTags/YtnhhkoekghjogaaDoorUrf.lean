/- The document's macs: what their calls answer. -/
import Derived.Test.YtnhhkoekghjogaaDoorUnew
import Derived.Test.YtnhhkoekghjogaaDoorXrbeg
namespace Go.Proofs.YtnhhkoekghjogaaDoor.Kc
open Go.ChangeShapes Go.WideShapes Go.ChangeAt Go.RowKit
open Go.Proofs.YtnhhkoekghjogaaDoor.By Go.Proofs.YtnhhkoekghjogaaDoor.Wd
set_option maxHeartbeats 1000000 in
theorem rrightOk (n : Nat) (w : World) (hn : n < 9223372036854775808) :
    Calls Tryd.prog 59 #[.int .i64 n] w fun e w' => ∃ v, e = .returned (.tuple #[v, .int .i64 0]) ∧ By.Own w' w.heap.size v (nb n + 1) (rt n) ∧ Below w.heap.size w w' := by
  have HN := hid hn
  clear hn
  go_enter Tryd.func59, Tryd.ntmps59
  go_wp2_with fail
  refine (number1 n w HN.out).mono ?_
  rintro e w1 ⟨v, rfl, hown, hbel⟩
  obtain ⟨k, hk⟩ : ∃ k, nb n = k := ⟨_, rfl⟩
  have hk9 : k ≤ 9 := by rw [← hk]; exact (nb_pos n).2
  have LF : Hid (cat k (dnn n) (fun _ => (k : Int)) = rt n) := by show cat k (dnn n) (fun _ => (k : Int)) = rt n; rw [← hk]; rfl
  rw [hk] at hown
  have HK := hid hk
  obtain ⟨a, c, rfl⟩ := own_slice hown
  have HO := hid hown
  have HB := hid hbel
  clear hown hbel hk
  have kw : (k : Int) % 256 = (k : Int) := by omega
  have OV := hid (own_below HO.out (below_alloc w1 (.cells #[.int .u8 (k : Int)] 5)))
  have HS : Hid (w.heap.size ≤ w1.heap.size) := HB.out.size
  have OL := hid (own_one w1 (k : Int) (by omega))
  go_wp2_with (at_builtin; go_must (refine wpList_cat rfl _ _ rfl w.heap.size k 1 _ _ (dnn n) (fun _ => (k : Int)) rfl OV.out rfl OL.out.reads (by omega) (by simp; have := HS.out; omega) ?_))
  intro v' w2 hown hgrow
  have R1 : Hid (By.Own w2 w.heap.size v' (k + 1) (rt n)) := by
    rw [LF.out] at hown
    exact hown
  have R2 : Hid (Below w.heap.size w w2) := (HB.out.alloc HS.out _).grown hgrow (by simp; have := HS.out; omega) (own_row OV.out)
  clear hown hgrow HO HB OV HS LF OL
  go_wp2
  go_ret2
  rw [HK.out]
  exact ⟨_, rfl, R1.out, R2.out⟩
/-- A mac of the document's in block g, its sponge in block b. -/
structure Rk (w : World) (g b : Nat) (st : Int) (r : Nat) (z : Z) : Prop where
  here : Blk w g [.pointer (some ⟨b, 0, none⟩), .int .i64 st] 96
  sp : RSp w b r 4 z false
  str : Str st r
theorem Rk.below {w w' : World} {g b : Nat} {st : Int} {r : Nat} {z : Z} (h : Rk w g b st r z) (hb : Below w.heap.size w w') : Rk w' g b st r z := ⟨h.here.below hb, h.sp.below hb, h.str⟩
theorem Rk.kept {S : Nat → Prop} {w w' : World} {g b : Nat} {st : Int} {r : Nat} {z : Z} (h : Rk w g b st r z) (hk : Kp S w w') (h1 : ¬ S g) (h2 : ¬ S b) : Rk w' g b st r z := ⟨h.here.kept hk h1, h.sp.kept hk h2, h.str⟩
/-- No mac. -/
def NoK (w : World) (v : Value) : Prop := v = .pointer none ∨ ∃ g, v = .pointer (some ⟨g, 0, none⟩) ∧ Blk w g [.pointer none, .int .i64 0] 96
theorem NoK.below {w w' : World} {v : Value} (h : NoK w v) (hb : Below w.heap.size w w') : NoK w' v := by
  rcases h with h | ⟨g, e, h⟩
  · exact .inl h
  · exact .inr ⟨g, e, h.below hb⟩
theorem rkNone_mk {w : World} {g b : Nat} {st : Int} {r : Nat} {z : Z} (h : Rk w g b st r z) : Calls Tryd.prog 57 #[.pointer (some ⟨g, 0, none⟩)] w fun e w' => e = .returned (.bool false) ∧ w' = w := by
  have c0 := h.here.cell 0 _ rfl
  clear h
  go_enter Tryd.func57, Tryd.ntmps57
  go_wp2
  go_ret
  exact ⟨rfl, rfl⟩
theorem rkNone_no {w : World} {v : Value} (h : NoK w v) : Calls Tryd.prog 57 #[v] w fun e w' => e = .returned (.bool true) ∧ w' = w := by
  rcases h with rfl | ⟨g, rfl, h⟩
  · go_enter Tryd.func57, Tryd.ntmps57
    go_wp2
    go_ret
    exact ⟨rfl, rfl⟩
  · have c0 := h.cell 0 _ rfl
    clear h
    go_enter Tryd.func57, Tryd.ntmps57
    go_wp2
    go_ret
    exact ⟨rfl, rfl⟩
theorem rrate14 (st : Int) (r : Nat) (w : World) (h : Str st r) : Calls Tryd.prog 55 #[.int .i64 st] w fun e w' => e = .returned (.int .i64 r) ∧ w' = w := by
  rcases h with ⟨rfl, rfl⟩ | ⟨rfl, rfl⟩
  · go_enter Tryd.func55, Tryd.ntmps55
    go_wp2
    go_ret
    exact ⟨rfl, rfl⟩
  · go_enter Tryd.func55, Tryd.ntmps55
    go_wp2
    go_ret
    exact ⟨rfl, rfl⟩
section
variable {w : World} {v : Value}
theorem NoK.write (h : NoK w v) (lp x : Value) : Calls Tryd.prog 38 #[v, lp, x] w fun e w' => e = .returned (.int .i64 1) ∧ w' = w := by
  have H := hid h
  clear h
  go_enter Tryd.func38, Tryd.ntmps38
  go_wp2_with (go_at_call 57; refine (rkNone_no H.out).mono ?_; rintro e w ⟨rfl, rfl⟩)
  go_ret
  exact ⟨rfl, rfl⟩
theorem NoK.sum (h : NoK w v) (lp n x : Value) : Calls Tryd.prog 39 #[v, lp, n, x] w fun e w' => e = .returned (.tuple #[.slice none 0 0, .int .i64 1]) ∧ w' = w := by
  have H := hid h
  clear h
  go_enter Tryd.func39, Tryd.ntmps39
  go_wp2_with (go_at_call 57; refine (rkNone_no H.out).mono ?_; rintro e w ⟨rfl, rfl⟩)
  go_ret2
  exact ⟨rfl, rfl⟩
end
section
variable {w : World} {g b : Nat} {st : Int} {r : Nat} {z : Z}
/-- Write is the sponge's. -/
theorem Rk.write (h : Rk w g b st r z) (lp x : Value) (R : World → Prop) (hc : Calls Tryd.prog 56 #[.pointer (some ⟨b, 0, none⟩), lp, x] w fun e w' => e = .returned (.int .i64 0) ∧ R w') :
    Calls Tryd.prog 38 #[.pointer (some ⟨g, 0, none⟩), lp, x] w fun e w' => e = .returned (.int .i64 0) ∧ R w' := by
  have H := hid h
  have HC := hid hc
  have c0 := h.here.cell 0 _ rfl
  clear h hc
  go_enter Tryd.func38, Tryd.ntmps38
  go_wp2_with (go_at_call 57; refine (rkNone_mk H.out).mono ?_; rintro e w' ⟨rfl, rfl⟩)
  refine HC.out.mono ?_
  rintro e w1 ⟨rfl, hr⟩
  have HR := hid hr
  clear hr
  go_wp2
  go_ret
  exact ⟨rfl, HR.out⟩
theorem Rk.sum_no (h : Rk w g b st r z) (lp x : Value) (n : Int) (hn : n < 0 ∨ 65536 < n) : Calls Tryd.prog 39 #[.pointer (some ⟨g, 0, none⟩), lp, .int .i64 n, x] w fun e w' => e = .returned (.tuple #[.slice none 0 0, .int .i64 2]) ∧ w' = w := by
  have H := hid h
  clear h
  by_cases h1 : n < 0
  · go_enter Tryd.func39, Tryd.ntmps39
    go_wp2_with (go_at_call 57; refine (rkNone_mk H.out).mono ?_; rintro e w ⟨rfl, rfl⟩)
    go_ret2
    exact ⟨rfl, rfl⟩
  · have h2 : 65536 < n := by omega
    go_enter Tryd.func39, Tryd.ntmps39
    go_wp2_with (go_at_call 57; refine (rkNone_mk H.out).mono ?_; rintro e w ⟨rfl, rfl⟩)
    go_ret2
    exact ⟨rfl, rfl⟩
set_option maxRecDepth 4000 in
set_option maxHeartbeats 2000000 in
theorem Rk.sum (h : Rk w g b st r z) (lo : Option Nat) (L : List Rn) (S : Nat → Prop) (n : Nat) (xof : Bool) (hl : RG S w w lo L) (hpos : Pos L) (hT : Tiny L) (hn : n ≤ 65536) :
    Calls Tryd.prog 39 #[.pointer (some ⟨g, 0, none⟩), lpv lo, .int .i64 n, .bool xof] w fun e w' => ∃ v, e = .returned (.tuple #[v, .int .i64 0]) ∧ By.Own w' w.heap.size v n (Z.say r (ky r z n xof)) ∧ RG S w w' lo (evk L (kN r z n xof)) ∧ Kp S w w' := by
  cases xof with
  | true =>
    have H := hid h
    have c0 := h.here.cell 0 _ rfl
    have HST := hid h.str
    have HZ := hid h.sp.ok
    have HL := hid hl
    have HPOS := hid hpos
    have HT := hid hT
    clear h hl hpos hT
    go_enter Tryd.func39, Tryd.ntmps39
    go_wp2_with (first
      | (go_at_call 57; refine (rkNone_mk H.out).mono ?_; rintro e w' ⟨rfl, rfl⟩))
    refine (rclone_sp _ _ _ _ _ _ H.out.sp).mono ?_
    rintro e w1 ⟨rfl, hs, hb⟩
    have S1 := hid hs
    have B1 := hid hb
    clear hs hb c0
    obtain ⟨bb, eb⟩ : ∃ b, w'.heap.size = b := ⟨_, rfl⟩
    have EB := hid eb
    rw [eb] at S1
    rw [eb]
    clear eb

    go_wp2_with fail
    refine (rrightOk (0) w1 (by omega)).mono ?_
    rintro e w2 ⟨v2, rfl, ho, hb⟩
    have O2 := hid ho
    have B2 := hid (below_next B1.out hb)
    have S2 := hid (S1.out.below hb)
    have Z1 : Hid (bb < w1.heap.size) := by have := S1.out.here.lt; exact this
    clear ho hb S1
    have hnb : nb (ku n true) + 1 ≤ 9000000 := by have := (nb_pos (ku n true)).2; omega
    go_wp2_with fail
    refine (rwrite_sp bb r (nb (ku n true) + 1) 4 v2 z (rt (ku n true)) lo L (Sb w' S bb) w2 S2.out (.inr rfl) (HL.out.sb B2.out) HPOS.out (fun w' hk' => (own_kept O2.out hk' (fun g hg e => by
      have h1 := own_row O2.out g hg
      have h2 := Z1.out
      have h3 := B1.out.size
      rcases e with ⟨_, e⟩ | e <;> omega)).reads) hnb HT.out.mono).mono ?_
    rintro e w3 ⟨rfl, hs, hlg, hkp⟩
    have S3 := hid hs
    have L3 := hid (HL.out.sbBack hlg EB.out B2.out.size)
    have K3 : Hid (Kp S w' w3) := (Kp.of_below S B2.out).trans hkp (fun i hi e => by have := EB.out; rcases e with ⟨e, _⟩ | e; exact e; omega)
    clear hs hlg hkp O2 B2 S2
    have hge : w'.heap.size ≤ bb := Nat.le_of_eq EB.out
    have hcc : (ke r z n true).c - z.c ≤ 3000000 := by have := ke_le HST.out HZ.out n true; omega
    go_wp2_with fail
    refine (rread_open bb r n 4 _ (ky r z n true) lo _ (Nw w' S) w3 S3.out (.inr hge) L3.out.nw (evk_pos HPOS.out _) hn (HT.out.big HPOS.out _ hcc) _ rfl rfl).mono ?_
    rintro e w4 ⟨v4, rfl, hs, hbl, hlg, hkp⟩
    have R1 := hid (own_mono hbl K3.out.size)
    have R2 : Hid (RG S w' w4 lo (evk L (kN r z n true))) := by
      have hlg2 : RG (Nw w' S) w3 w4 lo (evk L (kN r z n true)) := by
        rw [← kN_eq HZ.out n true, evk_add, evk_add]; exact hlg
      exact HL.out.back hlg2 K3.out.size
    have R3 := hid (Kp.nw K3.out hkp)
    clear hs hbl hlg hkp S3 L3
    go_wp2
    go_ret2
    exact ⟨_, rfl, R1.out, R2.out, R3.out⟩
  | false =>
    have H := hid h
    have c0 := h.here.cell 0 _ rfl
    have HST := hid h.str
    have HZ := hid h.sp.ok
    have HL := hid hl
    have HPOS := hid hpos
    have HT := hid hT
    clear h hl hpos hT
    go_enter Tryd.func39, Tryd.ntmps39
    go_wp2_with (first
      | (go_at_call 57; refine (rkNone_mk H.out).mono ?_; rintro e w' ⟨rfl, rfl⟩))
    refine (rclone_sp _ _ _ _ _ _ H.out.sp).mono ?_
    rintro e w1 ⟨rfl, hs, hb⟩
    have S1 := hid hs
    have B1 := hid hb
    clear hs hb c0
    obtain ⟨bb, eb⟩ : ∃ b, w'.heap.size = b := ⟨_, rfl⟩
    have EB := hid eb
    rw [eb] at S1
    rw [eb]
    clear eb

    go_wp2_with fail
    refine (rrightOk (8 * n) w1 (by omega)).mono ?_
    rintro e w2 ⟨v2, rfl, ho, hb⟩
    have O2 := hid ho
    have B2 := hid (below_next B1.out hb)
    have S2 := hid (S1.out.below hb)
    have Z1 : Hid (bb < w1.heap.size) := by have := S1.out.here.lt; exact this
    clear ho hb S1
    have hnb : nb (ku n false) + 1 ≤ 9000000 := by have := (nb_pos (ku n false)).2; omega
    go_wp2_with fail
    refine (rwrite_sp bb r (nb (ku n false) + 1) 4 v2 z (rt (ku n false)) lo L (Sb w' S bb) w2 S2.out (.inr rfl) (HL.out.sb B2.out) HPOS.out (fun w' hk' => (own_kept O2.out hk' (fun g hg e => by
      have h1 := own_row O2.out g hg
      have h2 := Z1.out
      have h3 := B1.out.size
      rcases e with ⟨_, e⟩ | e <;> omega)).reads) hnb HT.out.mono).mono ?_
    rintro e w3 ⟨rfl, hs, hlg, hkp⟩
    have S3 := hid hs
    have L3 := hid (HL.out.sbBack hlg EB.out B2.out.size)
    have K3 : Hid (Kp S w' w3) := (Kp.of_below S B2.out).trans hkp (fun i hi e => by have := EB.out; rcases e with ⟨e, _⟩ | e; exact e; omega)
    clear hs hlg hkp O2 B2 S2
    have hge : w'.heap.size ≤ bb := Nat.le_of_eq EB.out
    have hcc : (ke r z n false).c - z.c ≤ 3000000 := by have := ke_le HST.out HZ.out n false; omega
    go_wp2_with fail
    refine (rread_open bb r n 4 _ (ky r z n false) lo _ (Nw w' S) w3 S3.out (.inr hge) L3.out.nw (evk_pos HPOS.out _) hn (HT.out.big HPOS.out _ hcc) _ rfl rfl).mono ?_
    rintro e w4 ⟨v4, rfl, hs, hbl, hlg, hkp⟩
    have R1 := hid (own_mono hbl K3.out.size)
    have R2 : Hid (RG S w' w4 lo (evk L (kN r z n false))) := by
      have hlg2 : RG (Nw w' S) w3 w4 lo (evk L (kN r z n false)) := by
        rw [← kN_eq HZ.out n false, evk_add, evk_add]; exact hlg
      exact HL.out.back hlg2 K3.out.size
    have R3 := hid (Kp.nw K3.out hkp)
    clear hs hbl hlg hkp S3 L3
    go_wp2
    go_ret2
    exact ⟨_, rfl, R1.out, R2.out, R3.out⟩
end
end Go.Proofs.YtnhhkoekghjogaaDoor.Kc
