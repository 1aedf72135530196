/- The document's macs: what their calls answer. The document's macs: what New and Tag answer. The document's macs: Clone, Wipe, Form, Strength. -/
import Derived.Test.YtnhhkoekghjogaaGreatDoorKh
import Derived.Test.YtnhhkoekghjogaaGreatDoorXrbeg
namespace Go.Proofs.YtnhhkoekghjogaaGreatDoor.Kc
open Go.ChangeShapes Go.WideShapes Go.ChangeAt Go.RowKit
open Go.Proofs.YtnhhkoekghjogaaGreatDoor.By Go.Proofs.YtnhhkoekghjogaaGreatDoor.Wd
set_option maxHeartbeats 1000000 in
theorem rrightOk (n : Nat) (w : World) (hn : n < 9223372036854775808) :
    Calls Tryz.prog 60 #[.int .i64 n] w fun e w' => ∃ v, e = .returned (.tuple #[v, .int .i64 0]) ∧ By.Own w' w.heap.size v (nb n + 1) (rt n) ∧ Below w.heap.size w w' := by
  have HN := hid hn
  clear hn
  go_enter Tryz.func60, Tryz.ntmps60
  go_wp2_with fail
  refine (number1 n w HN.out).mono ?_
  rintro e w1 ⟨v, rfl, hown, hbel⟩
  obtain ⟨k, hk⟩ : ∃ k, nb n = k := ⟨_, rfl⟩
  have hk9 : k ≤ 9 := by rw [← hk]; exact (nb_pos n).2
  have LF : Hid (cat k (dnn n) (fun _ => (k : Int)) = rt n) := by show cat k (dnn n) (fun _ => (k : Int)) = rt n; rw [← hk]; rfl
  rw [hk] at hown
  have HK := hid hk
  obtain ⟨a, c, rfl⟩ := own_slice hown
  have HO := hid hown
  have HB := hid hbel
  clear hown hbel hk
  have kw : (k : Int) % 256 = (k : Int) := by omega
  have OV := hid (own_below HO.out (below_alloc w1 (.cells #[.int .u8 (k : Int)] 5)))
  have HS : Hid (w.heap.size ≤ w1.heap.size) := HB.out.size
  have OL := hid (own_one w1 (k : Int) (by omega))
  go_wp2_with (at_builtin; go_must (refine wpList_cat rfl _ _ rfl w.heap.size k 1 _ _ (dnn n) (fun _ => (k : Int)) rfl OV.out rfl OL.out.reads (by omega) (by simp; have := HS.out; omega) ?_))
  intro v' w2 hown hgrow
  have R1 : Hid (By.Own w2 w.heap.size v' (k + 1) (rt n)) := by
    rw [LF.out] at hown
    exact hown
  have R2 : Hid (Below w.heap.size w w2) := (HB.out.alloc HS.out _).grown hgrow (by simp; have := HS.out; omega) (own_row OV.out)
  clear hown hgrow HO HB OV HS LF OL
  go_wp2
  go_ret2
  rw [HK.out]
  exact ⟨_, rfl, R1.out, R2.out⟩
/-- A mac of the document's in block g, its sponge in block b. -/
structure Rk (w : World) (g b : Nat) (st : Int) (r : Nat) (z : Z) : Prop where
  here : Blk w g [.pointer (some ⟨b, 0, none⟩), .int .i64 st] 96
  sp : RSp w b r 4 z false
  str : Str st r
theorem Rk.below {w w' : World} {g b : Nat} {st : Int} {r : Nat} {z : Z} (h : Rk w g b st r z) (hb : Below w.heap.size w w') : Rk w' g b st r z := ⟨h.here.below hb, h.sp.below hb, h.str⟩
theorem Rk.kept {S : Nat → Prop} {w w' : World} {g b : Nat} {st : Int} {r : Nat} {z : Z} (h : Rk w g b st r z) (hk : Kp S w w') (h1 : ¬ S g) (h2 : ¬ S b) : Rk w' g b st r z := ⟨h.here.kept hk h1, h.sp.kept hk h2, h.str⟩
/-- No mac. -/
def NoK (w : World) (v : Value) : Prop := v = .pointer none ∨ ∃ g, v = .pointer (some ⟨g, 0, none⟩) ∧ Blk w g [.pointer none, .int .i64 0] 96
theorem NoK.below {w w' : World} {v : Value} (h : NoK w v) (hb : Below w.heap.size w w') : NoK w' v := by
  rcases h with h | ⟨g, e, h⟩
  · exact .inl h
  · exact .inr ⟨g, e, h.below hb⟩
theorem rkNone_mk {w : World} {g b : Nat} {st : Int} {r : Nat} {z : Z} (h : Rk w g b st r z) : Calls Tryz.prog 55 #[.pointer (some ⟨g, 0, none⟩)] w fun e w' => e = .returned (.bool false) ∧ w' = w := by
  have c0 := h.here.cell 0 _ rfl
  clear h
  go_enter Tryz.func55, Tryz.ntmps55
  go_wp2
  go_ret
  exact ⟨rfl, rfl⟩
theorem rkNone_no {w : World} {v : Value} (h : NoK w v) : Calls Tryz.prog 55 #[v] w fun e w' => e = .returned (.bool true) ∧ w' = w := by
  rcases h with rfl | ⟨g, rfl, h⟩
  · go_enter Tryz.func55, Tryz.ntmps55
    go_wp2
    go_ret
    exact ⟨rfl, rfl⟩
  · have c0 := h.cell 0 _ rfl
    clear h
    go_enter Tryz.func55, Tryz.ntmps55
    go_wp2
    go_ret
    exact ⟨rfl, rfl⟩
theorem rrate14 (st : Int) (r : Nat) (w : World) (h : Str st r) : Calls Tryz.prog 52 #[.int .i64 st] w fun e w' => e = .returned (.int .i64 r) ∧ w' = w := by
  rcases h with ⟨rfl, rfl⟩ | ⟨rfl, rfl⟩
  · go_enter Tryz.func52, Tryz.ntmps52
    go_wp2
    go_ret
    exact ⟨rfl, rfl⟩
  · go_enter Tryz.func52, Tryz.ntmps52
    go_wp2
    go_ret
    exact ⟨rfl, rfl⟩
section
variable {w : World} {v : Value}
theorem NoK.write (h : NoK w v) (lp x : Value) : Calls Tryz.prog 28 #[v, lp, x] w fun e w' => e = .returned (.int .i64 1) ∧ w' = w := by
  have H := hid h
  clear h
  go_enter Tryz.func28, Tryz.ntmps28
  go_wp2_with (go_at_call 55; refine (rkNone_no H.out).mono ?_; rintro e w ⟨rfl, rfl⟩)
  go_ret
  exact ⟨rfl, rfl⟩
theorem NoK.sum (h : NoK w v) (lp n x : Value) : Calls Tryz.prog 30 #[v, lp, n, x] w fun e w' => e = .returned (.tuple #[.slice none 0 0, .int .i64 1]) ∧ w' = w := by
  have H := hid h
  clear h
  go_enter Tryz.func30, Tryz.ntmps30
  go_wp2_with (go_at_call 55; refine (rkNone_no H.out).mono ?_; rintro e w ⟨rfl, rfl⟩)
  go_ret2
  exact ⟨rfl, rfl⟩
end
section
variable {w : World} {g b : Nat} {st : Int} {r : Nat} {z : Z}
/-- Write is the sponge's. -/
theorem Rk.write (h : Rk w g b st r z) (lp x : Value) (R : World → Prop) (hc : Calls Tryz.prog 53 #[.pointer (some ⟨b, 0, none⟩), lp, x] w fun e w' => e = .returned (.int .i64 0) ∧ R w') :
    Calls Tryz.prog 28 #[.pointer (some ⟨g, 0, none⟩), lp, x] w fun e w' => e = .returned (.int .i64 0) ∧ R w' := by
  have H := hid h
  have HC := hid hc
  have c0 := h.here.cell 0 _ rfl
  clear h hc
  go_enter Tryz.func28, Tryz.ntmps28
  go_wp2_with (go_at_call 55; refine (rkNone_mk H.out).mono ?_; rintro e w' ⟨rfl, rfl⟩)
  refine HC.out.mono ?_
  rintro e w1 ⟨rfl, hr⟩
  have HR := hid hr
  clear hr
  go_wp2
  go_ret
  exact ⟨rfl, HR.out⟩
theorem Rk.sum_no (h : Rk w g b st r z) (lp x : Value) (n : Int) (hn : n < 0 ∨ 65536 < n) : Calls Tryz.prog 30 #[.pointer (some ⟨g, 0, none⟩), lp, .int .i64 n, x] w fun e w' => e = .returned (.tuple #[.slice none 0 0, .int .i64 2]) ∧ w' = w := by
  have H := hid h
  clear h
  by_cases h1 : n < 0
  · go_enter Tryz.func30, Tryz.ntmps30
    go_wp2_with (go_at_call 55; refine (rkNone_mk H.out).mono ?_; rintro e w ⟨rfl, rfl⟩)
    go_ret2
    exact ⟨rfl, rfl⟩
  · have h2 : 65536 < n := by omega
    go_enter Tryz.func30, Tryz.ntmps30
    go_wp2_with (go_at_call 55; refine (rkNone_mk H.out).mono ?_; rintro e w ⟨rfl, rfl⟩)
    go_ret2
    exact ⟨rfl, rfl⟩
set_option maxRecDepth 4000 in
set_option maxHeartbeats 2000000 in
theorem Rk.sum (h : Rk w g b st r z) (lo : Option Nat) (L : List Rn) (S : Nat → Prop) (n : Nat) (xof : Bool) (hl : RG S w w lo L) (hpos : Pos L) (hT : Tiny L) (hn : n ≤ 65536) :
    Calls Tryz.prog 30 #[.pointer (some ⟨g, 0, none⟩), lpv lo, .int .i64 n, .bool xof] w fun e w' => ∃ v, e = .returned (.tuple #[v, .int .i64 0]) ∧ By.Own w' w.heap.size v n (Z.say r (ky r z n xof)) ∧ RG S w w' lo (evk L (kN r z n xof)) ∧ Kp S w w' := by
  cases xof with
  | true =>
    have H := hid h
    have c0 := h.here.cell 0 _ rfl
    have HST := hid h.str
    have HZ := hid h.sp.ok
    have HL := hid hl
    have HPOS := hid hpos
    have HT := hid hT
    clear h hl hpos hT
    go_enter Tryz.func30, Tryz.ntmps30
    go_wp2_with (first
      | (go_at_call 55; refine (rkNone_mk H.out).mono ?_; rintro e w' ⟨rfl, rfl⟩))
    refine (rclone_sp _ _ _ _ _ _ H.out.sp).mono ?_
    rintro e w1 ⟨rfl, hs, hb⟩
    have S1 := hid hs
    have B1 := hid hb
    clear hs hb c0
    obtain ⟨bb, eb⟩ : ∃ b, w'.heap.size = b := ⟨_, rfl⟩
    have EB := hid eb
    rw [eb] at S1
    rw [eb]
    clear eb

    go_wp2_with fail
    refine (rrightOk (0) w1 (by omega)).mono ?_
    rintro e w2 ⟨v2, rfl, ho, hb⟩
    have O2 := hid ho
    have B2 := hid (below_next B1.out hb)
    have S2 := hid (S1.out.below hb)
    have Z1 : Hid (bb < w1.heap.size) := by have := S1.out.here.lt; exact this
    clear ho hb S1
    have hnb : nb (ku n true) + 1 ≤ 9000000 := by have := (nb_pos (ku n true)).2; omega
    go_wp2_with fail
    refine (rwrite_sp bb r (nb (ku n true) + 1) 4 v2 z (rt (ku n true)) lo L (Sb w' S bb) w2 S2.out (.inr rfl) (HL.out.sb B2.out) HPOS.out (fun w' hk' => (own_kept O2.out hk' (fun g hg e => by
      have h1 := own_row O2.out g hg
      have h2 := Z1.out
      have h3 := B1.out.size
      rcases e with ⟨_, e⟩ | e <;> omega)).reads) hnb HT.out.mono).mono ?_
    rintro e w3 ⟨rfl, hs, hlg, hkp⟩
    have S3 := hid hs
    have L3 := hid (HL.out.sbBack hlg EB.out B2.out.size)
    have K3 : Hid (Kp S w' w3) := (Kp.of_below S B2.out).trans hkp (fun i hi e => by have := EB.out; rcases e with ⟨e, _⟩ | e; exact e; omega)
    clear hs hlg hkp O2 B2 S2
    have hge : w'.heap.size ≤ bb := Nat.le_of_eq EB.out
    have hcc : (ke r z n true).c - z.c ≤ 3000000 := by have := ke_le HST.out HZ.out n true; omega
    go_wp2_with fail
    refine (rread_open bb r n 4 _ (ky r z n true) lo _ (Nw w' S) w3 S3.out (.inr hge) L3.out.nw (evk_pos HPOS.out _) hn (HT.out.big HPOS.out _ hcc) _ rfl rfl).mono ?_
    rintro e w4 ⟨v4, rfl, hs, hbl, hlg, hkp⟩
    have R1 := hid (own_mono hbl K3.out.size)
    have R2 : Hid (RG S w' w4 lo (evk L (kN r z n true))) := by
      have hlg2 : RG (Nw w' S) w3 w4 lo (evk L (kN r z n true)) := by
        rw [← kN_eq HZ.out n true, evk_add, evk_add]; exact hlg
      exact HL.out.back hlg2 K3.out.size
    have R3 := hid (Kp.nw K3.out hkp)
    clear hs hbl hlg hkp S3 L3
    go_wp2
    go_ret2
    exact ⟨_, rfl, R1.out, R2.out, R3.out⟩
  | false =>
    have H := hid h
    have c0 := h.here.cell 0 _ rfl
    have HST := hid h.str
    have HZ := hid h.sp.ok
    have HL := hid hl
    have HPOS := hid hpos
    have HT := hid hT
    clear h hl hpos hT
    go_enter Tryz.func30, Tryz.ntmps30
    go_wp2_with (first
      | (go_at_call 55; refine (rkNone_mk H.out).mono ?_; rintro e w' ⟨rfl, rfl⟩))
    refine (rclone_sp _ _ _ _ _ _ H.out.sp).mono ?_
    rintro e w1 ⟨rfl, hs, hb⟩
    have S1 := hid hs
    have B1 := hid hb
    clear hs hb c0
    obtain ⟨bb, eb⟩ : ∃ b, w'.heap.size = b := ⟨_, rfl⟩
    have EB := hid eb
    rw [eb] at S1
    rw [eb]
    clear eb

    go_wp2_with fail
    refine (rrightOk (8 * n) w1 (by omega)).mono ?_
    rintro e w2 ⟨v2, rfl, ho, hb⟩
    have O2 := hid ho
    have B2 := hid (below_next B1.out hb)
    have S2 := hid (S1.out.below hb)
    have Z1 : Hid (bb < w1.heap.size) := by have := S1.out.here.lt; exact this
    clear ho hb S1
    have hnb : nb (ku n false) + 1 ≤ 9000000 := by have := (nb_pos (ku n false)).2; omega
    go_wp2_with fail
    refine (rwrite_sp bb r (nb (ku n false) + 1) 4 v2 z (rt (ku n false)) lo L (Sb w' S bb) w2 S2.out (.inr rfl) (HL.out.sb B2.out) HPOS.out (fun w' hk' => (own_kept O2.out hk' (fun g hg e => by
      have h1 := own_row O2.out g hg
      have h2 := Z1.out
      have h3 := B1.out.size
      rcases e with ⟨_, e⟩ | e <;> omega)).reads) hnb HT.out.mono).mono ?_
    rintro e w3 ⟨rfl, hs, hlg, hkp⟩
    have S3 := hid hs
    have L3 := hid (HL.out.sbBack hlg EB.out B2.out.size)
    have K3 : Hid (Kp S w' w3) := (Kp.of_below S B2.out).trans hkp (fun i hi e => by have := EB.out; rcases e with ⟨e, _⟩ | e; exact e; omega)
    clear hs hlg hkp O2 B2 S2
    have hge : w'.heap.size ≤ bb := Nat.le_of_eq EB.out
    have hcc : (ke r z n false).c - z.c ≤ 3000000 := by have := ke_le HST.out HZ.out n false; omega
    go_wp2_with fail
    refine (rread_open bb r n 4 _ (ky r z n false) lo _ (Nw w' S) w3 S3.out (.inr hge) L3.out.nw (evk_pos HPOS.out _) hn (HT.out.big HPOS.out _ hcc) _ rfl rfl).mono ?_
    rintro e w4 ⟨v4, rfl, hs, hbl, hlg, hkp⟩
    have R1 := hid (own_mono hbl K3.out.size)
    have R2 : Hid (RG S w' w4 lo (evk L (kN r z n false))) := by
      have hlg2 : RG (Nw w' S) w3 w4 lo (evk L (kN r z n false)) := by
        rw [← kN_eq HZ.out n false, evk_add, evk_add]; exact hlg
      exact HL.out.back hlg2 K3.out.size
    have R3 := hid (Kp.nw K3.out hkp)
    clear hs hbl hlg hkp S3 L3
    go_wp2
    go_ret2
    exact ⟨_, rfl, R1.out, R2.out, R3.out⟩
end
end Go.Proofs.YtnhhkoekghjogaaGreatDoor.Kc
namespace Go.Proofs.YtnhhkoekghjogaaGreatDoor.Kc
open Go.ChangeShapes Go.WideShapes Go.ChangeAt Go.RowKit
open Go.Proofs.YtnhhkoekghjogaaGreatDoor.By Go.Proofs.YtnhhkoekghjogaaGreatDoor.Wd
theorem RG.so {S : Nat → Prop} {w w2 : World} {lo : Option Nat} {L : List Rn} (h : RG S w w lo L) (hb : Below w.heap.size w w2) : RG (So w S) w2 w2 lo L := by
  cases lo with
  | none => trivial
  | some lb =>
    obtain ⟨hs, rv, hl, ho⟩ := h
    have h1 := (Array.getElem?_eq_some_iff.1 hl.here).1
    refine ⟨⟨hs, h1⟩, rv, hl.below hb, fun g hg _ => ?_⟩
    obtain ⟨c, hc⟩ := own_type hl.own hg
    have h2 := (Array.getElem?_eq_some_iff.1 hc).1
    exact ⟨ho g hg h2, h2⟩
theorem RG.soBack {S : Nat → Prop} {w w2 w3 : World} {lo : Option Nat} {L L0 : List Rn} (h0 : RG S w w lo L0) (h : RG (So w S) w2 w3 lo L) (hz : w.heap.size ≤ w2.heap.size) : RG S w w3 lo L := by
  cases lo with
  | none => trivial
  | some lb =>
    obtain ⟨hs, rv, hl, ho⟩ := h
    exact ⟨h0.1, rv, hl, fun g hg hlt => (ho g hg (by omega)).1⟩
theorem RG.but {S : Nat → Prop} {w w1 : World} {lo : Option Nat} {L : List Rn} {g : Nat} {cs : List Value} {t : TypeId} (h : RG S w w1 lo L) (hb : Blk w1 g cs t) (h1 : t ≠ 61) (h2 : t ≠ 81) : RG (Nb w S g) w1 w1 lo L := by
  cases lo with
  | none => trivial
  | some lb =>
    obtain ⟨hs, rv, hl, ho⟩ := h
    have hn := rled_apart hl hb h1 h2
    refine ⟨⟨.inl hs, fun e => hn (.inl e.symm)⟩, rv, hl, fun x hx hlt => ⟨?_, fun e => hn (.inr (by rw [← e]; exact hx))⟩⟩
    by_cases hlt : x < w.heap.size
    · exact .inl (ho x hx hlt)
    · exact .inr (by omega)
theorem RG.butBack {S : Nat → Prop} {w w2 w3 : World} {lo : Option Nat} {L L0 : List Rn} {g : Nat} (h0 : RG S w w lo L0) (h : RG (Nb w S g) w2 w3 lo L) (hz : w.heap.size ≤ w2.heap.size) : RG S w w3 lo L := by
  cases lo with
  | none => trivial
  | some lb =>
    obtain ⟨hs, rv, hl, ho⟩ := h
    refine ⟨h0.1, rv, hl, fun x hx hlt => ?_⟩
    rcases (ho x hx (by omega)).1 with e | e
    · exact e
    · omega
theorem rknew_bad (st : Int) (lp p q : Value) (w : World) (h1 : ¬ st = 128) (h2 : ¬ st = 256) :
    Calls Tryz.prog 23 #[lp, .int .i64 st, p, q] w fun e w' => e = .returned (.tuple #[.pointer none, .int .i64 2]) ∧ w' = w := by
  have b1 : (st != 128) = true := by rw [bne_iff_ne]; exact h1
  have b2 : (st != 256) = true := by rw [bne_iff_ne]; exact h2
  go_enter Tryz.func23, Tryz.ntmps23
  go_wp2
  go_ret2
  exact ⟨rfl, rfl⟩
set_option maxRecDepth 4000 in
set_option maxHeartbeats 4000000 in
theorem rknew_ok (st : Int) (r a c : Nat) (f h : Nat → Int) (p q : Value) (lo : Option Nat) (L : List Rn) (S : Nat → Prop) (w : World) (hst : Str st r) (hl : RG S w w lo L) (hpos : Pos L) (hT : Tiny L)
    (hp : ∀ w', Kp S w w' → By.RB w' p a f) (hq : ∀ w', Kp S w w' → By.RB w' q c h) (ha : a ≤ 1000000) (hc : c ≤ 1000000) :
    Calls Tryz.prog 23 #[lpv lo, .int .i64 st, p, q] w fun e w' => ∃ g b, e = .returned (.tuple #[.pointer (some ⟨g, 0, none⟩), .int .i64 0]) ∧ w.heap.size ≤ b ∧ w.heap.size ≤ g ∧ Rk w' g b st r (kz r a f c h) ∧ RG S w w' lo (evk L (kz r a f c h).c) ∧ Kp S w w' := by
  obtain ⟨r1, r2, r3, r4, r5⟩ := hst.lo
  have HST := hid hst
  have HL := hid hl
  have HPOS := hid hpos
  have HT := hid hT
  have HP := hid hp
  have HQ := hid hq
  obtain ⟨_, pa, pc', rfl, -, -, -⟩ := hp w (Kp.refl _ _)
  clear hst hl hpos hT hp hq
  have hcv := Lib.run_convert_bytes_const (P := Tryz.prog) w 22 5 #[Value.int IntKind.u8 75, Value.int IntKind.u8 77, Value.int IntKind.u8 65, Value.int IntKind.u8 67] 4 4 Tryz.underlying22 Tryz.underlying5
  obtain ⟨b1, b2⟩ | b1 : ((st != 128) = true ∧ (st != 256) = false) ∨ (st != 128) = false := by
    rcases HST.out with ⟨rfl, _⟩ | ⟨rfl, _⟩
    · right; decide
    · left; exact ⟨by decide, by decide⟩
  all_goals
    go_enter Tryz.func23, Tryz.ntmps23
    go_wp2_with fail
    clear hcv
    obtain ⟨w0, hw0⟩ : ∃ x, w.alloc (.cells #[Value.int IntKind.u8 75, Value.int IntKind.u8 77, Value.int IntKind.u8 65, Value.int IntKind.u8 67] 5 (4, 5)) = x := ⟨_, rfl⟩
    have B0 : Hid (Below w.heap.size w w0) := by rw [← hw0]; exact below_alloc _ _
    have R0 : Hid (By.RB w0 (.slice (some ⟨w.heap.size, 0, none⟩) 4 4) 4 kmc) := by rw [← hw0]; exact rb_marked w 4 kmc (4, 5) kmc_b (by decide)
    rw [hw0]
    clear hw0
    have K0 := hid (Kp.of_below S B0.out)
    refine (rbegin_ok st r 4 c kmc h _ q lo L (So w S) w0 HST.out (HL.out.so B0.out) HPOS.out HT.out.mono (fun w' hk' => ?_) (fun w' hk' => HQ.out w' (Kp.so K0.out hk')) (by omega)).mono ?_
    · exact rb_kept R0.out hk' (fun e => by have := e.2; omega)
    rintro e w1 ⟨b, rfl, hb, hs, hlg, hkp⟩
    have B1 : Hid (w.heap.size ≤ b) := by have := B0.out.size; show _ ≤ _; omega
    have S1 : Hid (RSp w1 b r 4 (bz r 4 kmc c h) false) := by rw [sfx4] at hs; exact hs
    have L1 := hid (HL.out.soBack hlg B0.out.size)
    have K1 := hid (Kp.so K0.out hkp)
    have HB1 : Hid (b < w1.heap.size) := hs.here.lt
    clear hb hs hlg hkp R0 B0 K0
    go_wp2_with fail
    refine (rstring1 a f _ w1 (HP.out w1 K1.out) (by omega)).mono ?_
    rintro e w2 ⟨v2, rfl, ho, hb⟩
    have O2 := hid ho
    have S2 := hid (S1.out.below hb)
    have B2 := hid hb
    clear ho hb S1
    go_wp2_with fail
    refine (rrate14 st r w2 HST.out).mono ?_
    rintro e w2' ⟨rfl, rfl⟩
    have hsn : sn a ≤ 140737488355000 := by have := sn_le' a; omega
    go_wp2_with fail
    refine (rpadOk (sn a) r (sg a f) v2 w2' O2.out.reads hsn r5 r4).mono ?_
    rintro e w3 ⟨v3, rfl, ho, hb⟩
    have O3 := hid (own_mono ho B2.out.size)
    have S3 := hid (S2.out.below hb)
    have B3 := hid (below_next B2.out hb)
    have L3 := hid (L1.out.below (below_next B2.out hb))
    have K3 := hid (K1.out.trans (Kp.of_below S (below_next B2.out hb)) (fun _ _ e => e))
    clear ho hb S2 O2 B2
    have hpN : pN (sn a) r ≤ 9000000 := by have := sn_le' a; have := pN_up (sn a) r r5 r4; omega
    go_wp2_with fail
    refine (rwrite_sp b r (pN (sn a) r) 4 v3 (bz r 4 kmc c h) (pg (sn a) (sg a f) r) lo _ (Sb w1 (Nw w S) b) w3 S3.out (.inr rfl) ((L1.out.nw).sb B3.out) (evk_pos HPOS.out _) (fun w' hk' => (own_kept O3.out hk' (fun g hg e => by
      have h1 := own_row O3.out g hg
      have h2 := HB1.out
      rcases e with ⟨_, e⟩ | e <;> omega)).reads) hpN (HT.out.big HPOS.out _ (by have := bz_le HST.out 4 c kmc h (by omega); omega))).mono ?_
    rintro e w4 ⟨rfl, hs, hlg, hkp⟩
    have S4 : Hid (RSp w4 b r 4 (kz r a f c h) false) := hs
    have K4 : Hid (Kp S w w4) := K3.out.trans hkp (fun i hi e => by
      have := B1.out
      rcases e with ⟨e | e, _⟩ | e
      · exact e
      · omega
      · omega)
    have L4 : Hid (RG S w w4 lo (evk L (kz r a f c h).c)) := by
      have e1 : (bz r 4 kmc c h).c + ((Z.ins r (bz r 4 kmc c h) (pg (sn a) (sg a f) r) (pN (sn a) r)).c - (bz r 4 kmc c h).c) = (kz r a f c h).c := by
        have h1 := kz_ge HST.out a c f h
        unfold kz at *
        omega
      rw [← evk_add, e1] at hlg
      cases lo with
      | none => trivial
      | some lb =>
        obtain ⟨_, rv, hl, ho⟩ := hlg
        refine ⟨HL.out.1, rv, hl, fun x hx hlt => ?_⟩
        have := B1.out
        have := K3.out.size
        rcases ho x hx (by omega) with ⟨e | e, _⟩ | e
        · exact e
        · omega
        · omega
    clear hs hlg hkp S3 L1 L3 K1 O3 B3
    go_wp2
    go_ret2
    have bn := Blk.newAt w4 #[.pointer (some ⟨b, 0, none⟩), .int .i64 st] [.pointer (some ⟨b, 0, none⟩), .int .i64 st] 96 w4.heap.size rfl rfl
    exact ⟨_, b, rfl, B1.out, K4.out.size, ⟨bn, S4.out.below (below_alloc _ _), HST.out⟩, L4.out.below (below_alloc _ _), K4.out.trans (Kp.of_below S (below_alloc _ _)) (fun _ _ e => e)⟩
end Go.Proofs.YtnhhkoekghjogaaGreatDoor.Kc
namespace Go.Proofs.YtnhhkoekghjogaaGreatDoor.Kc
open Go.ChangeShapes Go.WideShapes Go.ChangeAt Go.RowKit
open Go.Proofs.YtnhhkoekghjogaaGreatDoor.By Go.Proofs.YtnhhkoekghjogaaGreatDoor.Wd
section
variable {w : World} {v : Value}
theorem NoK.clone (h : NoK w v) : Calls Tryz.prog 33 #[v] w fun e w' => e = .returned (.tuple #[.pointer none, .int .i64 1]) ∧ w' = w := by
  have H := hid h
  clear h
  go_enter Tryz.func33, Tryz.ntmps33
  go_wp2_with (go_at_call 55; refine (rkNone_no H.out).mono ?_; rintro e w ⟨rfl, rfl⟩)
  go_ret2
  exact ⟨rfl, rfl⟩
theorem NoK.wipe (h : NoK w v) (lp : Value) : Calls Tryz.prog 35 #[v, lp] w fun e w' => e = .returned (.int .i64 1) ∧ w' = w := by
  have H := hid h
  clear h
  go_enter Tryz.func35, Tryz.ntmps35
  go_wp2_with (go_at_call 55; refine (rkNone_no H.out).mono ?_; rintro e w ⟨rfl, rfl⟩)
  go_ret
  exact ⟨rfl, rfl⟩
theorem NoK.form (h : NoK w v) : Calls Tryz.prog 37 #[v] w fun e w' => e = .returned (.slice none 0 0) ∧ w' = w := by
  have H := hid h
  clear h
  go_enter Tryz.func37, Tryz.ntmps37
  go_wp2_with (go_at_call 55; refine (rkNone_no H.out).mono ?_; rintro e w ⟨rfl, rfl⟩)
  go_ret
  exact ⟨rfl, rfl⟩
theorem NoK.strength (h : NoK w v) : Calls Tryz.prog 39 #[v] w fun e w' => e = .returned (.int .i64 0) ∧ w' = w := by
  have H := hid h
  clear h
  go_enter Tryz.func39, Tryz.ntmps39
  go_wp2_with (go_at_call 55; refine (rkNone_no H.out).mono ?_; rintro e w ⟨rfl, rfl⟩)
  go_ret
  exact ⟨rfl, rfl⟩
end
section
variable {w : World} {g b : Nat} {st : Int} {r : Nat} {z : Z}
theorem Rk.strength (h : Rk w g b st r z) : Calls Tryz.prog 39 #[.pointer (some ⟨g, 0, none⟩)] w fun e w' => e = .returned (.int .i64 st) ∧ w' = w := by
  have H := hid h
  have c1 := h.here.cell 1 _ rfl
  clear h
  go_enter Tryz.func39, Tryz.ntmps39
  go_wp2_with (go_at_call 55; refine (rkNone_mk H.out).mono ?_; rintro e w ⟨rfl, rfl⟩)
  go_ret
  exact ⟨rfl, rfl⟩
theorem Rk.form (h : Rk w g b st r z) : Calls Tryz.prog 37 #[.pointer (some ⟨g, 0, none⟩)] w fun e w' => ∃ v, e = .returned v ∧ By.Own w' w.heap.size v 203 (fmf z false) ∧ Below w.heap.size w w' := by
  have H := hid h
  have c0 := h.here.cell 0 _ rfl
  clear h
  go_enter Tryz.func37, Tryz.ntmps37
  go_wp2_with (go_at_call 55; refine (rkNone_mk H.out).mono ?_; rintro e w' ⟨rfl, rfl⟩)
  refine (rform_sp _ _ _ _ _ _ H.out.sp).mono ?_
  rintro e w1 ⟨v, rfl, h1, h2⟩
  have H1 := hid h1
  have H2 := hid h2
  clear h1 h2
  go_wp2
  go_ret
  exact ⟨_, rfl, H1.out, H2.out⟩
theorem Rk.clone (h : Rk w g b st r z) : Calls Tryz.prog 33 #[.pointer (some ⟨g, 0, none⟩)] w fun e w' => ∃ g', e = .returned (.tuple #[.pointer (some ⟨g', 0, none⟩), .int .i64 0]) ∧ w.heap.size ≤ g' ∧ Rk w' g' w.heap.size st r z ∧ Below w.heap.size w w' := by
  have H := hid h
  have c0 := h.here.cell 0 _ rfl
  have c1 := h.here.cell 1 _ rfl
  have HT := hid h.str
  clear h
  go_enter Tryz.func33, Tryz.ntmps33
  go_wp2_with (go_at_call 55; refine (rkNone_mk H.out).mono ?_; rintro e w' ⟨rfl, rfl⟩)
  refine (rclone_sp _ _ _ _ _ _ H.out.sp).mono ?_
  rintro e w1 ⟨rfl, hs, hb⟩
  have HS1 := hid hs
  have HB1 := hid hb
  have c1' := (H.out.here.below hb).cell 1 _ rfl
  clear hs hb
  go_wp2
  go_ret2
  have bn := Blk.newAt w1 #[.pointer (some ⟨w'.heap.size, 0, none⟩), .int .i64 st] [.pointer (some ⟨w'.heap.size, 0, none⟩), .int .i64 st] 96 w1.heap.size rfl rfl
  exact ⟨_, rfl, HB1.out.size, ⟨bn, HS1.out.below (below_alloc _ _), HT.out⟩, below_next HB1.out (below_alloc _ _)⟩
/-- Wipe, without what is recorded. -/
theorem Rk.wipe (h : Rk w g b st r z) (lo : Option Nat) (L : List Rn) (S : Nat → Prop) (hSg : S g) (hSb : S b) (hl : RG S w w lo L) (hroom : Big L) :
    Calls Tryz.prog 35 #[.pointer (some ⟨g, 0, none⟩), lpv lo] w fun e w' => e = .returned (.int .i64 0) ∧ Blk w' g [.pointer none, .int .i64 0] 96 ∧ NoRSp w' b ∧ RG S w w' lo (putL L ⟨8, 203, 1⟩) ∧ Kp S w w' := by
  have H := hid h
  have HG := hid hSg
  have HB := hid hSb
  have HL := hid hl
  have HR := hid hroom
  have c0 := h.here.cell 0 _ rfl
  have c1 := h.here.cell 1 _ rfl
  clear h hSg hSb hl hroom
  go_enter Tryz.func35, Tryz.ntmps35
  go_wp2_with (go_at_call 55; refine (rkNone_mk H.out).mono ?_; rintro e w' ⟨rfl, rfl⟩)
  have hgb : g ≠ b := fun e => by have h1 := H.out.here; have h2 := H.out.sp.here; rw [← e] at h2; exact Blk.ne h1 h2 (by decide) rfl
  have HL0 := hid (show RG (fun j => S j ∧ j ≠ g) w' w' lo L from by
    cases lo with
    | none => trivial
    | some lb =>
      obtain ⟨hs, rv, hl, ho⟩ := HL.out
      have hn := rled_apart hl H.out.here (by decide) (by decide)
      exact ⟨⟨hs, fun e => hn (.inl e.symm)⟩, rv, hl, fun x hx hlt => ⟨ho x hx hlt, fun e => hn (.inr (by rw [← e]; exact hx))⟩⟩)
  refine (rwipe_sp _ _ _ _ _ lo L (fun j => S j ∧ j ≠ g) w' H.out.sp ⟨HB.out, fun e => hgb e.symm⟩ HL0.out HR.out).mono ?_
  rintro e w1 ⟨rfl, hs, hlg, hkp⟩
  have HS1 := hid hs
  have HG1 := hid (H.out.here.kept hkp (fun e => e.2 rfl))
  have HL1 := hid (show RG S w' w1 lo (putL L ⟨8, 203, 1⟩) from by
    cases lo with
    | none => trivial
    | some lb =>
      obtain ⟨hs, rv, hl, ho⟩ := hlg
      exact ⟨hs.1, rv, hl, fun x hx hlt => (ho x hx hlt).1⟩)
  have HK1 := hid (hkp.mono (fun _ _ e => e.1) : Kp S w' w1)
  clear hs hlg hkp HL0 c0 c1
  have c0 := HG1.out.cell 0 _ rfl
  have c1 := HG1.out.cell 1 _ rfl
  have f0 := HG1.out.frozen 0
  have f1 := HG1.out.frozen 1
  have B2 := hid ((HG1.out.set 0 (.pointer none)).set 1 (.int .i64 0))
  have KK : Kp (fun j => j = g) w1 ((w1.setCell ⟨g, 0, none⟩ (.pointer none)).setCell ⟨g, 1, none⟩ (.int .i64 0)) := (Kp.setCell g 0 _).trans (Kp.setCell g 1 _) (fun _ _ e => e)
  have K2 := hid (HK1.out.trans KK (fun j _ e => by have e' : j = g := e; rw [e']; exact HG.out))
  have L2 := hid (HL1.out.kept KK (fun x e => by have e' : x = g := e; rw [e']; exact ⟨_, _, HG1.out, by decide, by decide⟩))
  have N2 : Hid (NoRSp ((w1.setCell ⟨g, 0, none⟩ (.pointer none)).setCell ⟨g, 1, none⟩ (.int .i64 0)) b) := by
    obtain ⟨cs, hc, h2⟩ := HS1.out
    exact ⟨cs, hc.kept KK (fun e => hgb e.symm), h2⟩
  clear KK
  go_wp2
  go_ret
  exact ⟨rfl, B2.out, N2.out, L2.out, K2.out⟩
end
end Go.Proofs.YtnhhkoekghjogaaGreatDoor.Kc
