/- What the document's Begin, of, C128, C256, Shake128 and Shake256 answer: the same numbers as the program's. -/
import Derived.Test.YtnhhkoekghjogaaGreatDoorXtold
import Derived.Test.YtnhhkoekghjogaaGreatDoorSrf5
namespace Go.Proofs.YtnhhkoekghjogaaGreatDoor.Kc
open Go.ChangeShapes Go.WideShapes Go.ChangeAt Go.RowKit
open Go.Proofs.YtnhhkoekghjogaaGreatDoor.By Go.Proofs.YtnhhkoekghjogaaGreatDoor.Wd
theorem RG.nw {S : Nat → Prop} {w w2 : World} {lo : Option Nat} {L : List Rn} (h : RG S w w2 lo L) : RG (Nw w S) w2 w2 lo L := by
  cases lo with
  | none => trivial
  | some lb =>
    obtain ⟨hs, rv, hl, ho⟩ := h
    refine ⟨.inl hs, rv, hl, fun g hg _ => ?_⟩
    by_cases hlt : g < w.heap.size
    · exact .inl (ho g hg hlt)
    · exact .inr (by omega)
theorem RG.back {S : Nat → Prop} {w w2 w3 : World} {lo : Option Nat} {L L0 : List Rn} (h0 : RG S w w lo L0) (h : RG (Nw w S) w2 w3 lo L) (hz : w.heap.size ≤ w2.heap.size) : RG S w w3 lo L := by
  cases lo with
  | none => trivial
  | some lb =>
    obtain ⟨hs, rv, hl, ho⟩ := h
    refine ⟨h0.1, rv, hl, fun g hg hlt => ?_⟩
    rcases ho g hg (by omega) with e | e
    · exact e
    · omega
theorem RG.sb {S : Nat → Prop} {w w2 : World} {lo : Option Nat} {L : List Rn} {b : Nat} (h : RG S w w lo L) (hb : Below w.heap.size w w2) : RG (Sb w S b) w2 w2 lo L := by
  cases lo with
  | none => trivial
  | some lb =>
    obtain ⟨hs, rv, hl, ho⟩ := h
    have h1 := (Array.getElem?_eq_some_iff.1 hl.here).1
    refine ⟨.inl ⟨hs, h1⟩, rv, hl.below hb, fun g hg _ => ?_⟩
    obtain ⟨c, hc⟩ := own_type hl.own hg
    have h2 := (Array.getElem?_eq_some_iff.1 hc).1
    exact .inl ⟨ho g hg h2, h2⟩
theorem RG.sbBack {S : Nat → Prop} {w w2 w3 : World} {lo : Option Nat} {L L0 : List Rn} {b : Nat} (h0 : RG S w w lo L0) (h : RG (Sb w S b) w2 w3 lo L) (hb : w.heap.size = b) (hz : w.heap.size ≤ w2.heap.size) : RG S w w3 lo L := by
  cases lo with
  | none => trivial
  | some lb =>
    obtain ⟨hs, rv, hl, ho⟩ := h
    refine ⟨h0.1, rv, hl, fun g hg hlt => ?_⟩
    rcases ho g hg (by omega) with ⟨e, _⟩ | e
    · exact e
    · omega
set_option maxRecDepth 4000 in
theorem rbegin_bad (st : Int) (lp p q : Value) (w : World) (h1 : ¬ st = 128) (h2 : ¬ st = 256) :
    Calls Tryz.prog 49 #[lp, .int .i64 st, p, q] w fun e w' => e = .returned (.tuple #[.pointer none, .int .i64 2]) ∧ w' = w := by
  have b1 : (st != 128) = true := by rw [bne_iff_ne]; exact h1
  have b2 : (st != 256) = true := by rw [bne_iff_ne]; exact h2
  go_enter Tryz.func49, Tryz.ntmps49
  go_wp2
  go_ret2
  exact ⟨rfl, rfl⟩
set_option maxRecDepth 4000 in
set_option maxHeartbeats 2000000 in
theorem rbegin_ok (st : Int) (r a c : Nat) (f h : Nat → Int) (p q : Value) (lo : Option Nat) (L : List Rn) (S : Nat → Prop) (w : World) (hst : Str st r) (hl : RG S w w lo L) (hpos : Pos L) (hbig : Big L)
    (hp : ∀ w', Kp S w w' → By.RB w' p a f) (hq : ∀ w', Kp S w w' → By.RB w' q c h) (hac : a + c ≤ 2000000) :
    Calls Tryz.prog 49 #[lpv lo, .int .i64 st, p, q] w fun e w' => ∃ b, e = .returned (.tuple #[.pointer (some ⟨b, 0, none⟩), .int .i64 0]) ∧ w.heap.size ≤ b ∧ RSp w' b r (sfx a c) (bz r a f c h) false ∧ RG S w w' lo (evk L (bz r a f c h).c) ∧ Kp S w w' := by
  obtain ⟨r1, r2, r3, r4, r5⟩ := hst.lo
  have HL := hid hl
  have HPOS := hid hpos
  have HBIG := hid hbig
  have HP := hid hp
  have HQ := hid hq
  obtain ⟨_, pa, pc', rfl, -, -, -⟩ := hp w (Kp.refl _ _)
  obtain ⟨_, qa, qc', rfl, -, -, -⟩ := hq w (Kp.refl _ _)
  clear hl hpos hbig hp hq
  have HN : Hid (pN (tn a c) r ≤ 9000000) := by
    have := pN_le a c r r5 r4
    show _ ≤ _
    omega
  have HA : Hid (tn a c ≤ 140737488355000) := by
    have h1 := sn_le' a
    have h2 := sn_le' c
    show tn a c ≤ _
    unfold tn
    omega
  obtain ⟨A, hA⟩ : ∃ A, A = a + c := ⟨_, rfl⟩
  by_cases h0 : a = 0 ∧ c = 0
  · obtain ⟨rfl, rfl⟩ := h0
    rcases hst with ⟨rfl, rfl⟩ | ⟨rfl, rfl⟩
    · go_enter Tryz.func49, Tryz.ntmps49
      go_wp2_with fail
      refine (rnewOk 168 31 w (by decide) (by decide) (by decide) (by decide)).mono ?_
      rintro e w1 ⟨rfl, hs, hb⟩
      have R1 := hid (show RSp w1 w.heap.size 168 (sfx 0 0) (bz 168 0 f 0 h) false from hs)
      have R2 : Hid (RG S w w1 lo (evk L (bz 168 0 f 0 h).c)) := HL.out.below hb
      have R3 := hid (Kp.of_below S hb)
      clear hs hb
      go_wp2
      go_ret2
      exact ⟨_, rfl, Nat.le_refl _, R1.out, R2.out, R3.out⟩
    · go_enter Tryz.func49, Tryz.ntmps49
      go_wp2_with fail
      refine (rnewOk 136 31 w (by decide) (by decide) (by decide) (by decide)).mono ?_
      rintro e w1 ⟨rfl, hs, hb⟩
      have R1 := hid (show RSp w1 w.heap.size 136 (sfx 0 0) (bz 136 0 f 0 h) false from hs)
      have R2 : Hid (RG S w w1 lo (evk L (bz 136 0 f 0 h).c)) := HL.out.below hb
      have R3 := hid (Kp.of_below S hb)
      clear hs hb
      go_wp2
      go_ret2
      exact ⟨_, rfl, Nat.le_refl _, R1.out, R2.out, R3.out⟩
  · have E1 : Hid (sfx a c = 4) := if_neg h0
    have E2 : Hid (bz r a f c h = Z.ins r zz (pg (tn a c) (tg a f c h) r) (pN (tn a c) r)) := if_neg h0
    have hs0 : ((a : Int) + (c : Int) == 0) = false := by rw [beq_eq_false_iff_ne]; omega
    have H0 := hid h0
    clear h0
    rcases hst with ⟨rfl, rfl⟩ | ⟨rfl, rfl⟩
    · go_enter Tryz.func49, Tryz.ntmps49
      go_wp2_with fail
      refine (rnewOk 168 4 w (by decide) (by decide) (by decide) (by decide)).mono ?_
      rintro e w1 ⟨rfl, hs, hb⟩
      have S1 := hid (show RSp w1 w.heap.size 168 4 zz false from hs)
      have B1 := hid hb
      clear hs hb
      obtain ⟨b, eb⟩ : ∃ b, w.heap.size = b := ⟨_, rfl⟩
      have EB := hid eb
      rw [eb] at S1
      rw [eb]
      clear eb
      have Z1 : Hid (b < w1.heap.size) := by have := S1.out.here.lt; exact this
      go_wp2_with fail
      refine (rstring1 a f _ w1 (HP.out w1 (Kp.of_below S B1.out)) (by omega)).mono ?_
      rintro e w2 ⟨v2, rfl, ho, hb⟩
      have O2 := hid (own_mono ho (Nat.le_refl _))
      have B2 := hid (below_next B1.out hb)
      have S2 := hid (S1.out.below hb)
      have Z2 := hid hb.size
      clear ho hb S1
      go_wp2_with fail
      refine (rstring1 c h _ w2 (HQ.out w2 (Kp.of_below S B2.out)) (by omega)).mono ?_
      rintro e w3 ⟨v3, rfl, ho, hb⟩
      have O3 := hid ho
      have O2' := hid (own_below O2.out hb)
      have B3 := hid (below_next B2.out hb)
      have S3 := hid (S2.out.below hb)
      have Z3 := hid (Nat.le_trans Z2.out hb.size)
      clear ho hb S2 O2
      have hs1 := hid (sn_le' a)
      have hs2 := hid (sn_le' c)
      go_wp2_with (at_builtin; go_must (refine wpList_cat rfl _ _ rfl w1.heap.size (sn a) (sn c) _ _ (sg a f) (sg c h) rfl O2'.out rfl O3.out.reads (by have := hs1.out; have := hs2.out; omega) Z3.out ?_))
      intro v4 w4 ho hg
      have O4 := hid (show By.Own w4 w1.heap.size v4 (tn a c) (tg a f c h) from ho)
      have S4 := hid (S3.out.kept (Kp.of_grown hg) (fun e => by have h1 := own_row O2'.out b e; have := Z1.out; omega))
      have B4 := hid (B3.out.grown hg B3.out.size (fun q hq => by have h1 := own_row O2'.out q hq; have := B1.out.size; omega))
      have Z4 := hid (Nat.le_trans Z3.out hg.size)
      clear ho hg O3 O2' S3
      go_wp2_with fail
      refine (rpadOk (tn a c) 168 (tg a f c h) v4 w4 O4.out.reads HA.out (by decide) (by decide)).mono ?_
      rintro e w5 ⟨v5, rfl, ho, hb⟩
      have O5 := hid ho
      have S5 := hid (S4.out.below hb)
      have B5 := hid (below_next B4.out hb)
      clear ho hb S4
      go_wp2_with fail
      refine (rwrite_sp b 168 (pN (tn a c) 168) 4 v5 zz (pg (tn a c) (tg a f c h) 168) lo L (Sb w S b) w5 S5.out (.inr rfl) (HL.out.sb B5.out) HPOS.out (fun w' hk' => (own_kept O5.out hk' (fun g hg e => by
        have h1 := own_row O5.out g hg
        have h2 := Z1.out
        have h3 := B1.out.size
        have h4 := Z4.out
        rcases e with ⟨_, e⟩ | e <;> omega)).reads) HN.out HBIG.out).mono ?_
      rintro e w6 ⟨rfl, hs, hlg, hkp⟩
      have R1 : Hid (RSp w6 b 168 (sfx a c) (bz 168 a f c h) false) := by rw [E1.out, E2.out]; exact hs
      have R2 : Hid (RG S w w6 lo (evk L (bz 168 a f c h).c)) := by rw [E2.out]; exact HL.out.sbBack hlg EB.out B5.out.size
      have R3 : Hid (Kp S w w6) := (Kp.of_below S B5.out).trans hkp (fun i hi e => by have := EB.out; rcases e with ⟨e, _⟩ | e; exact e; omega)
      have R4 : Hid (w.heap.size ≤ b) := Nat.le_of_eq EB.out
      clear hs hlg hkp O4 O5 S5
      go_wp2
      go_ret2
      exact ⟨_, rfl, R4.out, R1.out, R2.out, R3.out⟩
    · go_enter Tryz.func49, Tryz.ntmps49
      go_wp2_with fail
      refine (rnewOk 136 4 w (by decide) (by decide) (by decide) (by decide)).mono ?_
      rintro e w1 ⟨rfl, hs, hb⟩
      have S1 := hid (show RSp w1 w.heap.size 136 4 zz false from hs)
      have B1 := hid hb
      clear hs hb
      obtain ⟨b, eb⟩ : ∃ b, w.heap.size = b := ⟨_, rfl⟩
      have EB := hid eb
      rw [eb] at S1
      rw [eb]
      clear eb
      have Z1 : Hid (b < w1.heap.size) := by have := S1.out.here.lt; exact this
      go_wp2_with fail
      refine (rstring1 a f _ w1 (HP.out w1 (Kp.of_below S B1.out)) (by omega)).mono ?_
      rintro e w2 ⟨v2, rfl, ho, hb⟩
      have O2 := hid (own_mono ho (Nat.le_refl _))
      have B2 := hid (below_next B1.out hb)
      have S2 := hid (S1.out.below hb)
      have Z2 := hid hb.size
      clear ho hb S1
      go_wp2_with fail
      refine (rstring1 c h _ w2 (HQ.out w2 (Kp.of_below S B2.out)) (by omega)).mono ?_
      rintro e w3 ⟨v3, rfl, ho, hb⟩
      have O3 := hid ho
      have O2' := hid (own_below O2.out hb)
      have B3 := hid (below_next B2.out hb)
      have S3 := hid (S2.out.below hb)
      have Z3 := hid (Nat.le_trans Z2.out hb.size)
      clear ho hb S2 O2
      have hs1 := hid (sn_le' a)
      have hs2 := hid (sn_le' c)
      go_wp2_with (at_builtin; go_must (refine wpList_cat rfl _ _ rfl w1.heap.size (sn a) (sn c) _ _ (sg a f) (sg c h) rfl O2'.out rfl O3.out.reads (by have := hs1.out; have := hs2.out; omega) Z3.out ?_))
      intro v4 w4 ho hg
      have O4 := hid (show By.Own w4 w1.heap.size v4 (tn a c) (tg a f c h) from ho)
      have S4 := hid (S3.out.kept (Kp.of_grown hg) (fun e => by have h1 := own_row O2'.out b e; have := Z1.out; omega))
      have B4 := hid (B3.out.grown hg B3.out.size (fun q hq => by have h1 := own_row O2'.out q hq; have := B1.out.size; omega))
      have Z4 := hid (Nat.le_trans Z3.out hg.size)
      clear ho hg O3 O2' S3
      go_wp2_with fail
      refine (rpadOk (tn a c) 136 (tg a f c h) v4 w4 O4.out.reads HA.out (by decide) (by decide)).mono ?_
      rintro e w5 ⟨v5, rfl, ho, hb⟩
      have O5 := hid ho
      have S5 := hid (S4.out.below hb)
      have B5 := hid (below_next B4.out hb)
      clear ho hb S4
      go_wp2_with fail
      refine (rwrite_sp b 136 (pN (tn a c) 136) 4 v5 zz (pg (tn a c) (tg a f c h) 136) lo L (Sb w S b) w5 S5.out (.inr rfl) (HL.out.sb B5.out) HPOS.out (fun w' hk' => (own_kept O5.out hk' (fun g hg e => by
        have h1 := own_row O5.out g hg
        have h2 := Z1.out
        have h3 := B1.out.size
        have h4 := Z4.out
        rcases e with ⟨_, e⟩ | e <;> omega)).reads) HN.out HBIG.out).mono ?_
      rintro e w6 ⟨rfl, hs, hlg, hkp⟩
      have R1 : Hid (RSp w6 b 136 (sfx a c) (bz 136 a f c h) false) := by rw [E1.out, E2.out]; exact hs
      have R2 : Hid (RG S w w6 lo (evk L (bz 136 a f c h).c)) := by rw [E2.out]; exact HL.out.sbBack hlg EB.out B5.out.size
      have R3 : Hid (Kp S w w6) := (Kp.of_below S B5.out).trans hkp (fun i hi e => by have := EB.out; rcases e with ⟨e, _⟩ | e; exact e; omega)
      have R4 : Hid (w.heap.size ≤ b) := Nat.le_of_eq EB.out
      clear hs hlg hkp O4 O5 S5
      go_wp2
      go_ret2
      exact ⟨_, rfl, R4.out, R1.out, R2.out, R3.out⟩
end Go.Proofs.YtnhhkoekghjogaaGreatDoor.Kc
