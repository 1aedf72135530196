/- What the document's Begin, of, C128, C256, Shake128 and Shake256 answer: the same numbers as the program's. -/
import Derived.Test.YtjfjjhjajgodiaaDoorXtold
import Derived.Test.YtjfjjhjajgodiaaDoorSrf5
namespace Go.Proofs.YtjfjjhjajgodiaaDoor.Kc
open Go.ChangeShapes Go.WideShapes Go.ChangeAt Go.RowKit
open Go.Proofs.YtjfjjhjajgodiaaDoor.By Go.Proofs.YtjfjjhjajgodiaaDoor.Wd
theorem RG.nw {S : Nat → Prop} {w w2 : World} {lo : Option Nat} {L : List Rn} (h : RG S w w2 lo L) : RG (Nw w S) w2 w2 lo L := by
  cases lo with
  | none => trivial
  | some lb =>
    obtain ⟨hs, rv, hl, ho⟩ := h
    refine ⟨.inl hs, rv, hl, fun g hg _ => ?_⟩
    by_cases hlt : g < w.heap.size
    · exact .inl (ho g hg hlt)
    · exact .inr (by omega)
theorem RG.back {S : Nat → Prop} {w w2 w3 : World} {lo : Option Nat} {L L0 : List Rn} (h0 : RG S w w lo L0) (h : RG (Nw w S) w2 w3 lo L) (hz : w.heap.size ≤ w2.heap.size) : RG S w w3 lo L := by
  cases lo with
  | none => trivial
  | some lb =>
    obtain ⟨hs, rv, hl, ho⟩ := h
    refine ⟨h0.1, rv, hl, fun g hg hlt => ?_⟩
    rcases ho g hg (by omega) with e | e
    · exact e
    · omega
theorem RG.sb {S : Nat → Prop} {w w2 : World} {lo : Option Nat} {L : List Rn} {b : Nat} (h : RG S w w lo L) (hb : Below w.heap.size w w2) : RG (Sb w S b) w2 w2 lo L := by
  cases lo with
  | none => trivial
  | some lb =>
    obtain ⟨hs, rv, hl, ho⟩ := h
    have h1 := (Array.getElem?_eq_some_iff.1 hl.here).1
    refine ⟨.inl ⟨hs, h1⟩, rv, hl.below hb, fun g hg _ => ?_⟩
    obtain ⟨c, hc⟩ := own_type hl.own hg
    have h2 := (Array.getElem?_eq_some_iff.1 hc).1
    exact .inl ⟨ho g hg h2, h2⟩
theorem RG.sbBack {S : Nat → Prop} {w w2 w3 : World} {lo : Option Nat} {L L0 : List Rn} {b : Nat} (h0 : RG S w w lo L0) (h : RG (Sb w S b) w2 w3 lo L) (hb : w.heap.size = b) (hz : w.heap.size ≤ w2.heap.size) : RG S w w3 lo L := by
  cases lo with
  | none => trivial
  | some lb =>
    obtain ⟨hs, rv, hl, ho⟩ := h
    refine ⟨h0.1, rv, hl, fun g hg hlt => ?_⟩
    rcases ho g hg (by omega) with ⟨e, _⟩ | e
    · exact e
    · omega
set_option maxRecDepth 4000 in
theorem rbegin_bad (st : Int) (lp p q : Value) (w : World) (h1 : ¬ st = 128) (h2 : ¬ st = 256) :
    Calls Tryd.prog 27 #[lp, .int .i64 st, p, q] w fun e w' => e = .returned (.tuple #[.pointer none, .int .i64 2]) ∧ w' = w := by
  have b1 : (st != 128) = true := by rw [bne_iff_ne]; exact h1
  have b2 : (st != 256) = true := by rw [bne_iff_ne]; exact h2
  go_enter Tryd.func27, Tryd.ntmps27
  go_wp2
  go_ret2
  exact ⟨rfl, rfl⟩
set_option maxRecDepth 4000 in
set_option maxHeartbeats 2000000 in
theorem rbegin_ok (st : Int) (r a c : Nat) (f h : Nat → Int) (p q : Value) (lo : Option Nat) (L : List Rn) (S : Nat → Prop) (w : World) (hst : Str st r) (hl : RG S w w lo L) (hpos : Pos L) (hbig : Big L)
    (hp : ∀ w', Kp S w w' → By.RB w' p a f) (hq : ∀ w', Kp S w w' → By.RB w' q c h) (hac : a + c ≤ 2000000) :
    Calls Tryd.prog 27 #[lpv lo, .int .i64 st, p, q] w fun e w' => ∃ b, e = .returned (.tuple #[.pointer (some ⟨b, 0, none⟩), .int .i64 0]) ∧ w.heap.size ≤ b ∧ RSp w' b r (sfx a c) (bz r a f c h) false ∧ RG S w w' lo (evk L (bz r a f c h).c) ∧ Kp S w w' := by
  obtain ⟨r1, r2, r3, r4, r5⟩ := hst.lo
  have HL := hid hl
  have HPOS := hid hpos
  have HBIG := hid hbig
  have HP := hid hp
  have HQ := hid hq
  obtain ⟨_, pa, pc', rfl, -, -, -⟩ := hp w (Kp.refl _ _)
  obtain ⟨_, qa, qc', rfl, -, -, -⟩ := hq w (Kp.refl _ _)
  clear hl hpos hbig hp hq
  have HN : Hid (pN (tn a c) r ≤ 9000000) := by
    have := pN_le a c r r5 r4
    show _ ≤ _
    omega
  have HA : Hid (tn a c ≤ 140737488355000) := by
    have h1 := sn_le' a
    have h2 := sn_le' c
    show tn a c ≤ _
    unfold tn
    omega
  obtain ⟨A, hA⟩ : ∃ A, A = a + c := ⟨_, rfl⟩
  by_cases h0 : a = 0 ∧ c = 0
  · obtain ⟨rfl, rfl⟩ := h0
    rcases hst with ⟨rfl, rfl⟩ | ⟨rfl, rfl⟩
    · go_enter Tryd.func27, Tryd.ntmps27
      go_wp2_with fail
      refine (rnewOk 168 31 w (by decide) (by decide) (by decide) (by decide)).mono ?_
      rintro e w1 ⟨rfl, hs, hb⟩
      have R1 := hid (show RSp w1 w.heap.size 168 (sfx 0 0) (bz 168 0 f 0 h) false from hs)
      have R2 : Hid (RG S w w1 lo (evk L (bz 168 0 f 0 h).c)) := HL.out.below hb
      have R3 := hid (Kp.of_below S hb)
      clear hs hb
      go_wp2
      go_ret2
      exact ⟨_, rfl, Nat.le_refl _, R1.out, R2.out, R3.out⟩
    · go_enter Tryd.func27, Tryd.ntmps27
      go_wp2_with fail
      refine (rnewOk 136 31 w (by decide) (by decide) (by decide) (by decide)).mono ?_
      rintro e w1 ⟨rfl, hs, hb⟩
      have R1 := hid (show RSp w1 w.heap.size 136 (sfx 0 0) (bz 136 0 f 0 h) false from hs)
      have R2 : Hid (RG S w w1 lo (evk L (bz 136 0 f 0 h).c)) := HL.out.below hb
      have R3 := hid (Kp.of_below S hb)
      clear hs hb
      go_wp2
      go_ret2
      exact ⟨_, rfl, Nat.le_refl _, R1.out, R2.out, R3.out⟩
  · have E1 : Hid (sfx a c = 4) := if_neg h0
    have E2 : Hid (bz r a f c h = Z.ins r zz (pg (tn a c) (tg a f c h) r) (pN (tn a c) r)) := if_neg h0
    have hs0 : ((a : Int) + (c : Int) == 0) = false := by rw [beq_eq_false_iff_ne]; omega
    have H0 := hid h0
    clear h0
    rcases hst with ⟨rfl, rfl⟩ | ⟨rfl, rfl⟩
    · go_enter Tryd.func27, Tryd.ntmps27
      go_wp2_with fail
      refine (rnewOk 168 4 w (by decide) (by decide) (by decide) (by decide)).mono ?_
      rintro e w1 ⟨rfl, hs, hb⟩
      have S1 := hid (show RSp w1 w.heap.size 168 4 zz false from hs)
      have B1 := hid hb
      clear hs hb
      obtain ⟨b, eb⟩ : ∃ b, w.heap.size = b := ⟨_, rfl⟩
      have EB := hid eb
      rw [eb] at S1
      rw [eb]
      clear eb
      have Z1 : Hid (b < w1.heap.size) := by have := S1.out.here.lt; exact this
      go_wp2_with fail
      refine (rstring1 a f _ w1 (HP.out w1 (Kp.of_below S B1.out)) (by omega)).mono ?_
      rintro e w2 ⟨v2, rfl, ho, hb⟩
      have O2 := hid (own_mono ho (Nat.le_refl _))
      have B2 := hid (below_next B1.out hb)
      have S2 := hid (S1.out.below hb)
      have Z2 := hid hb.size
      clear ho hb S1
      go_wp2_with fail
      refine (rstring1 c h _ w2 (HQ.out w2 (Kp.of_below S B2.out)) (by omega)).mono ?_
      rintro e w3 ⟨v3, rfl, ho, hb⟩
      have O3 := hid ho
      have O2' := hid (own_below O2.out hb)
      have B3 := hid (below_next B2.out hb)
      have S3 := hid (S2.out.below hb)
      have Z3 := hid (Nat.le_trans Z2.out hb.size)
      clear ho hb S2 O2
      have hs1 := hid (sn_le' a)
      have hs2 := hid (sn_le' c)
      go_wp2_with (at_builtin; go_must (refine wpList_cat rfl _ _ rfl w1.heap.size (sn a) (sn c) _ _ (sg a f) (sg c h) rfl O2'.out rfl O3.out.reads (by have := hs1.out; have := hs2.out; omega) Z3.out ?_))
      intro v4 w4 ho hg
      have O4 := hid (show By.Own w4 w1.heap.size v4 (tn a c) (tg a f c h) from ho)
      have S4 := hid (S3.out.kept (Kp.of_grown hg) (fun e => by have h1 := own_row O2'.out b e; have := Z1.out; omega))
      have B4 := hid (B3.out.grown hg B3.out.size (fun q hq => by have h1 := own_row O2'.out q hq; have := B1.out.size; omega))
      have Z4 := hid (Nat.le_trans Z3.out hg.size)
      clear ho hg O3 O2' S3
      go_wp2_with fail
      refine (rpadOk (tn a c) 168 (tg a f c h) v4 w4 O4.out.reads HA.out (by decide) (by decide)).mono ?_
      rintro e w5 ⟨v5, rfl, ho, hb⟩
      have O5 := hid ho
      have S5 := hid (S4.out.below hb)
      have B5 := hid (below_next B4.out hb)
      clear ho hb S4
      go_wp2_with fail
      refine (rwrite_sp b 168 (pN (tn a c) 168) 4 v5 zz (pg (tn a c) (tg a f c h) 168) lo L (Sb w S b) w5 S5.out (.inr rfl) (HL.out.sb B5.out) HPOS.out (fun w' hk' => (own_kept O5.out hk' (fun g hg e => by
        have h1 := own_row O5.out g hg
        have h2 := Z1.out
        have h3 := B1.out.size
        have h4 := Z4.out
        rcases e with ⟨_, e⟩ | e <;> omega)).reads) HN.out HBIG.out).mono ?_
      rintro e w6 ⟨rfl, hs, hlg, hkp⟩
      have R1 : Hid (RSp w6 b 168 (sfx a c) (bz 168 a f c h) false) := by rw [E1.out, E2.out]; exact hs
      have R2 : Hid (RG S w w6 lo (evk L (bz 168 a f c h).c)) := by rw [E2.out]; exact HL.out.sbBack hlg EB.out B5.out.size
      have R3 : Hid (Kp S w w6) := (Kp.of_below S B5.out).trans hkp (fun i hi e => by have := EB.out; rcases e with ⟨e, _⟩ | e; exact e; omega)
      have R4 : Hid (w.heap.size ≤ b) := Nat.le_of_eq EB.out
      clear hs hlg hkp O4 O5 S5
      go_wp2
      go_ret2
      exact ⟨_, rfl, R4.out, R1.out, R2.out, R3.out⟩
    · go_enter Tryd.func27, Tryd.ntmps27
      go_wp2_with fail
      refine (rnewOk 136 4 w (by decide) (by decide) (by decide) (by decide)).mono ?_
      rintro e w1 ⟨rfl, hs, hb⟩
      have S1 := hid (show RSp w1 w.heap.size 136 4 zz false from hs)
      have B1 := hid hb
      clear hs hb
      obtain ⟨b, eb⟩ : ∃ b, w.heap.size = b := ⟨_, rfl⟩
      have EB := hid eb
      rw [eb] at S1
      rw [eb]
      clear eb
      have Z1 : Hid (b < w1.heap.size) := by have := S1.out.here.lt; exact this
      go_wp2_with fail
      refine (rstring1 a f _ w1 (HP.out w1 (Kp.of_below S B1.out)) (by omega)).mono ?_
      rintro e w2 ⟨v2, rfl, ho, hb⟩
      have O2 := hid (own_mono ho (Nat.le_refl _))
      have B2 := hid (below_next B1.out hb)
      have S2 := hid (S1.out.below hb)
      have Z2 := hid hb.size
      clear ho hb S1
      go_wp2_with fail
      refine (rstring1 c h _ w2 (HQ.out w2 (Kp.of_below S B2.out)) (by omega)).mono ?_
      rintro e w3 ⟨v3, rfl, ho, hb⟩
      have O3 := hid ho
      have O2' := hid (own_below O2.out hb)
      have B3 := hid (below_next B2.out hb)
      have S3 := hid (S2.out.below hb)
      have Z3 := hid (Nat.le_trans Z2.out hb.size)
      clear ho hb S2 O2
      have hs1 := hid (sn_le' a)
      have hs2 := hid (sn_le' c)
      go_wp2_with (at_builtin; go_must (refine wpList_cat rfl _ _ rfl w1.heap.size (sn a) (sn c) _ _ (sg a f) (sg c h) rfl O2'.out rfl O3.out.reads (by have := hs1.out; have := hs2.out; omega) Z3.out ?_))
      intro v4 w4 ho hg
      have O4 := hid (show By.Own w4 w1.heap.size v4 (tn a c) (tg a f c h) from ho)
      have S4 := hid (S3.out.kept (Kp.of_grown hg) (fun e => by have h1 := own_row O2'.out b e; have := Z1.out; omega))
      have B4 := hid (B3.out.grown hg B3.out.size (fun q hq => by have h1 := own_row O2'.out q hq; have := B1.out.size; omega))
      have Z4 := hid (Nat.le_trans Z3.out hg.size)
      clear ho hg O3 O2' S3
      go_wp2_with fail
      refine (rpadOk (tn a c) 136 (tg a f c h) v4 w4 O4.out.reads HA.out (by decide) (by decide)).mono ?_
      rintro e w5 ⟨v5, rfl, ho, hb⟩
      have O5 := hid ho
      have S5 := hid (S4.out.below hb)
      have B5 := hid (below_next B4.out hb)
      clear ho hb S4
      go_wp2_with fail
      refine (rwrite_sp b 136 (pN (tn a c) 136) 4 v5 zz (pg (tn a c) (tg a f c h) 136) lo L (Sb w S b) w5 S5.out (.inr rfl) (HL.out.sb B5.out) HPOS.out (fun w' hk' => (own_kept O5.out hk' (fun g hg e => by
        have h1 := own_row O5.out g hg
        have h2 := Z1.out
        have h3 := B1.out.size
        have h4 := Z4.out
        rcases e with ⟨_, e⟩ | e <;> omega)).reads) HN.out HBIG.out).mono ?_
      rintro e w6 ⟨rfl, hs, hlg, hkp⟩
      have R1 : Hid (RSp w6 b 136 (sfx a c) (bz 136 a f c h) false) := by rw [E1.out, E2.out]; exact hs
      have R2 : Hid (RG S w w6 lo (evk L (bz 136 a f c h).c)) := by rw [E2.out]; exact HL.out.sbBack hlg EB.out B5.out.size
      have R3 : Hid (Kp S w w6) := (Kp.of_below S B5.out).trans hkp (fun i hi e => by have := EB.out; rcases e with ⟨e, _⟩ | e; exact e; omega)
      have R4 : Hid (w.heap.size ≤ b) := Nat.le_of_eq EB.out
      clear hs hlg hkp O4 O5 S5
      go_wp2
      go_ret2
      exact ⟨_, rfl, R4.out, R1.out, R2.out, R3.out⟩
theorem of_bad (st n : Int) (lp p q x : Value) (w : World) (h : n < 0 ∨ 65536 < n) :
    Calls Tryd.prog 48 #[lp, .int .i64 st, p, q, x, .int .i64 n] w fun e w' => e = .returned (.tuple #[.slice none 0 0, .int .i64 2]) ∧ w' = w := by
  by_cases h1 : n < 0
  · go_enter Tryd.func48, Tryd.ntmps48
    go_wp2
    go_ret2
    exact ⟨rfl, rfl⟩
  · have h2 : 65536 < n := by omega
    go_enter Tryd.func48, Tryd.ntmps48
    go_wp2
    go_ret2
    exact ⟨rfl, rfl⟩
set_option maxRecDepth 4000 in
set_option maxHeartbeats 2000000 in
theorem of_any (st : Int) (r a c m C : Nat) (f h g : Nat → Int) (n : Int) (p q x : Value) (lo : Option Nat) (S : Nat → Prop) (w : World) (hst : Str st r) (hl : RG S w w lo (evk [] C)) (hC : C ≤ 600000)
    (hp : ∀ w', Kp S w w' → By.RB w' p a f) (hq : ∀ w', Kp S w w' → By.RB w' q c h) (hx : ∀ w', Kp S w w' → By.RB w' x m g) (hac : a + c ≤ 2000000) (hm : m ≤ 2000000) :
    Calls Tryd.prog 48 #[lpv lo, .int .i64 st, p, q, x, .int .i64 n] w fun e w' => ∃ v, e = .returned (.tuple #[v, .int .i64 (tc n)]) ∧ By.Own w' w.heap.size v (tk n) (tF r a f c h m g n) ∧ RG S w w' lo (evk [] (C + tC r a f c h m g n)) ∧ Kp S w w' := by
  by_cases hn : n < 0 ∨ 65536 < n
  · refine (of_bad st n _ _ _ _ w hn).mono ?_
    rintro e w' ⟨rfl, rfl⟩
    have e1 : tC r a f c h m g n = 0 := if_pos hn
    have e2 : tk n = 0 := if_pos hn
    have e3 : tc n = 2 := if_pos hn
    rw [e1, e2, e3]
    exact ⟨_, rfl, own_nil _ _ _ (tF_b hst a c f h m g n), hl, Kp.refl _ _⟩
  · obtain ⟨k, rfl⟩ : ∃ k : Nat, n = k := ⟨n.toNat, by omega⟩
    have hk1 : k ≤ 65536 := by omega
    have E1 : Hid (tC r a f c h m g k = (Z.out r (tY r a f c h m g) k).c) := if_neg hn
    have E2 : Hid (tk k = k) := if_neg hn
    have E3 : Hid (tc k = 0) := if_neg hn
    have E4 : Hid (tF r a f c h m g k = Z.say r (tY r a f c h m g)) := by
      show tF r a f c h m g k = _
      funext i; exact if_neg hn
    have n1 : ¬ (k : Int) < 0 := by omega
    have n2 : ¬ (65536 : Int) < k := by omega
    have HST := hid hst
    have HL := hid hl
    have HP := hid hp
    have HQ := hid hq
    have HX := hid hx
    have HAC := hid hac
    have HM := hid hm
    clear hst hl hp hq hx hn hac hm
    go_enter Tryd.func48, Tryd.ntmps48
    go_wp2_with fail
    refine (rbegin_ok st r a c f h p q lo (evk [] C) S w HST.out HL.out (evn_pos C) (evn_big C (by omega)) HP.out HQ.out HAC.out).mono ?_
    rintro e w1 ⟨b, rfl, hb, hs, hlg, hkp⟩
    have B1 := hid hb
    have S1 := hid hs
    have L1 : Hid (RG S w w1 lo (evk [] (C + (bz r a f c h).c))) := by rw [evk_add]; exact hlg
    have K1 := hid hkp
    have Z1 : Hid (C + (bz r a f c h).c ≤ 1000000) := by have := bz_le HST.out a c f h HAC.out; show _ ≤ _; omega
    clear hb hs hlg hkp
    go_wp2_with fail
    refine (rwrite_sp b r m (sfx a c) x (bz r a f c h) g lo _ (Nw w S) w1 S1.out (.inr B1.out) L1.out.nw (evn_pos _) (fun w' hk' => HX.out w' (Kp.nw K1.out hk')) (by have := HM.out; omega) (evn_big _ Z1.out)).mono ?_
    rintro e w2 ⟨rfl, hs, hlg, hkp⟩
    have G1 : Hid ((bz r a f c h).c ≤ (Z.ins r (bz r a f c h) g m).c) := ins_ge ((bz_ok HST.out a c f h).o rfl) g m
    have S2 := hid hs
    have K2 := hid (Kp.nw K1.out hkp)
    have L2 : Hid (RG S w w2 lo (evk [] (C + (Z.ins r (bz r a f c h) g m).c))) := by
      rw [← evk_add, show C + (bz r a f c h).c + ((Z.ins r (bz r a f c h) g m).c - (bz r a f c h).c) = C + (Z.ins r (bz r a f c h) g m).c from by have := G1.out; omega] at hlg
      exact HL.out.back hlg K1.out.size
    have Z2 : Hid (C + (Z.ins r (bz r a f c h) g m).c ≤ 1000000) := by have := z2_le HST.out a c f h m g HAC.out HM.out; show _ ≤ _; omega
    clear hs hlg hkp S1 L1
    go_wp2_with fail
    refine (rread_open b r k (sfx a c) _ (tY r a f c h m g) lo _ (Nw w S) w2 S2.out (.inr B1.out) L2.out.nw (evn_pos _) hk1 (evn_big _ Z2.out) _ rfl rfl).mono ?_
    rintro e w3 ⟨gv, rfl, hs, hbl, hlg, hkp⟩
    have R1 : Hid (By.Own w3 w.heap.size gv (tk k) (tF r a f c h m g k)) := by
      rw [E2.out, E4.out]
      exact own_mono hbl K2.out.size
    have R2 : Hid (RG S w w3 lo (evk [] (C + tC r a f c h m g k))) := by
      rw [E1.out]
      have h3 : (tY r a f c h m g).c = (Z.ins r (bz r a f c h) g m).c + 1 := rfl
      have h4 := out_ge r (tY r a f c h m g) k
      rw [← evk_add, ← evk_add, show C + (Z.ins r (bz r a f c h) g m).c + (1 + ((Z.out r (tY r a f c h m g) k).c - (tY r a f c h m g).c)) = C + (Z.out r (tY r a f c h m g) k).c from by omega] at hlg
      exact HL.out.back hlg K2.out.size
    have R3 := hid (Kp.nw K2.out hkp)
    clear hs hbl hlg hkp S2 L2
    go_wp2
    go_ret2
    rw [E3.out]
    exact ⟨_, rfl, R1.out, R2.out, R3.out⟩
theorem rc128_any (a c m C : Nat) (f h g : Nat → Int) (n : Int) (p q x : Value) (lo : Option Nat) (S : Nat → Prop) (w : World) (hl : RG S w w lo (evk [] C)) (hC : C ≤ 600000)
    (hp : ∀ w', Kp S w w' → By.RB w' p a f) (hq : ∀ w', Kp S w w' → By.RB w' q c h) (hx : ∀ w', Kp S w w' → By.RB w' x m g) (hac : a + c ≤ 2000000) (hm : m ≤ 2000000) :
    Calls Tryd.prog 15 #[lpv lo, p, q, x, .int .i64 n] w fun e w' => ∃ v, e = .returned (.tuple #[v, .int .i64 (tc n)]) ∧ By.Own w' w.heap.size v (tk n) (tF 168 a f c h m g n) ∧ RG S w w' lo (evk [] (C + tC 168 a f c h m g n)) ∧ Kp S w w' := by
  have H := hid (of_any 128 168 a c m C f h g n p q x lo S w (by unfold Str; decide) hl hC hp hq hx hac hm)
  clear hl hp hq hx
  go_enter Tryd.func15, Tryd.ntmps15
  go_wp2_with fail
  refine H.out.mono ?_
  rintro e w' ⟨v, rfl, ho, hlg, hkp⟩
  have O := hid ho
  have L := hid hlg
  have K := hid hkp
  clear ho hlg hkp H
  go_wp2
  go_ret2
  exact ⟨_, rfl, O.out, L.out, K.out⟩
theorem rc256_any (a c m C : Nat) (f h g : Nat → Int) (n : Int) (p q x : Value) (lo : Option Nat) (S : Nat → Prop) (w : World) (hl : RG S w w lo (evk [] C)) (hC : C ≤ 600000)
    (hp : ∀ w', Kp S w w' → By.RB w' p a f) (hq : ∀ w', Kp S w w' → By.RB w' q c h) (hx : ∀ w', Kp S w w' → By.RB w' x m g) (hac : a + c ≤ 2000000) (hm : m ≤ 2000000) :
    Calls Tryd.prog 16 #[lpv lo, p, q, x, .int .i64 n] w fun e w' => ∃ v, e = .returned (.tuple #[v, .int .i64 (tc n)]) ∧ By.Own w' w.heap.size v (tk n) (tF 136 a f c h m g n) ∧ RG S w w' lo (evk [] (C + tC 136 a f c h m g n)) ∧ Kp S w w' := by
  have H := hid (of_any 256 136 a c m C f h g n p q x lo S w (by unfold Str; decide) hl hC hp hq hx hac hm)
  clear hl hp hq hx
  go_enter Tryd.func16, Tryd.ntmps16
  go_wp2_with fail
  refine H.out.mono ?_
  rintro e w' ⟨v, rfl, ho, hlg, hkp⟩
  have O := hid ho
  have L := hid hlg
  have K := hid hkp
  clear ho hlg hkp H
  go_wp2
  go_ret2
  exact ⟨_, rfl, O.out, L.out, K.out⟩
theorem rs128_any (m C : Nat) (g : Nat → Int) (n : Int) (x : Value) (lo : Option Nat) (S : Nat → Prop) (w : World) (hl : RG S w w lo (evk [] C)) (hC : C ≤ 600000)
    (hx : ∀ w', Kp S w w' → By.RB w' x m g) (hm : m ≤ 2000000) :
    Calls Tryd.prog 17 #[lpv lo, x, .int .i64 n] w fun e w' => ∃ v, e = .returned (.tuple #[v, .int .i64 (tc n)]) ∧ By.Own w' w.heap.size v (tk n) (tF 168 0 no0 0 no0 m g n) ∧ RG S w w' lo (evk [] (C + tC 168 0 no0 0 no0 m g n)) ∧ Kp S w w' := by
  have H := hid (of_any 128 168 0 0 m C no0 no0 g n (.slice none 0 0) (.slice none 0 0) x lo S w (by unfold Str; decide) hl hC (fun _ _ => rb_none _) (fun _ _ => rb_none _) hx (by omega) hm)
  clear hl hx
  go_enter Tryd.func17, Tryd.ntmps17
  go_wp2_with fail
  refine H.out.mono ?_
  rintro e w' ⟨v, rfl, ho, hlg, hkp⟩
  have O := hid ho
  have L := hid hlg
  have K := hid hkp
  clear ho hlg hkp H
  go_wp2
  go_ret2
  exact ⟨_, rfl, O.out, L.out, K.out⟩
theorem rs256_any (m C : Nat) (g : Nat → Int) (n : Int) (x : Value) (lo : Option Nat) (S : Nat → Prop) (w : World) (hl : RG S w w lo (evk [] C)) (hC : C ≤ 600000)
    (hx : ∀ w', Kp S w w' → By.RB w' x m g) (hm : m ≤ 2000000) :
    Calls Tryd.prog 18 #[lpv lo, x, .int .i64 n] w fun e w' => ∃ v, e = .returned (.tuple #[v, .int .i64 (tc n)]) ∧ By.Own w' w.heap.size v (tk n) (tF 136 0 no0 0 no0 m g n) ∧ RG S w w' lo (evk [] (C + tC 136 0 no0 0 no0 m g n)) ∧ Kp S w w' := by
  have H := hid (of_any 256 136 0 0 m C no0 no0 g n (.slice none 0 0) (.slice none 0 0) x lo S w (by unfold Str; decide) hl hC (fun _ _ => rb_none _) (fun _ _ => rb_none _) hx (by omega) hm)
  clear hl hx
  go_enter Tryd.func18, Tryd.ntmps18
  go_wp2_with fail
  refine H.out.mono ?_
  rintro e w' ⟨v, rfl, ho, hlg, hkp⟩
  have O := hid ho
  have L := hid hlg
  have K := hid hkp
  clear ho hlg hkp H
  go_wp2
  go_ret2
  exact ⟨_, rfl, O.out, L.out, K.out⟩
end Go.Proofs.YtjfjjhjajgodiaaDoor.Kc
