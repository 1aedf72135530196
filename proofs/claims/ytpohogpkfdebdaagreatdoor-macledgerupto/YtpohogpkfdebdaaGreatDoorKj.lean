/- What Begin and told of the program answer. What told, C128, C256, Shake128 and Shake256 of the program answer. Left, Right, Pad at any number: what they answer, refused or not, as one. -/
import Derived.Test.YtpohogpkfdebdaaGreatDoorKa
import Derived.Test.YtpohogpkfdebdaaGreatDoorKi
namespace Go.Proofs.YtpohogpkfdebdaaGreatDoor.Kc
open Go.ChangeShapes Go.WideShapes Go.ChangeAt Go.RowKit
open Go.Proofs.YtpohogpkfdebdaaGreatDoor.By Go.Proofs.YtpohogpkfdebdaaGreatDoor.Wd
set_option maxHeartbeats 1000000 in
theorem prefix1 (a c W : Nat) (f h : Nat → Int) (p q : Value) (w : World) (hp : By.RB w p a f) (hq : By.RB w q c h) (ha : a + c ≤ 140737488350000) (h1 : 1 ≤ W) (h2 : W ≤ 256) :
    Calls Tryz.prog 210 #[p, q, .int .i64 W] w fun e w' => ∃ v, e = .returned v ∧ By.Own w' w.heap.size v (pN (tn a c) W) (pg (tn a c) (tg a f c h) W) ∧ Below w.heap.size w w' := by
  have HP := hid hp
  have HQ := hid hq
  clear hp hq
  go_enter Tryz.func210, Tryz.ntmps210
  go_wp2_with fail
  refine (string1 a f p w HP.out (by omega)).mono ?_
  rintro e w1 ⟨v1, rfl, ho, hb⟩
  have O1 := hid ho
  have B1 := hid hb
  clear ho hb
  go_wp2_with fail
  refine (string1 c h q w1 (HQ.out.below B1.out) (by omega)).mono ?_
  rintro e w2 ⟨v2, rfl, ho, hb⟩
  have O2 := hid ho
  have O1' := hid (own_below O1.out hb)
  have B2 := hid (below_next B1.out hb)
  have Z1 := hid B1.out.size
  clear ho hb
  have hs1 := hid (sn_le' a)
  have hs2 := hid (sn_le' c)
  go_wp2_with (at_builtin; go_must (refine wpList_cat rfl _ _ rfl w.heap.size (sn a) (sn c) _ _ (sg a f) (sg c h) rfl O1'.out rfl O2.out.reads (by have := hs1.out; have := hs2.out; omega) B2.out.size ?_))
  intro v3 w3 ho hg
  have O3 := hid (show By.Own w3 w.heap.size v3 (tn a c) (tg a f c h) from ho)
  have B3 := hid (below_grow B2.out B2.out.size O1'.out hg)
  clear ho hg O1 O2 O1' B1 B2
  go_wp2_with fail
  refine (padded1 (tn a c) W (tg a f c h) v3 w3 O3.out.reads (by have := hs1.out; have := hs2.out; unfold tn; omega) h1 h2).mono ?_
  rintro e w4 ⟨v4, rfl, ho, hb⟩
  have O4 := hid (own_mono ho B3.out.size)
  have B4 := hid (below_next B3.out hb)
  clear ho hb
  go_wp2
  go_ret
  exact ⟨_, rfl, O4.out, B4.out⟩
/-- The strengths and their rates. -/
def Str (st : Int) (r : Nat) : Prop := (st = 128 ∧ r = 168) ∨ (st = 256 ∧ r = 136)
theorem rateOf_ok (st : Int) (r : Nat) (w : World) (h : Str st r) : Calls Tryz.prog 208 #[.int .i64 st] w fun e w' => e = .returned (.int .i64 r) ∧ w' = w := by
  rcases h with ⟨rfl, rfl⟩ | ⟨rfl, rfl⟩
  · go_enter Tryz.func208, Tryz.ntmps208
    go_wp2
    go_ret
    exact ⟨rfl, rfl⟩
  · go_enter Tryz.func208, Tryz.ntmps208
    go_wp2
    go_ret
    exact ⟨rfl, rfl⟩
theorem Str.lo {st : Int} {r : Nat} (h : Str st r) : 8 ≤ r ∧ r ≤ 192 ∧ r % 8 = 0 ∧ r ≤ 256 ∧ 1 ≤ r := by rcases h with ⟨_, rfl⟩ | ⟨_, rfl⟩ <;> decide
/-- The suffix and the sponge that Begin makes. -/
def sfx (a c : Nat) : Int := if a = 0 ∧ c = 0 then 31 else 4
def bz (r a : Nat) (f : Nat → Int) (c : Nat) (h : Nat → Int) : Z := if a = 0 ∧ c = 0 then zz else Z.ins r zz (pg (tn a c) (tg a f c h) r) (pN (tn a c) r)
/-- Blocks that may be turned: those of S, and all that is new. -/
def Nw (w : World) (S : Nat → Prop) (g : Nat) : Prop := S g ∨ w.heap.size ≤ g
theorem Kp.nw {S : Nat → Prop} {w w2 w3 : World} (h : Kp S w w2) (k : Kp (Nw w S) w2 w3) : Kp S w w3 := h.trans k (fun i hi e => by rcases e with e | e; exact e; omega)
theorem LG.nw {S : Nat → Prop} {w w2 : World} {lo : Option Nat} {L : List Rn} (h : LG S w w2 lo L) : LG (Nw w S) w2 w2 lo L := by
  cases lo with
  | none => trivial
  | some lb =>
    obtain ⟨hs, rv, hl, ho⟩ := h
    refine ⟨.inl hs, rv, hl, fun g hg _ => ?_⟩
    by_cases hlt : g < w.heap.size
    · exact .inl (ho g hg hlt)
    · exact .inr (by omega)
theorem LG.back {S : Nat → Prop} {w w2 w3 : World} {lo : Option Nat} {L L0 : List Rn} (h0 : LG S w w lo L0) (h : LG (Nw w S) w2 w3 lo L) (hz : w.heap.size ≤ w2.heap.size) : LG S w w3 lo L := by
  cases lo with
  | none => trivial
  | some lb =>
    obtain ⟨hs, rv, hl, ho⟩ := h
    refine ⟨h0.1, rv, hl, fun g hg hlt => ?_⟩
    rcases ho g hg (by omega) with e | e
    · exact e
    · omega
/-- Blocks that may be turned: the old ones of S, and b. -/
def Sb (w : World) (S : Nat → Prop) (b g : Nat) : Prop := (S g ∧ g < w.heap.size) ∨ g = b
theorem sb_no {w : World} {S : Nat → Prop} {b g : Nat} (h : ¬ S g) (hb : w.heap.size = b) (hg : g < w.heap.size) : ¬ Sb w S b g := by
  rintro (⟨e, _⟩ | e)
  · exact h e
  · omega
theorem LG.sb {S : Nat → Prop} {w w2 : World} {lo : Option Nat} {L : List Rn} {b : Nat} (h : LG S w w lo L) (hb : Below w.heap.size w w2) : LG (Sb w S b) w2 w2 lo L := by
  cases lo with
  | none => trivial
  | some lb =>
    obtain ⟨hs, rv, hl, ho⟩ := h
    have h1 := (Array.getElem?_eq_some_iff.1 hl.here).1
    refine ⟨.inl ⟨hs, h1⟩, rv, hl.below hb, fun g hg _ => ?_⟩
    obtain ⟨c, hc⟩ := own_type hl.own hg
    have h2 := (Array.getElem?_eq_some_iff.1 hc).1
    exact .inl ⟨ho g hg h2, h2⟩
theorem LG.sbBack {S : Nat → Prop} {w w2 w3 : World} {lo : Option Nat} {L L0 : List Rn} {b : Nat} (h0 : LG S w w lo L0) (h : LG (Sb w S b) w2 w3 lo L) (hb : w.heap.size = b) (hz : w.heap.size ≤ w2.heap.size) : LG S w w3 lo L := by
  cases lo with
  | none => trivial
  | some lb =>
    obtain ⟨hs, rv, hl, ho⟩ := h
    refine ⟨h0.1, rv, hl, fun g hg hlt => ?_⟩
    rcases ho g hg (by omega) with ⟨e, _⟩ | e
    · exact e
    · omega
theorem kt_lt {w : World} (h : KT w) : 4 < w.heap.size := h.lt
theorem nw0 {w : World} {S : Nat → Prop} (h : KT w) (h0 : ¬ S 2) : ¬ Nw w S 2 := by have := kt_lt h; rintro (e | e); exact h0 e; omega
theorem nw1 {w : World} {S : Nat → Prop} (h : KT w) (h0 : ¬ S 4) : ¬ Nw w S 4 := by have := kt_lt h; rintro (e | e); exact h0 e; omega
set_option maxRecDepth 4000 in
set_option maxHeartbeats 2000000 in
theorem begin_ok (st : Int) (r a c : Nat) (f h : Nat → Int) (p q : Value) (lo : Option Nat) (L : List Rn) (S : Nat → Prop) (w : World) (hst : Str st r) (hk : KT w) (hS0 : ¬ S 2) (hS1 : ¬ S 4) (hl : LG S w w lo L) (hpos : Pos L) (hbig : Big L)
    (hp : ∀ w', Kp S w w' → By.RB w' p a f) (hq : ∀ w', Kp S w w' → By.RB w' q c h) (hac : a + c ≤ 2000000) :
    Calls Tryz.prog 158 #[lpv lo, .int .i64 st, p, q] w fun e w' => ∃ b, e = .returned (.tuple #[.pointer (some ⟨b, 0, none⟩), .int .i64 0]) ∧ w.heap.size ≤ b ∧ Sp w' b r (sfx a c) (bz r a f c h) false ∧ LG S w w' lo (evk L (bz r a f c h).c) ∧ Kp S w w' := by
  obtain ⟨r1, r2, r3, r4, r5⟩ := hst.lo
  have HST := hid hst
  have HK := hid hk
  have HS0 := hid hS0
  have HS1 := hid hS1
  have HL := hid hl
  have HPOS := hid hpos
  have HBIG := hid hbig
  have HP := hid hp
  have HQ := hid hq
  obtain ⟨_, pa, pc', rfl, -, -, -⟩ := hp w (Kp.refl _ _)
  obtain ⟨_, qa, qc', rfl, -, -, -⟩ := hq w (Kp.refl _ _)
  clear hst hk hS0 hS1 hl hpos hbig hp hq
  have er : ¬ (r : Int) = 0 := by omega
  have er' : ¬ r = 0 := by omega
  by_cases h0 : a = 0 ∧ c = 0
  · obtain ⟨rfl, rfl⟩ := h0
    go_enter Tryz.func158, Tryz.ntmps158
    go_wp2_with fail
    refine (rateOf_ok st r w HST.out).mono ?_
    rintro e w ⟨rfl, rfl⟩
    go_wp2_with fail
    refine (newOk r 31 w r1 r2 r3 (by decide)).mono ?_
    rintro e w1 ⟨rfl, hs, hb⟩
    have R1 := hid (show Sp w1 w.heap.size r (sfx 0 0) (bz r 0 f 0 h) false from hs)
    have R2 : Hid (LG S w w1 lo (evk L (bz r 0 f 0 h).c)) := HL.out.below hb
    have R3 := hid (Kp.of_below S hb)
    clear hs hb
    go_wp2
    go_ret2
    exact ⟨_, rfl, Nat.le_refl _, R1.out, R2.out, R3.out⟩
  · have E1 : Hid (sfx a c = 4) := if_neg h0
    have E2 : Hid (bz r a f c h = Z.ins r zz (pg (tn a c) (tg a f c h) r) (pN (tn a c) r)) := if_neg h0
    have HN : Hid (pN (tn a c) r ≤ 9000000) := by
      show pN (tn a c) r ≤ 9000000
      have h1 := sn_le' a
      have h2 := sn_le' c
      have h3 := (nb_pos r).2
      have h4 := pz_lt (tn a c) r (by omega)
      unfold pN pn
      unfold tn at *
      omega
    have H0 := hid h0
    clear h0
    obtain ⟨ha, hc⟩ | ha : (((a : Int) == 0) = true ∧ ((c : Int) == 0) = false) ∨ ((a : Int) == 0) = false := by
      have h0 := H0.out
      by_cases ha : a = 0
      · left; rw [beq_iff_eq, beq_eq_false_iff_ne]; omega
      · right; rw [beq_eq_false_iff_ne]; omega
    all_goals
      go_enter Tryz.func158, Tryz.ntmps158
      go_wp2_with fail
      refine (rateOf_ok st r w HST.out).mono ?_
      rintro e w ⟨rfl, rfl⟩
      go_wp2_with fail
      refine (newOk r 4 w r1 r2 r3 (by decide)).mono ?_
      rintro e w1 ⟨rfl, hs, hb⟩
      have S1 := hid (show Sp w1 w.heap.size r 4 zz false from hs)
      have B1 := hid hb
      clear hs hb
      obtain ⟨b, eb⟩ : ∃ b, w.heap.size = b := ⟨_, rfl⟩
      have EB := hid eb
      rw [eb] at S1
      rw [eb]
      clear eb
      go_wp2_with fail
      refine (prefix1 a c r f h _ _ w1 (HP.out w1 (Kp.of_below S B1.out)) (HQ.out w1 (Kp.of_below S B1.out)) (by omega) r5 r4).mono ?_
      rintro e w2 ⟨v2, rfl, ho, hb⟩
      have O2 := hid ho
      have B2 := hid (below_next B1.out hb)
      have S2 := hid (S1.out.below hb)
      have Z1 : Hid (b < w1.heap.size) := by have := S1.out.here.lt; exact this
      clear ho hb S1
      go_wp2_with fail
      refine (write_sp b r (pN (tn a c) r) 4 v2 zz (pg (tn a c) (tg a f c h) r) lo L (Sb w S b) w2 S2.out (HK.out.below B2.out) (sb_no HS0.out EB.out (by have := kt_lt HK.out; omega)) (sb_no HS1.out EB.out (kt_lt HK.out)) (.inr rfl) (HL.out.sb B2.out) HPOS.out (fun w' hk' => (own_kept O2.out hk' (fun g hg e => by
        have h1 := own_row O2.out g hg
        have h2 := Z1.out
        have h3 := B1.out.size
        rcases e with ⟨_, e⟩ | e <;> omega)).reads) HN.out HBIG.out).mono ?_
      rintro e w3 ⟨rfl, hs, hlg, hkp⟩
      have R1 : Hid (Sp w3 b r (sfx a c) (bz r a f c h) false) := by rw [E1.out, E2.out]; exact hs
      have R2 : Hid (LG S w w3 lo (evk L (bz r a f c h).c)) := by rw [E2.out]; exact HL.out.sbBack hlg EB.out B2.out.size
      have R3 : Hid (Kp S w w3) := (Kp.of_below S B2.out).trans hkp (fun i hi e => by have := EB.out; rcases e with ⟨e, _⟩ | e; exact e; omega)
      have R4 : Hid (w.heap.size ≤ b) := Nat.le_of_eq EB.out
      clear hs hlg hkp O2 B2 S2
      go_wp2
      go_ret2
      exact ⟨_, rfl, R4.out, R1.out, R2.out, R3.out⟩
end Go.Proofs.YtpohogpkfdebdaaGreatDoor.Kc
namespace Go.Proofs.YtpohogpkfdebdaaGreatDoor.Kc
open Go.ChangeShapes Go.WideShapes Go.ChangeAt Go.RowKit
open Go.Proofs.YtpohogpkfdebdaaGreatDoor.By Go.Proofs.YtpohogpkfdebdaaGreatDoor.Wd
theorem out_ge (r : Nat) (y : Z) (n : Nat) : y.c ≤ (Z.out r y n).c := by
  induction n with
  | zero => exact Nat.le_refl _
  | succ n ih =>
    refine Nat.le_trans ih ?_
    show _ ≤ ((Z.out r y n).rdy r).c
    unfold Z.rdy
    split
    · exact Nat.le_succ _
    · exact Nat.le_refl _
theorem out_le (r : Nat) (y : Z) (n : Nat) : (Z.out r y n).c ≤ y.c + n := by
  induction n with
  | zero => exact Nat.le_refl _
  | succ n ih =>
    show ((Z.out r y n).rdy r).c ≤ _
    unfold Z.rdy
    split
    · show (Z.out r y n).c + 1 ≤ _; omega
    · omega
theorem ins_ge {r : Nat} {z : Z} (h : z.p < r) (g : Nat → Int) (n : Nat) : z.c ≤ (Z.ins r z g n).c := by
  rw [(ins_count h g n).1]; exact Nat.le_add_right _ _
theorem bz_ok {st : Int} {r : Nat} (hst : Str st r) (a c : Nat) (f h : Nat → Int) : (bz r a f c h).Ok r false := by
  have h1 := hst.lo
  unfold bz
  split
  · exact zz_ok r (by omega)
  · exact (zz_ok r (by omega)).ins (by omega) _ _
theorem pN_le (a c r : Nat) (hr : 1 ≤ r) (hr2 : r ≤ 256) : pN (tn a c) r ≤ a + c + 300 := by
  have h1 := sn_le' a
  have h2 := sn_le' c
  have h3 := (nb_pos r).2
  have h4 := pz_lt (tn a c) r (by omega)
  unfold pN pn
  unfold tn at *
  omega
theorem bz_le {st : Int} {r : Nat} (hst : Str st r) (a c : Nat) (f h : Nat → Int) (hac : a + c ≤ 2000000) : (bz r a f c h).c ≤ 15000 := by
  have h1 := hst.lo
  unfold bz
  split
  · exact Nat.zero_le _
  · rw [(ins_count (z := zz) (by show 0 < r; omega) _ _).1]
    show 0 + (0 + _) / r ≤ _
    have h5 := pN_le a c r h1.2.2.2.2 h1.2.2.2.1
    rcases hst with ⟨_, rfl⟩ | ⟨_, rfl⟩ <;> omega
/-- The sponge that was shut behind a name, a custom and a message. -/
def tY (r a : Nat) (f : Nat → Int) (c : Nat) (h : Nat → Int) (m : Nat) (g : Nat → Int) : Z := Z.fin r (sfx a c) (Z.ins r (bz r a f c h) g m)
/-- What is answered: the code, how many bytes, which, how many events. -/
def tc (n : Int) : Int := if n < 0 ∨ 65536 < n then 2 else 0
def tk (n : Int) : Nat := if n < 0 ∨ 65536 < n then 0 else n.toNat
def tF (r a : Nat) (f : Nat → Int) (c : Nat) (h : Nat → Int) (m : Nat) (g : Nat → Int) (n : Int) : Nat → Int := fun i => if n < 0 ∨ 65536 < n then 0 else Z.say r (tY r a f c h m g) i
def tC (r a : Nat) (f : Nat → Int) (c : Nat) (h : Nat → Int) (m : Nat) (g : Nat → Int) (n : Int) : Nat := if n < 0 ∨ 65536 < n then 0 else (Z.out r (tY r a f c h m g) n.toNat).c
section
variable {st : Int} {r : Nat} (hst : Str st r)
include hst
theorem z2_le (a c : Nat) (f h : Nat → Int) (m : Nat) (g : Nat → Int) (hac : a + c ≤ 2000000) (hm : m ≤ 2000000) : (Z.ins r (bz r a f c h) g m).c ≤ 30000 := by
  have h1 := bz_le hst a c f h hac
  have h2 := (bz_ok hst a c f h).o rfl
  rw [(ins_count h2 g m).1]
  rcases hst with ⟨_, rfl⟩ | ⟨_, rfl⟩ <;> omega
end
theorem own_blk {w : World} {base g n : Nat} {f : Nat → Int} (h : Blk w g (bl n f) 5) (hf : ∀ i, 0 ≤ f i ∧ f i < 256) (hb : base ≤ g) (hn : n ≤ maxLen) : By.Own w base (.slice (some ⟨g, 0, none⟩) n n) n f :=
  ⟨hf, by rw [bl_length, Nat.mul_one], .inr ⟨g, n, (bl n f).toArray, rfl, hb, h, Nat.le_refl _, hn, by simp [bl_length], by simp [List.take_of_length_le, bl_length]⟩⟩
/-- No bytes. -/
def no0 (_ : Nat) : Int := 0
end Go.Proofs.YtpohogpkfdebdaaGreatDoor.Kc
namespace Go.Proofs.YtpohogpkfdebdaaGreatDoor.Kc
open Go.ChangeShapes Go.WideShapes Go.ChangeAt Go.RowKit
open Go.Proofs.YtpohogpkfdebdaaGreatDoor.By
/-- What Left and Right answer: the code, how many bytes, which. -/
def lc (n : Int) : Int := if n < 0 then 2 else 0
def lk (n : Int) : Nat := if n < 0 then 0 else nb n.toNat + 1
def lF (n : Int) : Nat → Int := fun i => if n < 0 then 0 else lf n.toNat i
def rF (n : Int) : Nat → Int := fun i => if n < 0 then 0 else rt n.toNat i
def pc (W : Int) : Int := if W < 1 ∨ 256 < W then 2 else 0
def pk (m : Nat) (W : Int) : Nat := if W < 1 ∨ 256 < W then 0 else pN m W.toNat
def pF (m : Nat) (f : Nat → Int) (W : Int) : Nat → Int := fun i => if W < 1 ∨ 256 < W then 0 else pg m f W.toNat i
section
variable (n : Int) (w : World) (h0 : -9223372036854775808 ≤ n) (h1 : n ≤ 9223372036854775807)
end
section
variable (W : Int) (m : Nat) (f : Nat → Int) (p : Value) (w : World) (hr : By.RB w p m f) (hm : m ≤ 140737488355000)
include hr hm
end
end Go.Proofs.YtpohogpkfdebdaaGreatDoor.Kc
