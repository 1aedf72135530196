/- What New and Tag of the program answer. -/
import Derived.Test.YtpohogpkfdebdaaGreatDoorKk
namespace Go.Proofs.YtpohogpkfdebdaaGreatDoor.Kc
open Go.ChangeShapes Go.WideShapes Go.ChangeAt Go.RowKit
open Go.Proofs.YtpohogpkfdebdaaGreatDoor.By Go.Proofs.YtpohogpkfdebdaaGreatDoor.Wd
theorem rb_marked (w : World) (n : Nat) (f : Nat → Int) (fr : Nat × Nat) (hf : ∀ i, 0 ≤ f i ∧ f i < 256) (hn : n ≤ maxLen) : By.RB (w.alloc (.cells (bl n f).toArray 5 fr)) (.slice (some ⟨w.heap.size, 0, none⟩) n n) n f :=
  ⟨hf, _, _, rfl, Nat.le_refl _, hn, .inr ⟨_, 0, rfl, fun i hi => by
    rw [cell_of_row _ w.heap.size (0 + i) _ 5 fr (heap_alloc_last w _), Nat.zero_add]
    simpa using bl_get n f i hi⟩⟩
theorem rb_kept {w w' : World} {S : Nat → Prop} {g o n cap : Nat} {f : Nat → Int} (h : By.RB w (.slice (some ⟨g, o, none⟩) n cap) n f) (hk : Kp S w w') (hn : ¬ S g) : By.RB w' (.slice (some ⟨g, o, none⟩) n cap) n f := by
  obtain ⟨hf, a, c, e, h1, h2, hc⟩ := h
  simp only [Value.slice.injEq, true_and] at e
  obtain ⟨rfl, rfl⟩ := e
  refine ⟨hf, _, _, rfl, h1, h2, ?_⟩
  rcases hc with hc | ⟨b, off, e, hc⟩
  · exact .inl hc
  · refine .inr ⟨b, off, e, fun i hi => ?_⟩
    simp only [Option.some.injEq, Addr.mk.injEq, and_true] at e
    obtain ⟨rfl, rfl⟩ := e
    have h1 := hc i hi
    rw [← h1]
    have hl := block_lt_of_cell h1
    simp [World.cell?, hk.block g hl hn]
/-- Blocks that may be turned: the old ones of S. -/
def So (w : World) (S : Nat → Prop) (g : Nat) : Prop := S g ∧ g < w.heap.size
theorem LG.so {S : Nat → Prop} {w w2 : World} {lo : Option Nat} {L : List Rn} (h : LG S w w lo L) (hb : Below w.heap.size w w2) : LG (So w S) w2 w2 lo L := by
  cases lo with
  | none => trivial
  | some lb =>
    obtain ⟨hs, rv, hl, ho⟩ := h
    have h1 := (Array.getElem?_eq_some_iff.1 hl.here).1
    refine ⟨⟨hs, h1⟩, rv, hl.below hb, fun g hg _ => ?_⟩
    obtain ⟨c, hc⟩ := own_type hl.own hg
    have h2 := (Array.getElem?_eq_some_iff.1 hc).1
    exact ⟨ho g hg h2, h2⟩
theorem LG.soBack {S : Nat → Prop} {w w2 w3 : World} {lo : Option Nat} {L L0 : List Rn} (h0 : LG S w w lo L0) (h : LG (So w S) w2 w3 lo L) (hz : w.heap.size ≤ w2.heap.size) : LG S w w3 lo L := by
  cases lo with
  | none => trivial
  | some lb =>
    obtain ⟨hs, rv, hl, ho⟩ := h
    exact ⟨h0.1, rv, hl, fun g hg hlt => (ho g hg (by omega)).1⟩
theorem Kp.so {S : Nat → Prop} {w w2 w3 : World} (h : Kp S w w2) (k : Kp (So w S) w2 w3) : Kp S w w3 := h.trans k (fun _ _ e => e.1)
/-- Blocks that may be turned: those of S, and all that is new, but g. -/
def Nb (w : World) (S : Nat → Prop) (g j : Nat) : Prop := Nw w S j ∧ j ≠ g
theorem LG.but {S : Nat → Prop} {w w1 : World} {lo : Option Nat} {L : List Rn} {g : Nat} {cs : List Value} {t : TypeId} (h : LG S w w1 lo L) (hb : Blk w1 g cs t) (h1 : t ≠ 89) (h2 : t ≠ 78) : LG (Nb w S g) w1 w1 lo L := by
  cases lo with
  | none => trivial
  | some lb =>
    obtain ⟨hs, rv, hl, ho⟩ := h
    have hn := led_apart hl hb h1 h2
    refine ⟨⟨.inl hs, fun e => hn (.inl e.symm)⟩, rv, hl, fun x hx hlt => ⟨?_, fun e => hn (.inr (by rw [← e]; exact hx))⟩⟩
    by_cases hlt : x < w.heap.size
    · exact .inl (ho x hx hlt)
    · exact .inr (by omega)
theorem Kp.nb {S : Nat → Prop} {w w2 w3 : World} {g : Nat} (h : Kp S w w2) (k : Kp (Nb w S g) w2 w3) : Kp S w w3 := h.trans k (fun i hi e => by rcases e.1 with e | e; exact e; omega)
set_option maxRecDepth 4000 in
set_option maxHeartbeats 4000000 in
theorem knew_ok (st : Int) (r a c : Nat) (f h : Nat → Int) (p q : Value) (lo : Option Nat) (L : List Rn) (S : Nat → Prop) (w : World) (hst : Str st r) (hk : KT w) (hS0 : ¬ S 2) (hS1 : ¬ S 4) (hl : LG S w w lo L) (hpos : Pos L) (hT : Tiny L)
    (hp : ∀ w', Kp S w w' → By.RB w' p a f) (hq : ∀ w', Kp S w w' → By.RB w' q c h) (ha : a ≤ 1000000) (hc : c ≤ 1000000) :
    Calls Tryz.prog 119 #[lpv lo, .int .i64 st, p, q] w fun e w' => ∃ g b, e = .returned (.tuple #[.pointer (some ⟨g, 0, none⟩), .int .i64 0]) ∧ w.heap.size ≤ b ∧ w.heap.size ≤ g ∧ Mk w' g b st r (kz r a f c h) ∧ LG S w w' lo (evk L (kz r a f c h).c) ∧ Kp S w w' := by
  obtain ⟨r1, r2, r3, r4, r5⟩ := hst.lo
  have HST := hid hst
  have HK := hid hk
  have HS0 := hid hS0
  have HS1 := hid hS1
  have HL := hid hl
  have HPOS := hid hpos
  have HT := hid hT
  have HP := hid hp
  have HQ := hid hq
  obtain ⟨_, pa, pc', rfl, -, -, -⟩ := hp w (Kp.refl _ _)
  clear hst hk hS0 hS1 hl hpos hT hp hq
  have hcv := Lib.run_convert_bytes_const (P := Tryz.prog) w 23 5 #[Value.int IntKind.u8 75, Value.int IntKind.u8 77, Value.int IntKind.u8 65, Value.int IntKind.u8 67] 4 4 Tryz.underlying23 Tryz.underlying5
  go_enter Tryz.func119, Tryz.ntmps119
  go_wp2_with fail
  clear hcv
  obtain ⟨w0, hw0⟩ : ∃ x, w.alloc (.cells #[Value.int IntKind.u8 75, Value.int IntKind.u8 77, Value.int IntKind.u8 65, Value.int IntKind.u8 67] 5 (4, 5)) = x := ⟨_, rfl⟩
  have B0 : Hid (Below w.heap.size w w0) := by rw [← hw0]; exact below_alloc _ _
  have R0 : Hid (By.RB w0 (.slice (some ⟨w.heap.size, 0, none⟩) 4 4) 4 kmc) := by rw [← hw0]; exact rb_marked w 4 kmc (4, 5) kmc_b (by decide)
  rw [hw0]
  clear hw0
  have K0 := hid (Kp.of_below S B0.out)
  refine (begin_ok st r 4 c kmc h _ q lo L (So w S) w0 HST.out (HK.out.below B0.out) (fun e => HS0.out e.1) (fun e => HS1.out e.1) (HL.out.so B0.out) HPOS.out HT.out.mono (fun w' hk' => ?_) (fun w' hk' => HQ.out w' (Kp.so K0.out hk')) (by omega)).mono ?_
  · exact rb_kept R0.out hk' (fun e => by have := e.2; omega)
  rintro e w1 ⟨b, rfl, hb, hs, hlg, hkp⟩
  have B1 : Hid (w.heap.size ≤ b) := by have := B0.out.size; show _ ≤ _; omega
  have S1 : Hid (Sp w1 b r 4 (bz r 4 kmc c h) false) := by rw [sfx4] at hs; exact hs
  have L1 := hid (HL.out.soBack hlg B0.out.size)
  have K1 := hid (Kp.so K0.out hkp)
  have HB1 : Hid (b < w1.heap.size) := hs.here.lt
  clear hb hs hlg hkp R0 B0 K0
  go_wp2_with fail
  refine (string1 a f _ w1 (HP.out w1 K1.out) (by omega)).mono ?_
  rintro e w2 ⟨v2, rfl, ho, hb⟩
  have O2 := hid ho
  have S2 := hid (S1.out.below hb)
  have B2 := hid hb
  clear ho hb S1
  go_wp2_with fail
  refine (rate_sp _ _ _ _ _ _ S2.out).mono ?_
  rintro e w2' ⟨rfl, rfl⟩
  have hsn : sn a ≤ 140737488355000 := by have := sn_le' a; omega
  go_wp2_with fail
  refine (padOk (sn a) r (sg a f) v2 w2' O2.out.reads hsn r5 r4).mono ?_
  rintro e w3 ⟨v3, rfl, ho, hb⟩
  have O3 := hid (own_mono ho B2.out.size)
  have S3 := hid (S2.out.below hb)
  have B3 := hid (below_next B2.out hb)
  have L3 := hid (L1.out.below (below_next B2.out hb))
  have K3 := hid (K1.out.trans (Kp.of_below S (below_next B2.out hb)) (fun _ _ e => e))
  clear ho hb S2 O2 B2
  have hpN : pN (sn a) r ≤ 9000000 := by have := sn_le' a; have := pN_up (sn a) r r5 r4; omega
  have hb0 : ∀ j, j ≤ 4 → ¬ S j → ¬ Sb w1 (Nw w S) b j := fun j hj hs e => by
    have := kt_lt HK.out
    have := B1.out
    rcases e with ⟨e | e, _⟩ | e
    · exact hs e
    · omega
    · omega
  go_wp2_with fail
  refine (write_sp b r (pN (sn a) r) 4 v3 (bz r 4 kmc c h) (pg (sn a) (sg a f) r) lo _ (Sb w1 (Nw w S) b) w3 S3.out (HK.out.kept K3.out HS0.out HS1.out) (hb0 2 (by omega) HS0.out) (hb0 4 (by omega) HS1.out) (.inr rfl) ((L1.out.nw).sb B3.out) (evk_pos HPOS.out _) (fun w' hk' => (own_kept O3.out hk' (fun g hg e => by
    have h1 := own_row O3.out g hg
    have h2 := HB1.out
    rcases e with ⟨_, e⟩ | e <;> omega)).reads) hpN (HT.out.big HPOS.out _ (by have := bz_le HST.out 4 c kmc h (by omega); omega))).mono ?_
  rintro e w4 ⟨rfl, hs, hlg, hkp⟩
  have S4 : Hid (Sp w4 b r 4 (kz r a f c h) false) := hs
  have K4 : Hid (Kp S w w4) := K3.out.trans hkp (fun i hi e => by
    have := B1.out
    rcases e with ⟨e | e, _⟩ | e
    · exact e
    · omega
    · omega)
  have L4 : Hid (LG S w w4 lo (evk L (kz r a f c h).c)) := by
    have e1 : (bz r 4 kmc c h).c + ((Z.ins r (bz r 4 kmc c h) (pg (sn a) (sg a f) r) (pN (sn a) r)).c - (bz r 4 kmc c h).c) = (kz r a f c h).c := by
      have h1 := kz_ge HST.out a c f h
      unfold kz at *
      omega
    rw [← evk_add, e1] at hlg
    cases lo with
    | none => trivial
    | some lb =>
      obtain ⟨_, rv, hl, ho⟩ := hlg
      refine ⟨HL.out.1, rv, hl, fun x hx hlt => ?_⟩
      have := B1.out
      have := K3.out.size
      rcases ho x hx (by omega) with ⟨e | e, _⟩ | e
      · exact e
      · omega
      · omega
  clear hs hlg hkp S3 L1 L3 K1 O3 B3 hb0
  go_wp2
  go_ret2
  have bn := Blk.newAt w4 #[.pointer (some ⟨b, 0, none⟩), .int .i64 st] [.pointer (some ⟨b, 0, none⟩), .int .i64 st] 207 w4.heap.size rfl rfl
  exact ⟨_, b, rfl, B1.out, K4.out.size, ⟨bn, S4.out.below (below_alloc _ _), HST.out⟩, L4.out.below (below_alloc _ _), K4.out.trans (Kp.of_below S (below_alloc _ _)) (fun _ _ e => e)⟩
/-- The sponge of a tag; how many events a tag has. -/
def kt (r a : Nat) (f : Nat → Int) (c : Nat) (h : Nat → Int) (m : Nat) (g : Nat → Int) : Z := Z.ins r (kz r a f c h) g m
end Go.Proofs.YtpohogpkfdebdaaGreatDoor.Kc
