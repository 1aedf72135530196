/- What New and Tag of the program answer. -/
import Derived.Test.YtnhhkoekghjogaaDoorUsum
namespace Go.Proofs.YtnhhkoekghjogaaDoor.Kc
open Go.ChangeShapes Go.WideShapes Go.ChangeAt Go.RowKit
open Go.Proofs.YtnhhkoekghjogaaDoor.By Go.Proofs.YtnhhkoekghjogaaDoor.Wd
theorem rb_marked (w : World) (n : Nat) (f : Nat → Int) (fr : Nat × Nat) (hf : ∀ i, 0 ≤ f i ∧ f i < 256) (hn : n ≤ maxLen) : By.RB (w.alloc (.cells (bl n f).toArray 5 fr)) (.slice (some ⟨w.heap.size, 0, none⟩) n n) n f :=
  ⟨hf, _, _, rfl, Nat.le_refl _, hn, .inr ⟨_, 0, rfl, fun i hi => by
    rw [cell_of_row _ w.heap.size (0 + i) _ 5 fr (heap_alloc_last w _), Nat.zero_add]
    simpa using bl_get n f i hi⟩⟩
theorem rb_kept {w w' : World} {S : Nat → Prop} {g o n cap : Nat} {f : Nat → Int} (h : By.RB w (.slice (some ⟨g, o, none⟩) n cap) n f) (hk : Kp S w w') (hn : ¬ S g) : By.RB w' (.slice (some ⟨g, o, none⟩) n cap) n f := by
  obtain ⟨hf, a, c, e, h1, h2, hc⟩ := h
  simp only [Value.slice.injEq, true_and] at e
  obtain ⟨rfl, rfl⟩ := e
  refine ⟨hf, _, _, rfl, h1, h2, ?_⟩
  rcases hc with hc | ⟨b, off, e, hc⟩
  · exact .inl hc
  · refine .inr ⟨b, off, e, fun i hi => ?_⟩
    simp only [Option.some.injEq, Addr.mk.injEq, and_true] at e
    obtain ⟨rfl, rfl⟩ := e
    have h1 := hc i hi
    rw [← h1]
    have hl := block_lt_of_cell h1
    simp [World.cell?, hk.block g hl hn]
/-- Blocks that may be turned: the old ones of S. -/
def So (w : World) (S : Nat → Prop) (g : Nat) : Prop := S g ∧ g < w.heap.size
theorem LG.so {S : Nat → Prop} {w w2 : World} {lo : Option Nat} {L : List Rn} (h : LG S w w lo L) (hb : Below w.heap.size w w2) : LG (So w S) w2 w2 lo L := by
  cases lo with
  | none => trivial
  | some lb =>
    obtain ⟨hs, rv, hl, ho⟩ := h
    have h1 := (Array.getElem?_eq_some_iff.1 hl.here).1
    refine ⟨⟨hs, h1⟩, rv, hl.below hb, fun g hg _ => ?_⟩
    obtain ⟨c, hc⟩ := own_type hl.own hg
    have h2 := (Array.getElem?_eq_some_iff.1 hc).1
    exact ⟨ho g hg h2, h2⟩
theorem LG.soBack {S : Nat → Prop} {w w2 w3 : World} {lo : Option Nat} {L L0 : List Rn} (h0 : LG S w w lo L0) (h : LG (So w S) w2 w3 lo L) (hz : w.heap.size ≤ w2.heap.size) : LG S w w3 lo L := by
  cases lo with
  | none => trivial
  | some lb =>
    obtain ⟨hs, rv, hl, ho⟩ := h
    exact ⟨h0.1, rv, hl, fun g hg hlt => (ho g hg (by omega)).1⟩
theorem Kp.so {S : Nat → Prop} {w w2 w3 : World} (h : Kp S w w2) (k : Kp (So w S) w2 w3) : Kp S w w3 := h.trans k (fun _ _ e => e.1)
/-- Blocks that may be turned: those of S, and all that is new, but g. -/
def Nb (w : World) (S : Nat → Prop) (g j : Nat) : Prop := Nw w S j ∧ j ≠ g
theorem LG.but {S : Nat → Prop} {w w1 : World} {lo : Option Nat} {L : List Rn} {g : Nat} {cs : List Value} {t : TypeId} (h : LG S w w1 lo L) (hb : Blk w1 g cs t) (h1 : t ≠ 75) (h2 : t ≠ 63) : LG (Nb w S g) w1 w1 lo L := by
  cases lo with
  | none => trivial
  | some lb =>
    obtain ⟨hs, rv, hl, ho⟩ := h
    have hn := led_apart hl hb h1 h2
    refine ⟨⟨.inl hs, fun e => hn (.inl e.symm)⟩, rv, hl, fun x hx hlt => ⟨?_, fun e => hn (.inr (by rw [← e]; exact hx))⟩⟩
    by_cases hlt : x < w.heap.size
    · exact .inl (ho x hx hlt)
    · exact .inr (by omega)
theorem LG.butBack {S : Nat → Prop} {w w2 w3 : World} {lo : Option Nat} {L L0 : List Rn} {g : Nat} (h0 : LG S w w lo L0) (h : LG (Nb w S g) w2 w3 lo L) (hz : w.heap.size ≤ w2.heap.size) : LG S w w3 lo L := by
  cases lo with
  | none => trivial
  | some lb =>
    obtain ⟨hs, rv, hl, ho⟩ := h
    refine ⟨h0.1, rv, hl, fun x hx hlt => ?_⟩
    rcases (ho x hx (by omega)).1 with e | e
    · exact e
    · omega
theorem Kp.nb {S : Nat → Prop} {w w2 w3 : World} {g : Nat} (h : Kp S w w2) (k : Kp (Nb w S g) w2 w3) : Kp S w w3 := h.trans k (fun i hi e => by rcases e.1 with e | e; exact e; omega)
theorem knew_bad (st : Int) (lp p q : Value) (w : World) (h1 : ¬ st = 128) (h2 : ¬ st = 256) :
    Calls Tryd.prog 20 #[lp, .int .i64 st, p, q] w fun e w' => e = .returned (.tuple #[.pointer none, .int .i64 2]) ∧ Below w.heap.size w w' := by
  have hcv := Lib.run_convert_bytes_const (P := Tryd.prog) w 22 5 #[Value.int IntKind.u8 75, Value.int IntKind.u8 77, Value.int IntKind.u8 65, Value.int IntKind.u8 67] 4 4 Tryd.underlying22 Tryd.underlying5
  go_enter Tryd.func20, Tryd.ntmps20
  go_wp2_with fail
  refine (begin_bad st _ _ _ _ h1 h2).mono ?_
  rintro e w' ⟨rfl, rfl⟩
  clear hcv
  go_wp2
  go_ret2
  exact ⟨rfl, below_alloc _ _⟩
set_option maxRecDepth 4000 in
set_option maxHeartbeats 4000000 in
theorem knew_ok (st : Int) (r a c : Nat) (f h : Nat → Int) (p q : Value) (lo : Option Nat) (L : List Rn) (S : Nat → Prop) (w : World) (hst : Str st r) (hk : KT w) (hS0 : ¬ S 0) (hS1 : ¬ S 1) (hl : LG S w w lo L) (hpos : Pos L) (hT : Tiny L)
    (hp : ∀ w', Kp S w w' → By.RB w' p a f) (hq : ∀ w', Kp S w w' → By.RB w' q c h) (ha : a ≤ 1000000) (hc : c ≤ 1000000) :
    Calls Tryd.prog 20 #[lpv lo, .int .i64 st, p, q] w fun e w' => ∃ g b, e = .returned (.tuple #[.pointer (some ⟨g, 0, none⟩), .int .i64 0]) ∧ w.heap.size ≤ b ∧ w.heap.size ≤ g ∧ Mk w' g b st r (kz r a f c h) ∧ LG S w w' lo (evk L (kz r a f c h).c) ∧ Kp S w w' := by
  obtain ⟨r1, r2, r3, r4, r5⟩ := hst.lo
  have HST := hid hst
  have HK := hid hk
  have HS0 := hid hS0
  have HS1 := hid hS1
  have HL := hid hl
  have HPOS := hid hpos
  have HT := hid hT
  have HP := hid hp
  have HQ := hid hq
  obtain ⟨_, pa, pc', rfl, -, -, -⟩ := hp w (Kp.refl _ _)
  clear hst hk hS0 hS1 hl hpos hT hp hq
  have hcv := Lib.run_convert_bytes_const (P := Tryd.prog) w 22 5 #[Value.int IntKind.u8 75, Value.int IntKind.u8 77, Value.int IntKind.u8 65, Value.int IntKind.u8 67] 4 4 Tryd.underlying22 Tryd.underlying5
  go_enter Tryd.func20, Tryd.ntmps20
  go_wp2_with fail
  clear hcv
  obtain ⟨w0, hw0⟩ : ∃ x, w.alloc (.cells #[Value.int IntKind.u8 75, Value.int IntKind.u8 77, Value.int IntKind.u8 65, Value.int IntKind.u8 67] 5 (4, 5)) = x := ⟨_, rfl⟩
  have B0 : Hid (Below w.heap.size w w0) := by rw [← hw0]; exact below_alloc _ _
  have R0 : Hid (By.RB w0 (.slice (some ⟨w.heap.size, 0, none⟩) 4 4) 4 kmc) := by rw [← hw0]; exact rb_marked w 4 kmc (4, 5) kmc_b (by decide)
  rw [hw0]
  clear hw0
  have K0 := hid (Kp.of_below S B0.out)
  refine (begin_ok st r 4 c kmc h _ q lo L (So w S) w0 HST.out (HK.out.below B0.out) (fun e => HS0.out e.1) (fun e => HS1.out e.1) (HL.out.so B0.out) HPOS.out HT.out.mono (fun w' hk' => ?_) (fun w' hk' => HQ.out w' (Kp.so K0.out hk')) (by omega)).mono ?_
  · exact rb_kept R0.out hk' (fun e => by have := e.2; omega)
  rintro e w1 ⟨b, rfl, hb, hs, hlg, hkp⟩
  have B1 : Hid (w.heap.size ≤ b) := by have := B0.out.size; show _ ≤ _; omega
  have S1 : Hid (Sp w1 b r 4 (bz r 4 kmc c h) false) := by rw [sfx4] at hs; exact hs
  have L1 := hid (HL.out.soBack hlg B0.out.size)
  have K1 := hid (Kp.so K0.out hkp)
  have HB1 : Hid (b < w1.heap.size) := hs.here.lt
  clear hb hs hlg hkp R0 B0 K0
  go_wp2_with fail
  refine (string1 a f _ w1 (HP.out w1 K1.out) (by omega)).mono ?_
  rintro e w2 ⟨v2, rfl, ho, hb⟩
  have O2 := hid ho
  have S2 := hid (S1.out.below hb)
  have B2 := hid hb
  clear ho hb S1
  go_wp2_with fail
  refine (rate_sp _ _ _ _ _ _ S2.out).mono ?_
  rintro e w2' ⟨rfl, rfl⟩
  have hsn : sn a ≤ 140737488355000 := by have := sn_le' a; omega
  go_wp2_with fail
  refine (padOk (sn a) r (sg a f) v2 w2' O2.out.reads hsn r5 r4).mono ?_
  rintro e w3 ⟨v3, rfl, ho, hb⟩
  have O3 := hid (own_mono ho B2.out.size)
  have S3 := hid (S2.out.below hb)
  have B3 := hid (below_next B2.out hb)
  have L3 := hid (L1.out.below (below_next B2.out hb))
  have K3 := hid (K1.out.trans (Kp.of_below S (below_next B2.out hb)) (fun _ _ e => e))
  clear ho hb S2 O2 B2
  have hpN : pN (sn a) r ≤ 9000000 := by have := sn_le' a; have := pN_up (sn a) r r5 r4; omega
  have hb0 : ∀ j, j ≤ 1 → ¬ S j → ¬ Sb w1 (Nw w S) b j := fun j hj hs e => by
    have := kt_lt HK.out
    have := B1.out
    rcases e with ⟨e | e, _⟩ | e
    · exact hs e
    · omega
    · omega
  go_wp2_with fail
  refine (write_sp b r (pN (sn a) r) 4 v3 (bz r 4 kmc c h) (pg (sn a) (sg a f) r) lo _ (Sb w1 (Nw w S) b) w3 S3.out (HK.out.kept K3.out HS0.out HS1.out) (hb0 0 (by omega) HS0.out) (hb0 1 (by omega) HS1.out) (.inr rfl) ((L1.out.nw).sb B3.out) (evk_pos HPOS.out _) (fun w' hk' => (own_kept O3.out hk' (fun g hg e => by
    have h1 := own_row O3.out g hg
    have h2 := HB1.out
    rcases e with ⟨_, e⟩ | e <;> omega)).reads) hpN (HT.out.big HPOS.out _ (by have := bz_le HST.out 4 c kmc h (by omega); omega))).mono ?_
  rintro e w4 ⟨rfl, hs, hlg, hkp⟩
  have S4 : Hid (Sp w4 b r 4 (kz r a f c h) false) := hs
  have K4 : Hid (Kp S w w4) := K3.out.trans hkp (fun i hi e => by
    have := B1.out
    rcases e with ⟨e | e, _⟩ | e
    · exact e
    · omega
    · omega)
  have L4 : Hid (LG S w w4 lo (evk L (kz r a f c h).c)) := by
    have e1 : (bz r 4 kmc c h).c + ((Z.ins r (bz r 4 kmc c h) (pg (sn a) (sg a f) r) (pN (sn a) r)).c - (bz r 4 kmc c h).c) = (kz r a f c h).c := by
      have h1 := kz_ge HST.out a c f h
      unfold kz at *
      omega
    rw [← evk_add, e1] at hlg
    cases lo with
    | none => trivial
    | some lb =>
      obtain ⟨_, rv, hl, ho⟩ := hlg
      refine ⟨HL.out.1, rv, hl, fun x hx hlt => ?_⟩
      have := B1.out
      have := K3.out.size
      rcases ho x hx (by omega) with ⟨e | e, _⟩ | e
      · exact e
      · omega
      · omega
  clear hs hlg hkp S3 L1 L3 K1 O3 B3 hb0
  go_wp2
  go_ret2
  have bn := Blk.newAt w4 #[.pointer (some ⟨b, 0, none⟩), .int .i64 st] [.pointer (some ⟨b, 0, none⟩), .int .i64 st] 67 w4.heap.size rfl rfl
  exact ⟨_, b, rfl, B1.out, K4.out.size, ⟨bn, S4.out.below (below_alloc _ _), HST.out⟩, L4.out.below (below_alloc _ _), K4.out.trans (Kp.of_below S (below_alloc _ _)) (fun _ _ e => e)⟩
/-- The sponge of a tag; how many events a tag has. -/
def kt (r a : Nat) (f : Nat → Int) (c : Nat) (h : Nat → Int) (m : Nat) (g : Nat → Int) : Z := Z.ins r (kz r a f c h) g m
theorem ktag_no (st n : Int) (lp p q x xo : Value) (w : World) (h : n < 0 ∨ 65536 < n) :
    Calls Tryd.prog 12 #[lp, .int .i64 st, p, q, x, .int .i64 n, xo] w fun e w' => e = .returned (.tuple #[.slice none 0 0, .int .i64 2]) ∧ w' = w := by
  have HN := hid h
  clear h
  go_enter Tryd.func12, Tryd.ntmps12
  go_wp2_with (go_at_call 36; refine (told_no n _ HN.out).mono ?_; rintro e w' ⟨rfl, rfl⟩)
  go_ret2
  exact ⟨rfl, rfl⟩
theorem ktag_bad (st : Int) (n : Nat) (lp p q x xo : Value) (w : World) (hn : n ≤ 65536) (h1 : ¬ st = 128) (h2 : ¬ st = 256) :
    Calls Tryd.prog 12 #[lp, .int .i64 st, p, q, x, .int .i64 n, xo] w fun e w' => e = .returned (.tuple #[.slice none 0 0, .int .i64 2]) ∧ Below w.heap.size w w' := by
  go_enter Tryd.func12, Tryd.ntmps12
  go_wp2_with (go_at_call 36; refine (told_ok n _ hn).mono ?_; rintro e w' ⟨rfl, rfl⟩)
  refine (knew_bad st _ _ _ _ h1 h2).mono ?_
  rintro e w1 ⟨rfl, hb⟩
  have HB := hid hb
  clear hb
  go_wp2
  go_ret2
  exact ⟨rfl, HB.out⟩
set_option maxRecDepth 4000 in
set_option maxHeartbeats 4000000 in
theorem ktag_ok (st : Int) (r a c m n : Nat) (f h g : Nat → Int) (p q x : Value) (xof : Bool) (lo : Option Nat) (L : List Rn) (S : Nat → Prop) (w : World) (hst : Str st r) (hk : KT w) (hS0 : ¬ S 0) (hS1 : ¬ S 1) (hl : LG S w w lo L) (hpos : Pos L) (hT : tot L ≤ 2305843009100000000 ∧ L.length ≤ 4000000)
    (hp : ∀ w', Kp S w w' → By.RB w' p a f) (hq : ∀ w', Kp S w w' → By.RB w' q c h) (hx : ∀ w', Kp S w w' → By.RB w' x m g) (ha : a ≤ 1000000) (hc : c ≤ 1000000) (hm : m ≤ 1000000) (hn : n ≤ 65536) :
    Calls Tryd.prog 12 #[lpv lo, .int .i64 st, p, q, x, .int .i64 n, .bool xof] w fun e w' => ∃ v, e = .returned (.tuple #[v, .int .i64 0]) ∧ By.Own w' w.heap.size v n (Z.say r (ky r (kt r a f c h m g) n xof)) ∧ LG S w w' lo (evk L (Z.out r (ky r (kt r a f c h m g) n xof) n).c) ∧ Kp S w w' := by
  have HST := hid hst
  have HK := hid hk
  have HS0 := hid hS0
  have HS1 := hid hS1
  have HL := hid hl
  have HPOS := hid hpos
  have HT := hid hT
  have HP := hid hp
  have HQ := hid hq
  have HX := hid hx
  clear hst hk hS0 hS1 hl hpos hT hp hq hx
  go_enter Tryd.func12, Tryd.ntmps12
  go_wp2_with (go_at_call 36; refine (told_ok n _ hn).mono ?_; rintro e w' ⟨rfl, rfl⟩)
  have hT0 : Tiny L := ⟨by have := HT.out.1; omega, by have := HT.out.2; omega⟩
  refine (knew_ok st r a c f h p q lo L S w' HST.out HK.out HS0.out HS1.out HL.out HPOS.out hT0 HP.out HQ.out ha hc).mono ?_
  rintro e w1 ⟨g1, b, rfl, hb, hg1, hmk, hlg, hkp⟩
  have B1 := hid hb
  have G1 := hid hg1
  have M1 := hid hmk
  have L1 := hid hlg
  have K1 := hid hkp
  have Z0 := hid (kz_le HST.out a c f h ha hc)
  have OK0 := hid (kz_ok HST.out a c f h)
  clear hb hg1 hmk hlg hkp hT0
  have hbig : Big (evk L (kz r a f c h).c) := by
    have h1 := HT.out.1
    have h2 := HT.out.2
    have h3 := evk_len L (kz r a f c h).c
    have h4 := Z0.out
    refine ⟨?_, by omega⟩
    rw [evk_tot HPOS.out _ (by omega)]; omega
  have hgb : g1 ≠ b := fun e => by have h1 := M1.out.here; have h2 := M1.out.sp.here; rw [← e] at h2; exact Blk.ne h1 h2 (by decide) rfl
  go_wp2_with fail
  refine (M1.out.write _ _ _ (write_sp b r m 4 x (kz r a f c h) g lo _ (Nb w' S g1) w1 M1.out.sp (HK.out.kept K1.out HS0.out HS1.out) (fun e => nw0 HK.out HS0.out e.1) (fun e => nw1 HK.out HS1.out e.1) ⟨.inr B1.out, fun e => hgb e.symm⟩ (L1.out.but M1.out.here (by decide) (by decide)) (evk_pos HPOS.out _) (fun w2 hk' => HX.out w2 (Kp.nb K1.out hk')) (by omega) hbig)).mono ?_
  rintro e w2 ⟨rfl, hs, hlg, hkp⟩
  have M2 : Hid (Mk w2 g1 b st r (kt r a f c h m g)) := ⟨M1.out.here.kept hkp (fun e => e.2 rfl), hs, HST.out⟩
  have hge := ins_ge (OK0.out.o rfl) g m
  have e1 : (kz r a f c h).c + ((Z.ins r (kz r a f c h) g m).c - (kz r a f c h).c) = (kt r a f c h m g).c := by show _ + (_ - _) = (Z.ins r (kz r a f c h) g m).c; omega
  rw [← evk_add, e1] at hlg
  have L2 := hid (HL.out.butBack hlg K1.out.size)
  have K2 := hid (Kp.nb K1.out hkp)
  have hup := ins_up HST.out OK0.out g m hm
  have hT2 : Tiny (evk L (kt r a f c h m g).c) := by
    have h1 := HT.out.1
    have h2 := HT.out.2
    have h3 := evk_len L (kt r a f c h m g).c
    have h4 := Z0.out
    have h5 : (kt r a f c h m g).c ≤ 50000 := by show (Z.ins r (kz r a f c h) g m).c ≤ _; omega
    refine ⟨?_, by omega⟩
    rw [evk_tot HPOS.out _ (by omega)]; omega
  clear hs hlg hkp hge hup e1 M1 L1 K1 hbig
  go_wp2_with fail
  refine (M2.out.sum lo _ (Nw w' S) n xof (HK.out.kept K2.out HS0.out HS1.out) (nw0 HK.out HS0.out) (nw1 HK.out HS1.out) L2.out.nw (evk_pos HPOS.out _) hT2 hn).mono ?_
  rintro e w3 ⟨v3, rfl, ho, hlg, hkp⟩
  have R1 := hid (own_mono ho K2.out.size)
  have R2 : Hid (LG S w' w3 lo (evk L (Z.out r (ky r (kt r a f c h m g) n xof) n).c)) := by
    have h1 := ke_ge M2.out.sp.ok n xof
    have h2 := out_ge r (ky r (kt r a f c h m g) n xof) n
    have h3 : (ky r (kt r a f c h m g) n xof).c = (ke r (kt r a f c h m g) n xof).c + 1 := rfl
    have e2 : (kt r a f c h m g).c + kN r (kt r a f c h m g) n xof = (Z.out r (ky r (kt r a f c h m g) n xof) n).c := by unfold kN; omega
    rw [← evk_add, e2] at hlg
    exact HL.out.back hlg K2.out.size
  have R3 := hid (Kp.nw K2.out hkp)
  clear ho hlg hkp
  go_wp2
  go_ret2
  exact ⟨_, rfl, R1.out, R2.out, R3.out⟩
end Go.Proofs.YtnhhkoekghjogaaDoor.Kc
