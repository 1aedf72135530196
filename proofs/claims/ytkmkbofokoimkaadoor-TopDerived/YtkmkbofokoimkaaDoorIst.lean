/- HKDF's parts under way: the mac, the ledger, what is told so far: what stays, and what one part more turns. -/
import Derived.Test.YtkmkbofokoimkaaDoorIpb
import Derived.Test.YtkmkbofokoimkaaDoorIrng
namespace Go.Proofs.YtkmkbofokoimkaaDoor.Dg
open Go.ChangeShapes Go.WideShapes Go.ChangeAt Go.RowKit
open Go.Proofs.YtkmkbofokoimkaaDoor.By
open Go.Proofs.YtkmkbofokoimkaaDoor.Sh (Blk size_alloc)
/-- What holds all the time, of the world where the parts are begun. -/
structure CX (w : World) (S : Nat → Prop) (b Bl Bm Bi : Nat) (lo : Option Nat) (L : List Rn) (a : Bool) (ni : Nat) (inf : Nat → Int) (v2 : Value) (N : Nat) : Prop where
  kt : KT w
  s0 : ¬ S 0
  s1 : ¬ S 1
  sb : S b
  hb : 1 < b
  bl : Blk w Bl [lpv lo] 34
  bm : Blk w Bm [.pointer (some ⟨b, 0, none⟩)] 35
  bi : Blk w Bi [v2] 22
  nl : ¬ S Bl
  nm : ¬ S Bm
  ni' : ¬ S Bi
  hr : ∀ w', Kp S w w' → By.RB w' v2 ni inf
  ps : Pos L
  room : tq L ≤ 1200000000
  hni : ni ≤ 140737488352000
  hN : 0 < N
  hN2 : N ≤ 255 * sz a
/-- k parts are made, q parts are told. -/
structure ST (w : World) (S : Nat → Prop) (b Bo Bn : Nat) (lo : Option Nat) (L : List Rn) (a : Bool) (K : Nat → Int) (ni : Nat) (inf : Nat → Int) (N : Nat) (k q : Nat) (ov pv : Value) (W : World) : Prop where
  kp : Kp S w W
  mc : ∃ x : MB, IsMk W b x ∧ x.a = a ∧ x.K = K
  lg : LG S w W lo (evs a L (es a ni k))
  co : Blk W Bo [ov] 22
  cn : Blk W Bn [.int .i64 N] 3
  oo : By.Own W w.heap.size ov (min (q * sz a) N) (okm a K ni inf)
  po : By.Own W w.heap.size pv (pl a k) (tp a K ni inf k)
  ne : ∀ g, ov.ownBlock = some g → pv.ownBlock ≠ some g
section
variable {w W W' : World} {S : Nat → Prop} {b Bl Bm Bi Bo Bn : Nat} {lo : Option Nat} {L : List Rn} {a : Bool} {K : Nat → Int} {ni : Nat} {inf : Nat → Int} {v2 : Value} {N k q : Nat} {ov pv : Value}
theorem ST.keep (h : ST w S b Bo Bn lo L a K ni inf N k q ov pv W) {T : Nat → Prop} (hk : Kp T W W') (hT : ∀ j cs t, T j → ¬ Blk W j cs t) (hS : ∀ j, j < w.heap.size → T j → S j) : ST w S b Bo Bn lo L a K ni inf N k q ov pv W' := by
  obtain ⟨x, hx, e1, e2⟩ := h.mc
  obtain ⟨c0, h0⟩ := hx.s0.blk
  obtain ⟨c1, h1⟩ := hx.s1.blk
  obtain ⟨c2, h2⟩ := hx.s2.blk
  refine ⟨h.kp.trans hk hS, ⟨x, hx.kept hk (fun e => hT _ _ _ e hx.here) (fun e => hT _ _ _ e h0) (fun e => hT _ _ _ e h1) (fun e => hT _ _ _ e h2), e1, e2⟩, lg_keep h.lg hk (fun j cs t e hb => (hT j cs t e hb).elim), h.co.kept hk (fun e => hT _ _ _ e h.co), h.cn.kept hk (fun e => hT _ _ _ e h.cn), Sg.own_kept h.oo hk (fun g hg e => ?_), Sg.own_kept h.po hk (fun g hg e => ?_), h.ne⟩
  · obtain ⟨cs, hc⟩ := own_b8 h.oo hg; exact hT _ _ _ e hc
  · obtain ⟨cs, hc⟩ := own_b8 h.po hg; exact hT _ _ _ e hc
theorem ST.below (h : ST w S b Bo Bn lo L a K ni inf N k q ov pv W) (hb : Below W.heap.size W W') : ST w S b Bo Bn lo L a K ni inf N k q ov pv W' := h.keep (Kp.of_below (fun _ => False) hb) (fun _ _ _ e => e.elim) (fun _ _ e => e.elim)
theorem ST.put (h : ST w S b Bo Bn lo L a K ni inf N k q ov pv W) {l : Nat} {o o' : Obj} (hl : w.heap.size ≤ l) (ho : W.heap[l]? = some o) (hc : o.isCells = false) : ST w S b Bo Bn lo L a K ni inf N k q ov pv (W.putObj l o') := by
  have hk : Kp (fun j => j = l) W (W.putObj l o') := by
    have hg := grownBy_putObj' W l o'
    exact ⟨hg.os, hg.tape, hg.output, hg.size, fun j hj hn => hg.block j hj (fun e => hn (Option.some.inj e))⟩
  refine h.keep hk (fun j cs t e hb => ?_) (fun j hj e => by have : j = l := e; omega)
  have e' : j = l := e
  have hb' : W.heap[l]? = some (.cells cs.toArray t (0, 0)) := e' ▸ hb
  rw [hb'] at ho
  cases ho
  cases hc
theorem CX.ktW (C : CX w S b Bl Bm Bi lo L a ni inf v2 N) (hk : Kp S w W) : KT W := C.kt.kept hk C.s0 C.s1
theorem ST.evP (C : CX w S b Bl Bm Bi lo L a ni inf v2 N) (k : Nat) : Pos (evs a L (es a ni k)) := evsP a C.ps _
theorem ST.call (C : CX w S b Bl Bm Bi lo L a ni inf v2 N) (h : ST w S b Bo Bn lo L a K ni inf N k k ov pv W) (hk : k < 255) :
    Calls Tryd.prog 34 #[lpv lo, .pointer (some ⟨b, 0, none⟩), pv, v2, .int .u8 ((k + 1 : Nat) : Int)] W fun e W' => ∃ u, e = .returned u ∧ ST w S b Bo Bn lo L a K ni inf N (k + 1) k ov u W' ∧ KeepsFrom w.heap.size W W' := by
  obtain ⟨x, hx, e1, e2⟩ := h.mc
  obtain ⟨T1, l1, hT, hTS⟩ := LG.own h.lg
  have hlt := C.kt.lt
  have hz := h.kp.size
  have nb : ¬ T1 b := hT.no hx.here (by decide)
  have keep : ∀ {w' : World}, Kp (fun j => T1 j ∨ j = b) W w' → Kp S w w' := fun hk => h.kp.trans hk (fun i hi e => e.elim (hTS i hi) (fun e => by rw [show i = b from e]; exact C.sb))
  have no8 : ∀ {base n : Nat} {v : Value} {f : Nat → Int}, By.Own W base v n f → ∀ g, v.ownBlock = some g → ¬ (T1 g ∨ g = b) := fun ho g hg e => by
    obtain ⟨cs, hc⟩ := own_b8 ho hg
    exact e.elim (hT.no hc (by decide)) (fun e => Blk.ne hc hx.here (by decide) e)
  have hroom := es_fine a C.ps ni k (by have := C.room; omega) C.hni (by omega)
  have hr := C.room
  refine (part_on b x (pl a k) ni pv v2 (tp a K ni inf k) inf ((k + 1 : Nat) : Int) (by omega) lo (evs a L (es a ni k)) T1 W hx l1 (C.ktW h.kp) (fun e => C.s0 (hTS 0 (by omega) e)) (fun e => C.s1 (hTS 1 (by omega) e)) C.hb (ST.evP C k) (fun w' hk' => (Sg.own_kept h.po hk' (no8 h.po)).reads) (fun w' hk' => C.hr w' (keep hk')) (pl_le a k) C.hni (by omega)).mono ?_
  rintro e w' ⟨u, c, f, rfl, g1, g2, g3, g4⟩
  subst e1
  subst e2
  refine ⟨u, rfl, ⟨keep g4, ⟨_, g2, rfl, rfl⟩, ?_, h.co.kept g4 (fun e => e.elim (hT.no h.co (by decide)) (fun e => Blk.ne h.co hx.here (by decide) e)), h.cn.kept g4 (fun e => e.elim (hT.no h.cn (by decide)) (fun e => Blk.ne h.cn hx.here (by decide) e)), Sg.own_kept h.oo g4 (no8 h.oo), Sg.own_mono g1 hz, fun g hg hu => ?_⟩, g4.size, fun j o _ hj hc => ?_⟩
  · rw [evs_add] at g3
    exact lg_back g3 h.lg hz hTS
  · have h1 := own_lt h.oo g hg
    have h2 := own_row g1 g hu
    omega
  · refine (g4.block j (Array.getElem?_eq_some_iff.1 hj).1 (fun e => ?_)).trans hj
    have key : ∀ cs t, ¬ Blk W j cs t := fun cs t hb => by
      have hb' : W.heap[j]? = some (.cells cs.toArray t (0, 0)) := hb
      rw [hb'] at hj; cases hj; cases hc
    rcases e with e | e
    · obtain ⟨cs, t, hb, _⟩ := hT j e; exact key _ _ hb
    · rw [show j = b from e] at key; exact key _ _ hx.here
theorem ST.app {go c c' q' : Nat} (h : ST w S b Bo Bn lo L a K ni inf N k q (.slice (some ⟨go, 0, none⟩) c N) pv W) (hBo : w.heap.size ≤ Bo) (hk : Kp (fun j => j = go) W W') (ho : By.Own W' w.heap.size (.slice (some ⟨go, 0, none⟩) c' N) (min (q' * sz a) N) (okm a K ni inf)) :
    ST w S b Bo Bn lo L a K ni inf N k q' (.slice (some ⟨go, 0, none⟩) c' N) pv (W'.setCell ⟨Bo, 0, none⟩ (.slice (some ⟨go, 0, none⟩) c' N)) ∧ KeepsFrom w.heap.size W (W'.setCell ⟨Bo, 0, none⟩ (.slice (some ⟨go, 0, none⟩) c' N)) := by
  obtain ⟨cs, hg⟩ := own_b8 h.oo (g := go) rfl
  have no : Bo ≠ go := Blk.ne h.co hg (by decide)
  have nn : Bn ≠ go := Blk.ne h.cn hg (by decide)
  have nb : Bn ≠ Bo := Blk.ne h.cn h.co (by decide)
  have nz := own_row h.oo go rfl
  have co1 := h.co.kept hk no
  have k2 : Kp (fun j => j = Bo) W' (W'.setCell ⟨Bo, 0, none⟩ (.slice (some ⟨go, 0, none⟩) c' N)) := Kp.setCell Bo 0 _
  have hp : ∀ j, pv.ownBlock = some j → j ≠ go := fun j hj e => h.ne go rfl (e ▸ hj)
  obtain ⟨x, hx, e1, e2⟩ := h.mc
  obtain ⟨d0, h0⟩ := hx.s0.blk
  obtain ⟨d1, h1⟩ := hx.s1.blk
  obtain ⟨d2, h2⟩ := hx.s2.blk
  have ts : ∀ a, tyS a ≠ 5 := fun a => by cases a <;> decide
  have ts2 : ∀ a, tyS a ≠ 22 := fun a => by cases a <;> decide
  have hx1 := hx.kept hk (Blk.ne hx.here hg (by decide)) (Blk.ne h0 hg (ts _)) (Blk.ne h1 hg (ts _)) (Blk.ne h2 hg (ts _))
  obtain ⟨f0, i0⟩ := hx1.s0.blk
  obtain ⟨f1, i1⟩ := hx1.s1.blk
  obtain ⟨f2, i2⟩ := hx1.s2.blk
  have lg1 := lg_keep h.lg hk (fun j cs' t' e hb hl => absurd rfl (Blk.ne ((show j = go from e) ▸ hb : Blk W go cs' t') hg (fun e => absurd (e ▸ hl) (by decide))))
  have po1 := Sg.own_kept h.po hk hp
  have key : ∀ {base n : Nat} {v : Value} {f : Nat → Int}, By.Own W' base v n f → ∀ g, v.ownBlock = some g → ¬ g = Bo := fun ho g hg e => by
    obtain ⟨c8, h8⟩ := own_b8 ho hg
    exact Blk.ne h8 co1 (by decide) e
  refine ⟨⟨(h.kp.trans hk (fun i hi e => by have : i = go := e; omega)).trans k2 (fun i hi e => by have : i = Bo := e; omega), ⟨x, hx1.kept k2 (Blk.ne hx1.here co1 (by decide)) (Blk.ne i0 co1 (ts2 _)) (Blk.ne i1 co1 (ts2 _)) (Blk.ne i2 co1 (ts2 _)), e1, e2⟩, lg_keep lg1 k2 (fun j cs' t' e hb hl => absurd rfl (Blk.ne ((show j = Bo from e) ▸ hb : Blk W' Bo cs' t') co1 (fun e => absurd (e ▸ hl) (by decide)))), co1.set 0 _, (h.cn.kept hk nn).kept k2 nb, Sg.own_kept ho k2 (key ho), Sg.own_kept po1 k2 (key po1), h.ne⟩, Nat.le_trans hk.size k2.size, fun j o _ hj hc => ?_⟩
  have nj : j ≠ go := fun e' => by
    have hb' : W.heap[go]? = some (.cells cs.toArray 5 (0, 0)) := hg
    rw [e', hb'] at hj; cases hj; cases hc
  have hj1 : W'.heap[j]? = some o := (hk.block j (Array.getElem?_eq_some_iff.1 hj).1 nj).trans hj
  refine (k2.block j (Array.getElem?_eq_some_iff.1 hj1).1 (fun e' => ?_)).trans hj1
  have hc' : W'.heap[Bo]? = some (.cells [Value.slice (some ⟨go, 0, none⟩) c N].toArray 22 (0, 0)) := co1
  rw [show j = Bo from e', hc'] at hj1; cases hj1; cases hc
end
end Go.Proofs.YtkmkbofokoimkaaDoor.Dg
