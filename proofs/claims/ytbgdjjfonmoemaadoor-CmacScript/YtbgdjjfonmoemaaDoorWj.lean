/- The pair of CmacScript: two macs of either side, a ledger each. The calls of CmacScript's pair, on either side. Clone, New and Tag of CmacScript's pair, on either side. A slot of CmacScript's pair is laid anew; a lent list is written over. -/
import Derived.Test.YtbgdjjfonmoemaaDoorWi
import Derived.Test.YtbgdjjfonmoemaaDoorWd
import Derived.Test.YtbgdjjfonmoemaaDoorWf
import Derived.Test.YtbgdjjfonmoemaaDoorVwip
import Derived.Test.YtbgdjjfonmoemaaDoorWh
namespace Go.Proofs.YtbgdjjfonmoemaaDoor.Vm
open Go.ChangeShapes Go.WideShapes Go.ChangeAt Go.RowKit
open Go.Proofs.YtbgdjjfonmoemaaDoor.By Go.Proofs.YtbgdjjfonmoemaaDoor.Gf Go.Proofs.YtbgdjjfonmoemaaDoor.Ae
open Go.Proofs.YtbgdjjfonmoemaaDoor.Kc (own_kept own_mono own8_type)
/-- No mac, or one of a key of 4 k bytes that was told n bytes. -/
abbrev MD := Option (Nat × (Nat → Nat) × Nat × (Nat → Nat))
/-- The program's, its cipher in block c. -/
def PMm (W : World) (v : Value) (c : Nat) : MD → Prop
  | none => Nm W v
  | some (k, key, n, m) => ∃ g, v = .pointer (some ⟨g, 0, none⟩) ∧ Mc W g c k (rk k key) n m
/-- The document's; its lists don't lie in block av. -/
def QMm (av : Nat → Prop) (W : World) (v : Value) : MD → Prop
  | none => RnM W v
  | some (k, key, n, m) => ∃ g kv mv, v = .pointer (some ⟨g, 0, none⟩) ∧ Rm W g k n key m kv mv ∧ (∀ x, kv.ownBlock = some x → ¬ av x) ∧ ∀ x, mv.ownBlock = some x → ¬ av x
theorem rk_wds (k : Nat) (key : Nat → Nat) (p : Nat) (hp : p < 16 * (k + 7)) : rk k key p = wds k key (3 * k + 28) p := by
  unfold rk; exact upto_get _ _ _ hp
/-- Both sides' tags are alike. -/
theorem tg_same (k : Nat) (key : Nat → Nat) (m : Nat → Nat) (n : Nat) : E16 (tgn (rk k key) (k + 6) m n) (tgn (wds k key (3 * k + 28)) (k + 6) m n) := tgn_k (fun p hp => rk_wds k key p (by omega)) m n
theorem chn_k {ws ws' : Nat → Nat} {r : Nat} (h : ∀ p, p < 16 * (r + 1) → ws p = ws' p) (f : Nat → Nat) : ∀ j, E16 (chn ws r f j) (chn ws' r f j) := fun j => by
  induction j with
  | zero => exact E16.refl _
  | succ j ih => exact (enc_e ws r (xr_e ih (E16.refl _))).trans (enc_k h _)
/-- Both sides' forms are alike. -/
theorem fm_same (k : Nat) (key : Nat → Nat) (n : Nat) (m : Nat → Nat) (i : Nat) (hi : i < fml k) : fmf k (rk k key) n m i = fmf k (wds k key (3 * k + 28)) n m i := by
  have hh : ∀ p, p < 16 * (k + 6 + 1) → rk k key p = wds k key (3 * k + 28) p := fun p hp => rk_wds k key p (by omega)
  have e1 : E16 (sk1 (rk k key) (k + 6)) (sk1 (wds k key (3 * k + 28)) (k + 6)) := dbl_e (enc_k hh nought)
  have e2 : E16 (sk2 (rk k key) (k + 6)) (sk2 (wds k key (3 * k + 28)) (k + 6)) := dbl_e e1
  have e3 := chn_k hh m (nbl n)
  unfold fml at hi
  unfold fmf
  by_cases h1 : i < 16 * (k + 7)
  · rw [if_pos h1, if_pos h1, rk_wds k key i h1]
  · rw [if_neg h1, if_neg h1]
    by_cases h2 : i < 16 * (k + 7) + 64
    · rw [if_pos h2, if_pos h2]
      unfold four
      split
      · exact e1 _ (by omega)
      · split
        · exact e2 _ (by omega)
        · split
          · exact e3 _ (by omega)
          · rfl
    · rw [if_neg h2, if_neg h2]
/-- The ledger that is handed in. -/
def lo (lb : Nat) (mute : Bool) : Option Nat := match mute with | true => none | false => some lb
def SP (lb : Nat) (lv : Value) (mute : Bool) (j : Nat) : Prop := mute = false ∧ (j = lb ∨ lv.ownBlock = some j)
def sel (mute : Bool) (L L' : List Rn) : List Rn := match mute with | true => L | false => L'
def pairM (cv rv : Nat → Value) (lb mb : Nat) (tv wv : Value) : List Value := [cv 0, cv 1, rv 0, rv 1, .pointer (some ⟨lb, 0, none⟩), .pointer (some ⟨mb, 0, none⟩), tv, wv]
def upd {α : Type} (f : Nat → α) (k : Nat) (x : α) : Nat → α := fun i => if i = k then x else f i
theorem upd_at {α : Type} (f : Nat → α) (k : Nat) (x : α) : upd f k x k = x := by unfold upd; rw [if_pos rfl]
theorem upd_ne {α : Type} (f : Nat → α) (k : Nat) (x : α) (i : Nat) (h : i ≠ k) : upd f k x i = f i := by unfold upd; rw [if_neg h]
/-- Blocks that are no ledger's and no mac's of the program stay. -/
def KeP (W W' : World) : Prop := ∀ g cs t, Blk W g cs t → t ≠ 48 → t ≠ 77 → t ≠ 87 → t ≠ 104 → Blk W' g cs t
/-- Blocks that are no ledger's and no mac's of the document stay. -/
def KeQ (W W' : World) : Prop := ∀ g cs t, Blk W g cs t → t ≠ 50 → t ≠ 77 → t ≠ 90 → Blk W' g cs t
/-- Blocks of bytes, of sixteen bytes and of lists of bytes stay. -/
def Kz (W W' : World) : Prop := ∀ g cs t, Blk W g cs t → t = 5 ∨ t = 22 ∨ t = 82 → Blk W' g cs t
theorem Kz.below {W W' : World} (h : Below W.heap.size W W') : Kz W W' := fun _ _ _ hg _ => hg.below h
theorem KeP.kz {W W' : World} (h : KeP W W') : Kz W W' := fun g cs t hg ht => by
  rcases ht with rfl | rfl | rfl <;> exact h g cs _ hg (by decide) (by decide) (by decide) (by decide)
theorem KeQ.kz {W W' : World} (h : KeQ W W') : Kz W W' := fun g cs t hg ht => by
  rcases ht with rfl | rfl | rfl <;> exact h g cs _ hg (by decide) (by decide) (by decide)
theorem own_kz {W W' : World} (h : ∀ g cs, Blk W g cs 5 → Blk W' g cs 5) {base n : Nat} {v : Value} {f : Nat → Int} (ho : By.Own W base v n f) : By.Own W' base v n f := by
  obtain ⟨hf, hl, h' | ⟨g, cap, cur, rfl, hb, hc, h1, h2, h3, h4⟩⟩ := ho
  · exact ⟨hf, hl, .inl h'⟩
  · exact ⟨hf, hl, .inr ⟨g, cap, cur, rfl, hb, h g cur.toList (by show W.heap[g]? = _; rw [hc]), h1, h2, h3, h4⟩⟩
theorem PMm.blks {W W' : World} {v : Value} {c : Nat} {d : MD} (h : PMm W v c d) (hb : ∀ g cs, v = .pointer (some ⟨g, 0, none⟩) → Blk W g cs 87 → Blk W' g cs 87) (hc : d ≠ none → ∀ cs, Blk W c cs 104 → Blk W' c cs 104) : PMm W' v c d := by
  match d, h with
  | none, h =>
    rcases h with h | ⟨g, e, cs, hh⟩
    · exact .inl h
    · exact .inr ⟨g, e, cs, hb _ _ e hh⟩
  | some (k, key, n, m), ⟨g, e, hm⟩ => exact ⟨g, e, hb _ _ e hm.here, ⟨hc (by simp) _ hm.ci.here, hm.ci.kk, hm.ci.lt⟩, hm.lt⟩
theorem QMm.blks {av : Nat → Prop} {W W' : World} {v : Value} {d : MD} (h : QMm av W v d) (hb : ∀ g cs, v = .pointer (some ⟨g, 0, none⟩) → Blk W g cs 90 → Blk W' g cs 90) (h8 : ∀ g cs, ¬ av g → Blk W g cs 5 → Blk W' g cs 5) : QMm av W' v d := by
  match d, h with
  | none, h =>
    rcases h with h | ⟨g, x, y, e, hh⟩
    · exact .inl h
    · exact .inr ⟨g, x, y, e, hb _ _ e hh⟩
  | some (k, key, n, m), ⟨g, kv, mv, e, hm, h1, h2⟩ =>
    have own : ∀ {v : Value} {n : Nat} {f : Nat → Int}, (∀ x, v.ownBlock = some x → ¬ av x) → By.Own W 0 v n f → By.Own W' 0 v n f := fun {v n f} hv ho => by
      obtain ⟨hf, hl, h' | ⟨g, cap, cur, rfl, hb, hc, h1, h2, h3, h4⟩⟩ := ho
      · exact ⟨hf, hl, .inl h'⟩
      · exact ⟨hf, hl, .inr ⟨g, cap, cur, rfl, hb, h8 g cur.toList (hv g rfl) (by show W.heap[g]? = _; rw [hc]), h1, h2, h3, h4⟩⟩
    exact ⟨g, kv, mv, e, ⟨hb _ _ e hm.here, hm.kk, own h1 hm.ko, own h2 hm.mo⟩, h1, h2⟩
theorem PMm.blk {W : World} {v : Value} {c : Nat} {d : MD} {g : Nat} (h : PMm W v c d) (e : v = .pointer (some ⟨g, 0, none⟩)) : ∃ cs, Blk W g cs 87 := by
  match d, h with
  | none, h =>
    rcases h with h | ⟨g', e', cs, hb⟩
    · rw [h] at e; simp at e
    · rw [e] at e'; simp at e'; subst e'; exact ⟨_, hb⟩
  | some (k, key, n, m), ⟨g', e', hm⟩ => rw [e] at e'; simp at e'; subst e'; exact ⟨_, hm.here⟩
theorem PMm.cblk {W : World} {v : Value} {c : Nat} {d : MD} (h : PMm W v c d) (hd : d ≠ none) : ∃ cs, Blk W c cs 104 := by
  match d, h with
  | none, h => exact absurd rfl hd
  | some (k, key, n, m), ⟨g', e', hm⟩ => exact ⟨_, hm.ci.here⟩
theorem QMm.blk {av : Nat → Prop} {W : World} {v : Value} {d : MD} {g : Nat} (h : QMm av W v d) (e : v = .pointer (some ⟨g, 0, none⟩)) : ∃ cs, Blk W g cs 90 := by
  match d, h with
  | none, h =>
    rcases h with h | ⟨g', x, y, e', hb⟩
    · rw [h] at e; simp at e
    · rw [e] at e'; simp at e'; subst e'; exact ⟨_, hb⟩
  | some (k, key, n, m), ⟨g', kv, mv, e', hm, _⟩ => rw [e] at e'; simp at e'; subst e'; exact ⟨_, hm.here⟩
theorem own_blk {W : World} {L : List Rn} {v : Value} {base : Nat} {g : Nat} (h : Own W base v L) (hg : v.ownBlock = some g) : ∃ cs, Blk W g cs 77 := by
  obtain ⟨cs, hc⟩ := own_type h hg
  exact ⟨cs.toList, by show W.heap[g]? = _; rw [hc]⟩
structure PSm (X : World → Prop) (w0 : World) (av : Nat → Prop) (xb lb mb : Nat) (lv mv tv wv : Value) (cv rv : Nat → Value) (cc : Nat → Nat) (D E : Nat → MD) (L M : List Rn) (W : World) : Prop where
  bel : Below w0.heap.size w0 W
  here : Blk W xb (pairM cv rv lb mb tv wv) 36
  xB : w0.heap.size ≤ xb
  lB : w0.heap.size ≤ lb
  mB : w0.heap.size ≤ mb
  led : Led W lb lv L
  rled : RLed W mb mv M
  lvB : ∀ g, lv.ownBlock = some g → w0.heap.size ≤ g
  mvB : ∀ g, mv.ownBlock = some g → w0.heap.size ≤ g
  dis : ∀ g, lv.ownBlock = some g → mv.ownBlock ≠ some g
  pc : ∀ j, j < 2 → PMm W (cv j) (cc j) (D j)
  qc : ∀ j, j < 2 → QMm av W (rv j) (E j)
  pB : ∀ j, j < 2 → ∀ g, cv j = .pointer (some ⟨g, 0, none⟩) → w0.heap.size ≤ g
  cB : ∀ j, j < 2 → D j ≠ none → w0.heap.size ≤ cc j
  qB : ∀ j, j < 2 → ∀ g, rv j = .pointer (some ⟨g, 0, none⟩) → w0.heap.size ≤ g
  pne : ∀ i j g, i < 2 → j < 2 → i ≠ j → cv i = .pointer (some ⟨g, 0, none⟩) → cv j ≠ .pointer (some ⟨g, 0, none⟩)
  cne : ∀ i j, i < 2 → j < 2 → i ≠ j → D i ≠ none → D j ≠ none → cc i ≠ cc j
  qne : ∀ i j g, i < 2 → j < 2 → i ≠ j → rv i = .pointer (some ⟨g, 0, none⟩) → rv j ≠ .pointer (some ⟨g, 0, none⟩)
  km : KM w0
  exk : ∀ V V', Kz V V' → X V → X V'
  ex : X W
section
variable {X : World → Prop} {w0 W W' : World} {av : Nat → Prop} {xb lb mb : Nat} {lv mv tv wv : Value} {cv rv : Nat → Value} {cc : Nat → Nat} {D E : Nat → MD} {L M L' : List Rn}
theorem PSm.size (h : PSm X w0 av xb lb mb lv mv tv wv cv rv cc D E L M W) : w0.heap.size ≤ W.heap.size := h.bel.size
theorem PSm.sp (h : PSm X w0 av xb lb mb lv mv tv wv cv rv cc D E L M W) {mute : Bool} {j : Nat} (hs : SP lb lv mute j) : w0.heap.size ≤ j := by
  rcases hs.2 with rfl | e
  · exact h.lB
  · exact h.lvB j e
theorem PSm.sq (h : PSm X w0 av xb lb mb lv mv tv wv cv rv cc D E L M W) {mute : Bool} {j : Nat} (hs : SP mb mv mute j) : w0.heap.size ≤ j := by
  rcases hs.2 with rfl | e
  · exact h.mB
  · exact h.mvB j e
theorem PSm.kmW (h : PSm X w0 av xb lb mb lv mv tv wv cv rv cc D E L M W) : KM W := (h.km.kept (Kp.of_below (fun _ => False) h.bel) id)
theorem PSm.no_q (h : PSm X w0 av xb lb mb lv mv tv wv cv rv cc D E L M W) {mute : Bool} {g : Nat} (hg : g = mb ∨ mv.ownBlock = some g) : ¬ SP lb lv mute g := by
  have bl : Blk W lb _ 48 := h.led.here
  have bm : Blk W mb _ 50 := h.rled.here
  rintro ⟨_, e | e⟩ <;> rcases hg with e' | e'
  · subst e; subst e'; exact absurd (blk_ty bl bm) (by decide)
  · subst e; obtain ⟨cs, hc⟩ := own_blk h.rled.own e'; exact absurd (blk_ty bl hc) (by decide)
  · subst e'; obtain ⟨cs, hc⟩ := own_blk h.led.own e; exact absurd (blk_ty bm hc) (by decide)
  · exact h.dis g e e'
theorem PSm.no_p (h : PSm X w0 av xb lb mb lv mv tv wv cv rv cc D E L M W) {mute : Bool} {g : Nat} (hg : g = lb ∨ lv.ownBlock = some g) : ¬ SP mb mv mute g := by
  rintro ⟨_, e⟩
  exact h.no_q (mute := false) e ⟨rfl, hg⟩
theorem PSm.below (h : PSm X w0 av xb lb mb lv mv tv wv cv rv cc D E L M W) (hb : Below W.heap.size W W') : PSm X w0 av xb lb mb lv mv tv wv cv rv cc D E L M W' :=
  { h with
    bel := below_next h.bel hb
    here := h.here.below hb
    led := h.led.below hb
    rled := h.rled.below hb
    pc := fun j hj => (h.pc j hj).blks (fun _ _ _ hg => hg.below hb) (fun _ _ hg => hg.below hb)
    qc := fun j hj => (h.qc j hj).blks (fun _ _ _ hg => hg.below hb) (fun _ _ _ hg => hg.below hb)
    ex := h.exk _ _ (Kz.below hb) h.ex }
/-- The blocks that a call of the program's mac j may turn. -/
def SM (lb : Nat) (lv v : Value) (c : Nat) (d : MD) (mute : Bool) (x : Nat) : Prop := SP lb lv mute x ∨ v = .pointer (some ⟨x, 0, none⟩) ∨ (d ≠ none ∧ x = c)
/-- The blocks that a call of the document's mac j may turn. -/
def SN (mb : Nat) (mv v : Value) (mute : Bool) (x : Nat) : Prop := SP mb mv mute x ∨ v = .pointer (some ⟨x, 0, none⟩)
theorem PSm.lg (h : PSm X w0 av xb lb mb lv mv tv wv cv rv cc D E L M W) (j : Nat) (mute : Bool) : LG (SM lb lv (cv j) (cc j) (D j) mute) W W (lo lb mute) L := by
  cases mute
  · exact ⟨.inl ⟨rfl, .inl rfl⟩, lv, h.led, fun g hg _ => .inl ⟨rfl, .inr hg⟩⟩
  · exact trivial
theorem PSm.rlg (h : PSm X w0 av xb lb mb lv mv tv wv cv rv cc D E L M W) (j : Nat) (mute : Bool) : RLG (SN mb mv (rv j) mute) W W (lo mb mute) M := by
  cases mute
  · exact ⟨.inl ⟨rfl, .inl rfl⟩, mv, h.rled, fun g hg _ => .inl ⟨rfl, .inr hg⟩⟩
  · exact trivial
theorem PSm.smB (h : PSm X w0 av xb lb mb lv mv tv wv cv rv cc D E L M W) {j : Nat} (hj : j < 2) {mute : Bool} {x : Nat} (hx : SM lb lv (cv j) (cc j) (D j) mute x) : w0.heap.size ≤ x := by
  rcases hx with hx | hx | ⟨h1, rfl⟩
  · exact h.sp hx
  · exact h.pB j hj x hx
  · exact h.cB j hj h1
theorem PSm.snB (h : PSm X w0 av xb lb mb lv mv tv wv cv rv cc D E L M W) {j : Nat} (hj : j < 2) {mute : Bool} {x : Nat} (hx : SN mb mv (rv j) mute x) : w0.heap.size ≤ x := by
  rcases hx with hx | hx
  · exact h.sq hx
  · exact h.qB j hj x hx
theorem PSm.s0 (h : PSm X w0 av xb lb mb lv mv tv wv cv rv cc D E L M W) {j : Nat} (hj : j < 2) (mute : Bool) : ¬ SM lb lv (cv j) (cc j) (D j) mute 0 := fun e => by have := h.smB hj e; have := h.km.lt; omega
/-- What isn't in SM. -/
theorem PSm.smN (h : PSm X w0 av xb lb mb lv mv tv wv cv rv cc D E L M W) {j : Nat} (hj : j < 2) {mute : Bool} {x : Nat} {cs : List Value} {t : TypeId} (hb : Blk W x cs t) (h1 : t ≠ 48) (h2 : t ≠ 77) (h3 : t ≠ 87) (h4 : t ≠ 104) : ¬ SM lb lv (cv j) (cc j) (D j) mute x := by
  rintro (⟨_, e⟩ | e | ⟨hd, rfl⟩)
  · exact led_apart h.led hb h1 h2 e
  · obtain ⟨c, hc⟩ := (h.pc j hj).blk e
    exact h3 (blk_ty hb hc)
  · obtain ⟨c, hc⟩ := (h.pc j hj).cblk hd
    exact h4 (blk_ty hb hc)
theorem PSm.snN (h : PSm X w0 av xb lb mb lv mv tv wv cv rv cc D E L M W) {j : Nat} (hj : j < 2) {mute : Bool} {x : Nat} {cs : List Value} {t : TypeId} (hb : Blk W x cs t) (h1 : t ≠ 50) (h2 : t ≠ 77) (h3 : t ≠ 90) : ¬ SN mb mv (rv j) mute x := by
  rintro (⟨_, e⟩ | e)
  · exact rled_apart h.rled hb h1 h2 e
  · obtain ⟨c, hc⟩ := (h.qc j hj).blk e
    exact h3 (blk_ty hb hc)
/-- Behind a call of the program's mac j. -/
theorem PSm.turnP (h : PSm X w0 av xb lb mb lv mv tv wv cv rv cc D E L M W) (j : Nat) (hj : j < 2) (mute : Bool) (d : MD) (hd : d ≠ none → D j ≠ none) (hl : LG (SM lb lv (cv j) (cc j) (D j) mute) W W' (lo lb mute) L') (hk : Kp (SM lb lv (cv j) (cc j) (D j) mute) W W') (hp : PMm W' (cv j) (cc j) d) : ∃ lv', PSm X w0 av xb lb mb lv' mv tv wv cv rv cc (upd D j d) E (sel mute L L') M W' := by
  have keep : KeP W W' := fun g cs t hg h1 h2 h3 h4 => hg.kept hk (h.smN hj hg h1 h2 h3 h4)
  have noQ : ∀ {g}, (g = mb ∨ mv.ownBlock = some g) → ¬ SM lb lv (cv j) (cc j) (D j) mute g := fun {g} hg hs => by
    rcases hs with hs | hs | ⟨h1, rfl⟩
    · exact h.no_q hg hs
    · obtain ⟨c, hc⟩ := (h.pc j hj).blk hs
      rcases hg with rfl | hg
      · exact absurd (blk_ty hc (show Blk W _ _ 50 from h.rled.here)) (by decide)
      · obtain ⟨cs, hc'⟩ := own_blk h.rled.own hg
        exact absurd (blk_ty hc hc') (by decide)
    · obtain ⟨c, hc⟩ := (h.pc j hj).cblk h1
      rcases hg with hg | hg
      · rw [hg] at hc; exact absurd (blk_ty hc (show Blk W _ _ 50 from h.rled.here)) (by decide)
      · obtain ⟨cs, hc'⟩ := own_blk h.rled.own hg
        exact absurd (blk_ty hc hc') (by decide)
  have noL : ∀ {g}, (g = lb ∨ lv.ownBlock = some g) → ¬ (cv j = .pointer (some ⟨g, 0, none⟩) ∨ (D j ≠ none ∧ g = cc j)) := fun {g} hg hs => by
    rcases hs with hs | ⟨h1, hs⟩
    · obtain ⟨c, hc⟩ := (h.pc j hj).blk hs
      rcases hg with rfl | hg
      · exact absurd (blk_ty hc (show Blk W _ _ 48 from h.led.here)) (by decide)
      · obtain ⟨cs, hc'⟩ := own_blk h.led.own hg
        exact absurd (blk_ty hc hc') (by decide)
    · obtain ⟨c, hc⟩ := (h.pc j hj).cblk h1
      rw [← hs] at hc
      rcases hg with rfl | hg
      · exact absurd (blk_ty hc (show Blk W _ _ 48 from h.led.here)) (by decide)
      · obtain ⟨cs, hc'⟩ := own_blk h.led.own hg
        exact absurd (blk_ty hc hc') (by decide)
  have key : ∀ lv' L2, Led W' lb lv' L2 → (∀ g, lv'.ownBlock = some g → g < W.heap.size → SM lb lv (cv j) (cc j) (D j) false g) → PSm X w0 av xb lb mb lv' mv tv wv cv rv cc (upd D j d) E L2 M W' := fun lv' L2 hl' ho =>
    { bel := h.bel.trans (hk.below h.size (fun x hx e => by have := h.smB hj e; omega))
      here := keep _ _ _ h.here (by decide) (by decide) (by decide) (by decide)
      xB := h.xB
      lB := h.lB
      mB := h.mB
      led := hl'
      rled := h.rled.kept hk (noQ (.inl rfl)) (fun g hg => noQ (.inr hg))
      lvB := fun g hg => by
        rcases Nat.lt_or_ge g W.heap.size with hlt | hge
        · exact h.smB hj (ho g hg hlt)
        · have := h.size; omega
      mvB := h.mvB
      dis := fun g hg hm => by
        obtain ⟨cs, hc⟩ := own_blk h.rled.own hm
        rcases ho g hg hc.lt with e | e | ⟨h1, e⟩
        · exact h.no_q (.inr hm) e
        · obtain ⟨c, hc'⟩ := (h.pc j hj).blk e
          exact absurd (blk_ty hc hc') (by decide)
        · obtain ⟨c, hc'⟩ := (h.pc j hj).cblk h1
          rw [← e] at hc'
          exact absurd (blk_ty hc hc') (by decide)
      pc := fun i hi => by
        by_cases e : i = j
        · subst e; rw [upd_at]; exact hp
        · rw [upd_ne _ _ _ _ e]
          refine (h.pc i hi).blks (fun g cs eg hg => hg.kept hk (fun hs => ?_)) (fun hdi cs hg => hg.kept hk (fun hs => ?_))
          · rcases hs with ⟨_, hs⟩ | hs | ⟨h1, hs⟩
            · exact led_apart h.led hg (by decide) (by decide) hs
            · exact h.pne i j g hi hj e eg hs
            · obtain ⟨c, hc⟩ := (h.pc j hj).cblk h1
              rw [← hs] at hc
              exact absurd (blk_ty hg hc) (by decide)
          · rcases hs with ⟨_, hs⟩ | hs | ⟨h1, hs⟩
            · exact led_apart h.led hg (by decide) (by decide) hs
            · obtain ⟨c, hc⟩ := (h.pc j hj).blk hs
              exact absurd (blk_ty hg hc) (by decide)
            · exact h.cne i j hi hj e hdi h1 hs
      qc := fun i hi => (h.qc i hi).blks (fun g cs _ hg => keep g cs _ hg (by decide) (by decide) (by decide) (by decide)) (fun g cs _ hg => keep g cs _ hg (by decide) (by decide) (by decide) (by decide))
      pB := h.pB
      cB := fun i hi hdi => by
        by_cases e : i = j
        · subst e; rw [upd_at] at hdi; exact h.cB i hi (hd hdi)
        · rw [upd_ne _ _ _ _ e] at hdi; exact h.cB i hi hdi
      qB := h.qB
      pne := h.pne
      cne := fun i i' hi hi' hne h1 h2 => by
        have f : ∀ x, upd D j d x ≠ none → D x ≠ none := fun x hx => by
          by_cases e : x = j
          · subst e; rw [upd_at] at hx; exact hd hx
          · rwa [upd_ne _ _ _ _ e] at hx
        exact h.cne i i' hi hi' hne (f _ h1) (f _ h2)
      qne := h.qne
      km := h.km
      exk := h.exk
      ex := h.exk _ _ keep.kz h.ex }
  cases mute with
  | true => exact ⟨lv, key lv L (h.led.kept hk (fun e => by rcases e with e | e; exact Bool.noConfusion e.1; exact noL (.inl rfl) e) (fun g hg e => by rcases e with e | e; exact Bool.noConfusion e.1; exact noL (.inr hg) e)) (fun g hg _ => .inl ⟨rfl, .inr hg⟩)⟩
  | false =>
    obtain ⟨_, lv', hl', ho⟩ := hl
    exact ⟨lv', key lv' L' hl' ho⟩
/-- Behind a call of the document's mac j. -/
theorem PSm.turnQ (h : PSm X w0 av xb lb mb lv mv tv wv cv rv cc D E L M W) (j : Nat) (hj : j < 2) (mute : Bool) (d : MD) (hl : RLG (SN mb mv (rv j) mute) W W' (lo mb mute) L') (hk : Kp (SN mb mv (rv j) mute) W W') (hq : QMm av W' (rv j) d) : ∃ mv', PSm X w0 av xb lb mb lv mv' tv wv cv rv cc D (upd E j d) L (sel mute M L') W' := by
  have keep : KeQ W W' := fun g cs t hg h1 h2 h3 => hg.kept hk (h.snN hj hg h1 h2 h3)
  have noP : ∀ {g}, (g = lb ∨ lv.ownBlock = some g) → ¬ SN mb mv (rv j) mute g := fun {g} hg hs => by
    rcases hs with hs | hs
    · exact h.no_p hg hs
    · obtain ⟨c, hc⟩ := (h.qc j hj).blk hs
      rcases hg with rfl | hg
      · exact absurd (blk_ty hc (show Blk W _ _ 48 from h.led.here)) (by decide)
      · obtain ⟨cs, hc'⟩ := own_blk h.led.own hg
        exact absurd (blk_ty hc hc') (by decide)
  have noM : ∀ {g}, (g = mb ∨ mv.ownBlock = some g) → ¬ (rv j = .pointer (some ⟨g, 0, none⟩)) := fun {g} hg hs => by
    obtain ⟨c, hc⟩ := (h.qc j hj).blk hs
    rcases hg with rfl | hg
    · exact absurd (blk_ty hc (show Blk W _ _ 50 from h.rled.here)) (by decide)
    · obtain ⟨cs, hc'⟩ := own_blk h.rled.own hg
      exact absurd (blk_ty hc hc') (by decide)
  have key : ∀ mv' L2, RLed W' mb mv' L2 → (∀ g, mv'.ownBlock = some g → g < W.heap.size → SN mb mv (rv j) false g) → PSm X w0 av xb lb mb lv mv' tv wv cv rv cc D (upd E j d) L L2 W' := fun mv' L2 hl' ho =>
    { h with
      bel := h.bel.trans (hk.below h.size (fun x hx e => by have := h.snB hj e; omega))
      here := keep _ _ _ h.here (by decide) (by decide) (by decide)
      led := h.led.kept hk (noP (.inl rfl)) (fun g hg => noP (.inr hg))
      rled := hl'
      mvB := fun g hg => by
        rcases Nat.lt_or_ge g W.heap.size with hlt | hge
        · exact h.snB hj (ho g hg hlt)
        · have := h.size; omega
      dis := fun g hg hm => by
        obtain ⟨cs, hc⟩ := own_blk h.led.own hg
        rcases ho g hm hc.lt with e | e
        · exact h.no_p (.inr hg) e
        · obtain ⟨c, hc'⟩ := (h.qc j hj).blk e
          exact absurd (blk_ty hc hc') (by decide)
      pc := fun i hi => (h.pc i hi).blks (fun g cs _ hg => keep g cs _ hg (by decide) (by decide) (by decide)) (fun _ cs hg => keep _ cs _ hg (by decide) (by decide) (by decide))
      qc := fun i hi => by
        by_cases e : i = j
        · subst e; rw [upd_at]; exact hq
        · rw [upd_ne _ _ _ _ e]
          refine (h.qc i hi).blks (fun g cs eg hg => hg.kept hk (fun hs => ?_)) (fun g cs _ hg => keep g cs _ hg (by decide) (by decide) (by decide))
          rcases hs with ⟨_, hs⟩ | hs
          · exact rled_apart h.rled hg (by decide) (by decide) hs
          · exact h.qne i j g hi hj e eg hs
      ex := h.exk _ _ keep.kz h.ex }
  cases mute with
  | true => exact ⟨mv, key mv M (h.rled.kept hk (fun e => by rcases e with e | e; exact Bool.noConfusion e.1; exact noM (.inl rfl) e) (fun g hg e => by rcases e with e | e; exact Bool.noConfusion e.1; exact noM (.inr hg) e)) (fun g hg _ => .inl ⟨rfl, .inr hg⟩)⟩
  | false =>
    obtain ⟨_, mv', hl', ho⟩ := hl
    exact ⟨mv', key mv' L' hl' ho⟩
end
end Go.Proofs.YtbgdjjfonmoemaaDoor.Vm
namespace Go.Proofs.YtbgdjjfonmoemaaDoor.Vm
open Go.ChangeShapes Go.WideShapes Go.ChangeAt Go.RowKit
open Go.Proofs.YtbgdjjfonmoemaaDoor.By Go.Proofs.YtbgdjjfonmoemaaDoor.Gf Go.Proofs.YtbgdjjfonmoemaaDoor.Ae
open Go.Proofs.YtbgdjjfonmoemaaDoor.Kc (own_kept own_mono own8_type)
def mdC : MD → Int
  | none => 1
  | some _ => 0
def mdW (q : Nat) (f : Nat → Nat) : MD → MD
  | none => none
  | some (k, key, n, m) => some (k, key, n + q, ct2 n m f)
def mdR : MD → MD
  | none => none
  | some (k, key, _, _) => some (k, key, 0, nought)
def mdN : MD → Nat
  | none => 0
  | some (_, _, n, _) => n
/-- The ledger behind a write, a sum, a wipe. -/
def evWr (L : List Rn) (q : Nat) : MD → List Rn
  | none => L
  | some (k, _, n, _) => evb k L (nbl (n + q) - nbl n)
def evS (L : List Rn) : MD → List Rn
  | none => L
  | some (k, _, _, _) => evb k L 1
def evWi (L : List Rn) : MD → List Rn
  | none => L
  | some (k, _, _, _) => putL L ⟨8, ((fml k : Nat) : Int), 1⟩
section
variable {X : World → Prop} {w0 W W' : World} {av : Nat → Prop} {xb lb mb : Nat} {lv mv tv wv : Value} {cv rv : Nat → Value} {cc : Nat → Nat} {D E : Nat → MD} {L M L' : List Rn}
theorem upd_same {α : Type} (f : Nat → α) (k : Nat) : upd f k (f k) = f := by
  funext i; unfold upd; split
  · rename_i h; rw [h]
  · rfl
theorem sel_same (mute : Bool) (L : List Rn) : sel mute L L = L := by cases mute <;> rfl
theorem PSm.keP (h : PSm X w0 av xb lb mb lv mv tv wv cv rv cc D E L M W) {j : Nat} (hj : j < 2) {mute : Bool} (hk : Kp (SM lb lv (cv j) (cc j) (D j) mute) W W') : KeP W W' := fun _ _ _ hg h1 h2 h3 h4 => hg.kept hk (h.smN hj hg h1 h2 h3 h4)
theorem PSm.keQ (h : PSm X w0 av xb lb mb lv mv tv wv cv rv cc D E L M W) {j : Nat} (hj : j < 2) {mute : Bool} (hk : Kp (SN mb mv (rv j) mute) W W') : KeQ W W' := fun _ _ _ hg h1 h2 h3 => hg.kept hk (h.snN hj hg h1 h2 h3)
theorem KeP.of_below {W W' : World} (h : Below W.heap.size W W') : KeP W W' := fun _ _ _ hg _ _ _ _ => hg.below h
theorem KeQ.of_below {W W' : World} (h : Below W.heap.size W W') : KeQ W W' := fun _ _ _ hg _ _ _ => hg.below h
theorem KeP.refl (W : World) : KeP W W := fun _ _ _ hg _ _ _ _ => hg
theorem KeQ.refl (W : World) : KeQ W W := fun _ _ _ hg _ _ _ => hg
theorem PSm.writeP (h : PSm X w0 av xb lb mb lv mv tv wv cv rv cc D E L M W) (j : Nat) (hj : j < 2) (mute : Bool) (q : Nat) (f : Nat → Nat) (hf : ∀ i, f i < 256) (hq : q ≤ 140737488355328) (a : Option Addr) (cap : Nat) (hrb : ∀ V, KeP W V → By.RB V (.slice a q cap) q (cb f)) (hp : Pos L) (hr : tot L ≤ 2305843009213693952 ∧ L.length ≤ 10000000) :
    Calls Tryd.prog 20 #[cv j, lpv (lo lb mute), .slice a q cap] W fun e w' => e = .returned (.int .i64 (mdC (D j))) ∧ (∃ lv', PSm X w0 av xb lb mb lv' mv tv wv cv rv cc (upd D j (mdW q f (D j))) E (sel mute L (evWr L q (D j))) M w') ∧ KeP W w' := by
  have hc := h.pc j hj
  rcases hd : D j with _ | ⟨k, key, n, m⟩
  · rw [hd] at hc
    refine (write_nm (cv j) _ _ W hc).mono ?_
    rintro e w' ⟨rfl, rfl⟩
    refine ⟨rfl, ⟨lv, ?_⟩, KeP.refl _⟩
    show PSm X w0 av xb lb mb lv mv tv wv cv rv cc (upd D j none) E (sel mute L L) M w'
    rw [sel_same, ← hd, upd_same]; exact h
  · rw [hd] at hc
    obtain ⟨g, ev, hm⟩ := hc
    have hS : SM lb lv (cv j) (cc j) (D j) mute g := .inr (.inl ev)
    have := write_mc (SM lb lv (cv j) (cc j) (D j) mute) W W (lo lb mute) L g (cc j) k n (rk k key) m hm (h.lg j mute) (Kp.refl _ _) hp hr h.kmW (h.s0 hj mute) (fun _ => hS) q f hf hq a cap (fun V hV _ => hrb V (h.keP hj hV))
    rw [← ev] at this
    refine this.mono ?_
    rintro e w' ⟨rfl, h1, h2, h3, -⟩
    obtain ⟨lv', hP⟩ := h.turnP j hj mute (some (k, key, n + q, ct2 n m f)) (fun _ => by rw [hd]; simp) h2 h3 ⟨g, ev, h1⟩
    exact ⟨rfl, ⟨lv', hP⟩, h.keP hj h3⟩
theorem PSm.writeQ (h : PSm X w0 av xb lb mb lv mv tv wv cv rv cc D E L M W) (j : Nat) (hj : j < 2) (mute : Bool) (q : Nat) (f : Nat → Nat) (a : Option Addr) (cap : Nat) (hrb : By.RB W (.slice a q cap) q (cb f)) (hav : ∀ x, av x → x < W.heap.size) (hn : mdN (E j) + q ≤ 100000000000000) (hr : tot M ≤ 2305843009213693952 ∧ M.length ≤ 10000000) :
    Calls Tryd.prog 21 #[rv j, lpv (lo mb mute), .slice a q cap] W fun e w' => e = .returned (.int .i64 (mdC (E j))) ∧ (∃ mv', PSm X w0 av xb lb mb lv mv' tv wv cv rv cc D (upd E j (mdW q f (E j))) L (sel mute M (evWr M q (E j))) w') ∧ KeQ W w' := by
  have hc := h.qc j hj
  rcases hd : E j with _ | ⟨k, key, n, m⟩
  · rw [hd] at hc
    refine (rwrite_rnm W (rv j) _ _ hc).mono ?_
    rintro e w' ⟨rfl, rfl⟩
    refine ⟨rfl, ⟨mv, ?_⟩, KeQ.refl _⟩
    show PSm X w0 av xb lb mb lv mv tv wv cv rv cc D (upd E j none) L (sel mute M M) w'
    rw [sel_same, ← hd, upd_same]; exact h
  · rw [hd] at hc hn
    obtain ⟨g, kv, mv0, ev, hm, ha1, ha2⟩ := hc
    have hS : SN mb mv (rv j) mute g := .inr ev
    have := rwrite_rm g k n key m kv mv0 W (SN mb mv (rv j) mute) W (lo mb mute) M hm q f a cap hrb hn (h.rlg j mute) (Kp.refl _ _) hr (fun _ => hS)
    rw [← ev] at this
    refine this.mono ?_
    rintro e w' ⟨mv', rfl, h1, hnb, h2, h3, -⟩
    obtain ⟨mv2, hP⟩ := h.turnQ j hj mute (some (k, key, n + q, ct2 n m f)) h2 h3 ⟨g, kv, mv', ev, h1, ha1, fun x hx hax => by have := hnb x hx; have := hav x hax; omega⟩
    exact ⟨rfl, ⟨mv2, hP⟩, h.keQ hj h3⟩
theorem PSm.resetP (h : PSm X w0 av xb lb mb lv mv tv wv cv rv cc D E L M W) (j : Nat) (hj : j < 2) :
    Calls Tryd.prog 25 #[cv j] W fun e w' => e = .returned (.int .i64 (mdC (D j))) ∧ (∃ lv', PSm X w0 av xb lb mb lv' mv tv wv cv rv cc (upd D j (mdR (D j))) E L M w') ∧ KeP W w' := by
  have hc := h.pc j hj
  rcases hd : D j with _ | ⟨k, key, n, m⟩
  · rw [hd] at hc
    refine (reset_nm (cv j) W hc).mono ?_
    rintro e w' ⟨rfl, rfl⟩
    refine ⟨rfl, ⟨lv, ?_⟩, KeP.refl _⟩
    show PSm X w0 av xb lb mb lv mv tv wv cv rv cc (upd D j none) E L M w'
    rw [← hd, upd_same]; exact h
  · rw [hd] at hc
    obtain ⟨g, ev, hm⟩ := hc
    have := reset_mc g (cc j) k n (rk k key) m W hm
    rw [← ev] at this
    refine this.mono ?_
    rintro e w' ⟨rfl, h1, h2⟩
    have h3 : Kp (SM lb lv (cv j) (cc j) (D j) true) W w' := h2.mono (fun x _ e => by have e' : x = g := e; rw [e']; exact .inr (.inl ev))
    obtain ⟨lv', hP⟩ := h.turnP (L' := L) j hj true (some (k, key, 0, nought)) (fun _ => by rw [hd]; simp) trivial h3 ⟨g, ev, h1⟩
    exact ⟨rfl, ⟨lv', hP⟩, h.keP hj h3⟩
theorem PSm.resetQ (h : PSm X w0 av xb lb mb lv mv tv wv cv rv cc D E L M W) (j : Nat) (hj : j < 2) :
    Calls Tryd.prog 26 #[rv j] W fun e w' => e = .returned (.int .i64 (mdC (E j))) ∧ (∃ mv', PSm X w0 av xb lb mb lv mv' tv wv cv rv cc D (upd E j (mdR (E j))) L M w') ∧ KeQ W w' := by
  have hc := h.qc j hj
  rcases hd : E j with _ | ⟨k, key, n, m⟩
  · rw [hd] at hc
    refine (rreset_rn W (rv j) hc).mono ?_
    rintro e w' ⟨rfl, rfl⟩
    refine ⟨rfl, ⟨mv, ?_⟩, KeQ.refl _⟩
    show PSm X w0 av xb lb mb lv mv tv wv cv rv cc D (upd E j none) L M w'
    rw [← hd, upd_same]; exact h
  · rw [hd] at hc
    obtain ⟨g, kv, mv0, ev, hm, ha1, ha2⟩ := hc
    have := rreset_rm g k n key m kv mv0 W hm
    rw [← ev] at this
    refine this.mono ?_
    rintro e w' ⟨rfl, h1, h2⟩
    have h3 : Kp (SN mb mv (rv j) true) W w' := h2.mono (fun x _ e => by have e' : x = g := e; rw [e']; exact .inr ev)
    obtain ⟨mv2, hP⟩ := h.turnQ (L' := M) j hj true (some (k, key, 0, nought)) trivial h3 ⟨g, kv, _, ev, h1, ha1, fun x hx => by simp [Value.ownBlock] at hx⟩
    exact ⟨rfl, ⟨mv2, hP⟩, h.keQ hj h3⟩
theorem PSm.wipeP (h : PSm X w0 av xb lb mb lv mv tv wv cv rv cc D E L M W) (j : Nat) (hj : j < 2) (mute : Bool) (hr : Room L) :
    Calls Tryd.prog 29 #[cv j, lpv (lo lb mute)] W fun e w' => e = .returned (.int .i64 (mdC (D j))) ∧ (∃ lv', PSm X w0 av xb lb mb lv' mv tv wv cv rv cc (upd D j none) E (sel mute L (evWi L (D j))) M w') ∧ KeP W w' := by
  have hc := h.pc j hj
  rcases hd : D j with _ | ⟨k, key, n, m⟩
  · rw [hd] at hc
    refine (wipe_nm (cv j) _ W hc).mono ?_
    rintro e w' ⟨rfl, rfl⟩
    refine ⟨rfl, ⟨lv, ?_⟩, KeP.refl _⟩
    show PSm X w0 av xb lb mb lv mv tv wv cv rv cc (upd D j none) E (sel mute L L) M w'
    rw [sel_same, ← hd, upd_same]; exact h
  · rw [hd] at hc
    obtain ⟨g, ev, hm⟩ := hc
    have := wipe_mc (SM lb lv (cv j) (cc j) (D j) mute) W W (lo lb mute) L g (cc j) k n (rk k key) m hm (h.lg j mute) (Kp.refl _ _) hr (fun _ => .inr (.inl ev)) (fun _ => .inr (.inr ⟨by rw [hd]; simp, rfl⟩))
    rw [← ev] at this
    refine this.mono ?_
    rintro e w' ⟨rfl, h1, h2, h3, -⟩
    obtain ⟨lv', hP⟩ := h.turnP j hj mute none (fun e => absurd rfl e) h2 h3 (.inr ⟨g, ev, h1⟩)
    exact ⟨rfl, ⟨lv', hP⟩, h.keP hj h3⟩
theorem PSm.wipeQ (h : PSm X w0 av xb lb mb lv mv tv wv cv rv cc D E L M W) (j : Nat) (hj : j < 2) (mute : Bool) (hn : mdN (E j) ≤ 100000000000000) (hr : Room M) :
    Calls Tryd.prog 30 #[rv j, lpv (lo mb mute)] W fun e w' => e = .returned (.int .i64 (mdC (E j))) ∧ (∃ mv', PSm X w0 av xb lb mb lv mv' tv wv cv rv cc D (upd E j none) L (sel mute M (evWi M (E j))) w') ∧ KeQ W w' := by
  have hc := h.qc j hj
  rcases hd : E j with _ | ⟨k, key, n, m⟩
  · rw [hd] at hc
    refine (rwipe_rnm W (rv j) _ hc).mono ?_
    rintro e w' ⟨rfl, rfl⟩
    refine ⟨rfl, ⟨mv, ?_⟩, KeQ.refl _⟩
    show PSm X w0 av xb lb mb lv mv tv wv cv rv cc D (upd E j none) L (sel mute M M) w'
    rw [sel_same, ← hd, upd_same]; exact h
  · rw [hd] at hc hn
    obtain ⟨g, kv, mv0, ev, hm, ha1, ha2⟩ := hc
    have hn' : n ≤ 140737488355999 := Nat.le_trans hn (by decide)
    have := rwipe_rm g k n key m kv mv0 W (SN mb mv (rv j) mute) W (lo mb mute) M hm hn' (h.rlg j mute) (Kp.refl _ _) hr (fun _ => .inr ev)
    rw [← ev] at this
    refine this.mono ?_
    rintro e w' ⟨rfl, h1, h2, h3, -⟩
    obtain ⟨mv2, hP⟩ := h.turnQ j hj mute none h2 h3 (.inr ⟨g, _, _, ev, h1⟩)
    exact ⟨rfl, ⟨mv2, hP⟩, h.keQ hj h3⟩
/-- What the program's tag is: none, or a block of sixteen bytes. -/
def TgP (B : Nat) (W : World) (v : Value) : MD → Prop
  | none => v = .slice none 0 0
  | some (k, key, n, m) => ∃ b, v = .slice (some ⟨b, 0, none⟩) 16 16 ∧ B ≤ b ∧ Blk W b (bl 16 (cb (tgn (rk k key) (k + 6) m n))) 82
def TgQ (B : Nat) (W : World) (v : Value) : MD → Prop
  | none => v = .slice none 0 0
  | some (k, key, n, m) => By.Own W B v 16 (cb (upto 16 (tgn (wds k key (3 * k + 28)) (k + 6) m n)))
theorem PSm.sumP (h : PSm X w0 av xb lb mb lv mv tv wv cv rv cc D E L M W) (j : Nat) (hj : j < 2) (mute : Bool) (hr : Room L) :
    Calls Tryd.prog 22 #[cv j, lpv (lo lb mute)] W fun e w' => ∃ v, e = .returned (.tuple #[v, .int .i64 (mdC (D j))]) ∧ TgP W.heap.size w' v (D j) ∧ (∃ lv', PSm X w0 av xb lb mb lv' mv tv wv cv rv cc D E (sel mute L (evS L (D j))) M w') ∧ KeP W w' := by
  have hc := h.pc j hj
  rcases hd : D j with _ | ⟨k, key, n, m⟩
  · rw [hd] at hc
    refine (sum_nm (cv j) _ W hc).mono ?_
    rintro e w' ⟨rfl, rfl⟩
    refine ⟨_, rfl, rfl, ⟨lv, ?_⟩, KeP.refl _⟩
    show PSm X w0 av xb lb mb lv mv tv wv cv rv cc D E (sel mute L L) M w'
    rw [sel_same]; exact h
  · rw [hd] at hc
    obtain ⟨g, ev, hm⟩ := hc
    have := sum_mc (SM lb lv (cv j) (cc j) (D j) mute) W W (lo lb mute) L g (cc j) k n (rk k key) m hm (h.lg j mute) (Kp.refl _ _) hr h.kmW (h.s0 hj mute)
    rw [← ev] at this
    refine this.mono ?_
    rintro e w' ⟨q, rfl, h1, hq, h2, h3, h4⟩
    obtain ⟨lv', hP⟩ := h.turnP j hj mute (some (k, key, n, m)) (fun _ => by rw [hd]; simp) h2 h3 ⟨g, ev, hm.kt h4⟩
    rw [← hd, upd_same] at hP
    exact ⟨_, rfl, ⟨q, rfl, hq, h1⟩, ⟨lv', hP⟩, h.keP hj h3⟩
theorem PSm.sumQ (h : PSm X w0 av xb lb mb lv mv tv wv cv rv cc D E L M W) (j : Nat) (hj : j < 2) (mute : Bool) (hn : mdN (E j) ≤ 100000000000000) (hr : tot M + 1 ≤ 9000000000000000000 ∧ M.length ≤ 10000000) :
    Calls Tryd.prog 23 #[rv j, lpv (lo mb mute)] W fun e w' => ∃ v, e = .returned (.tuple #[v, .int .i64 (mdC (E j))]) ∧ TgQ W.heap.size w' v (E j) ∧ (∃ mv', PSm X w0 av xb lb mb lv mv' tv wv cv rv cc D E L (sel mute M (evS M (E j))) w') ∧ KeQ W w' := by
  have hc := h.qc j hj
  rcases hd : E j with _ | ⟨k, key, n, m⟩
  · rw [hd] at hc
    refine (rsum_rn W (rv j) _ hc).mono ?_
    rintro e w' ⟨rfl, rfl⟩
    refine ⟨_, rfl, rfl, ⟨mv, ?_⟩, KeQ.refl _⟩
    show PSm X w0 av xb lb mb lv mv tv wv cv rv cc D E L (sel mute M M) w'
    rw [sel_same]; exact h
  · rw [hd] at hc hn
    obtain ⟨g, kv, mv0, ev, hm, ha1, ha2⟩ := hc
    have hn' : n ≤ 140737488355999 := Nat.le_trans hn (by decide)
    have := rsum_rm g k n key m kv mv0 W (SN mb mv (rv j) mute) W (lo mb mute) M hm hn' (h.rlg j mute) (Kp.refl _ _) hr
    rw [← ev] at this
    refine this.mono ?_
    rintro e w' ⟨v, rfl, ho, h2, h3, h4⟩
    obtain ⟨mv2, hP⟩ := h.turnQ j hj mute (some (k, key, n, m)) h2 h3 ⟨g, kv, mv0, ev, hm.ku h4, ha1, ha2⟩
    rw [← hd, upd_same] at hP
    exact ⟨v, rfl, ho, ⟨mv2, hP⟩, h.keQ hj h3⟩
def FmP (B : Nat) (W : World) (v : Value) : MD → Prop
  | none => v = .slice none 0 0
  | some (k, key, n, m) => By.Own W B v (fml k) (cb (fmf k (rk k key) n m))
def FmQ (B : Nat) (W : World) (v : Value) : MD → Prop
  | none => v = .slice none 0 0
  | some (k, key, n, m) => By.Own W B v (fml k) (cb (fmf k (wds k key (3 * k + 28)) n m))
theorem PSm.formP (h : PSm X w0 av xb lb mb lv mv tv wv cv rv cc D E L M W) (j : Nat) (hj : j < 2) :
    Calls Tryd.prog 31 #[cv j] W fun e w' => ∃ v, e = .returned v ∧ FmP W.heap.size w' v (D j) ∧ Below W.heap.size W w' := by
  have hc := h.pc j hj
  rcases hd : D j with _ | ⟨k, key, n, m⟩
  · rw [hd] at hc
    refine (form_nm (cv j) W hc).mono ?_
    rintro e w' ⟨rfl, rfl⟩
    exact ⟨_, rfl, rfl, Below.refl _ _⟩
  · rw [hd] at hc
    obtain ⟨g, ev, hm⟩ := hc
    rw [ev]
    exact form_mc g (cc j) k n (rk k key) m W hm
theorem PSm.formQ (h : PSm X w0 av xb lb mb lv mv tv wv cv rv cc D E L M W) (j : Nat) (hj : j < 2) (hn : mdN (E j) ≤ 100000000000000) :
    Calls Tryd.prog 32 #[rv j] W fun e w' => ∃ v, e = .returned v ∧ FmQ W.heap.size w' v (E j) ∧ Below W.heap.size W w' := by
  have hc := h.qc j hj
  rcases hd : E j with _ | ⟨k, key, n, m⟩
  · rw [hd] at hc
    refine (rform_rn W (rv j) hc).mono ?_
    rintro e w' ⟨rfl, rfl⟩
    exact ⟨_, rfl, rfl, Below.refl _ _⟩
  · rw [hd] at hc hn
    obtain ⟨g, kv, mv0, ev, hm, ha1, ha2⟩ := hc
    rw [ev]
    exact rform_rm g k n key m kv mv0 W hm (Nat.le_trans hn (by decide))
end
end Go.Proofs.YtbgdjjfonmoemaaDoor.Vm
namespace Go.Proofs.YtbgdjjfonmoemaaDoor.Vm
open Go.ChangeShapes Go.WideShapes Go.ChangeAt Go.RowKit
open Go.Proofs.YtbgdjjfonmoemaaDoor.By Go.Proofs.YtbgdjjfonmoemaaDoor.Gf Go.Proofs.YtbgdjjfonmoemaaDoor.Ae
open Go.Proofs.YtbgdjjfonmoemaaDoor.Kc (own_kept own_mono own8_type)
/-- A new mac of the program's, its cipher in block c. -/
def NwP (B : Nat) (W : World) (v : Value) (c : Nat) : MD → Prop
  | none => v = .pointer none
  | some (k, key, n, m) => ∃ g, v = .pointer (some ⟨g, 0, none⟩) ∧ B ≤ g ∧ B ≤ c ∧ Mc W g c k (rk k key) n m
/-- A new mac of the document's. -/
def NwQ (av : Nat → Prop) (B : Nat) (W : World) (v : Value) : MD → Prop
  | none => v = .pointer none
  | some (k, key, n, m) => ∃ g kv mv, v = .pointer (some ⟨g, 0, none⟩) ∧ B ≤ g ∧ Rm W g k n key m kv mv ∧ (∀ x, kv.ownBlock = some x → ¬ av x) ∧ ∀ x, mv.ownBlock = some x → ¬ av x
/-- What New makes of a key. -/
def newM (n : Nat) (key : Nat → Nat) : MD := if n = 16 ∨ n = 24 ∨ n = 32 then some (n / 4, key, 0, nought) else none
def mdE : MD → Int
  | none => 7
  | some _ => 0
def evNw (L : List Rn) : MD → List Rn
  | none => L
  | some (k, _, _, _) => evb k (putL L ⟨4, ((4 * k : Nat) : Int), 1⟩) 1
def evTg (L : List Rn) (q : Nat) : MD → List Rn
  | none => L
  | some (k, _, _, _) => evT k L q
/-- The message told. -/
def mdM (q : Nat) (f : Nat → Nat) : MD → MD
  | none => none
  | some (k, key, _, _) => some (k, key, q, f)
theorem newM_bad {n : Nat} {key : Nat → Nat} (h1 : n ≠ 16) (h2 : n ≠ 24) (h3 : n ≠ 32) : newM n key = none := if_neg (by omega)
theorem newM_ok {k : Nat} {key : Nat → Nat} (hk : k = 4 ∨ k = 6 ∨ k = 8) : newM (4 * k) key = some (k, key, 0, nought) := by
  unfold newM
  rw [if_pos (by omega), show 4 * k / 4 = k from by omega]
section
variable {X : World → Prop} {w0 W W' : World} {av : Nat → Prop} {xb lb mb : Nat} {lv mv tv wv : Value} {cv rv : Nat → Value} {cc : Nat → Nat} {D E : Nat → MD} {L M L' : List Rn}
theorem PSm.belP (h : PSm X w0 av xb lb mb lv mv tv wv cv rv cc D E L M W) {j : Nat} (hj : j < 2) {mute : Bool} (hk : Kp (SM lb lv (cv j) (cc j) (D j) mute) W W') : Below w0.heap.size w0 W' := h.bel.trans (hk.below h.size (fun x hx e => by have := h.smB hj e; omega))
theorem PSm.belQ (h : PSm X w0 av xb lb mb lv mv tv wv cv rv cc D E L M W) {j : Nat} (hj : j < 2) {mute : Bool} (hk : Kp (SN mb mv (rv j) mute) W W') : Below w0.heap.size w0 W' := h.bel.trans (hk.below h.size (fun x hx e => by have := h.snB hj e; omega))
theorem PSm.cloneP (h : PSm X w0 av xb lb mb lv mv tv wv cv rv cc D E L M W) (j : Nat) (hj : j < 2) :
    Calls Tryd.prog 27 #[cv j] W fun e w' => ∃ v c, e = .returned (.tuple #[v, .int .i64 (mdC (D j))]) ∧ NwP W.heap.size w' v c (D j) ∧ Below W.heap.size W w' := by
  have hc := h.pc j hj
  rcases hd : D j with _ | ⟨k, key, n, m⟩
  · rw [hd] at hc
    refine (clone_nm (cv j) W hc).mono ?_
    rintro e w' ⟨rfl, rfl⟩
    exact ⟨_, 0, rfl, rfl, Below.refl _ _⟩
  · rw [hd] at hc
    obtain ⟨g, ev, hm⟩ := hc
    rw [ev]
    refine (clone_mc g (cc j) k n (rk k key) m W hm).mono ?_
    rintro e w' ⟨g', c', rfl, h1, h2, h3, h4⟩
    exact ⟨_, c', rfl, ⟨g', rfl, h2, h3, h1⟩, h4⟩
theorem PSm.cloneQ (h : PSm X w0 av xb lb mb lv mv tv wv cv rv cc D E L M W) (j : Nat) (hj : j < 2) :
    Calls Tryd.prog 28 #[rv j] W fun e w' => ∃ v, e = .returned (.tuple #[v, .int .i64 (mdC (E j))]) ∧ NwQ av W.heap.size w' v (E j) ∧ Below W.heap.size W w' := by
  have hc := h.qc j hj
  rcases hd : E j with _ | ⟨k, key, n, m⟩
  · rw [hd] at hc
    refine (rclone_rnm W (rv j) hc).mono ?_
    rintro e w' ⟨rfl, rfl⟩
    exact ⟨_, rfl, rfl, Below.refl _ _⟩
  · rw [hd] at hc
    obtain ⟨g, kv, mv0, ev, hm, ha1, ha2⟩ := hc
    rw [ev]
    refine (rclone_rm g k n key m kv mv0 W hm).mono ?_
    rintro e w' ⟨rfl, h1, h2⟩
    exact ⟨_, rfl, ⟨_, kv, mv0, rfl, Nat.le_refl _, h1, ha1, ha2⟩, h2⟩
/-- Behind a call that turns a ledger alone. -/
theorem PSm.turnL (h : PSm X w0 av xb lb mb lv mv tv wv cv rv cc D E L M W) (mute : Bool) (hl : LG (SM lb lv (cv 0) (cc 0) (D 0) mute) W W' (lo lb mute) L') (hk : Kp (SM lb lv (cv 0) (cc 0) (D 0) mute) W W') (ht : Kt W W') : ∃ lv', PSm X w0 av xb lb mb lv' mv tv wv cv rv cc D E (sel mute L L') M W' := by
  have := h.turnP 0 (by decide) mute (D 0) id hl hk ((h.pc 0 (by decide)).blks (fun g cs _ hg => ht.2 g cs _ hg (by decide) (by decide)) (fun _ cs hg => ht.2 _ cs _ hg (by decide) (by decide)))
  rwa [upd_same] at this
theorem PSm.turnM (h : PSm X w0 av xb lb mb lv mv tv wv cv rv cc D E L M W) (mute : Bool) (hl : RLG (SN mb mv (rv 0) mute) W W' (lo mb mute) L') (hk : Kp (SN mb mv (rv 0) mute) W W') (ht : Ku W W') : ∃ mv', PSm X w0 av xb lb mb lv mv' tv wv cv rv cc D E L (sel mute M L') W' := by
  have := h.turnQ 0 (by decide) mute (E 0) hl hk ((h.qc 0 (by decide)).blks (fun g cs _ hg => ht.2 g cs _ hg (by decide) (by decide)) (fun g cs _ hg => ht.2 g cs _ hg (by decide) (by decide)))
  rwa [upd_same] at this
theorem PSm.newP (h : PSm X w0 av xb lb mb lv mv tv wv cv rv cc D E L M W) (mute : Bool) (n : Nat) (f : Nat → Nat) (a : Option Addr) (cap : Nat) (hrb : ∀ V, KeP W V → By.RB V (.slice a n cap) n (cb f)) (hp : Pos L) (hr : Big L) :
    Calls Tryd.prog 15 #[lpv (lo lb mute), .slice a n cap] W fun e w' => ∃ v c, e = .returned (.tuple #[v, .int .i64 (mdE (newM n f))]) ∧ NwP W.heap.size w' v c (newM n f) ∧ (∃ lv', PSm X w0 av xb lb mb lv' mv tv wv cv rv cc D E (sel mute L (evNw L (newM n f))) M w') ∧ KeP W w' := by
  rcases key_cases n with ⟨e1, e2, e3⟩ | ⟨k, hkk, rfl⟩
  · rw [newM_bad e1 e2 e3]
    refine (cnew_bad _ a n cap W e1 e2 e3).mono ?_
    rintro e w' ⟨rfl, hb⟩
    refine ⟨_, 0, rfl, rfl, ⟨lv, ?_⟩, KeP.of_below hb⟩
    show PSm X w0 av xb lb mb lv mv tv wv cv rv cc D E (sel mute L L) M w'
    rw [sel_same]; exact h.below hb
  · rw [newM_ok hkk]
    obtain ⟨kb, ko, rfl, hc, -⟩ := rb_cells (hrb W (KeP.refl _)) (by omega)
    have hf : ∀ i, f i < 256 := fun i => Int.ofNat_lt.1 ((hrb W (KeP.refl _)).1 i).2
    refine (cnew_ok (SM lb lv (cv 0) (cc 0) (D 0) mute) W W (lo lb mute) L k hkk f hf kb ko cap hc (h.lg 0 mute) (Kp.refl _ _) hr hp h.kmW (h.s0 (by decide) mute) (fun V hV _ i hi => ?_)).mono ?_
    · obtain ⟨b, o, e, _, hcell⟩ := rb_cells (hrb V (h.keP (by decide) hV)) (by omega)
      simp only [Option.some.injEq, Addr.mk.injEq, and_true] at e
      obtain ⟨rfl, rfl⟩ := e
      exact hcell i hi
    · rintro e w' ⟨g, gc, rfl, h1, h2, h3, h4, h5, h6⟩
      exact ⟨_, gc, rfl, ⟨g, rfl, h2, h3, h1⟩, h.turnL mute h4 h5 h6, h.keP (by decide) h5⟩
theorem PSm.newQ (h : PSm X w0 av xb lb mb lv mv tv wv cv rv cc D E L M W) (mute : Bool) (n : Nat) (f : Nat → Nat) (a : Option Addr) (cap : Nat) (hrb : By.RB W (.slice a n cap) n (cb f)) (hav : ∀ x, av x → x < W.heap.size) (hp : Pos M) (hr : tot M ≤ 2305843009213693952 ∧ M.length ≤ 9000000) :
    Calls Tryd.prog 16 #[lpv (lo mb mute), .slice a n cap] W fun e w' => ∃ v, e = .returned (.tuple #[v, .int .i64 (mdE (newM n f))]) ∧ NwQ av W.heap.size w' v (newM n f) ∧ (∃ mv', PSm X w0 av xb lb mb lv mv' tv wv cv rv cc D E L (sel mute M (evNw M (newM n f))) w') ∧ KeQ W w' := by
  rcases key_cases n with ⟨e1, e2, e3⟩ | ⟨k, hkk, rfl⟩
  · rw [newM_bad e1 e2 e3]
    refine (rcnew_bad _ a n cap W e1 e2 e3).mono ?_
    rintro e w' ⟨rfl, rfl⟩
    refine ⟨_, rfl, rfl, ⟨mv, ?_⟩, KeQ.refl _⟩
    show PSm X w0 av xb lb mb lv mv tv wv cv rv cc D E L (sel mute M M) w'
    rw [sel_same]; exact h
  · rw [newM_ok hkk]
    refine (rcnew_ok (SN mb mv (rv 0) mute) W W (lo mb mute) M k hkk f a cap hrb (h.rlg 0 mute) (Kp.refl _ _) hp hr).mono ?_
    rintro e w' ⟨g, kv, rfl, h1, h2, h3, h4, h5, h6⟩
    exact ⟨_, rfl, ⟨g, kv, _, rfl, h2, h1, fun x hx hax => by have := h3 x hx; have := hav x hax; omega, fun x hx => by simp [Value.ownBlock] at hx⟩, h.turnM mute h4 h5 h6, h.keQ (by decide) h5⟩
theorem PSm.tagP (h : PSm X w0 av xb lb mb lv mv tv wv cv rv cc D E L M W) (mute : Bool) (n : Nat) (key : Nat → Nat) (a : Option Addr) (cap : Nat) (hrk : ∀ V, Below w0.heap.size w0 V → By.RB V (.slice a n cap) n (cb key)) (q : Nat) (f : Nat → Nat) (pa : Option Addr) (pc : Nat) (hq : q ≤ 140737488355328) (hrb : ∀ V, KeP W V → By.RB V (.slice pa q pc) q (cb f)) (hp : Pos L) (hr : Low L) :
    Calls Tryd.prog 33 #[lpv (lo lb mute), .slice a n cap, .slice pa q pc] W fun e w' => ∃ v, e = .returned (.tuple #[v, .int .i64 (mdE (newM n key))]) ∧ TgP W.heap.size w' v (mdM q f (newM n key)) ∧ (∃ lv', PSm X w0 av xb lb mb lv' mv tv wv cv rv cc D E (sel mute L (evTg L q (newM n key))) M w') ∧ KeP W w' := by
  rcases key_cases n with ⟨e1, e2, e3⟩ | ⟨k, hkk, rfl⟩
  · rw [newM_bad e1 e2 e3]
    refine (tag_bad _ _ a n cap W e1 e2 e3).mono ?_
    rintro e w' ⟨rfl, hb⟩
    refine ⟨_, rfl, rfl, ⟨lv, ?_⟩, KeP.of_below hb⟩
    show PSm X w0 av xb lb mb lv mv tv wv cv rv cc D E (sel mute L L) M w'
    rw [sel_same]; exact h.below hb
  · rw [newM_ok hkk]
    obtain ⟨kb, ko, rfl, hc, -⟩ := rb_cells (hrk W h.bel) (by omega)
    have hkey : ∀ i, key i < 256 := fun i => Int.ofNat_lt.1 ((hrk W h.bel).1 i).2
    have hf : ∀ i, f i < 256 := fun i => Int.ofNat_lt.1 ((hrb W (KeP.refl _)).1 i).2
    refine (tag_ok (SM lb lv (cv 0) (cc 0) (D 0) mute) W W (lo lb mute) L k hkk key hkey kb ko cap hc (h.lg 0 mute) (Kp.refl _ _) hp hr h.kmW (h.s0 (by decide) mute) (fun V hV _ i hi => ?_) q f hf hq pa pc (fun V hV _ => hrb V (h.keP (by decide) hV))).mono ?_
    · obtain ⟨b, o, e, _, hcell⟩ := rb_cells (hrk V (h.belP (by decide) hV)) (by omega)
      simp only [Option.some.injEq, Addr.mk.injEq, and_true] at e
      obtain ⟨rfl, rfl⟩ := e
      exact hcell i hi
    · rintro e w' ⟨b, rfl, h1, h2, h4, h5, h6⟩
      exact ⟨_, rfl, ⟨b, rfl, h2, h1⟩, h.turnL mute h4 h5 h6, h.keP (by decide) h5⟩
theorem PSm.tagQ (h : PSm X w0 av xb lb mb lv mv tv wv cv rv cc D E L M W) (mute : Bool) (n : Nat) (key : Nat → Nat) (a : Option Addr) (cap : Nat) (hrk : By.RB W (.slice a n cap) n (cb key)) (q : Nat) (f : Nat → Nat) (pa : Option Addr) (pc : Nat) (hq : q ≤ 100000000) (hrb : ∀ V, Below w0.heap.size w0 V → By.RB V (.slice pa q pc) q (cb f)) (hp : Pos M) (hr : Low M) :
    Calls Tryd.prog 34 #[lpv (lo mb mute), .slice a n cap, .slice pa q pc] W fun e w' => ∃ v, e = .returned (.tuple #[v, .int .i64 (mdE (newM n key))]) ∧ TgQ W.heap.size w' v (mdM q f (newM n key)) ∧ (∃ mv', PSm X w0 av xb lb mb lv mv' tv wv cv rv cc D E L (sel mute M (evTg M q (newM n key))) w') ∧ KeQ W w' := by
  rcases key_cases n with ⟨e1, e2, e3⟩ | ⟨k, hkk, rfl⟩
  · rw [newM_bad e1 e2 e3]
    refine (rtag_bad W a cap _ _ n e1 e2 e3).mono ?_
    rintro e w' ⟨rfl, rfl⟩
    refine ⟨_, rfl, rfl, ⟨mv, ?_⟩, KeQ.refl _⟩
    show PSm X w0 av xb lb mb lv mv tv wv cv rv cc D E L (sel mute M M) w'
    rw [sel_same]; exact h
  · rw [newM_ok hkk]
    refine (rtag_ok (SN mb mv (rv 0) mute) W W (lo mb mute) M k hkk key a cap hrk q f pa pc (fun V hV _ => hrb V (h.belQ (by decide) hV)) hq (h.rlg 0 mute) (Kp.refl _ _) hp hr (by have := hr.2; omega)).mono ?_
    rintro e w' ⟨v, rfl, ho, h4, h5, h6⟩
    exact ⟨v, rfl, ho, h.turnM mute h4 h5 h6, h.keQ (by decide) h5⟩
end
end Go.Proofs.YtbgdjjfonmoemaaDoor.Vm
namespace Go.Proofs.YtbgdjjfonmoemaaDoor.Vm
open Go.ChangeShapes Go.WideShapes Go.ChangeAt Go.RowKit
open Go.Proofs.YtbgdjjfonmoemaaDoor.By Go.Proofs.YtbgdjjfonmoemaaDoor.Gf Go.Proofs.YtbgdjjfonmoemaaDoor.Ae
open Go.Proofs.YtbgdjjfonmoemaaDoor.Kc (own_kept own_mono own8_type)
section
variable {X : World → Prop} {w0 W W' : World} {av : Nat → Prop} {xb lb mb : Nat} {lv mv tv wv : Value} {cv rv : Nat → Value} {cc : Nat → Nat} {D E : Nat → MD} {L M L' : List Rn}
theorem pairM_c (cv rv : Nat → Value) (lb mb : Nat) (tv wv : Value) (k : Nat) (h : k < 2) : (pairM cv rv lb mb tv wv)[k]? = some (cv k) := by
  rcases (show k = 0 ∨ k = 1 by omega) with rfl | rfl <;> rfl
theorem pairM_r (cv rv : Nat → Value) (lb mb : Nat) (tv wv : Value) (k : Nat) (h : k < 2) : (pairM cv rv lb mb tv wv)[2 + k]? = some (rv k) := by
  rcases (show k = 0 ∨ k = 1 by omega) with rfl | rfl <;> rfl
theorem pairM_set (cv rv : Nat → Value) (lb mb : Nat) (tv wv x y : Value) (m : Nat) (hm : m < 2) : ((pairM cv rv lb mb tv wv).set m x).set (2 + m) y = pairM (upd cv m x) (upd rv m y) lb mb tv wv := by
  rcases (show m = 0 ∨ m = 1 by omega) with rfl | rfl <;> rfl
theorem PSm.slot (h : PSm X w0 av xb lb mb lv mv tv wv cv rv cc D E L M W) (m : Nat) (hm : m < 2) (x y : Value) (c : Nat) (d : MD) (hx : PMm W x c d) (hy : QMm av W y d)
    (hxB : ∀ g, x = .pointer (some ⟨g, 0, none⟩) → w0.heap.size ≤ g ∧ cv (1 - m) ≠ .pointer (some ⟨g, 0, none⟩)) (hcB : d ≠ none → w0.heap.size ≤ c ∧ (D (1 - m) ≠ none → cc (1 - m) ≠ c)) (hyB : ∀ g, y = .pointer (some ⟨g, 0, none⟩) → w0.heap.size ≤ g ∧ rv (1 - m) ≠ .pointer (some ⟨g, 0, none⟩)) :
    PSm X w0 av xb lb mb lv mv tv wv (upd cv m x) (upd rv m y) (upd cc m c) (upd D m d) (upd E m d) L M ((W.setCell ⟨xb, m, none⟩ x).setCell ⟨xb, 2 + m, none⟩ y) := by
  have hk : Kp (fun j => j = xb) W ((W.setCell ⟨xb, m, none⟩ x).setCell ⟨xb, 2 + m, none⟩ y) := (Kp.setCell xb m x).trans (Kp.setCell xb (2 + m) y) (fun _ _ e => e)
  have ne : ∀ {g cs t}, Blk W g cs t → t ≠ 36 → ¬ g = xb := fun hg ht e => by
    subst e
    exact ht (blk_ty hg h.here)
  have keep : ∀ g cs t, Blk W g cs t → t ≠ 36 → Blk ((W.setCell ⟨xb, m, none⟩ x).setCell ⟨xb, 2 + m, none⟩ y) g cs t := fun g cs t hg ht => hg.kept hk (ne hg ht)
  have kp : ∀ {v c d}, PMm W v c d → PMm ((W.setCell ⟨xb, m, none⟩ x).setCell ⟨xb, 2 + m, none⟩ y) v c d := fun hp => hp.blks (fun g cs _ hg => keep g cs _ hg (by decide)) (fun _ cs hg => keep _ cs _ hg (by decide))
  have kq : ∀ {v d}, QMm av W v d → QMm av ((W.setCell ⟨xb, m, none⟩ x).setCell ⟨xb, 2 + m, none⟩ y) v d := fun hp => hp.blks (fun g cs _ hg => keep g cs _ hg (by decide)) (fun g cs _ hg => keep g cs _ hg (by decide))
  have two : ∀ {i j : Nat}, i < 2 → j < 2 → i ≠ j → (i = m ∧ j = 1 - m) ∨ (i = 1 - m ∧ j = m) := fun hi hj hne => by omega
  have hm1 : 1 - m ≠ m := by omega
  exact
    { bel := h.bel.trans (hk.below h.size (fun j hj e => by have := h.xB; omega))
      here := by
        rw [← pairM_set cv rv lb mb tv wv x y m hm]
        exact (h.here.set m x).set (2 + m) y
      xB := h.xB
      lB := h.lB
      mB := h.mB
      led := h.led.kept hk (ne (show Blk W _ _ 48 from h.led.here) (by decide)) (fun g hg => by obtain ⟨cs, hc⟩ := own_blk h.led.own hg; exact ne hc (by decide))
      rled := h.rled.kept hk (ne (show Blk W _ _ 50 from h.rled.here) (by decide)) (fun g hg => by obtain ⟨cs, hc⟩ := own_blk h.rled.own hg; exact ne hc (by decide))
      lvB := h.lvB
      mvB := h.mvB
      dis := h.dis
      pc := fun j hj => by
        by_cases ej : j = m
        · subst ej; rw [upd_at, upd_at, upd_at]; exact kp hx
        · rw [upd_ne _ _ _ _ ej, upd_ne _ _ _ _ ej, upd_ne _ _ _ _ ej]; exact kp (h.pc j hj)
      qc := fun j hj => by
        by_cases ej : j = m
        · subst ej; rw [upd_at, upd_at]; exact kq hy
        · rw [upd_ne _ _ _ _ ej, upd_ne _ _ _ _ ej]; exact kq (h.qc j hj)
      pB := fun j hj g e => by
        by_cases ej : j = m
        · subst ej; rw [upd_at] at e; exact (hxB g e).1
        · rw [upd_ne _ _ _ _ ej] at e; exact h.pB j hj g e
      cB := fun j hj e => by
        by_cases ej : j = m
        · subst ej; rw [upd_at] at e ⊢; exact (hcB e).1
        · rw [upd_ne _ _ _ _ ej] at e ⊢; exact h.cB j hj e
      qB := fun j hj g e => by
        by_cases ej : j = m
        · subst ej; rw [upd_at] at e; exact (hyB g e).1
        · rw [upd_ne _ _ _ _ ej] at e; exact h.qB j hj g e
      pne := fun i j g hi hj hne e e' => by
        rcases two hi hj hne with ⟨rfl, rfl⟩ | ⟨rfl, rfl⟩
        · rw [upd_at] at e; rw [upd_ne _ _ _ _ hm1] at e'; exact (hxB g e).2 e'
        · rw [upd_ne _ _ _ _ hm1] at e; rw [upd_at] at e'; exact (hxB g e').2 e
      cne := fun i j hi hj hne e e' => by
        rcases two hi hj hne with ⟨rfl, rfl⟩ | ⟨rfl, rfl⟩
        · rw [upd_at] at e ⊢; rw [upd_ne _ _ _ _ hm1] at e' ⊢; exact fun q => (hcB e).2 e' q.symm
        · rw [upd_ne _ _ _ _ hm1] at e ⊢; rw [upd_at] at e' ⊢; exact (hcB e').2 e
      qne := fun i j g hi hj hne e e' => by
        rcases two hi hj hne with ⟨rfl, rfl⟩ | ⟨rfl, rfl⟩
        · rw [upd_at] at e; rw [upd_ne _ _ _ _ hm1] at e'; exact (hyB g e).2 e'
        · rw [upd_ne _ _ _ _ hm1] at e; rw [upd_at] at e'; exact (hyB g e').2 e
      km := h.km
      exk := h.exk
      ex := h.exk _ _ (fun g cs t hg ht => by rcases ht with rfl | rfl | rfl <;> exact keep _ _ _ hg (by decide)) h.ex }
/-- A lent list is written over. -/
theorem PSm.over (h : PSm X w0 av xb lb mb lv mv tv wv cv rv cc D E L M W) {g : Nat} (hav : av g) {cs : List Value} (hg : Blk W g cs 5) (hB : w0.heap.size ≤ g) (hk : Kp (fun j => j = g) W W') (hX : X W') : PSm X w0 av xb lb mb lv mv tv wv cv rv cc D E L M W' := by
  have ne : ∀ {x c t}, Blk W x c t → t ≠ 5 → ¬ (x = g) := fun hx ht e => by subst e; exact ht (blk_ty hx hg)
  have keep : ∀ x c t, Blk W x c t → t ≠ 5 → Blk W' x c t := fun x c t hx ht => hx.kept hk (ne hx ht)
  exact { h with
    bel := h.bel.trans (hk.below h.size (fun j hj e => by have e' : j = g := e; omega))
    here := keep _ _ _ h.here (by decide)
    led := h.led.kept hk (ne (show Blk W _ _ 48 from h.led.here) (by decide)) (fun g hg => by obtain ⟨cs, hc⟩ := own_blk h.led.own hg; exact ne hc (by decide))
    rled := h.rled.kept hk (ne (show Blk W _ _ 50 from h.rled.here) (by decide)) (fun g hg => by obtain ⟨cs, hc⟩ := own_blk h.rled.own hg; exact ne hc (by decide))
    pc := fun j hj => (h.pc j hj).blks (fun g cs _ hg => keep g cs _ hg (by decide)) (fun _ cs hg => keep _ cs _ hg (by decide))
    qc := fun j hj => (h.qc j hj).blks (fun g cs _ hg => keep g cs _ hg (by decide)) (fun x cs hne hx => hx.kept hk (fun e => hne (by have e' : x = g := e; rw [e']; exact hav)))
    ex := hX }
/-- The block that is not touched may be another, as long as it is younger than all lists. -/
theorem PSm.moved (h : PSm X w0 av xb lb mb lv mv tv wv cv rv cc D E L M W) (av' : Nat → Prop) (hav : ∀ x, av' x → av x ∨ W.heap.size ≤ x) : PSm X w0 av' xb lb mb lv mv tv wv cv rv cc D E L M W := by
  have hq : ∀ {v d}, QMm av W v d → QMm av' W v d := fun {v d} hq => by
    match d, hq with
    | none, hq => exact hq
    | some (k, key, n, m), ⟨g, kv, mv, e, hm, h1, h2⟩ =>
      have lt : ∀ {v : Value} {n : Nat} {f : Nat → Int}, (∀ x, v.ownBlock = some x → ¬ av x) → By.Own W 0 v n f → ∀ x, v.ownBlock = some x → ¬ av' x := fun {v n f} hn ho x e hx => by
        rcases hav x hx with h1 | h1
        · exact hn x e h1
        · obtain ⟨c, hc⟩ := own8_type ho e
          have := (Array.getElem?_eq_some_iff.1 hc).1
          omega
      exact ⟨g, kv, mv, e, hm, lt h1 hm.ko, lt h2 hm.mo⟩
  exact { h with qc := fun j hj => hq (h.qc j hj) }
end
end Go.Proofs.YtbgdjjfonmoemaaDoor.Vm
