/- Ledgers and lists of bytes as things that lie apart; each of naive's functions, of the program and of the document, among them. -/
import Derived.Test.YtpcnkiapbkmjbaaNrs
import Derived.Test.YtpcnkiapbkmjbaaNpw
import Derived.Test.YtpcnkiapbkmjbaaNbx
import Derived.Test.YtpcnkiapbkmjbaaTbk
namespace Go.Proofs.Ytpcnkiapbkmjbaa.Nv
open Go.ChangeShapes Go.WideShapes Go.ChangeAt Go.RowKit
open Go.Proofs.Ytpcnkiapbkmjbaa Go.Proofs.Ytpcnkiapbkmjbaa.Tb
/-- The program's ledger as a thing. -/
def tL (lb : Nat) (rv : Value) (L : List Rn) : Th where
  F j := j = lb ∨ rv.ownBlock = some j
  P W := Led W lb rv L
  keep h hk hn := h.kept hk (hn _ (.inl rfl)) (fun g hg => hn g (.inr hg))
  lt h j hj := hj.elim (fun e => by rw [e]; exact h.lt) (fun e => (h.own.lt j e).2)
/-- The document's ledger as a thing. -/
def tR (lb : Nat) (rv : Value) (L : List Rn) : Th where
  F j := j = lb ∨ rv.ownBlock = some j
  P W := RLed W lb rv L
  keep h hk hn := h.kept hk (hn _ (.inl rfl)) (fun g hg => hn g (.inr hg))
  lt h j hj := hj.elim (fun e => by rw [e]; exact h.lt) (fun e => (h.own.lt j e).2)
/-- A list of bytes as a thing. -/
def tB (v : Value) (n : Nat) (f : Nat → Int) : Th where
  F j := v.ownBlock = some j
  P W := By.Own W 0 v n f
  keep h hk hn := own_keptK h hk (fun g hg => hn g hg)
  lt h j hj := (h.2.lt j hj).2
theorem own_mono {w : World} {base base' : Nat} {v : Value} {n : Nat} {f : Nat → Int} (h : By.Own w base v n f) (hb : base' ≤ base) : By.Own w base' v n f := by
  refine ⟨h.1, h.2.1, ?_⟩
  rcases h.2.2 with hn | ⟨g, cap, cur, rfl, hbg, hr⟩
  · exact .inl hn
  · exact .inr ⟨g, cap, cur, rfl, Nat.le_trans hb hbg, hr⟩
theorem rb_kept {S : Nat → Prop} {w w' : World} {v : Value} {n : Nat} {f : Nat → Int} (h : By.RB w v n f) (hk : Kp S w w') (hn : ∀ b off cap, v = .slice (some ⟨b, off, none⟩) n cap → n = 0 ∨ ¬ S b) : By.RB w' v n f := by
  obtain ⟨h0, a, cap, rfl, h1, h2, hc⟩ := h
  refine ⟨h0, a, cap, rfl, h1, h2, ?_⟩
  rcases hc with hc | ⟨b, off, rfl, hc⟩
  · exact .inl hc
  · refine .inr ⟨b, off, rfl, fun i hi => ?_⟩
    have hb := hn b off cap rfl
    rcases hb with hb | hb
    · omega
    · have c := hc i hi
      unfold World.cell? at c ⊢
      cases e : w.heap[b]? with
      | none => rw [e] at c; simp at c
      | some o => rw [hk.block b (Array.getElem?_eq_some_iff.1 e).1 hb, e]; rw [e] at c; exact c
/-- A list that is read while the thing k is turned. -/
def Rd (t : Nat → Th) (k : Nat) (W : World) (v : Value) (n : Nat) (f : Nat → Int) : Prop := By.RB W v n f ∧ ∀ b off cap, v = .slice (some ⟨b, off, none⟩) n cap → n = 0 ∨ ¬ (t k).F b
section
variable {w0 W W' : World} {B : Nat} {t : Nat → Th} {i j k m : Nat} {L M : List Rn} {v : Value} {n : Nat} {f : Nat → Int}
/-- All but one number stay. -/
def But (t t' : Nat → Th) (i : Nat) : Prop := ∀ m, m ≠ i → t' m = t m
/-- A list of the world at the start. -/
theorem rd_arg (hG : GX w0 B t W) (hB : B = w0.heap.size) (h : By.RB w0 v n f) (k : Nat) : Rd t k W v n f := by
  refine ⟨h.below (hB ▸ hG.bel), fun b off cap e => ?_⟩
  by_cases hn : n = 0
  · exact .inl hn
  · refine .inr fun hf => ?_
    have h1 := h.lt e (by omega)
    have h2 := hG.lo k b hf
    omega
/-- A list in memory that is new. -/
theorem rd_new (hG : GX w0 B t W) (h : By.RB W' v n f) (hn : ∀ b off cap, v = .slice (some ⟨b, off, none⟩) n cap → W.heap.size ≤ b) (k : Nat) : Rd t k W' v n f :=
  ⟨h, fun b off cap e => .inr fun hf => by have := (t k).lt (hG.all k) b hf; have := hn b off cap e; omega⟩
/-- A list among the things. -/
theorem rd_own (hG : GX w0 B t W) (h : t i = tB v n f) (hik : i ≠ k) : Rd t k W v n f := by
  have hp := hG.all i
  have ha := hG.ap i k hik
  rw [h] at hp ha
  exact ⟨By.Own.reads hp, fun b off cap e => .inr (ha b (by rw [e]; rfl))⟩
/-- The program's ledger at the number k. -/
def LgP (t : Nat → Th) (k lb : Nat) (L : List Rn) : Prop := ∃ rv, t k = tL lb rv L
def LgR (t : Nat → Th) (k lb : Nat) (L : List Rn) : Prop := ∃ rv, t k = tR lb rv L
theorem gx_st (hG : GX w0 B t W) {lb : Nat} {rv : Value} (hk : t k = tL lb rv L) (hs : ST W (some lb) rv W' M) : ∃ t', GX w0 B t' W' ∧ LgP t' k lb M ∧ But t t' k := by
  obtain ⟨rv', h1, h2, h3⟩ := hs
  refine ⟨_, hG.one k (tL lb rv' M) h2 (fun j hs _ => by rw [hk]; exact hs) h1.2 (fun j hj => ?_), ⟨rv', up_at _ _ _⟩, fun m hm => up_ne _ _ hm⟩
  rw [hk]
  rcases hj with e | e
  · exact .inl (.inl e)
  · rcases h3 with q | q
    · exact .inl (.inr (by rw [← q]; exact e))
    · exact .inr (q j e)
theorem gx_rst (hG : GX w0 B t W) {lb : Nat} {rv : Value} (hk : t k = tR lb rv L) (hs : RST W (some lb) rv W' M) : ∃ t', GX w0 B t' W' ∧ LgR t' k lb M ∧ But t t' k := by
  obtain ⟨rv', h1, h2, h3⟩ := hs
  refine ⟨_, hG.one k (tR lb rv' M) h2 (fun j hs _ => by rw [hk]; exact hs) h1.2 (fun j hj => ?_), ⟨rv', up_at _ _ _⟩, fun m hm => up_ne _ _ hm⟩
  rw [hk]
  rcases hj with e | e
  · exact .inl (.inl e)
  · rcases h3 with q | q
    · exact .inl (.inr (by rw [← q]; exact e))
    · exact .inr (q j e)
theorem gx_own (hG : GX w0 B t W) (hb : Below W.heap.size W W') (ho : By.Own W' W.heap.size v n f) (i : Nat) : ∃ t', GX w0 B t' W' ∧ t' i = tB v n f ∧ But t t' i :=
  ⟨_, hG.one i (tB v n f) (Kp.of_below (fun _ => False) hb) (fun _ e => e.elim) (own_mono ho (Nat.zero_le _)) (fun j hj => .inr (ho.2.lt j hj).1), up_at _ _ _, fun _ h1 => up_ne _ _ h1⟩
end
/-- A step from no ledger turns nothing. -/
theorem st_none {w w' : World} {rv : Value} {M : List Rn} (h : ST w none rv w' M) : Below w.heap.size w w' := by
  have := h.kp
  exact this.below (Nat.le_refl _) (fun _ _ e => e)
theorem rst_none {w w' : World} {rv : Value} {M : List Rn} (h : RST w none rv w' M) : Below w.heap.size w w' := by
  have := h.kp
  exact this.below (Nat.le_refl _) (fun _ _ e => e)
theorem pl_none (w : World) (rv : Value) : PL w none rv [] := ⟨fun _ h => absurd h List.not_mem_nil, trivial⟩
theorem rpl_none (w : World) (rv : Value) : RPL w none rv [] := ⟨fun _ h => absurd h List.not_mem_nil, trivial⟩
end Go.Proofs.Ytpcnkiapbkmjbaa.Nv
