/- All that both sides hold while SlotPlays plays. -/
import Derived.Test.YthoklddoeoedgaaSpl0
namespace Go.Proofs.Ythoklddoeoedgaa.Sl
open Go.ChangeShapes Go.WideShapes Go.ChangeAt Go.RowKit
open Go.Proofs.Ythoklddoeoedgaa.By
def upd {α : Type} (x : Nat → α) (k : Nat) (z : α) : Nat → α := fun i => if i = k then z else x i
theorem upd_at {α : Type} (x : Nat → α) (k : Nat) (z : α) : upd x k z k = z := if_pos rfl
theorem upd_ne {α : Type} (x : Nat → α) {k i : Nat} (z : α) (h : i ≠ k) : upd x k z i = x i := if_neg h
/-- Four pointers. -/
def four (p : Nat → Value) : List Value := [p 0, p 1, p 2, p 3]
theorem four_get (p : Nat → Value) (k : Nat) (h : k < 4) : (four p)[k]? = some (p k) := by
  match k, h with
  | 0, _ => rfl
  | 1, _ => rfl
  | 2, _ => rfl
  | 3, _ => rfl
structure PS (w : World) (lb mb sb rb : Nat) (sp rp : Nat → Value) (tv wv : Value) (x y : Nat → Kd) (bv : Nat → Value) (L M : List Rn) (n n' : Nat) (ev ew : Nat → Value) (en : Nat → Nat) (ef : Nat → Nat → Int) (t : Nat → Th) (W : World) : Prop where
  G : GX w w.heap.size t W
  l : Lg t 0 (some lb) L
  m : Rg t 1 mb M
  s : t 2 = tC sb (four sp) 27
  r : t 3 = tC rb (four rp) 34
  ms : ∀ k, k < 4 → t (4 + k) = tM (sp k) (x k)
  rs : ∀ k, k < 4 → t (8 + k) = tD (rp k) (bv k) (y k)
  told : t 12 = tW tv n ev
  want : t 13 = tW wv n' ew
  te : ∀ j, j < n → t (20 + 2 * j) = tB (ev j) (en j) (ef j)
  we : ∀ j, j < n' → t (21 + 2 * j) = tB (ew j) (en j) (ef j)
  le : ∀ j, j < n → en j ≤ 1024
section
variable {w W W' : World} {lb mb sb rb : Nat} {sp rp : Nat → Value} {tv wv : Value} {x y : Nat → Kd} {bv : Nat → Value} {L M : List Rn} {n n' : Nat} {ev ew : Nat → Value} {en : Nat → Nat} {ef : Nat → Nat → Int} {t t' : Nat → Th}
theorem PS.cs (h : PS w lb mb sb rb sp rp tv wv x y bv L M n n' ev ew en ef t W) {k : Nat} (hk : k < 4) : W.cell? ⟨sb, k, none⟩ = some (sp k) := (h.G.blk h.s).cell k _ (four_get sp k hk)
theorem PS.cr (h : PS w lb mb sb rb sp rp tv wv x y bv L M n n' ev ew en ef t W) {k : Nat} (hk : k < 4) : W.cell? ⟨rb, k, none⟩ = some (rp k) := (h.G.blk h.r).cell k _ (four_get rp k hk)
/-- Numbers that are not in use are turned. -/
theorem PS.free (h : PS w lb mb sb rb sp rp tv wv x y bv L M n n' ev ew en ef t W) (hG : GX w w.heap.size t' W') (hB : ∀ m, m < 14 ∨ (∃ j, j < n ∧ m = 20 + 2 * j) ∨ (∃ j, j < n' ∧ m = 21 + 2 * j) → t' m = t m) : PS w lb mb sb rb sp rp tv wv x y bv L M n n' ev ew en ef t' W' :=
  ⟨hG, h.l.keep (hB 0 (.inl (by omega))), h.m.keep (hB 1 (.inl (by omega))), (hB 2 (.inl (by omega))).trans h.s, (hB 3 (.inl (by omega))).trans h.r, fun k hk => (hB _ (.inl (by omega))).trans (h.ms k hk), fun k hk => (hB _ (.inl (by omega))).trans (h.rs k hk), (hB 12 (.inl (by omega))).trans h.told, (hB 13 (.inl (by omega))).trans h.want, fun j hj => (hB _ (.inr (.inl ⟨j, hj, rfl⟩))).trans (h.te j hj), fun j hj => (hB _ (.inr (.inr ⟨j, hj, rfl⟩))).trans (h.we j hj), h.le⟩
theorem PS.below (h : PS w lb mb sb rb sp rp tv wv x y bv L M n n' ev ew en ef t W) (hb : Below W.heap.size W W') : PS w lb mb sb rb sp rp tv wv x y bv L M n n' ev ew en ef t W' := h.free (h.G.below hb) (fun _ _ => rfl)
/-- A scratch number is turned. -/
theorem PS.scr (h : PS w lb mb sb rb sp rp tv wv x y bv L M n n' ev ew en ef t W) {i : Nat} (hi : 14 ≤ i ∧ i < 20) (hG : GX w w.heap.size t' W') (hB : But t t' i i) : PS w lb mb sb rb sp rp tv wv x y bv L M n n' ev ew en ef t' W' :=
  h.free hG (fun m hm => by
    have : m ≠ i := by rcases hm with e | ⟨j, _, e⟩ | ⟨j, _, e⟩ <;> omega
    exact hB m this this)
/-- A memory of the program and its ledger are turned. -/
theorem PS.prog (h : PS w lb mb sb rb sp rp tv wv x y bv L M n n' ev ew en ef t W) {k : Nat} (hk : k < 4) {z : Kd} {L' : List Rn} (hG : GX w w.heap.size t' W') (h1 : t' (4 + k) = tM (sp k) z) (h2 : Lg t' 0 (some lb) L') (hB : But t t' (4 + k) 0) : PS w lb mb sb rb sp rp tv wv (upd x k z) y bv L' M n n' ev ew en ef t' W' :=
  ⟨hG, h2, h.m.keep (hB 1 (by omega) (by omega)), (hB 2 (by omega) (by omega)).trans h.s, (hB 3 (by omega) (by omega)).trans h.r, fun i hi => by
    by_cases e : i = k
    · subst e; rw [upd_at]; exact h1
    · rw [upd_ne _ _ e]; exact (hB _ (by omega) (by omega)).trans (h.ms i hi), fun i hi => (hB _ (by omega) (by omega)).trans (h.rs i hi), (hB 12 (by omega) (by omega)).trans h.told, (hB 13 (by omega) (by omega)).trans h.want, fun j hj => (hB _ (by omega) (by omega)).trans (h.te j hj), fun j hj => (hB _ (by omega) (by omega)).trans (h.we j hj), h.le⟩
/-- A memory of the document's and its ledger are turned. -/
theorem PS.docm (h : PS w lb mb sb rb sp rp tv wv x y bv L M n n' ev ew en ef t W) {k : Nat} (hk : k < 4) {z : Kd} {b' : Value} {M' : List Rn} (hG : GX w w.heap.size t' W') (h1 : t' (8 + k) = tD (rp k) b' z) (h2 : Rg t' 1 mb M') (hB : But t t' (8 + k) 1) : PS w lb mb sb rb sp rp tv wv x (upd y k z) (upd bv k b') L M' n n' ev ew en ef t' W' :=
  ⟨hG, h.l.keep (hB 0 (by omega) (by omega)), h2, (hB 2 (by omega) (by omega)).trans h.s, (hB 3 (by omega) (by omega)).trans h.r, fun i hi => (hB _ (by omega) (by omega)).trans (h.ms i hi), fun i hi => by
    by_cases e : i = k
    · subst e; rw [upd_at, upd_at]; exact h1
    · rw [upd_ne _ _ e, upd_ne _ _ e]; exact (hB _ (by omega) (by omega)).trans (h.rs i hi), (hB 12 (by omega) (by omega)).trans h.told, (hB 13 (by omega) (by omega)).trans h.want, fun j hj => (hB _ (by omega) (by omega)).trans (h.te j hj), fun j hj => (hB _ (by omega) (by omega)).trans (h.we j hj), h.le⟩
/-- The program's ledger is turned; the document's. -/
theorem PS.led (h : PS w lb mb sb rb sp rp tv wv x y bv L M n n' ev ew en ef t W) {L' : List Rn} (hG : GX w w.heap.size t' W') (h2 : Lg t' 0 (some lb) L') (hB : But t t' 0 0) : PS w lb mb sb rb sp rp tv wv x y bv L' M n n' ev ew en ef t' W' :=
  ⟨hG, h2, h.m.keep (hB 1 (by omega) (by omega)), (hB 2 (by omega) (by omega)).trans h.s, (hB 3 (by omega) (by omega)).trans h.r, fun i hi => (hB _ (by omega) (by omega)).trans (h.ms i hi), fun i hi => (hB _ (by omega) (by omega)).trans (h.rs i hi), (hB 12 (by omega) (by omega)).trans h.told, (hB 13 (by omega) (by omega)).trans h.want, fun j hj => (hB _ (by omega) (by omega)).trans (h.te j hj), fun j hj => (hB _ (by omega) (by omega)).trans (h.we j hj), h.le⟩
theorem PS.rled (h : PS w lb mb sb rb sp rp tv wv x y bv L M n n' ev ew en ef t W) {M' : List Rn} (hG : GX w w.heap.size t' W') (h2 : Rg t' 1 mb M') (hB : But t t' 1 1) : PS w lb mb sb rb sp rp tv wv x y bv L M' n n' ev ew en ef t' W' :=
  ⟨hG, h.l.keep (hB 0 (by omega) (by omega)), h2, (hB 2 (by omega) (by omega)).trans h.s, (hB 3 (by omega) (by omega)).trans h.r, fun i hi => (hB _ (by omega) (by omega)).trans (h.ms i hi), fun i hi => (hB _ (by omega) (by omega)).trans (h.rs i hi), (hB 12 (by omega) (by omega)).trans h.told, (hB 13 (by omega) (by omega)).trans h.want, fun j hj => (hB _ (by omega) (by omega)).trans (h.te j hj), fun j hj => (hB _ (by omega) (by omega)).trans (h.we j hj), h.le⟩
/-- A list is told. -/
theorem PS.tell (h : PS w lb mb sb rb sp rp tv wv x y bv L M n n' ev ew en ef t W) (hnn : n = n') {v u : Value} {c : Nat} {f : Nat → Int} (h1 : t (20 + 2 * n) = tB v c f) (hc : c ≤ 1024) (ho : W'.ownsRow 0 36 1 u (n + 1) (vals n ev ++ [v])) (hk : Kp (fun k => tv.ownBlock = some k) W W') (hs : SameOrNew W tv u) :
    PS w lb mb sb rb sp rp u wv x y bv L M (n + 1) n' (upd ev n v) ew (upd en n c) (upd ef n f) (up t 12 (tW u (n + 1) (upd ev n v))) W' := by
  subst hnn
  have hG := h.G.one 12 (tW u (n + 1) (upd ev n v)) hk (fun j hj _ => by rw [h.told]; exact hj) (by show World.ownsRow _ _ _ _ _ _ _; rw [vals_snoc] at ho; exact ho) (fun j hj => by rw [h.told]; exact same_or_new hs hj)
  have hB : ∀ m, m ≠ 12 → up t 12 (tW u (n + 1) (upd ev n v)) m = t m := fun m hm => up_ne _ _ hm
  refine ⟨hG, h.l.keep (hB 0 (by omega)), h.m.keep (hB 1 (by omega)), (hB 2 (by omega)).trans h.s, (hB 3 (by omega)).trans h.r, fun i hi => (hB _ (by omega)).trans (h.ms i hi), fun i hi => (hB _ (by omega)).trans (h.rs i hi), up_at _ _ _, (hB 13 (by omega)).trans h.want, fun j hj => ?_, fun j hj => ?_, fun j hj => ?_⟩
  · refine (hB _ (by omega)).trans ?_
    by_cases e : j = n
    · subst e; rw [upd_at, upd_at, upd_at]; exact h1
    · rw [upd_ne _ _ e, upd_ne _ _ e, upd_ne _ _ e]; exact h.te j (by omega)
  · refine (hB _ (by omega)).trans ?_
    rw [upd_ne _ _ (by omega), upd_ne _ _ (by omega)]; exact h.we j hj
  · by_cases e : j = n
    · subst e; rw [upd_at]; exact hc
    · rw [upd_ne _ _ e]; exact h.le j (by omega)
/-- The document's list is told. -/
theorem PS.rtell (h : PS w lb mb sb rb sp rp tv wv x y bv L M (n' + 1) n' ev ew en ef t W) {v u : Value} (h1 : t (21 + 2 * n') = tB v (en n') (ef n')) (ho : W'.ownsRow 0 36 1 u (n' + 1) (vals n' ew ++ [v])) (hk : Kp (fun k => wv.ownBlock = some k) W W') (hs : SameOrNew W wv u) :
    PS w lb mb sb rb sp rp tv u x y bv L M (n' + 1) (n' + 1) ev (upd ew n' v) en ef (up t 13 (tW u (n' + 1) (upd ew n' v))) W' := by
  have hG := h.G.one 13 (tW u (n' + 1) (upd ew n' v)) hk (fun j hj _ => by rw [h.want]; exact hj) (by show World.ownsRow _ _ _ _ _ _ _; rw [vals_snoc] at ho; exact ho) (fun j hj => by rw [h.want]; exact same_or_new hs hj)
  have hB : ∀ m, m ≠ 13 → up t 13 (tW u (n' + 1) (upd ew n' v)) m = t m := fun m hm => up_ne _ _ hm
  refine ⟨hG, h.l.keep (hB 0 (by omega)), h.m.keep (hB 1 (by omega)), (hB 2 (by omega)).trans h.s, (hB 3 (by omega)).trans h.r, fun i hi => (hB _ (by omega)).trans (h.ms i hi), fun i hi => (hB _ (by omega)).trans (h.rs i hi), (hB 12 (by omega)).trans h.told, up_at _ _ _, fun j hj => (hB _ (by omega)).trans (h.te j hj), fun j hj => ?_, h.le⟩
  refine (hB _ (by omega)).trans ?_
  by_cases e : j = n'
  · subst e; rw [upd_at]; exact h1
  · rw [upd_ne _ _ e]; exact h.we j (by omega)
end
theorem PS.pos {w W : World} {lb mb sb rb : Nat} {sp rp : Nat → Value} {tv wv : Value} {x y : Nat → Kd} {bv : Nat → Value} {L M : List Rn} {n n' : Nat} {ev ew : Nat → Value} {en : Nat → Nat} {ef : Nat → Nat → Int} {t : Nat → Th} (h : PS w lb mb sb rb sp rp tv wv x y bv L M n n' ev ew en ef t W) : Pos L := by
  obtain ⟨rv, e⟩ := h.l
  have hp := h.G.all 0
  rw [e] at hp
  exact Led.pos hp
theorem wl_tot {L : List Rn} (x : Kd) (h : Pos L) (hb : tot L + 1 ≤ 9223372036854775807) : tot (wl x L) ≤ tot L + 1 ∧ (wl x L).length ≤ (tot L + 1).toNat := by
  cases x with
  | none =>
    have := tot_pos h
    exact ⟨by show tot L ≤ _; omega, by show L.length ≤ _; omega⟩
  | some z =>
    have e := tot_put (r := ⟨8, 1024, 1⟩) h (by decide) hb
    have := tot_pos (putL_pos (r := ⟨8, 1024, 1⟩) h)
    exact ⟨by show tot (putL L ⟨8, 1024, 1⟩) ≤ _; rw [e]; exact Int.le_refl _, by show (putL L ⟨8, 1024, 1⟩).length ≤ _; rw [e] at this; show _ ≤ (tot L + 1).toNat; have h2 : (⟨8, 1024, 1⟩ : Rn).c = 1 := rfl; rw [h2] at this; omega⟩
theorem sl_tot {L : List Rn} (x y : Kd) (h : Pos L) (hb : tot L + 1 ≤ 9223372036854775807) : tot (sl x y L) ≤ tot L + 1 ∧ (sl x y L).length ≤ (tot L + 1).toNat := by
  have no : tot L ≤ tot L + 1 ∧ L.length ≤ (tot L + 1).toNat := by have := tot_pos h; omega
  cases x with
  | none => exact no
  | some z =>
    cases y with
    | none => exact no
    | some z' =>
      have e := tot_put (r := ⟨6, 1024, 1⟩) h (by decide) hb
      have := tot_pos (putL_pos (r := ⟨6, 1024, 1⟩) h)
      exact ⟨by show tot (putL L ⟨6, 1024, 1⟩) ≤ _; rw [e]; exact Int.le_refl _, by show (putL L ⟨6, 1024, 1⟩).length ≤ _; rw [e] at this; have h2 : (⟨6, 1024, 1⟩ : Rn).c = 1 := rfl; rw [h2] at this; omega⟩
/-- Between two steps: both sides hold the same; at most T things were told and recorded. -/
def PT (w : World) (lb mb sb rb : Nat) (sp rp : Nat → Value) (T : Nat) (tv wv : Value) (W : World) : Prop := ∃ t x bv L n ev ew en ef, PS w lb mb sb rb sp rp tv wv x x bv L L n n ev ew en ef t W ∧ tot L ≤ (T : Int) ∧ L.length ≤ T ∧ n ≤ T
end Go.Proofs.Ythoklddoeoedgaa.Sl
