/- What TableScript keeps: iterators and what they must go over; all that both sides hold. -/
import Derived.Test.YtodihepgfpbonaaTdx
import Derived.Test.YtodihepgfpbonaaTwI
import Derived.Test.YtodihepgfpbonaaTwP
import Derived.Test.YtodihepgfpbonaaTgI
import Derived.Test.YtodihepgfpbonaaTgP
namespace Go.Proofs.Ytodihepgfpbonaa.Tb
open Go.ChangeShapes Go.WideShapes Go.ChangeAt Go.RowKit
/-- What an iterator goes over, out of the numbers held. -/
theorem prs_hl {V : Type} (hd : Nat → Option V) (g : Nat → V) (hv : ∀ j v, hd j = some v → g j = v) (n : Nat) : prs hd n = (hl (fun j => (hd j).isSome) n).map fun j => (j, g j) := by
  induction n with
  | zero => rfl
  | succ n ih =>
    rw [hl, List.map_append, ← ih]
    cases e : hd n with
    | none => rw [prs_none e]; simp
    | some v => rw [prs_some e]; simp [hv n v e]
theorem hl_more {f : Nat → Bool} {m : Nat} (h : ∀ j, m ≤ j → f j = false) (n : Nat) (hn : m ≤ n) : hl f n = hl f m := by
  induction n with
  | zero => obtain rfl : m = 0 := by omega
            rfl
  | succ n ih =>
    by_cases e : m = n + 1
    · rw [e]
    · rw [hl, h n (by omega), ih (by omega)]; simp
/-- A list of one-cell entries that stays: entry i is e i. -/
def CL (C : Cn) (a : Option Addr) (n : Nat) (ty : TypeId) (e : Nat → Option Value) : Prop := ∀ i v, i < n → e i = some v → ∃ (b : Nat) (cur : Array Value), a = some ⟨b, 0, none⟩ ∧ C b = some (.cells cur ty (0, 0)) ∧ cur[i]? = some v
theorem CL.mono {C C' : Cn} {a : Option Addr} {n : Nat} {ty : TypeId} {e : Nat → Option Value} (h : CL C a n ty e) (hc : Cle C C') : CL C' a n ty e := fun i v hi hv => by
  obtain ⟨b, cur, e1, e2, e3⟩ := h i v hi hv
  exact ⟨b, cur, e1, hc _ _ e2, e3⟩
/-- A list that was made, in blocks that stay. -/
theorem cl_of_row {W W' : World} {C : Cn} {ty : TypeId} {sz n : Nat} {a : Option Addr} {c : Nat} {T : List Value} (h : W'.ownsRow W.heap.size ty sz (.slice a n c) n T) (hC : ∀ j, W.heap.size ≤ j → C j = W'.heap[j]?) : ∀ (i : Nat) v, T[i]? = some v → ∃ (b : Nat) (cur : Array Value), a = some ⟨b, 0, none⟩ ∧ C b = some (.cells cur ty (0, 0)) ∧ cur[i]? = some v := by
  intro i v hi
  have hl := h.1
  rcases h.2 with ⟨_, rfl⟩ | ⟨g, cap, cur, e1, hb, hg, hnc, _, hcs, ht⟩
  · have := (List.getElem?_eq_some_iff.1 hi).1; omega
  · cases e1
    refine ⟨g, cur, rfl, (hC g hb).trans hg, ?_⟩
    have h1 := (List.getElem?_eq_some_iff.1 hi).1
    rw [← ht, List.getElem?_take_of_lt (by omega)] at hi
    simpa using hi
/-- An iterator over ints that is kept, and the two lists beside it. -/
structure KI (C : Cn) (f h v : Value) : Prop where
  ex : ∃ (Bs : Nat) (ps : Ps) (hd : Nat → Option I.V) (ha : Option Addr) (hc : Nat) (va : Option Addr) (vc : Nat), f = .func (.func 57) #[] #[.pointer (some ⟨Bs, 0, none⟩)] ∧ h = .slice ha (prs hd 64).length hc ∧ v = .slice va (prs hd 64).length vc ∧ C Bs = some (ob (pl ps) I.at') ∧ I.Std C ps hd
    ∧ (∀ (i : Nat) x, (prs hd 64)[i]? = some x → ∃ (b : Nat) (cur : Array Value), ha = some ⟨b, 0, none⟩ ∧ C b = some (.cells cur 3 (0, 0)) ∧ cur[i]? = some (.int .i64 x.1))
    ∧ (∀ (i : Nat) x, (prs hd 64)[i]? = some x → ∃ (b : Nat) (cur : Array Value), va = some ⟨b, 0, none⟩ ∧ C b = some (.cells cur 3 (0, 0)) ∧ cur[i]? = some (I.vv x.2))
/-- The same over pairs. -/
structure KP (C : Cn) (f h v : Value) : Prop where
  ex : ∃ (Bs : Nat) (ps : Ps) (hd : Nat → Option P.V) (ha : Option Addr) (hc : Nat) (va : Option Addr) (vc : Nat), f = .func (.func 60) #[] #[.pointer (some ⟨Bs, 0, none⟩)] ∧ h = .slice ha (prs hd 64).length hc ∧ v = .slice va (prs hd 64).length vc ∧ C Bs = some (ob (pl ps) P.at') ∧ P.Std C ps hd
    ∧ (∀ (i : Nat) x, (prs hd 64)[i]? = some x → ∃ (b : Nat) (cur : Array Value), ha = some ⟨b, 0, none⟩ ∧ C b = some (.cells cur 3 (0, 0)) ∧ cur[i]? = some (.int .i64 x.1))
    ∧ (∀ (i : Nat) x, (prs hd 64)[i]? = some x → ∃ (b : Nat) (cur : Array Value), va = some ⟨b, 0, none⟩ ∧ C b = some (.cells cur 31 (0, 0)) ∧ cur[i * 2]? = some (.int .i64 x.2.1) ∧ cur[i * 2 + 1]? = some (.int .i64 x.2.2))
theorem KI.mono {C C' : Cn} {f h v : Value} (k : KI C f h v) (hc : Cle C C') : KI C' f h v := by
  obtain ⟨Bs, ps, hd, ha, hc', va, vc, e1, e2, e3, e4, e5, e6, e7⟩ := k.ex
  refine ⟨Bs, ps, hd, ha, hc', va, vc, e1, e2, e3, hc _ _ e4, e5.mono hc, fun i x hx => ?_, fun i x hx => ?_⟩
  · obtain ⟨b, cur, a1, a2, a3⟩ := e6 i x hx; exact ⟨b, cur, a1, hc _ _ a2, a3⟩
  · obtain ⟨b, cur, a1, a2, a3⟩ := e7 i x hx; exact ⟨b, cur, a1, hc _ _ a2, a3⟩
theorem KP.mono {C C' : Cn} {f h v : Value} (k : KP C f h v) (hc : Cle C C') : KP C' f h v := by
  obtain ⟨Bs, ps, hd, ha, hc', va, vc, e1, e2, e3, e4, e5, e6, e7⟩ := k.ex
  refine ⟨Bs, ps, hd, ha, hc', va, vc, e1, e2, e3, hc _ _ e4, e5.mono hc, fun i x hx => ?_, fun i x hx => ?_⟩
  · obtain ⟨b, cur, a1, a2, a3⟩ := e6 i x hx; exact ⟨b, cur, a1, hc _ _ a2, a3⟩
  · obtain ⟨b, cur, a1, a2, a3⟩ := e7 i x hx; exact ⟨b, cur, a1, hc _ _ a2, a3⟩
section
variable {w0 W : World} {B : Nat} {t : Nat → Th} {C : Cn}
theorem con_cell (hG : GX w0 B t W) (h0 : t 0 = tK C) {b : Nat} {cur : Array Value} {ty : TypeId} (hc : C b = some (.cells cur ty (0, 0))) {i : Nat} {v : Value} (hv : cur[i]? = some v) (w' : World) (hb : Below W.heap.size W w') : w'.cell? ⟨b, i, none⟩ = some v := by
  have hP := hG.all 0
  rw [h0] at hP
  have h1 := hP b _ hc
  have h2 := (hb.block b (Array.getElem?_eq_some_iff.1 h1).1).trans h1
  rw [cell_of_row w' b i _ ty (0, 0) h2]; exact hv
/-- A kept iterator, gone over. -/
theorem gx_walkI (hG : GX w0 B t W) (h0 : t 0 = tK C) {f h v : Value} (hk : KI C f h v) (most : Int) : Calls Try.prog 36 #[f, h, v, .int .i64 most] W fun e W' => e = .returned (.bool true) ∧ Below W.heap.size W W' := by
  obtain ⟨Bs, ps, hd, ha, hc, va, vc, rfl, rfl, rfl, e4, e5, e6, e7⟩ := hk.ex
  refine I.walk_w Bs ps hd ha va _ hc _ vc most W (hG.con h0 e4) (fun j => ⟨fun v hv => ?_, (e5 j).2⟩) ⟨rfl, rfl, fun w' hb i x hx => ?_, fun w' hb i x hx => ?_⟩
  · obtain ⟨g, a1, a2⟩ := (e5 j).1 v hv; exact ⟨g, a1, hG.con h0 a2⟩
  · obtain ⟨b, cur, a1, a2, a3⟩ := e6 i x hx
    exact ⟨b, 0, a1, by rw [Nat.zero_add]; exact con_cell hG h0 a2 a3 w' hb⟩
  · obtain ⟨b, cur, a1, a2, a3⟩ := e7 i x hx
    exact ⟨b, 0, a1, by rw [Nat.zero_add]; exact con_cell hG h0 a2 a3 w' hb⟩
theorem gx_walkP (hG : GX w0 B t W) (h0 : t 0 = tK C) {f h v : Value} (hk : KP C f h v) (most : Int) : Calls Try.prog 45 #[f, h, v, .int .i64 most] W fun e W' => e = .returned (.bool true) ∧ Below W.heap.size W W' := by
  obtain ⟨Bs, ps, hd, ha, hc, va, vc, rfl, rfl, rfl, e4, e5, e6, e7⟩ := hk.ex
  refine P.walk_w Bs ps hd ha va _ hc _ vc most W (hG.con h0 e4) (fun j => ⟨fun v hv => ?_, (e5 j).2⟩) ⟨rfl, rfl, fun w' hb i x hx => ?_, fun w' hb i x hx => ?_⟩
  · obtain ⟨g, a1, a2⟩ := (e5 j).1 v hv; exact ⟨g, a1, hG.con h0 a2⟩
  · obtain ⟨b, cur, a1, a2, a3⟩ := e6 i x hx
    exact ⟨b, 0, a1, by rw [Nat.zero_add]; exact con_cell hG h0 a2 a3 w' hb⟩
  · obtain ⟨b, cur, a1, a2, a3, a4⟩ := e7 i x hx
    refine ⟨b, 0, a1, fun j u hj => ?_⟩
    match j, hj with
    | 0, hj => cases hj; rw [Nat.zero_add]; exact con_cell hG h0 a2 a3 w' hb
    | 1, hj => cases hj; rw [Nat.zero_add]; exact con_cell hG h0 a2 a4 w' hb
/-- An entry is put behind one of the kept lists: the list lies at the number k, its own cell is cell i of the block at the number 9. -/
theorem gx_push {V : World} (hG : GX w0 B t W) (tS tE : TypeId) (z : Value) (bt : Nat) (hU : Try.prog.underlying tS = some (.slice tE)) (hI : (Try.prog.info? tE).map (fun i => (i.zero, i.size, i.bytes)) = some (some z, 1, bt)) (hzc : z.cells.size = 1) (hbt : 1 ≤ bt) (hbt2 : bt ≤ 100)
    {kb i k : Nat} {cs : List Value} {kt : TypeId} {u : Value} {n : Nat} {T : List Value} (h9 : t 9 = tC kb cs kt) (hk : t k = tW u n T tE 1) (hk9 : k ≠ 9) (hci : cs[i]? = some u) (v : Value) (h1 : v.oneCell' = true) (hn : n ≤ 100000) (hV : Below W.heap.size W V) (ad : Addr) (hc : ∀ j u, [v][j]? = some u → V.cell? (ad.add j) = some u) :
    ∃ u' w1, (Builtin.append_ #[tS, tS] tS #[u, .slice (some ad) 1 1]).run Try.prog V = .ok u' w1 ∧ V.cell? ⟨kb, i, none⟩ = some u ∧ w1.cell? ⟨kb, i, none⟩ = some u ∧ w1.frozen? ⟨kb, i, none⟩ = false ∧ ∃ t', GX w0 B t' (w1.setCell ⟨kb, i, none⟩ u') ∧ t' 9 = tC kb (cs.set i u') kt ∧ t' k = tW u' (n + 1) (T ++ [v]) tE 1 ∧ But t t' 9 k := by
  have hGV := hG.below hV
  have hrow := hGV.row hk
  have hkb := hGV.blk h9
  have hN : (n + 1) * bt ≤ 140737488355328 := by
    have : (n + 1) * bt ≤ (n + 1) * 100 := Nat.mul_le_mul_left _ hbt2
    omega
  obtain ⟨u', w1, hrun, r1, r2, r3⟩ := push_run V tS tE z 1 bt hU hI hzc (by decide) hbt 0 u n T [v] hrow rfl (fun x hx => by simp at hx; subst hx; exact h1) (Nat.zero_le _) hN ad hc
  have hap : ∀ j, u.ownBlock = some j → j ≠ kb := fun j hj e => by
    subst e
    exact hGV.ap k 9 hk9 j (by rw [hk]; exact hj) (by rw [h9]; rfl)
  have hkb1 : Blk w1 kb cs kt := hkb.kept r2 (fun e => hap kb e rfl)
  have hu' : u'.ownBlock ≠ some kb := fun e => by
    rcases r3 with h | h
    · rw [h] at e; exact hap kb e rfl
    · have := h kb e; have := hkb.lt; omega
  refine ⟨u', w1, hrun, hkb.cell i _ hci, hkb1.cell i _ hci, hkb1.frozen i, _, hGV.two 9 k (tC kb (cs.set i u') kt) (tW u' (n + 1) (T ++ [v]) tE 1) (Ne.symm hk9) (S := fun j => u.ownBlock = some j ∨ j = kb) ((r2.mono (fun _ _ e => .inl e)).trans (Kp.setCell kb i u') (fun _ _ e => .inr e)) (fun j hj _ => ?_) (hkb1.set i u') (row_kept r1 (Kp.setCell kb i u') (fun g hg e => by subst e; exact hu' hg)) (fun j hj => .inl (by rw [h9]; exact hj)) (fun j hj => ?_) (fun j hj hj' => ?_), ?_, up_at _ _ _, but_up _ _ _ _ _⟩
  · rcases hj with e | e
    · exact .inr (by rw [hk]; exact e)
    · exact .inl (by rw [h9]; exact e)
  · rcases r3 with h | h
    · exact .inr (.inl (by rw [hk]; show u.ownBlock = some j; rw [← h]; exact hj))
    · exact .inr (.inr (h j hj))
  · rw [show j = kb from hj] at hj'; exact hu' hj'
  · rw [up_ne _ _ (Ne.symm hk9), up_at]
end
end Go.Proofs.Ytodihepgfpbonaa.Tb
