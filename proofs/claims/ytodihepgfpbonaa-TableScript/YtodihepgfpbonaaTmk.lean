/- Pick, and new lists of bools and of acts; their cells. -/
import Derived.Test.YtodihepgfpbonaaTgk
import Derived.Test.YtodihepgfpbonaaTiA
import Derived.OwnWalk
namespace Go.Proofs.Ytodihepgfpbonaa.Tb
open Go.ChangeShapes Go.WideShapes Go.ChangeAt Go.RowKit
theorem pickN (i : Int) (N : Nat) (h0 : 0 < N) (h1 : N ≤ 1000000) (w : World) :
    Calls Try.prog 10 #[.int .i64 i, .int .i64 N] w fun e w' => (∃ p : Nat, p < N ∧ e = .returned (.int .i64 p)) ∧ w' = w := by
  have hN : (0 : Int) < N := by omega
  have a1 := Int.tmod_lt_of_pos i hN
  have a2 : - (N : Int) < i.tmod N := by
    have := Int.lt_tmod_of_pos i hN
    omega
  have nz : ¬ (N : Int) = 0 := by omega
  have nz2 : ¬ N = 0 := by omega
  obtain ⟨q, hq⟩ : ∃ q, i.tmod N = q := ⟨_, rfl⟩
  rw [hq] at a1 a2
  have w1 : IntKind.i64.wrap q = q := by rw [IntKind.wrap_i64]; omega
  by_cases hlt : q < 0
  · have w2 : IntKind.i64.wrap (q + N) = q + N := by rw [IntKind.wrap_i64]; omega
    go_enter Try.func10, Try.ntmps10
    go_wp2
    go_ret
    exact ⟨⟨(q + N).toNat, by omega, by rw [show (((q + N).toNat : Nat) : Int) = q + N by omega]; rfl⟩, rfl⟩
  · go_enter Try.func10, Try.ntmps10
    go_wp2
    go_ret
    exact ⟨⟨q.toNat, by omega, by rw [show ((q.toNat : Nat) : Int) = q by omega]; rfl⟩, rfl⟩
/-- Bools as cells. -/
def bs (f : Nat → Bool) (m : Nat) : List Value := (List.range m).map fun j => .bool (f j)
theorem bs_length (f : Nat → Bool) (m : Nat) : (bs f m).length = m := by simp [bs]
theorem bs_get (f : Nat → Bool) (m k : Nat) (h : k < m) : (bs f m)[k]? = some (.bool (f k)) := by simp [bs, h]
def upb (f : Nat → Bool) (k : Nat) (b : Bool) : Nat → Bool := fun j => if j = k then b else f j
theorem bs_set (f : Nat → Bool) (m k : Nat) (b : Bool) : (bs f m).set k (.bool b) = bs (upb f k b) m := by
  apply List.ext_getElem?
  intro j
  rw [List.getElem?_set, bs_length]
  by_cases h : j < m
  · rw [bs_get _ _ _ h, bs_get _ _ _ h]
    by_cases e : k = j
    · subst e; simp [h, upb]
    · rw [if_neg e]; simp [upb, Ne.symm e]
  · rw [List.getElem?_eq_none (by rw [bs_length]; omega), List.getElem?_eq_none (by rw [bs_length]; omega)]
    split
    · rw [if_neg (by omega)]
    · rfl
theorem infob : (Try.prog.info? 4).map (fun i => (i.zero, i.size, i.bytes)) = some (some (.bool false), 1, 1) := by kernel_rfl
theorem make_b (n : Nat) (hn : n ≤ 100) (w : World) : (Instr.makeSlice 58 (.int .i64 n) (.int .i64 n)).run Try.prog w = .ok (.slice (some ⟨w.heap.size, 0, none⟩) n n) (w.alloc (.cells (bs (fun _ => false) n).toArray 4)) := by
  obtain ⟨i0, hi, hz0, hz1, hz2⟩ := info_parts infob
  have hr := run_make (P := Try.prog) w 58 4 i0 (.bool false) Try.underlying58 hi hz0 .i64 .i64 n n (by omega) (by omega) (by rw [hz2]; omega) (by omega)
  have e : madeCells #[Value.bool false] n = (bs (fun _ => false) n).toArray := by
    have h := toList_madeCells_one (Value.bool false) n
    apply Array.toList_inj.1
    rw [h]
    apply List.ext_getElem?
    intro i
    by_cases hi : i < n
    · rw [show (bs (fun _ => false) n).toArray.toList = bs (fun _ => false) n from rfl, bs_get _ _ _ hi]; simp [hi]
    · rw [List.getElem?_eq_none (by simp; omega), List.getElem?_eq_none (by simp [bs]; omega)]
  simp only [Int.toNat_natCast, hz1, Nat.mul_one, Value.cells, e] at hr
  exact hr
/-- Acts as cells. -/
def ac (x : A.V) (f : Nat) : Value := match f with | 0 => .int .i64 x.1 | 1 => .int .i64 x.2.1 | 2 => .int .i64 x.2.2.1 | _ => .int .i64 x.2.2.2
def vs (f : Nat → A.V) (m : Nat) : List Value := (List.range (m * 4)).map fun i => ac (f (i / 4)) (i % 4)
theorem vs_length (f : Nat → A.V) (m : Nat) : (vs f m).length = m * 4 := by simp [vs]
theorem vs_at (f : Nat → A.V) (m i : Nat) (h : i < m * 4) : (vs f m)[i]? = some (ac (f (i / 4)) (i % 4)) := by simp [vs, h]
theorem vs_get (f : Nat → A.V) (m k j : Nat) (h : k < m) (hj : j < 4) : (vs f m)[k * 4 + j]? = some (ac (f k) j) := by
  rw [vs_at _ _ _ (by omega), show (k * 4 + j) / 4 = k by omega, show (k * 4 + j) % 4 = j by omega]
def upv (f : Nat → A.V) (k : Nat) (x : A.V) : Nat → A.V := fun j => if j = k then x else f j
theorem vs_set (f : Nat → A.V) (m k : Nat) (x : A.V) (h : k < m) : ((((vs f m).set (k * 4 + 0) (ac x 0)).set (k * 4 + 1) (ac x 1)).set (k * 4 + 2) (ac x 2)).set (k * 4 + 3) (ac x 3) = vs (upv f k x) m := by
  apply List.ext_getElem?
  intro i
  simp only [List.getElem?_set, List.length_set, vs_length]
  by_cases hi : i < m * 4
  · rw [vs_at _ _ _ hi, vs_at _ _ _ hi]
    by_cases e : i / 4 = k
    · have : i % 4 = 0 ∨ i % 4 = 1 ∨ i % 4 = 2 ∨ i % 4 = 3 := by omega
      have hu : upv f k x (i / 4) = x := if_pos e
      rw [hu]
      rcases this with r | r | r | r
      · rw [if_neg (by omega), if_neg (by omega), if_neg (by omega), if_pos (by omega), if_pos (by omega), r]
      · rw [if_neg (by omega), if_neg (by omega), if_pos (by omega), if_pos (by omega), r]
      · rw [if_neg (by omega), if_pos (by omega), if_pos (by omega), r]
      · rw [if_pos (by omega), if_pos (by omega), r]
    · have hu : upv f k x (i / 4) = f (i / 4) := if_neg e
      rw [hu, if_neg (by omega), if_neg (by omega), if_neg (by omega), if_neg (by omega)]
  · rw [if_neg (by omega), if_neg (by omega), if_neg (by omega), if_neg (by omega), List.getElem?_eq_none (by rw [vs_length]; omega), List.getElem?_eq_none (by rw [vs_length]; omega)]
theorem infoA : (Try.prog.info? 44).map (fun i => (i.zero, i.size, i.bytes)) = some (some (A.vv A.vz), 4, 32) := by kernel_rfl
theorem make_a (n : Nat) (hn : n ≤ 100) (w : World) : (Instr.makeSlice 22 (.int .i64 n) (.int .i64 n)).run Try.prog w = .ok (.slice (some ⟨w.heap.size, 0, none⟩) n n) (w.alloc (.cells (vs (fun _ => A.vz) n).toArray 44)) := by
  obtain ⟨i0, hi, hz0, hz1, hz2⟩ := info_parts infoA
  have hr := run_make (P := Try.prog) w 22 44 i0 (A.vv A.vz) Try.underlying22 hi hz0 .i64 .i64 n n (by omega) (by omega) (by rw [hz2]; omega) (by omega)
  have e : madeCells (A.vv A.vz).cells (n * 4) = (vs (fun _ => A.vz) n).toArray := by
    have h : (A.vv A.vz).cells = #[.int .i64 0, .int .i64 0, .int .i64 0, .int .i64 0] := by rfl
    rw [h]
    apply Array.toList_inj.1
    apply List.ext_getElem?
    intro i
    by_cases hi : i < n * 4
    · simp only [madeCells]
      simp [hi, vs]
      have : i % 4 = 0 ∨ i % 4 = 1 ∨ i % 4 = 2 ∨ i % 4 = 3 := by omega
      rcases this with r | r | r | r <;> rw [r] <;> rfl
    · rw [List.getElem?_eq_none (by simp [madeCells]; omega), List.getElem?_eq_none (by simp [vs]; omega)]
  simp only [Int.toNat_natCast, hz1, e] at hr
  exact hr
/-- A list of acts in an argument. -/
def AA (w : World) (a : Option Addr) (m : Nat) (av : Nat → A.V) : Prop := ∀ i, i < m → ∃ b off, a = some ⟨b, off, none⟩ ∧ w.cell? ⟨b, off + i * 4, none⟩ = some (.int .i64 (av i).1) ∧ w.cell? ⟨b, off + i * 4 + 1, none⟩ = some (.int .i64 (av i).2.1) ∧ w.cell? ⟨b, off + i * 4 + 2, none⟩ = some (.int .i64 (av i).2.2.1) ∧ w.cell? ⟨b, off + i * 4 + 3, none⟩ = some (.int .i64 (av i).2.2.2)
/-- A block of cells is written. -/
theorem gx_wr {w0 W W' : World} {B : Nat} {t : Nat → Th} (hG : GX w0 B t W) {m b : Nat} {cs cs' : List Value} {ty : TypeId} (hm : t m = tC b cs ty) (hb : Blk W' b cs' ty) (hk : Kp (fun j => j = b) W W') : ∃ t', GX w0 B t' W' ∧ t' m = tC b cs' ty ∧ But t t' m m :=
  ⟨_, hG.one m (tC b cs' ty) hk (fun j hj _ => by rw [hm]; exact hj) hb (fun j hj => .inl (by rw [hm]; exact hj)), up_at _ _ _, fun m h1 _ => up_ne _ _ h1⟩
theorem gx_set1 {w0 W : World} {B : Nat} {t : Nat → Th} (hG : GX w0 B t W) {m b : Nat} {cs : List Value} {ty : TypeId} (hm : t m = tC b cs ty) (i : Nat) (u : Value) : ∃ t', GX w0 B t' (W.setCell ⟨b, i, none⟩ u) ∧ t' m = tC b (cs.set i u) ty ∧ But t t' m m :=
  gx_wr hG hm ((hG.blk hm).set i u) (Kp.setCell b i u)
namespace A
theorem LDv_at {W : World} {g o : Nat} {x : V} (h : W.rangeAt g o (vc x)) : (LDv ⟨g, o, none⟩).run Try.prog W = .ok (vv x) W :=
  run_loadVar_mid W g o _ (vc x) _ h Try.underlying44 rfl (infov x)
theorem range4 {W : World} {g o : Nat} {x : V} (h0 : W.cell? ⟨g, o, none⟩ = some (.int .i64 x.1)) (h1 : W.cell? ⟨g, o + 1, none⟩ = some (.int .i64 x.2.1)) (h2 : W.cell? ⟨g, o + 2, none⟩ = some (.int .i64 x.2.2.1)) (h3 : W.cell? ⟨g, o + 3, none⟩ = some (.int .i64 x.2.2.2)) : W.rangeAt g o (vc x) := by
  intro j v hj
  match j, hj with
  | 0, hj => cases hj; exact h0
  | 1, hj => cases hj; exact h1
  | 2, hj => cases hj; exact h2
  | 3, hj => cases hj; exact h3
theorem LDv_vs {W : World} {b m k : Nat} {f : Nat → V} {t : TypeId} (h : Blk W b (vs f m) t) (hk : k < m) : (LDv ⟨b, k * 4, none⟩).run Try.prog W = .ok (vv (f k)) W :=
  LDv_at (range4 (h.cell _ _ (vs_get f m k 0 hk (by decide))) (h.cell _ _ (vs_get f m k 1 hk (by decide))) (h.cell _ _ (vs_get f m k 2 hk (by decide))) (h.cell _ _ (vs_get f m k 3 hk (by decide))))
theorem SVv_vs {W : World} {b m k : Nat} {f : Nat → V} {t : TypeId} (h : Blk W b (vs f m) t) (hk : k < m) (x : V) : ∃ W', (SVv ⟨b, k * 4, none⟩ (vv x)).run Try.prog W = .ok () W' ∧ Blk W' b (vs (upv f k x) m) t ∧ Kp (fun j => j = b) W W' := by
  refine ⟨W.setCells b (k * 4) (vc x), run_storeVar_mid W b (k * 4) _ (vc x).toArray (h.there _ _ (by rw [vs_length]; simp; omega)) (by simpa using infov x) (all_oneCell_toArray (vc_one x)), ?_, Kp.setCells b _ _⟩
  have := h.put (k * 4) (vc x)
  rw [show put (vs f m) (k * 4) (vc x) = vs (upv f k x) m from vs_set f m k x hk] at this
  exact this
/-- A new variable that holds an act. -/
theorem gx_var {w0 W W2 : World} {B : Nat} {t : Nat → Th} (hG : GX w0 B t W) (m : Nat) (x : V) (hW : W.alloc (.cells #[.int .i64 0, .int .i64 0, .int .i64 0, .int .i64 0] vt) = W2) : ∃ W3, (SVv ⟨W.heap.size, 0, none⟩ (vv x)).run Try.prog W2 = .ok () W3 ∧ ∃ t', GX w0 B t' W3 ∧ t' m = tC W.heap.size (vc x) vt ∧ But t t' m m := by
  have hb : Blk W2 W.heap.size (vc vz) vt := by rw [← hW]; exact Blk.new _ _ _
  obtain ⟨W3, s1, hb3, hk3⟩ := SVv_run (x := x) hb
  have hbel : Below W.heap.size W W3 := by
    have h1 : Below W.heap.size W W2 := by rw [← hW]; exact below_alloc _ _
    exact h1.trans (hk3.below h1.size (fun k hk e => by omega))
  exact ⟨W3, s1, _, hG.one m (tC W.heap.size (vc x) vt) (Kp.of_below (fun _ => False) hbel) (fun _ e => e.elim) hb3 (fun j hj => .inr (by rw [show j = _ from hj]; exact Nat.le_refl _)), up_at _ _ _, fun m h1 _ => up_ne _ _ h1⟩
end A
end Go.Proofs.Ytodihepgfpbonaa.Tb
