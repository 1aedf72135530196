/- One step of a plain operation of a region that draws its order, its operands' values known. -/
import Derived.Test.YtpcnkiapbkmjbaaXgr
import Derived.Test.YtpcnkiapbkmjbaaNop
import Derived.Test.YtpcnkiapbkmjbaaNgx
namespace Go.Proofs.Ytpcnkiapbkmjbaa.Nv
open Go.ChangeShapes Go.WideShapes Go.ChangeAt Go.RowKit
open Go.Proofs.Ytpcnkiapbkmjbaa Go.Proofs.Ytpcnkiapbkmjbaa.Tb Go.Proofs.Ytpcnkiapbkmjbaa.Xr
theorem by_w {c : Prop} [Decidable c] {A B : Prop} (h : c) (a : A) : if c then A else B := by rw [if_pos h]; exact a
theorem by_g {x : Bool} {A B : Prop} (h : x = false) (b : B) : if x = true then A else B := by rw [if_neg (by rw [h]; decide)]; exact b
theorem no_dst {ops : Array Oper} {t : Tmp} (h : ((List.range ops.size).all fun i => dstOf ops i != some t) = true) : ∀ i, dstOf ops i ≠ some t := fun i hi => by
  obtain ⟨o, ho, hd⟩ := dst_inv hi
  have hlt : i < ops.size := (Array.getElem?_eq_some_iff.1 ho).1
  have := List.all_eq_true.1 h i (by simpa using hlt)
  simp only [bne_iff_ne, ne_eq] at this
  exact this hi
theorem wanted_und {ops : Array Oper} {o : Oper} {a : Act} {j : Nat} {d : Tmp} {c : Bool} (hg : o.guard = some (j, c)) (hd : dstOf ops j = some d) (hv : a.tmps[d]? = some undef) : Region.wanted o (yielded ops a.tmps) = false := by
  have e : yielded ops a.tmps j = none := by
    unfold yielded
    have : (ops[j]?).bind (·.dst) = some d := hd
    rw [this]
    simp [hv, undef]
  unfold Region.wanted
  rw [hg]
  simp [e]
/-- The frame behind a region whose operations write slots side by side, but for the last one, which writes a slot ahead. -/
theorem act2 {ops : Array Oper} {vals : Nat → Value} {w0 : World} {a0 : Act} {listed : Array Bool} {a : Act} {w : World} (h : RI ops (fun i v _ => v = vals i) w0 a0 listed a w) (all : ∀ i, i < ops.size → listed.getD i false = true) (lo N z : Nat) (hN : ops.size = N + 1) (hz : z < lo)
    (hd : ((List.range N).all fun i => dstOf ops i == some (lo + i)) = true) (hl : dstOf ops N = some z) (hs : lo + N ≤ a0.tmps.size) : a = ⟨((a0.tmps.toList.take lo).set z (vals N) ++ (List.range N).map vals ++ a0.tmps.toList.drop (lo + N)).toArray, a0.defers⟩ := by
  have hd' : ∀ i, i < N → dstOf ops i = some (lo + i) := fun i hi => by
    have := List.all_eq_true.1 hd i (by simpa using hi)
    simpa using this
  have hcase : ∀ (i : Nat) (t : Nat), dstOf ops i = some t → (i < N ∧ t = lo + i) ∨ (i = N ∧ t = z) := fun i t e => by
    have hi : i < N + 1 := by
      obtain ⟨o, ho, _⟩ := dst_inv e
      have := (Array.getElem?_eq_some_iff.1 ho).1
      omega
    by_cases hn : i = N
    · subst hn
      rw [hl] at e
      exact .inr ⟨rfl, (Option.some.inj e).symm⟩
    · have e2 := (hd' i (by omega)).symm.trans e
      exact .inl ⟨by omega, (Option.some.inj e2).symm⟩
  have hkeep : ∀ t, t ≠ z → (t < lo ∨ lo + N ≤ t) → a.tmps[t]? = a0.tmps[t]? := fun t h1 h2 => h.keep t (fun i e => by
    rcases hcase i t e with ⟨q, r⟩ | ⟨q, r⟩
    · rcases h2 with h2 | h2
      · rw [r] at h2; omega
      · rw [r] at h2; omega
    · exact h1 r)
  have hval : ∀ i, i < N → a.tmps[lo + i]? = some (vals i) := fun i hi => h.val (all i (by omega)) (hd' i hi)
  have hlast : a.tmps[z]? = some (vals N) := h.val (all N (by omega)) hl
  have e : a.tmps = ((a0.tmps.toList.take lo).set z (vals N) ++ (List.range N).map vals ++ a0.tmps.toList.drop (lo + N)).toArray := by
    apply Array.ext_getElem?
    intro t
    have el : ∀ L : List Value, L.toArray[t]? = L[t]? := fun L => by simp
    refine Eq.trans ?_ (el _).symm
    rw [List.append_assoc]
    have len : ((a0.tmps.toList.take lo).set z (vals N)).length = lo := by rw [List.length_set, List.length_take, Array.length_toList]; omega
    by_cases h1 : t < lo
    · rw [List.getElem?_append_left (by rw [len]; exact h1), List.getElem?_set]
      by_cases h3 : z = t
      · subst h3
        rw [if_pos rfl, if_pos (by rw [List.length_take, Array.length_toList]; omega)]
        exact hlast
      · rw [if_neg h3, hkeep t (fun q => h3 q.symm) (.inl h1), List.getElem?_take_of_lt h1, Array.getElem?_toList]
    · rw [List.getElem?_append_right (by rw [len]; omega), len]
      by_cases h2 : t < lo + N
      · obtain ⟨i, rfl⟩ : ∃ i, t = lo + i := ⟨t - lo, by omega⟩
        rw [hval i (by omega), List.getElem?_append_left (by rw [List.length_map, List.length_range]; omega), Nat.add_sub_cancel_left, List.getElem?_map, List.getElem?_range (by omega)]
        rfl
      · rw [hkeep t (by omega) (.inr (by omega)), List.getElem?_append_right (by rw [List.length_map, List.length_range]; omega), List.length_map, List.length_range, List.getElem?_drop, Array.getElem?_toList]
        congr 1
        omega
  obtain ⟨at_, ad⟩ := a
  have e2 : ad = a0.defers := h.dfr
  have e3 : at_ = _ := e
  rw [e2, e3]
theorem tmpE {a : Act} {t : Tmp} {v : Value} (h : a.tmps[t]? = some v) : a.eval (.tmp t) = v := by simp [Act.eval, h]
section
variable {o : Oper} {a : Act} {w : World} {K : Act → World → Prop} {Q : Exit → Act → World → Prop}
theorem st_pure {v : Value} (e : (execOp a.eval o).run Try.prog w = .ok (.value v) w) (hK : K (a.put o.dst v) w) : o.wp Try.prog a w K Q := by
  unfold Oper.wp
  rw [e]
  exact hK
theorem st_mv (t : Tmp) (v : Value) (hop : o.op = .move (.tmp t)) (ht : a.tmps[t]? = some v) (hK : K (a.put o.dst v) w) : o.wp Try.prog a w K Q :=
  st_pure (by simp [execOp, hop, tmpE ht]) hK
theorem st_as (t : Tmp) (v : Value) (hop : o.op = .assign (.tmp t)) (ht : a.tmps[t]? = some v) (hK : K (a.put o.dst v) w) : o.wp Try.prog a w K Q :=
  st_pure (by simp [execOp, hop, tmpE ht]) hK
theorem st_bin (op : BinOp) (ty ty2 : TypeId) (x y : Operand) (u v r : Value) (hop : o.op = .binOp op ty x y ty2) (hx : a.eval x = u) (hy : a.eval y = v) (hg : (eqGuard op ty x y u v).run Try.prog w = .ok () w) (hb : (binOp op ty u v).run Try.prog w = .ok r w) (hK : K (a.put o.dst r) w) : o.wp Try.prog a w K Q :=
  st_pure (by simp [execOp, hop, hx, hy, hg, hb]) hK
theorem st_pick (x y z : Operand) (c : Bool) (u v : Value) (hop : o.op = .pick x y z) (hx : a.eval x = .bool c) (hy : a.eval y = u) (hz : a.eval z = v) (hK : K (a.put o.dst (if c then u else v)) w) : o.wp Try.prog a w K Q :=
  st_pure (by simp [execOp, hop, hx, hy, hz, asBool]) hK
theorem idx_b (b off n cap i : Nat) (w : World) (hi : i < n) : (Instr.indexAt 22 (.slice (some ⟨b, off, none⟩) n cap) (.int .i64 (i : Int))).run Try.prog w = .ok (.pointer (some ⟨b, off + i, none⟩)) w := by
  rw [run_indexAt_slice (P := Try.prog) (w := w) 22 ⟨b, off, none⟩ n cap .i64 (i : Int) (by kernel_rfl), if_pos (by omega), show (sizeOf (Try.prog.elem 22)).run Try.prog w = .ok 1 w from by kernel_rfl]
  show Result.ok (Value.pointer (some ((⟨b, off, none⟩ : Addr).add ((i : Int).toNat * 1)))) w = _
  rw [By.add_plain, Int.toNat_natCast, Nat.mul_one]
theorem bin_lt (x y : Int) (w : World) : (binOp .lss 3 (.int .i64 x) (.int .i64 y)).run Try.prog w = .ok (.bool (decide (x < y))) w := by go_simp
theorem bin_ge (x y : Int) (w : World) : (binOp .geq 3 (.int .i64 x) (.int .i64 y)).run Try.prog w = .ok (.bool (decide (y ≤ x))) w := by go_simp
theorem bin_add (x y : Int) (w : World) : (binOp .add 3 (.int .i64 x) (.int .i64 y)).run Try.prog w = .ok (.int .i64 (IntKind.i64.wrap (x + y))) w := by go_simp
theorem bin_ne (x y : Int) (w : World) : (binOp .neq 3 (.int .i64 x) (.int .i64 y)).run Try.prog w = .ok (.bool (x != y)) w := by go_simp
theorem bin_eq (x y : Int) (w : World) : (binOp .eql 3 (.int .i64 x) (.int .i64 y)).run Try.prog w = .ok (.bool (x == y)) w := by go_simp
theorem bin_ne8 (x y : Int) (w : World) : (binOp .neq 5 (.int .u8 x) (.int .u8 y)).run Try.prog w = .ok (.bool (x != y)) w := by go_simp
theorem gd_int (op : BinOp) (ty : TypeId) (x y : Operand) (k : IntKind) (u v : Int) (w : World) : (eqGuard op ty x y (.int k u) (.int k v)).run Try.prog w = .ok () w := by
  unfold eqGuard
  cases op <;> rfl
theorem st_idx (ty : TypeId) (x y : Operand) (u v r : Value) (hop : o.op = .indexAddr ty x y) (hx : a.eval x = u) (hy : a.eval y = v) (hi : (Instr.indexAt ty u v).run Try.prog w = .ok r w) (hK : K (a.put o.dst r) w) : o.wp Try.prog a w K Q :=
  st_pure (by simp [execOp, hop, hx, hy, hi]) hK
theorem fld0 (b : Nat) (w : World) : (Instr.fieldAt 25 (.pointer (some ⟨b, 0, none⟩)) 0).run Try.prog w = .ok (.pointer (some ⟨b, 0, none⟩)) w := by go_simp
theorem fld1 (b : Nat) (w : World) : (Instr.fieldAt 25 (.pointer (some ⟨b, 0, none⟩)) 1).run Try.prog w = .ok (.pointer (some ⟨b, 1, none⟩)) w := by go_simp
theorem fld2 (b : Nat) (w : World) : (Instr.fieldAt 25 (.pointer (some ⟨b, 0, none⟩)) 2).run Try.prog w = .ok (.pointer (some ⟨b, 2, none⟩)) w := by go_simp
theorem st_fld (ty : TypeId) (k : Nat) (x : Operand) (u r : Value) (hop : o.op = .fieldAddr ty x k) (hx : a.eval x = u) (hf : (Instr.fieldAt ty u k).run Try.prog w = .ok r w) (hK : K (a.put o.dst r) w) : o.wp Try.prog a w K Q :=
  st_pure (by simp [execOp, hop, hx, hf]) hK
theorem ld_b {b off : Nat} {x : Int} {w : World} (h : w.cell? ⟨b, off, none⟩ = some (.int .u8 x)) : (loadVar 5 ⟨b, off, none⟩).run Try.prog w = .ok (.int .u8 x) w := by go_simp
theorem ld_s {b off : Nat} {p : Option Addr} {n c : Nat} {w : World} (h : w.cell? ⟨b, off, none⟩ = some (.slice p n c)) : (loadVar 22 ⟨b, off, none⟩).run Try.prog w = .ok (.slice p n c) w := by go_simp
theorem st_load (ty : TypeId) (x : Operand) (b off : Nat) (v : Value) (hop : o.op = .load ty x) (hx : a.eval x = .pointer (some ⟨b, off, none⟩)) (hl : (loadVar ty ⟨b, off, none⟩).run Try.prog w = .ok v w) (hK : K (a.put o.dst v) w) : o.wp Try.prog a w K Q :=
  st_pure (by simp [execOp, hop, hx, Instr.loadAt, Instr.sureAddr, hl]) hK
theorem st_len (t : Tmp) (p : Option Addr) (n c : Nat) (hop : o.op = .call { callee := .builtin .len, args := #[.tmp t], argTypes := #[22] }) (ht : a.tmps[t]? = some (.slice p n c)) (hK : K (a.put o.dst (.int .i64 (n : Int))) w) : o.wp Try.prog a w K Q := by
  have h : ∀ ty : TypeId, (Builtin.len_ #[22] ty #[.slice p n c]).run Try.prog w = .ok (.int .i64 (n : Int)) w := fun ty => by go_simp
  refine st_pure ?_ hK
  obtain ⟨dst, op, type, pos, after, guard⟩ := o
  have hop' : op = _ := hop
  subst hop'
  simp [go_sem, Act.eval, ht, h]
theorem st_call (f : Nat) (t : Tmp) (ts : Array TypeId) (v r : Value) (hop : o.op = .call { callee := .value (.func f), args := #[.tmp t], argTypes := ts }) (en : ∀ args w, (callFunc f args).run Try.prog w = .ok (.enter f args) w) (ht : a.tmps[t]? = some v)
    (hc : Calls Try.prog f #[v] w fun e w' => e = .returned r ∧ Below w.heap.size w w') (hK : ∀ w', Below w.heap.size w w' → K (a.put o.dst r) w') : o.wp Try.prog a w K Q := by
  have e : (execOp a.eval o).run Try.prog w = .ok (.enter f #[v]) w := by
    simp [execOp, hop, resolve, invoke, Act.eval, Deferred.ofValue, en, ht]
  unfold Oper.wp
  rw [e]
  exact hc.mono (fun e w' ⟨he, hb⟩ => by subst he; exact hK w' hb)
theorem st_call2 (f : Nat) (t t2 : Tmp) (ts : Array TypeId) (v v2 r : Value) (hop : o.op = .call { callee := .value (.func f), args := #[.tmp t, .tmp t2], argTypes := ts }) (en : ∀ args w, (callFunc f args).run Try.prog w = .ok (.enter f args) w) (ht : a.tmps[t]? = some v) (ht2 : a.tmps[t2]? = some v2)
    (hc : Calls Try.prog f #[v, v2] w fun e w' => e = .returned r ∧ Below w.heap.size w w') (hK : ∀ w', Below w.heap.size w w' → K (a.put o.dst r) w') : o.wp Try.prog a w K Q := by
  have e : (execOp a.eval o).run Try.prog w = .ok (.enter f #[v, v2]) w := by
    simp [execOp, hop, resolve, invoke, Act.eval, Deferred.ofValue, en, ht, ht2]
  unfold Oper.wp
  rw [e]
  exact hc.mono (fun e w' ⟨he, hb⟩ => by subst he; exact hK w' hb)
end
end Go.Proofs.Ytpcnkiapbkmjbaa.Nv
