/- How much a skeleton may record: what the program's Bound answers. A region that draws its order and makes only what is new, with guards: one step of each operation, by its value. One step of a plain operation, its operands' values known. -/
import Derived.Test.YtdmacflcjbkkpaaCsk
import Derived.Test.YtdmacflcjbkkpaaQkp
import Derived.Test.YtdmacflcjbkkpaaXrg
import Derived.RegionTactic
namespace Go.Proofs.Ytdmacflcjbkkpaa.Co
open Go.ChangeShapes Go.WideShapes Go.ChangeAt Go.RowKit
open Go.Proofs.Ytdmacflcjbkkpaa.Ou (Sk sv cn cn_b bd)
set_option maxRecDepth 8000 in
set_option maxHeartbeats 400000 in
theorem counted_ok (n : Int) (w : World) : Calls Try.prog 30 #[.int .i64 n] w fun e w' => e = .returned (.int .i64 (cn n)) ∧ w' = w := by
  by_cases h : n < 0
  · have E : Hid (cn n = 0) := if_pos h
    go_enter Try.func30, Try.ntmps30
    go_wp2
    go_ret
    exact ⟨by rw [E.out]; rfl, rfl⟩
  · by_cases h2 : 16777216 < n
    · have E : Hid (cn n = 16777216) := by show cn n = _; unfold cn; rw [if_neg h, if_pos h2]
      go_enter Try.func30, Try.ntmps30
      go_wp2
      go_ret
      exact ⟨by rw [E.out]; rfl, rfl⟩
    · have E : Hid (cn n = n) := by show cn n = _; unfold cn; rw [if_neg h, if_neg h2]
      go_enter Try.func30, Try.ntmps30
      go_wp2
      go_ret
      exact ⟨by rw [E.out]; rfl, rfl⟩
theorem mul_b (x p : Int) (hx : 0 ≤ x ∧ x ≤ 67108864) (hp : 0 ≤ p ∧ p ≤ 524289) : 0 ≤ x * p ∧ x * p ≤ 70368744177664 := by
  refine ⟨Int.mul_nonneg hx.1 hp.1, ?_⟩
  have h1 : x * p ≤ 67108864 * p := Int.mul_le_mul_of_nonneg_right hx.2 hp.1
  omega
set_option maxRecDepth 8000 in
set_option maxHeartbeats 1200000 in
theorem bound_ok (s : Sk) (w : World) : Calls Try.prog 15 #[sv s] w fun e w' => e = .returned (.int .i64 (bd s)) ∧ Below w.heap.size w w' := by
  have hE : bd s = 64 + cn s.d + cn s.o + (cn s.m + 512) * (cn s.o / 32 + 1) / 16 + 4 * cn s.c * (cn s.o / 32 + 1) := rfl
  have C1 := counted_ok s.d
  have C2 := counted_ok s.m
  have C3 := counted_ok s.o
  have C4 := counted_ok s.c
  have b1 := cn_b s.d
  have b2 := cn_b s.m
  have b3 := cn_b s.o
  have b4 := cn_b s.c
  obtain ⟨x, hx⟩ : ∃ x, cn s.d = x := ⟨_, rfl⟩
  obtain ⟨y, hy⟩ : ∃ x, cn s.m = x := ⟨_, rfl⟩
  obtain ⟨z, hz⟩ : ∃ x, cn s.o = x := ⟨_, rfl⟩
  obtain ⟨u, hu⟩ : ∃ x, cn s.c = x := ⟨_, rfl⟩
  rw [hx] at C1 b1 hE
  rw [hy] at C2 b2 hE
  rw [hz] at C3 b3 hE
  rw [hu] at C4 b4 hE
  clear hx hy hz hu
  have HE := hid hE
  have D1 := hid C1
  have D2 := hid C2
  have D3 := hid C3
  have D4 := hid C4
  clear hE C1 C2 C3 C4
  have m1 := mul_b (y + 512) (z / 32 + 1) (by omega) (by omega)
  have m2 := mul_b (4 * u) (z / 32 + 1) (by omega) (by omega)
  go_enter Try.func15, Try.ntmps15
  go_wp2_with fail
  go_quiet ((first | (go_at_call 30; with_reducible refine (D1.out _).mono ?_; rintro e w' ⟨rfl, rfl⟩; exact ⟨rfl, _, rfl⟩) | (go_at_call 30; with_reducible refine (D2.out _).mono ?_; rintro e w' ⟨rfl, rfl⟩; exact ⟨rfl, _, rfl⟩) | (go_at_call 30; with_reducible refine (D3.out _).mono ?_; rintro e w' ⟨rfl, rfl⟩; exact ⟨rfl, _, rfl⟩) | (go_at_call 30; with_reducible refine (D4.out _).mono ?_; rintro e w' ⟨rfl, rfl⟩; exact ⟨rfl, _, rfl⟩)))
  go_wp2
  go_ret
  exact ⟨by rw [HE.out]; rfl, below_next (below_alloc _ _) (below_drewN _ _)⟩
end Go.Proofs.Ytdmacflcjbkkpaa.Co
namespace Go.Proofs.Ytdmacflcjbkkpaa.Xr
open Go.ChangeShapes Go.WideShapes Go.ChangeAt Go.RowKit
section
variable {P : Program} {ops : Array Oper} {Q : Exit → Act → World → Prop} {R : Nat → Value → World → Prop} {w0 : World} {a0 : Act}
theorem any_relG (hst : ∀ i v w w', R i v w → Below w.heap.size w w' → R i v w') (hnd : ∀ i j d, dstOf ops i = some d → dstOf ops j = some d → i = j) (hsz : ∀ i d, dstOf ops i = some d → d < a0.tmps.size)
    (hord : ∀ (i : Nat) (o : Oper), ops[i]? = some o → ∀ e ∈ o.after, e.on < i)
    (hstep : ∀ (i : Nat) (o : Oper), ops[i]? = some o → ∀ listed a w, RI ops R w0 a0 listed a w → (∀ e ∈ o.after, Region.binds .any e = true → listed.getD e.on false = true) → ∀ K : Act → World → Prop, (∀ v w', Below w.heap.size w w' → (∀ d, o.dst = some d → R i v w') → K (a.put o.dst v) w') → if Region.wanted o (yielded ops a.tmps) = true then o.wp P a w K Q else K (a.put o.dst undef) w)
    (hend : ∀ listed a w, RI ops R w0 a0 listed a w → (∀ i, i < ops.size → listed.getD i false = true) → Q .normal a w) :
    ∀ (fuel : Nat) (listed : Array Bool) (a : Act) (w : World), left ops.size listed ≤ fuel → RI ops R w0 a0 listed a w → wpAny P .any ops Q fuel listed a w
  | 0, listed, a, w, hf, h => by
    have hr : Region.ready .any ops listed = [] := by
      cases e : Region.ready .any ops listed with
      | nil => rfl
      | cons x xs =>
        have hx : x ∈ Region.ready .any ops listed := by rw [e]; simp
        obtain ⟨h0, o, ho, _⟩ := mem_ready.1 hx
        have hlt : x < ops.size := (Array.getElem?_eq_some_iff.1 ho).1
        have := left_step hlt h.llen h0
        omega
    exact ⟨hr, hend listed a w h (all_done h.llen hord hr)⟩
  | fuel + 1, listed, a, w, hf, h => by
    refine ⟨fun hr => hend listed a w h (all_done h.llen hord hr), fun i hi => ?_⟩
    obtain ⟨h0, o, ho, hdep⟩ := mem_ready.1 hi
    have hlt : i < ops.size := (Array.getElem?_eq_some_iff.1 ho).1
    have hl := left_step hlt h.llen h0
    refine wpOp_step ho (fun K' hK => hstep i o ho listed a w h hdep _ (fun v w' hb hv => hK _ _ (any_relG hst hnd hsz hord hstep hend fuel _ _ _ (by omega) (h.step ho hb hv hst hnd hsz))))
/-- The same, guards and all. -/
theorem region_relG {id : Nat} (hm : P.follows .mixedOrders = true) (hst : ∀ i v w w', R i v w → Below w.heap.size w w' → R i v w') (hnd : ∀ i j d, dstOf ops i = some d → dstOf ops j = some d → i = j) (hsz : ∀ i d, dstOf ops i = some d → d < a0.tmps.size)
    (hord : ∀ (i : Nat) (o : Oper), ops[i]? = some o → ∀ e ∈ o.after, e.on < i)
    (hstep : ∀ (i : Nat) (o : Oper), ops[i]? = some o → ∀ listed a w, RI ops R w0 a0 listed a w → (∀ e ∈ o.after, Region.binds .any e = true → listed.getD e.on false = true) → ∀ K : Act → World → Prop, (∀ v w', Below w.heap.size w w' → (∀ d, o.dst = some d → R i v w') → K (a.put o.dst v) w') → if Region.wanted o (yielded ops a.tmps) = true then o.wp P a w K Q else K (a.put o.dst undef) w)
    (hend : ∀ listed a w, RI ops R w0 a0 listed a w → (∀ i, i < ops.size → listed.getD i false = true) → Q .normal a w) : (Code.region id ops true).wp P Q a0 w0 :=
  wp_region_any hm (any_relG (w0 := w0) (a0 := a0) hst hnd hsz hord hstep hend ops.size _ a0 _ (by
    unfold left
    have := List.length_filter_le (fun i => !(Array.replicate ops.size false).getD i true) (List.range ops.size)
    rwa [List.length_range] at this) ⟨below_drewN w0 1, rfl, rfl, fun _ _ => rfl, fun i d h _ => by
      exfalso
      by_cases hi : i < ops.size
      · simp [hi] at h
      · simp [hi] at h, by simp⟩)
end
/-- What is asked of the operations' text. -/
def okG (ops : Array Oper) (n : Nat) : Bool :=
  (List.range ops.size).all fun i => match ops[i]? with
    | none => true
    | some o => o.after.all (fun e => decide (e.on < i)) && (match o.dst with
      | none => true
      | some d => decide (d < n) && (List.range ops.size).all fun j => i == j || dstOf ops j != some d)
theorem okG_spec {ops : Array Oper} {n : Nat} (h : okG ops n = true) {i : Nat} {o : Oper} (hi : ops[i]? = some o) : (∀ e ∈ o.after, e.on < i) ∧ ∀ d, o.dst = some d → d < n ∧ ∀ j, dstOf ops j = some d → i = j := by
  have hlt : i < ops.size := (Array.getElem?_eq_some_iff.1 hi).1
  have h1 := List.all_eq_true.1 h i (by simpa using hlt)
  simp only [hi, Bool.and_eq_true] at h1
  obtain ⟨h3, h4⟩ := h1
  refine ⟨fun e he => ?_, fun d hd => ?_⟩
  · have := Array.all_eq_true_iff_forall_mem.1 h3 e he
    simpa using this
  · rw [hd] at h4
    simp only [Bool.and_eq_true, decide_eq_true_eq] at h4
    refine ⟨h4.1, fun j hj => ?_⟩
    have hjl : j < ops.size := by
      unfold dstOf at hj
      by_cases hl : j < ops.size
      · exact hl
      · rw [Array.getElem?_eq_none (by omega)] at hj; cases hj
    have := List.all_eq_true.1 h4.2 j (by simpa using hjl)
    simp only [Bool.or_eq_true, beq_iff_eq, bne_iff_ne, ne_eq] at this
    exact this.resolve_right (fun x => x hj)
theorem region_okG {P : Program} {ops : Array Oper} {Q : Exit → Act → World → Prop} {R : Nat → Value → World → Prop} {w0 : World} {a0 : Act} {id : Nat} (hm : P.follows .mixedOrders = true) (hok : okG ops a0.tmps.size = true) (hst : ∀ i v w w', R i v w → Below w.heap.size w w' → R i v w')
    (hstep : ∀ (i : Nat) (o : Oper), ops[i]? = some o → ∀ listed a w, RI ops R w0 a0 listed a w → (∀ e ∈ o.after, Region.binds .any e = true → listed.getD e.on false = true) → ∀ K : Act → World → Prop, (∀ v w', Below w.heap.size w w' → (∀ d, o.dst = some d → R i v w') → K (a.put o.dst v) w') → if Region.wanted o (yielded ops a.tmps) = true then o.wp P a w K Q else K (a.put o.dst undef) w)
    (hend : ∀ listed a w, RI ops R w0 a0 listed a w → (∀ i, i < ops.size → listed.getD i false = true) → Q .normal a w) : (Code.region id ops true).wp P Q a0 w0 :=
  region_relG hm hst (fun i j d hi hj => by
    obtain ⟨o, ho, hd⟩ := dst_inv hi
    exact ((okG_spec hok ho).2 d hd).2 j hj) (fun i d hi => by
    obtain ⟨o, ho, hd⟩ := dst_inv hi
    exact ((okG_spec hok ho).2 d hd).1) (fun i o ho => (okG_spec hok ho).1) hstep hend
/-- What an operation that is done has answered, where all answers are known ahead. -/
theorem RI.val {ops : Array Oper} {vals : Nat → Value} {w0 : World} {a0 : Act} {listed : Array Bool} {a : Act} {w : World} (h : RI ops (fun i v _ => v = vals i) w0 a0 listed a w) {i : Nat} {d : Tmp} (hl : listed.getD i false = true) (hd : dstOf ops i = some d) : a.tmps[d]? = some (vals i) := by
  obtain ⟨v, hv, rfl⟩ := h.done i d hl hd
  exact hv
/-- Whether an operation's guard lets it be. -/
theorem wanted_at {ops : Array Oper} {o : Oper} {a : Act} {j : Nat} {d : Tmp} {b c : Bool} (hg : o.guard = some (j, c)) (hd : dstOf ops j = some d) (hv : a.tmps[d]? = some (.bool b)) : Region.wanted o (yielded ops a.tmps) = (b == c) := by
  have e : yielded ops a.tmps j = some b := by
    unfold yielded
    have : (ops[j]?).bind (·.dst) = some d := hd
    rw [this]
    simp [hv]
  unfold Region.wanted
  rw [hg]
  simp [e]
/-- The frame behind a region whose operations write slots side by side. -/
theorem RI.act {ops : Array Oper} {vals : Nat → Value} {w0 : World} {a0 : Act} {listed : Array Bool} {a : Act} {w : World} (h : RI ops (fun i v _ => v = vals i) w0 a0 listed a w) (all : ∀ i, i < ops.size → listed.getD i false = true) (lo N : Nat) (hN : ops.size = N)
    (hd : ((List.range N).all fun i => dstOf ops i == some (lo + i)) = true) (hs : lo + N ≤ a0.tmps.size) : a = ⟨(a0.tmps.toList.take lo ++ (List.range N).map vals ++ a0.tmps.toList.drop (lo + N)).toArray, a0.defers⟩ := by
  have hd' : ∀ i, i < N → dstOf ops i = some (lo + i) := fun i hi => by
    have := List.all_eq_true.1 hd i (by simpa using hi)
    simpa using this
  have hkeep : ∀ t, (t < lo ∨ lo + N ≤ t) → a.tmps[t]? = a0.tmps[t]? := fun t ht => h.keep t (fun i e => by
    have hi : i < N := by
      obtain ⟨o, ho, _⟩ := dst_inv e
      have := (Array.getElem?_eq_some_iff.1 ho).1
      omega
    have e2 := (hd' i hi).symm.trans e
    have : lo + i = t := by simpa using e2
    omega)
  have hval : ∀ i, i < N → a.tmps[lo + i]? = some (vals i) := fun i hi => h.val (all i (by omega)) (hd' i hi)
  have e : a.tmps = (a0.tmps.toList.take lo ++ (List.range N).map vals ++ a0.tmps.toList.drop (lo + N)).toArray := by
    apply Array.ext_getElem?
    intro t
    have el : ∀ L : List Value, L.toArray[t]? = L[t]? := fun L => by simp
    refine Eq.trans ?_ (el _).symm
    rw [List.append_assoc]
    by_cases h1 : t < lo
    · rw [hkeep t (.inl h1), List.getElem?_append_left (by rw [List.length_take, Array.length_toList]; omega), List.getElem?_take_of_lt h1, Array.getElem?_toList]
    · rw [List.getElem?_append_right (by rw [List.length_take, Array.length_toList]; omega), List.length_take, Array.length_toList, Nat.min_eq_left (by omega)]
      by_cases h2 : t < lo + N
      · obtain ⟨i, rfl⟩ : ∃ i, t = lo + i := ⟨t - lo, by omega⟩
        rw [hval i (by omega), List.getElem?_append_left (by rw [List.length_map, List.length_range]; omega), Nat.add_sub_cancel_left, List.getElem?_map, List.getElem?_range (by omega)]
        rfl
      · rw [hkeep t (.inr (by omega)), List.getElem?_append_right (by rw [List.length_map, List.length_range]; omega), List.length_map, List.length_range, List.getElem?_drop, Array.getElem?_toList]
        congr 1
        omega
  obtain ⟨at_, ad⟩ := a
  have e2 : ad = a0.defers := h.dfr
  have e3 : at_ = _ := e
  rw [e2, e3]
end Go.Proofs.Ytdmacflcjbkkpaa.Xr
namespace Go.Proofs.Ytdmacflcjbkkpaa.Co
open Go.ChangeShapes Go.WideShapes Go.ChangeAt Go.RowKit
open Go.Proofs.Ytdmacflcjbkkpaa.Ou (Sk sv sL zS LDk SVk LDk_run SVk_run bd)
open Go.Proofs.Ytdmacflcjbkkpaa (eq3 eq3_true)
theorem tmpE {a : Act} {t : Tmp} {v : Value} (h : a.tmps[t]? = some v) : a.eval (.tmp t) = v := by simp [Act.eval, h]
section
variable {o : Oper} {a : Act} {w : World} {K : Act → World → Prop} {Q : Exit → Act → World → Prop}
theorem st_pure {v : Value} (e : (execOp a.eval o).run Try.prog w = .ok (.value v) w) (hK : K (a.put o.dst v) w) : o.wp Try.prog a w K Q := by
  unfold Oper.wp
  rw [e]
  exact hK
theorem st_mv (t : Tmp) (v : Value) (hop : o.op = .move (.tmp t)) (ht : a.tmps[t]? = some v) (hK : K (a.put o.dst v) w) : o.wp Try.prog a w K Q :=
  st_pure (by simp [execOp, hop, tmpE ht]) hK
theorem st_bin (op : BinOp) (ty ty2 : TypeId) (x y : Operand) (u v r : Value) (hop : o.op = .binOp op ty x y ty2) (hx : a.eval x = u) (hy : a.eval y = v) (hg : (eqGuard op ty x y u v).run Try.prog w = .ok () w) (hb : (binOp op ty u v).run Try.prog w = .ok r w) (hK : K (a.put o.dst r) w) : o.wp Try.prog a w K Q :=
  st_pure (by simp [execOp, hop, hx, hy, hg, hb]) hK
theorem st_pick (x y z : Operand) (c : Bool) (u v : Value) (hop : o.op = .pick x y z) (hx : a.eval x = .bool c) (hy : a.eval y = u) (hz : a.eval z = v) (hK : K (a.put o.dst (if c then u else v)) w) : o.wp Try.prog a w K Q :=
  st_pure (by simp [execOp, hop, hx, hy, hz, asBool]) hK
theorem idx_run (ty : TypeId) (b off n cap i sz : Nat) (w : World) (hu : Try.prog.underlying ty = some (.slice (Try.prog.elem ty))) (hz : ∀ w, (sizeOf (Try.prog.elem ty)).run Try.prog w = .ok sz w) (hi : i < n) : (Instr.indexAt ty (.slice (some ⟨b, off, none⟩) n cap) (.int .i64 (i : Int))).run Try.prog w = .ok (.pointer (some ⟨b, off + i * sz, none⟩)) w := by
  rw [run_indexAt_slice (P := Try.prog) (w := w) ty ⟨b, off, none⟩ n cap .i64 (i : Int) hu, if_pos (by omega), hz]
  show Result.ok (Value.pointer (some ((⟨b, off, none⟩ : Addr).add ((i : Int).toNat * sz)))) w = _
  rw [Go.Proofs.Ytdmacflcjbkkpaa.add_plain, Int.toNat_natCast]
theorem idx_runs (b off n cap i : Nat) (w : World) (hi : i < n) : (Instr.indexAt 32 (.slice (some ⟨b, off, none⟩) n cap) (.int .i64 (i : Int))).run Try.prog w = .ok (.pointer (some ⟨b, off + i * 3, none⟩)) w := idx_run _ b off n cap i 3 w (by kernel_rfl) (fun _ => by kernel_rfl) hi
theorem idx_skels (b off n cap i : Nat) (w : World) (hi : i < n) : (Instr.indexAt 39 (.slice (some ⟨b, off, none⟩) n cap) (.int .i64 (i : Int))).run Try.prog w = .ok (.pointer (some ⟨b, off + i * 7, none⟩)) w := idx_run _ b off n cap i 7 w (by kernel_rfl) (fun _ => by kernel_rfl) hi
theorem idx_codes (b off n cap i : Nat) (w : World) (hi : i < n) : (Instr.indexAt 42 (.slice (some ⟨b, off, none⟩) n cap) (.int .i64 (i : Int))).run Try.prog w = .ok (.pointer (some ⟨b, off + i * 1, none⟩)) w := idx_run _ b off n cap i 1 w (by kernel_rfl) (fun _ => by kernel_rfl) hi
theorem bin_lt (x y : Int) (w : World) : (binOp .lss 3 (.int .i64 x) (.int .i64 y)).run Try.prog w = .ok (.bool (decide (x < y))) w := by go_simp
theorem bin_gt (x y : Int) (w : World) : (binOp .gtr 3 (.int .i64 x) (.int .i64 y)).run Try.prog w = .ok (.bool (decide (y < x))) w := by go_simp
theorem bin_sub (x y : Int) (w : World) : (binOp .sub 3 (.int .i64 x) (.int .i64 y)).run Try.prog w = .ok (.int .i64 (IntKind.i64.wrap (x - y))) w := by go_simp
theorem bin_ne (x y : Int) (w : World) : (binOp .neq 3 (.int .i64 x) (.int .i64 y)).run Try.prog w = .ok (.bool (x != y)) w := by go_simp
theorem bin_nec (x y : Int) (w : World) : (binOp .neq 33 (.int .i64 x) (.int .i64 y)).run Try.prog w = .ok (.bool (x != y)) w := by go_simp
theorem bin_ner (a b x c d y : Int) (w : World) : (binOp .neq 49 (.agg #[.int .u8 a, .int .i64 b, .int .i64 x]) (.agg #[.int .u8 c, .int .i64 d, .int .i64 y])).run Try.prog w = .ok (.bool (!eq3 a b x c d y)) w := by go_simp
theorem gd_int (op : BinOp) (ty : TypeId) (x y : Operand) (k : IntKind) (u v : Int) (w : World) : (eqGuard op ty x y (.int k u) (.int k v)).run Try.prog w = .ok () w := by
  unfold eqGuard
  cases op <;> rfl
theorem gd_run (x y : Operand) (a b u c d v : Int) (w : World) : (eqGuard .neq 49 x y (.agg #[.int .u8 a, .int .i64 b, .int .i64 u]) (.agg #[.int .u8 c, .int .i64 d, .int .i64 v])).run Try.prog w = .ok () w := by go_simp
theorem st_idx (ty : TypeId) (x y : Operand) (u v r : Value) (hop : o.op = .indexAddr ty x y) (hx : a.eval x = u) (hy : a.eval y = v) (hi : (Instr.indexAt ty u v).run Try.prog w = .ok r w) (hK : K (a.put o.dst r) w) : o.wp Try.prog a w K Q :=
  st_pure (by simp [execOp, hop, hx, hy, hi]) hK
theorem fld0_run (b off : Nat) (w : World) : (Instr.fieldAt 25 (.pointer (some ⟨b, off, none⟩)) 0).run Try.prog w = .ok (.pointer (some ⟨b, off, none⟩)) w := by
  go_simp
  done
theorem st_fld0 (x : Operand) (b off : Nat) (hop : o.op = .fieldAddr 25 x 0) (hx : a.eval x = .pointer (some ⟨b, off, none⟩)) (hK : K (a.put o.dst (.pointer (some ⟨b, off, none⟩))) w) : o.wp Try.prog a w K Q :=
  st_pure (by simp [execOp, hop, hx, fld0_run]) hK
theorem ld_u8 {b off : Nat} {x : Int} {w : World} (h : w.cell? ⟨b, off, none⟩ = some (.int .u8 x)) : (loadVar 22 ⟨b, off, none⟩).run Try.prog w = .ok (.int .u8 x) w := by go_simp
theorem ld_i64 {b off : Nat} {x : Int} {w : World} (h : w.cell? ⟨b, off, none⟩ = some (.int .i64 x)) : (loadVar 33 ⟨b, off, none⟩).run Try.prog w = .ok (.int .i64 x) w := by go_simp
theorem st_load (ty : TypeId) (x : Operand) (b off : Nat) (v : Value) (hop : o.op = .load ty x) (hx : a.eval x = .pointer (some ⟨b, off, none⟩)) (hl : (loadVar ty ⟨b, off, none⟩).run Try.prog w = .ok v w) (hK : K (a.put o.dst v) w) : o.wp Try.prog a w K Q :=
  st_pure (by simp [execOp, hop, hx, Instr.loadAt, Instr.sureAddr, hl]) hK
theorem conv_8 (k : Int) (hk : 0 ≤ k ∧ k ≤ 255) (w : World) : (convert 22 3 (.int .u8 k)).run Try.prog w = .ok (.int .i64 k) w := by
  have hw : IntKind.i64.wrap k = k := by rw [IntKind.wrap_i64]; omega
  have e : (convert 22 3 (.int .u8 k)).run Try.prog w = .ok (.int .i64 (IntKind.i64.wrap k)) w := by kernel_rfl
  rw [e, hw]
theorem st_conv (x : Operand) (k : Int) (hk : 0 ≤ k ∧ k ≤ 255) (hop : o.op = .convert 22 3 x) (hx : a.eval x = .int .u8 k) (hK : K (a.put o.dst (.int .i64 k)) w) : o.wp Try.prog a w K Q :=
  st_pure (by simp [execOp, hop, hx, conv_8 k hk]) hK
theorem st_call (f : Nat) (t : Tmp) (ts : Array TypeId) (v r : Value) (hop : o.op = .call { callee := .value (.func f), args := #[.tmp t], argTypes := ts }) (en : ∀ args w, (callFunc f args).run Try.prog w = .ok (.enter f args) w) (ht : a.tmps[t]? = some v)
    (hc : Calls Try.prog f #[v] w fun e w' => e = .returned r ∧ Below w.heap.size w w') (hK : ∀ w', Below w.heap.size w w' → K (a.put o.dst r) w') : o.wp Try.prog a w K Q := by
  have e : (execOp a.eval o).run Try.prog w = .ok (.enter f #[v]) w := by
    simp [execOp, hop, resolve, invoke, Act.eval, Deferred.ofValue, en, ht]
  unfold Oper.wp
  rw [e]
  exact hc.mono (fun e w' ⟨he, hb⟩ => by subst he; exact hK w' hb)
theorem st_call3 (f : Nat) (t : Tmp) (ts : Array TypeId) (u v x r : Value) (hop : o.op = .call { callee := .value (.func f), args := #[.const u, .tmp t, .const x], argTypes := ts }) (en : ∀ args w, (callFunc f args).run Try.prog w = .ok (.enter f args) w) (ht : a.tmps[t]? = some v)
    (hc : Calls Try.prog f #[u, v, x] w fun e w' => e = .returned r ∧ Below w.heap.size w w') (hK : ∀ w', Below w.heap.size w w' → K (a.put o.dst r) w') : o.wp Try.prog a w K Q := by
  have e : (execOp a.eval o).run Try.prog w = .ok (.enter f #[u, v, x]) w := by
    simp [execOp, hop, resolve, invoke, Act.eval, Deferred.ofValue, en, ht]
  unfold Oper.wp
  rw [e]
  exact hc.mono (fun e w' ⟨he, hb⟩ => by subst he; exact hK w' hb)
end
end Go.Proofs.Ytdmacflcjbkkpaa.Co
