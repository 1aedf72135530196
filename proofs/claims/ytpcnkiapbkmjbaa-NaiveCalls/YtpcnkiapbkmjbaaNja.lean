/- Both sides' calls within a region that draws its order; lists that were lent; calls without a ledger. -/
import Derived.Test.YtpcnkiapbkmjbaaXrj
import Derived.Test.YtpcnkiapbkmjbaaNst
import Derived.Test.YtpcnkiapbkmjbaaBapart
namespace Go.Proofs.Ytpcnkiapbkmjbaa.Nv
open Go.ChangeShapes Go.WideShapes Go.ChangeAt Go.RowKit
open Go.Proofs.Ytpcnkiapbkmjbaa Go.Proofs.Ytpcnkiapbkmjbaa.Tb Go.Proofs.Ytpcnkiapbkmjbaa.Xr
def pick3 (b1 b3 : Bool) (L0 L1 L2 : List Rn) : List Rn := if b3 then L2 else if b1 then L1 else L0
/-- Which of the two sides' calls are done, and what both ledgers hold then. -/
def JJ (W0 : World) (B : Nat) (t0 : Nat → Th) (lb rb : Nat) (P0 P1 P2 M0 M1 M2 : List Rn) (b1 b2 b3 b4 : Bool) (w : World) : Prop :=
  ∃ t, GX W0 B t w ∧ LgP t 0 lb (pick3 b1 b3 P0 P1 P2) ∧ LgR t 1 rb (pick3 b2 b4 M0 M1 M2) ∧ ∀ k, 2 ≤ k → t k = t0 k
section
variable {W0 w : World} {B lb rb f : Nat} {t0 : Nat → Th} {P0 P1 P2 M0 M1 M2 : List Rn} {b1 b2 b3 b4 : Bool} {vs : Array Value} {r : Value}
theorem JJ.gx (h : JJ W0 B t0 lb rb P0 P1 P2 M0 M1 M2 b1 b2 b3 b4 w) : ∃ t, GX W0 B t w ∧ ∀ k, 2 ≤ k → t k = t0 k := by
  obtain ⟨t, h1, -, -, h4⟩ := h; exact ⟨t, h1, h4⟩
theorem JJ.below {w' : World} (h : JJ W0 B t0 lb rb P0 P1 P2 M0 M1 M2 b1 b2 b3 b4 w) (hb : Below w.heap.size w w') : JJ W0 B t0 lb rb P0 P1 P2 M0 M1 M2 b1 b2 b3 b4 w' := by
  obtain ⟨t, h1, h2, h3, h4⟩ := h; exact ⟨t, h1.below hb, h2, h3, h4⟩
theorem jj_p1 (h : JJ W0 B t0 lb rb P0 P1 P2 M0 M1 M2 false b2 false b4 w) (hc : ∀ t, GX W0 B t w → LgP t 0 lb P0 → (∀ k, 2 ≤ k → t k = t0 k) → Calls Try.prog f vs w fun e W' => e = .returned r ∧ ∃ t', GX W0 B t' W' ∧ LgP t' 0 lb P1 ∧ But t t' 0) :
    Calls Try.prog f vs w fun e w' => e = .returned r ∧ JJ W0 B t0 lb rb P0 P1 P2 M0 M1 M2 true b2 false b4 w' := by
  obtain ⟨t, h1, h2, h3, h4⟩ := h
  refine (hc t h1 h2 h4).mono ?_
  rintro e w' ⟨rfl, t', k1, k2, k3⟩
  exact ⟨rfl, t', k1, k2, h3.keep (k3 1 (by decide)), fun k hk => (k3 k (by omega)).trans (h4 k hk)⟩
theorem jj_p2 (h : JJ W0 B t0 lb rb P0 P1 P2 M0 M1 M2 true b2 false b4 w) (hc : ∀ t, GX W0 B t w → LgP t 0 lb P1 → (∀ k, 2 ≤ k → t k = t0 k) → Calls Try.prog f vs w fun e W' => e = .returned r ∧ ∃ t', GX W0 B t' W' ∧ LgP t' 0 lb P2 ∧ But t t' 0) :
    Calls Try.prog f vs w fun e w' => e = .returned r ∧ JJ W0 B t0 lb rb P0 P1 P2 M0 M1 M2 true b2 true b4 w' := by
  obtain ⟨t, h1, h2, h3, h4⟩ := h
  refine (hc t h1 h2 h4).mono ?_
  rintro e w' ⟨rfl, t', k1, k2, k3⟩
  exact ⟨rfl, t', k1, k2, h3.keep (k3 1 (by decide)), fun k hk => (k3 k (by omega)).trans (h4 k hk)⟩
theorem jj_m1 (h : JJ W0 B t0 lb rb P0 P1 P2 M0 M1 M2 b1 false b3 false w) (hc : ∀ t, GX W0 B t w → LgR t 1 rb M0 → (∀ k, 2 ≤ k → t k = t0 k) → Calls Try.prog f vs w fun e W' => e = .returned r ∧ ∃ t', GX W0 B t' W' ∧ LgR t' 1 rb M1 ∧ But t t' 1) :
    Calls Try.prog f vs w fun e w' => e = .returned r ∧ JJ W0 B t0 lb rb P0 P1 P2 M0 M1 M2 b1 true b3 false w' := by
  obtain ⟨t, h1, h2, h3, h4⟩ := h
  refine (hc t h1 h3 h4).mono ?_
  rintro e w' ⟨rfl, t', k1, k2, k3⟩
  exact ⟨rfl, t', k1, h2.keep (k3 0 (by decide)), k2, fun k hk => (k3 k (by omega)).trans (h4 k hk)⟩
theorem jj_m2 (h : JJ W0 B t0 lb rb P0 P1 P2 M0 M1 M2 b1 true b3 false w) (hc : ∀ t, GX W0 B t w → LgR t 1 rb M1 → (∀ k, 2 ≤ k → t k = t0 k) → Calls Try.prog f vs w fun e W' => e = .returned r ∧ ∃ t', GX W0 B t' W' ∧ LgR t' 1 rb M2 ∧ But t t' 1) :
    Calls Try.prog f vs w fun e w' => e = .returned r ∧ JJ W0 B t0 lb rb P0 P1 P2 M0 M1 M2 b1 true b3 true w' := by
  obtain ⟨t, h1, h2, h3, h4⟩ := h
  refine (hc t h1 h3 h4).mono ?_
  rintro e w' ⟨rfl, t', k1, k2, k3⟩
  exact ⟨rfl, t', k1, h2.keep (k3 0 (by decide)), k2, fun k hk => (k3 k (by omega)).trans (h4 k hk)⟩
end
abbrev Q4 (J : Bool → Bool → Bool → Bool → World → Prop) (l : Array Bool) (c1 c2 c3 c4 : Nat) (V : World) : Prop := J (l.getD c1 false) (l.getD c2 false) (l.getD c3 false) (l.getD c4 false) V
section
variable {J : Bool → Bool → Bool → Bool → World → Prop} {l : Array Bool} {c1 c2 c3 c4 q : Nat} {V : World}
theorem q_keep (h : Q4 J l c1 c2 c3 c4 V) (n : (q != c1 && q != c2 && q != c3 && q != c4) = true) : Q4 J (l.setIfInBounds q true) c1 c2 c3 c4 V := by
  simp only [Bool.and_eq_true, bne_iff_ne, ne_eq] at n
  unfold Q4
  rw [getD_set_ne false n.1.1.1, getD_set_ne false n.1.1.2, getD_set_ne false n.1.2, getD_set_ne false n.2]
  exact h
theorem q_set1 (hl : c1 < l.size) (n : (c1 != c2 && c1 != c3 && c1 != c4) = true) (h : J true (l.getD c2 false) (l.getD c3 false) (l.getD c4 false) V) : Q4 J (l.setIfInBounds c1 true) c1 c2 c3 c4 V := by
  simp only [Bool.and_eq_true, bne_iff_ne, ne_eq] at n
  unfold Q4
  rw [getD_same hl, getD_set_ne false n.1.1, getD_set_ne false n.1.2, getD_set_ne false n.2]
  exact h
theorem q_set2 (hl : c2 < l.size) (n : (c2 != c1 && c2 != c3 && c2 != c4) = true) (h : J (l.getD c1 false) true (l.getD c3 false) (l.getD c4 false) V) : Q4 J (l.setIfInBounds c2 true) c1 c2 c3 c4 V := by
  simp only [Bool.and_eq_true, bne_iff_ne, ne_eq] at n
  unfold Q4
  rw [getD_same hl, getD_set_ne false n.1.1, getD_set_ne false n.1.2, getD_set_ne false n.2]
  exact h
theorem q_set3 (hl : c3 < l.size) (n : (c3 != c1 && c3 != c2 && c3 != c4) = true) (h : J (l.getD c1 false) (l.getD c2 false) true (l.getD c4 false) V) : Q4 J (l.setIfInBounds c3 true) c1 c2 c3 c4 V := by
  simp only [Bool.and_eq_true, bne_iff_ne, ne_eq] at n
  unfold Q4
  rw [getD_same hl, getD_set_ne false n.1.1, getD_set_ne false n.1.2, getD_set_ne false n.2]
  exact h
theorem q_set4 (hl : c4 < l.size) (n : (c4 != c1 && c4 != c2 && c4 != c3) = true) (h : J (l.getD c1 false) (l.getD c2 false) (l.getD c3 false) true V) : Q4 J (l.setIfInBounds c4 true) c1 c2 c3 c4 V := by
  simp only [Bool.and_eq_true, bne_iff_ne, ne_eq] at n
  unfold Q4
  rw [getD_same hl, getD_set_ne false n.1.1, getD_set_ne false n.1.2, getD_set_ne false n.2]
  exact h
theorem getD_big (h : l.size ≤ q) : l.getD q false = false := by simp [Nat.not_lt.2 h]
end
section
variable {o : Oper} {a : Act} {w : World} {K : Act → World → Prop} {Q : Exit → Act → World → Prop}
theorem st_callJ {I : World → Prop} (f : Nat) (vs : Array Value) (r : Value) (e : (execOp a.eval o).run Try.prog w = .ok (.enter f vs) w) (hc : Calls Try.prog f vs w fun x w' => x = .returned r ∧ I w') (hK : ∀ w', I w' → K (a.put o.dst r) w') : o.wp Try.prog a w K Q := by
  unfold Oper.wp
  rw [e]
  exact hc.mono (fun e w' ⟨he, hb⟩ => by subst he; exact hK w' hb)
theorem en_ttt (f : Nat) (t t2 t3 : Tmp) (ts : Array TypeId) (v v2 v3 : Value) (hop : o.op = .call { callee := .value (.func f), args := #[.tmp t, .tmp t2, .tmp t3], argTypes := ts }) (en : ∀ args w, (callFunc f args).run Try.prog w = .ok (.enter f args) w) (h1 : a.tmps[t]? = some v) (h2 : a.tmps[t2]? = some v2) (h3 : a.tmps[t3]? = some v3) : (execOp a.eval o).run Try.prog w = .ok (.enter f #[v, v2, v3]) w := by
  simp [execOp, hop, resolve, invoke, Act.eval, Deferred.ofValue, en, h1, h2, h3]
theorem en_tt (f : Nat) (t t2 : Tmp) (ts : Array TypeId) (v v2 : Value) (hop : o.op = .call { callee := .value (.func f), args := #[.tmp t, .tmp t2], argTypes := ts }) (en : ∀ args w, (callFunc f args).run Try.prog w = .ok (.enter f args) w) (h1 : a.tmps[t]? = some v) (h2 : a.tmps[t2]? = some v2) : (execOp a.eval o).run Try.prog w = .ok (.enter f #[v, v2]) w := by
  simp [execOp, hop, resolve, invoke, Act.eval, Deferred.ofValue, en, h1, h2]
theorem en_ctt (f : Nat) (c : Value) (t2 t3 : Tmp) (ts : Array TypeId) (v2 v3 : Value) (hop : o.op = .call { callee := .value (.func f), args := #[.const c, .tmp t2, .tmp t3], argTypes := ts }) (en : ∀ args w, (callFunc f args).run Try.prog w = .ok (.enter f args) w) (h2 : a.tmps[t2]? = some v2) (h3 : a.tmps[t3]? = some v3) : (execOp a.eval o).run Try.prog w = .ok (.enter f #[c, v2, v3]) w := by
  simp [execOp, hop, resolve, invoke, Act.eval, Deferred.ofValue, en, h2, h3]
theorem en_ct (f : Nat) (c : Value) (t2 : Tmp) (ts : Array TypeId) (v2 : Value) (hop : o.op = .call { callee := .value (.func f), args := #[.const c, .tmp t2], argTypes := ts }) (en : ∀ args w, (callFunc f args).run Try.prog w = .ok (.enter f args) w) (h2 : a.tmps[t2]? = some v2) : (execOp a.eval o).run Try.prog w = .ok (.enter f #[c, v2]) w := by
  simp [execOp, hop, resolve, invoke, Act.eval, Deferred.ofValue, en, h2]
end
theorem bin_eqb (x y : Bool) (w : World) : (binOp .eql 4 (.bool x) (.bool y)).run Try.prog w = .ok (.bool (x == y)) w := by go_simp
theorem gd_bool (op : BinOp) (ty : TypeId) (x y : Operand) (u v : Bool) (w : World) : (eqGuard op ty x y (.bool u) (.bool v)).run Try.prog w = .ok () w := by
  unfold eqGuard
  cases op <;> rfl
theorem bin_eq8 (x y : Int) (w : World) : (binOp .eql 5 (.int .u8 x) (.int .u8 y)).run Try.prog w = .ok (.bool (x == y)) w := by go_simp
section
variable {w0 W : World} {B i k g n cap : Nat} {t : Nat → Th} {f : Nat → Int} {v : Value}
/-- The beginning of a list that was lent. -/
theorem rd_lent (hG : GX w0 B t W) (h : t i = tB (.slice (some ⟨g, 0, none⟩) (n + 6) cap) (n + 6) (By.lent n f)) (hf : ∀ j, 0 ≤ f j ∧ f j < 256) (hik : i ≠ k) : Rd t k W (.slice (some ⟨g, 0, none⟩) n cap) n f := by
  have hp := hG.all i
  have ha := hG.ap i k hik
  rw [h] at hp ha
  exact ⟨By.rb_lent hp hf, fun b off c e => by cases e; exact .inr (ha g rfl)⟩
theorem own_lo (hG : GX w0 B t W) (h : t i = tB v n f) : By.Own W B v n f := by
  have hp := hG.all i
  have hl := hG.lo i
  rw [h] at hp hl
  obtain ⟨h0, h1, h2⟩ := hp
  refine ⟨h0, h1, ?_⟩
  rcases h2 with hn | ⟨q, c, cur, rfl, hb, hr⟩
  · exact .inl hn
  · exact .inr ⟨q, c, cur, rfl, hl q rfl, hr⟩
theorem own_ap {j m : Nat} {u : Value} {f2 : Nat → Int} (hG : GX w0 B t W) (h : t i = tB v n f) (h2 : t j = tB u m f2) (hij : i ≠ j) : v.ownBlock = none ∨ v.ownBlock ≠ u.ownBlock := by
  have ha := hG.ap i j hij
  rw [h, h2] at ha
  cases e : v.ownBlock with
  | none => exact .inl rfl
  | some q => exact .inr fun e2 => ha q e (by show u.ownBlock = some q; rw [← e2])
end
section
variable {w : World} {v u : Value} {n m : Nat} {f g : Nat → Int}
theorem rb_any {S : Nat → Prop} (h : By.RB w v n f) {w' : World} (hk : Kp S w w') (hs : ∀ j, ¬ S j) : By.RB w' v n f := rb_kept h hk (fun b _ _ _ => .inr (hs b))
theorem eq_nil (ha : By.RB w v n f) (hb : By.RB w u m g) (hn : n ≤ 200) (hm : m ≤ 200) : Calls Try.prog 13 #[.pointer none, v, u] w fun r w' => r = .returned (.bool (eqA f g n m)) ∧ Below w.heap.size w w' := by
  refine (eq_walk (lo := none) (rv0 := .slice none 0 0) v u n m f g (pl_none w _).st tot0 hn hm (fun w' hk => rb_any ha hk (fun _ => id)) (fun w' hk => rb_any hb hk (fun _ => id))).mono ?_
  rintro r w' ⟨rfl, hs⟩
  exact ⟨rfl, st_none hs⟩
theorem req_nil (ha : By.RB w v n f) (hb : By.RB w u m g) (hn : n ≤ 200) (hm : m ≤ 200) : Calls Try.prog 14 #[.pointer none, v, u] w fun r w' => r = .returned (.bool (eqA f g n m)) ∧ Below w.heap.size w w' := by
  refine (req_walk (lo := none) (rv0 := .slice none 0 0) v u n m f g (rpl_none w _).st tot0 hn hm (fun w' hk => rb_any ha hk (fun _ => id)) (fun w' hk => rb_any hb hk (fun _ => id))).mono ?_
  rintro r w' ⟨rfl, hs⟩
  exact ⟨rfl, rst_none hs⟩
theorem fi_nil2 (x : Int) (ha : By.RB w v n f) (hn : n ≤ 200) : Calls Try.prog 19 #[.pointer none, v, .int .u8 x] w fun r w' => r = .returned (.int .i64 (fiA f x n)) ∧ Below w.heap.size w w' := by
  refine (fi_walk (lo := none) (rv0 := .slice none 0 0) v x n f (pl_none w _).st tot0 hn (fun w' hk => rb_any ha hk (fun _ => id))).mono ?_
  rintro r w' ⟨rfl, hs⟩
  exact ⟨rfl, st_none hs⟩
theorem rfi_nil (x : Int) (ha : By.RB w v n f) (hn : n ≤ 200) : Calls Try.prog 20 #[.pointer none, v, .int .u8 x] w fun r w' => r = .returned (.int .i64 (fiA f x n)) ∧ Below w.heap.size w w' := by
  refine (rfi_walk (lo := none) (rv0 := .slice none 0 0) v x n f (rpl_none w _).st tot0 hn (fun w' hk => rb_any ha hk (fun _ => id))).mono ?_
  rintro r w' ⟨rfl, hs⟩
  exact ⟨rfl, rst_none hs⟩
theorem bx_nil (a : Nat) (ha : a < 256) : Calls Try.prog 15 #[.pointer none, .int .u8 (a : Int)] w fun r w' => r = .returned (.int .u8 (Gf.box a : Nat)) ∧ Below w.heap.size w w' := by
  refine (bx_walk (lo := none) (rv0 := .slice none 0 0) a (pl_none w _).st tot0 ha).mono ?_
  rintro r w' ⟨rfl, hs⟩
  exact ⟨rfl, st_none hs⟩
theorem rbx_nil (a : Nat) (ha : a < 256) : Calls Try.prog 16 #[.pointer none, .int .u8 (a : Int)] w fun r w' => r = .returned (.int .u8 (Gf.box a : Nat)) ∧ Below w.heap.size w w' := by
  refine (rbx_walk (lo := none) (rv0 := .slice none 0 0) a (rpl_none w _).st tot0 ha).mono ?_
  rintro r w' ⟨rfl, hs⟩
  exact ⟨rfl, rst_none hs⟩
theorem pow_nilA (b e m : Nat) (hb : b < 18446744073709551616) (he : e < 18446744073709551616) (hm : m < 18446744073709551616) : Calls Try.prog 17 #[.pointer none, .int .u64 b, .int .u64 e, .int .u64 m] w fun r w' => r = .returned (.tuple #[.int .u64 ((pwA b e m : Nat) : Int), .int .i64 (pwE m)]) ∧ Below w.heap.size w w' := by
  by_cases h0 : m = 0
  · subst h0
    refine (pow_none (.pointer none) b e w).mono ?_
    rintro r W' ⟨rfl, rfl⟩
    exact ⟨rfl, Below.refl _ _⟩
  · refine (pow_walk (lo := none) (rv0 := .slice none 0 0) b e m (pl_none w _).st tot0 hb he (by omega) hm).mono ?_
    rintro r w' ⟨rfl, hs⟩
    rw [show pwA b e m = b ^ e % m from if_neg h0, show pwE m = 0 from if_neg h0]
    exact ⟨rfl, st_none hs⟩
theorem so_nil (ha : By.RB w v n f) (hn : n ≤ 200) : Calls Try.prog 21 #[.pointer none, v] w fun r w' => ∃ u, r = .returned u ∧ By.Own w' w.heap.size u n (srt f n).1 ∧ Below w.heap.size w w' := by
  refine (so_walk (lo := none) (rv0 := .slice none 0 0) v n f (pl_none w _).st tot0 hn ha).mono ?_
  rintro r w' ⟨u, rfl, hs⟩
  exact ⟨u, rfl, hs.own, st_none hs.toST⟩
end
end Go.Proofs.Ytpcnkiapbkmjbaa.Nv
