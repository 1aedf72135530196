/- Rows of lists that grow side by side: one value put behind a row; what is far from a row; lists of lists and of numbers that are told. Two Publics of the program, two of the document, side by side; nothing laid apart. What a row of told lists gives behind its loop: its cells, and that the lists lie apart. -/
import Derived.Test.YtdmacflcjbkkpaaGreatJn
import Derived.Test.YtdmacflcjbkkpaaGreatChh
import Derived.Test.YtdmacflcjbkkpaaGreatJq
import Derived.Test.YtdmacflcjbkkpaaGreatCii
namespace Go.Proofs.YtdmacflcjbkkpaaGreat.Cd
open Go.Proofs.YtdmacflcjbkkpaaGreat.Co
open Go.ChangeShapes Go.WideShapes Go.ChangeAt Go.RowKit
open Go.Proofs.YtdmacflcjbkkpaaGreat (Rn Own SameOrNew)
open Go.Proofs.YtdmacflcjbkkpaaGreat.Tb (Blk)
theorem wpList_pushV {w : World} {ops : Array Oper} {rest : List Oper} {o : Oper} {a : Act} {Q : Exit → Act → World → Prop} (hgd : o.guard = none) (s x : Operand) (t e : TypeId) (z : Value) (bytes : Nat)
    (ho : o.op = .call { callee := .builtin .append, args := #[s, x], argTypes := #[t, t] }) (hut : Tryz.prog.underlying t = some (.slice e)) (hinf : (Tryz.prog.info? e).map (fun i => (i.zero, i.size, i.bytes)) = some (some z, 1, bytes)) (hzs : z.cells.size = 1)
    (base : Nat) (u : Value) (n : Nat) (xs : List Value) (y : Value) (hu : w.ownsRow base e 1 u n xs) (hy : y.oneCell' = true) (hb0 : base ≤ w.heap.size) (hn : n ≤ 1000000) (hN : (n + 1) * bytes ≤ 140737488355328) (ad : Addr)
    (hs : a.eval s = u) (hx : a.eval x = .slice (some ad) 1 1) (hc : ∀ j v, [y][j]? = some v → w.cell? (ad.add j) = some v)
    (h : ∀ u' w', w'.ownsRow base e 1 u' (n + 1) (xs ++ [y]) → Kp (fun k => u.ownBlock = some k) w w' → SameOrNew w u u' → wpList Tryz.prog ops Q rest (a.put o.dst u') w') : wpList Tryz.prog ops Q (o :: rest) a w := by
  obtain ⟨i0, hi, hz0, hz1, hz2⟩ := info_parts hinf
  have hl : xs.length = n := by simpa using hu.1
  have h1 : ∀ v ∈ [y], v.oneCell' = true := fun v hv => by simp at hv; subst hv; exact hy
  have grows : ∀ (ao : Option Addr) (cap : Nat), u = .slice ao n cap → (ao = none → n = 0 ∧ cap = 0) → (∀ b, ao = some b → ∀ j v, xs[j]? = some v → w.cell? (b.add j) = some v) → cap < n + 1 → wpList Tryz.prog ops Q (o :: rest) a w := by
    intro ao cap hu' hnone hcells hcap
    refine wpList_append_grows _ hgd s x t ho e i0 z 1 bytes hut hi hz0 hz1 hz2 hzs (by decide) ao n cap xs (hs.trans hu') hnone (by omega) hcells ad 1 1 [y] hx rfl hc h1 hcap (by simp [maxLen]; omega) hN ?_
    intro u' w' hown hgr
    exact h u' w' ⟨hown.1, hown.2.imp id fun ⟨g, cap, cur, h1, h2, h3⟩ => ⟨g, cap, cur, h1, Nat.le_trans hb0 h2, h3⟩⟩ ((Kp.of_grown hgr).mono fun k _ e => by cases e) (.inr fun g hg => (hown.lt g hg).1)
  rcases hu.2 with ⟨hun, hn0⟩ | ⟨g, cap, cur, hun, hgb, hg, hnc, hcm, hcs, ht⟩
  · subst hn0
    exact grows none 0 hun (fun _ => ⟨rfl, rfl⟩) (fun b hb => by cases hb) (by simp)
  · by_cases hcap : n + 1 ≤ cap
    · subst hun
      refine wpList_append_fits _ hgd s x t ho base e i0 1 hut hi hz1 g n cap xs hs hu ad 1 1 [y] hx rfl hc h1 hcap ?_
      intro w' hown hgr
      exact h _ w' hown (Kp.of_grown hgr) (.inl rfl)
    · subst hun
      refine grows (some ⟨g, 0, none⟩) cap rfl (fun h => by cases h) (fun b hb j v hv => ?_) (by omega)
      cases hb
      have hj : j < n := by have := (List.getElem?_eq_some_iff.1 hv).1; omega
      rw [Go.Proofs.YtdmacflcjbkkpaaGreat.add_plain, Nat.zero_add, hu.cellAt j (by omega)]; exact hv
/-- Block g holds no cells of type e. -/
def Far (w : World) (g : Nat) (e : TypeId) : Prop := ∀ cur z, w.heap[g]? ≠ some (.cells cur e z)
theorem far_blk {w : World} {g : Nat} {cs : List Value} {t e : TypeId} (h : Blk w g cs t) (ht : t ≠ e) : Far w g e := fun cur z hh => by
  rw [show w.heap[g]? = _ from h] at hh
  simp only [Option.some.injEq, Obj.cells.injEq] at hh
  exact ht hh.2.1
theorem far_map {w : World} {g : Nat} {P : St} (h : MP w g P) (e : TypeId) : Far w g e := fun cur z hh => by
  obtain ⟨D, ⟨es, clock, hg, _⟩, _⟩ := h
  rw [hg] at hh; cases hh
theorem far_row {w : World} {base sz n : Nat} {e e' : TypeId} {v : Value} {xs : List Value} (h : w.ownsRow base e sz v n xs) (ht : e ≠ e') {g : Nat} (hg : v.ownBlock = some g) : Far w g e' := fun cur z hh => by
  rcases h.2 with ⟨hu, _⟩ | ⟨g', cap, cur', hu, _, hg', _⟩
  · rw [hu] at hg; cases hg
  · rw [hu] at hg
    simp only [Value.ownBlock, Option.some.injEq] at hg
    subst hg
    rw [hg'] at hh
    simp only [Option.some.injEq, Obj.cells.injEq] at hh
    exact ht hh.2.1
theorem row_far {w : World} {base sz n : Nat} {e : TypeId} {v : Value} {xs : List Value} (h : w.ownsRow base e sz v n xs) {g : Nat} (hf : Far w g e) : v.ownBlock ≠ some g := fun hg => by
  rcases h.2 with ⟨hu, _⟩ | ⟨g', cap, cur', hu, _, hg', _⟩
  · rw [hu] at hg; cases hg
  · rw [hu] at hg
    simp only [Value.ownBlock, Option.some.injEq] at hg
    subst hg
    exact hf _ _ hg'
theorem rowG_kept {w w' : World} {S : Nat → Prop} {base sz n : Nat} {e : TypeId} {v : Value} {xs : List Value} (h : w.ownsRow base e sz v n xs) (hk : Kp S w w') (hne : ∀ g, v.ownBlock = some g → ¬ S g) : w'.ownsRow base e sz v n xs := by
  refine ⟨h.1, ?_⟩
  rcases h.2 with hn | ⟨g, cap, cur, rfl, hb, hgg, rest⟩
  · exact .inl hn
  · refine .inr ⟨g, cap, cur, rfl, hb, ?_, rest⟩
    rw [hk.block g (Array.getElem?_eq_some_iff.1 hgg).1 (hne g rfl)]
    exact hgg
/-- i lists of runs, told one after another: each in memory behind what was there. -/
structure Tol (w : World) (base : Nat) (v : Value) (i : Nat) (T : Nat → Value) (B : Nat → Nat) (F : Nat → List Ru) : Prop where
  row : w.ownsRow base 33 1 v i ((List.range i).map T)
  own : ∀ j, j < i → Own w (B j) (T j) (F j) ∧ base ≤ B j
  ap : ∀ j, j < i → ∀ k, k < j → ∀ q, (T k).ownBlock = some q → q < B j
theorem Tol.nil (w : World) (base : Nat) (T : Nat → Value) (B : Nat → Nat) (F : Nat → List Ru) : Tol w base (.slice none 0 0) 0 T B F := ⟨World.ownsRow_nil _ _ _ _, fun j hj => by omega, fun j hj => by omega⟩
theorem Tol.kept {w w' : World} {base i : Nat} {v : Value} {T : Nat → Value} {B : Nat → Nat} {F : Nat → List Ru} {S : Nat → Prop} (h : Tol w base v i T B F) (hk : Kp S w w') (h1 : ∀ g, v.ownBlock = some g → ¬ S g) (h2 : ∀ g, S g → Far w g 86) : Tol w' base v i T B F :=
  ⟨rowG_kept h.row hk h1, fun j hj => ⟨(h.own j hj).1.kept hk (fun g e s => row_far (h.own j hj).1.2 (h2 g s) e), (h.own j hj).2⟩, h.ap⟩
theorem Tol.below {w w' : World} {base i : Nat} {v : Value} {T : Nat → Value} {B : Nat → Nat} {F : Nat → List Ru} (h : Tol w base v i T B F) (hb : Below w.heap.size w w') : Tol w' base v i T B F := h.kept (Kp.of_below (fun _ => False) hb) (fun _ _ e => e) (fun _ e => e.elim)
theorem map_cong {α : Type} {i : Nat} {f g : Nat → α} (h : ∀ j, j < i → f j = g j) : (List.range i).map f = (List.range i).map g := List.map_congr_left (fun j hj => h j (by simpa using hj))
def upd {α : Type} (f : Nat → α) (i : Nat) (x : α) (j : Nat) : α := if j = i then x else f j
theorem upd_at {α : Type} (f : Nat → α) (i : Nat) (x : α) : upd f i x i = x := if_pos rfl
theorem upd_lt {α : Type} (f : Nat → α) {i j : Nat} (x : α) (h : j < i) : upd f i x j = f j := if_neg (by omega)
theorem upd_row {i : Nat} (T : Nat → Value) (x : Value) : (List.range i).map T ++ [x] = (List.range (i + 1)).map (upd T i x) := by
  rw [List.range_succ, List.map_append, map_cong (fun j hj => (upd_lt T x hj).symm)]
  simp [upd_at]
/-- One more list is told. -/
theorem Tol.push {w w' : World} {base i b : Nat} {v v' x : Value} {L : List Ru} {T : Nat → Value} {B : Nat → Nat} {F : Nat → List Ru} (h : Tol w base v i T B F) (hx : Own w b x L) (hb : base ≤ b) (hlt : ∀ k, k < i → ∀ q, (T k).ownBlock = some q → q < b)
    (hr : w'.ownsRow base 33 1 v' (i + 1) ((List.range i).map T ++ [x])) (hk : Kp (fun q => v.ownBlock = some q) w w') : Tol w' base v' (i + 1) (upd T i x) (upd B i b) (upd F i L) := by
  refine ⟨by rw [← upd_row]; exact hr, fun j hj => ?_, fun j hj k hkj q hq => ?_⟩
  · by_cases e : j = i
    · subst e
      rw [upd_at, upd_at, upd_at]
      exact ⟨hx.kept hk (fun g e s => row_far hx.2 (far_row h.row (by decide) s) e), hb⟩
    · rw [upd_lt _ _ (by omega), upd_lt _ _ (by omega), upd_lt _ _ (by omega)]
      obtain ⟨o, m⟩ := h.own j (by omega)
      exact ⟨o.kept hk (fun g e s => row_far o.2 (far_row h.row (by decide) s) e), m⟩
  · rw [upd_lt T x (by omega)] at hq
    by_cases e : j = i
    · subst e
      rw [upd_at]
      exact hlt k hkj q hq
    · rw [upd_lt B b (by omega)]
      exact h.ap j (by omega) k hkj q hq
/-- The same of lists of numbers. -/
structure Hel (w : World) (base : Nat) (v : Value) (i : Nat) (T : Nat → Value) (B : Nat → Nat) (N : Nat → Nat) (F : Nat → Nat → Int) : Prop where
  row : w.ownsRow base 23 1 v i ((List.range i).map T)
  own : ∀ j, j < i → Ic.Own w (B j) (T j) (N j) (F j) ∧ base ≤ B j
  ap : ∀ j, j < i → ∀ k, k < j → ∀ q, (T k).ownBlock = some q → q < B j
theorem ic_kept {w w' : World} {S : Nat → Prop} {base n : Nat} {v : Value} {f : Nat → Int} (h : Ic.Own w base v n f) (hk : Kp S w w') (hne : ∀ g, v.ownBlock = some g → ¬ S g) : Ic.Own w' base v n f := ⟨h.1, rowG_kept h.2 hk hne⟩
theorem Hel.nil (w : World) (base : Nat) (T : Nat → Value) (B N : Nat → Nat) (F : Nat → Nat → Int) : Hel w base (.slice none 0 0) 0 T B N F := ⟨World.ownsRow_nil _ _ _ _, fun j hj => by omega, fun j hj => by omega⟩
theorem Hel.kept {w w' : World} {base i : Nat} {v : Value} {T : Nat → Value} {B N : Nat → Nat} {F : Nat → Nat → Int} {S : Nat → Prop} (h : Hel w base v i T B N F) (hk : Kp S w w') (h1 : ∀ g, S g → Far w g 23) (h2 : ∀ g, S g → Far w g 3) : Hel w' base v i T B N F :=
  ⟨rowG_kept h.row hk (fun g e s => row_far h.row (h1 g s) e), fun j hj => ⟨ic_kept (h.own j hj).1 hk (fun g e s => row_far (h.own j hj).1.2 (h2 g s) e), (h.own j hj).2⟩, h.ap⟩
theorem Hel.below {w w' : World} {base i : Nat} {v : Value} {T : Nat → Value} {B N : Nat → Nat} {F : Nat → Nat → Int} (h : Hel w base v i T B N F) (hb : Below w.heap.size w w') : Hel w' base v i T B N F := h.kept (Kp.of_below (fun _ => False) hb) (fun _ e => e.elim) (fun _ e => e.elim)
theorem Hel.push {w w' : World} {base i b n : Nat} {v v' x : Value} {L : Nat → Int} {T : Nat → Value} {B N : Nat → Nat} {F : Nat → Nat → Int} (h : Hel w base v i T B N F) (hx : Ic.Own w b x n L) (hb : base ≤ b) (hlt : ∀ k, k < i → ∀ q, (T k).ownBlock = some q → q < b)
    (hr : w'.ownsRow base 23 1 v' (i + 1) ((List.range i).map T ++ [x])) (hk : Kp (fun q => v.ownBlock = some q) w w') : Hel w' base v' (i + 1) (upd T i x) (upd B i b) (upd N i n) (upd F i L) := by
  refine ⟨by rw [← upd_row]; exact hr, fun j hj => ?_, fun j hj k hkj q hq => ?_⟩
  · by_cases e : j = i
    · subst e
      rw [upd_at, upd_at, upd_at, upd_at]
      exact ⟨ic_kept hx hk (fun g e s => row_far hx.2 (far_row h.row (by decide) s) e), hb⟩
    · rw [upd_lt _ _ (by omega), upd_lt _ _ (by omega), upd_lt _ _ (by omega), upd_lt _ _ (by omega)]
      obtain ⟨o, m⟩ := h.own j (by omega)
      exact ⟨ic_kept o hk (fun g e s => row_far o.2 (far_row h.row (by decide) s) e), m⟩
  · rw [upd_lt T x (by omega)] at hq
    by_cases e : j = i
    · subst e
      rw [upd_at]
      exact hlt k hkj q hq
    · rw [upd_lt B b (by omega)]
      exact h.ap j (by omega) k hkj q hq
end Go.Proofs.YtdmacflcjbkkpaaGreat.Cd
namespace Go.Proofs.YtdmacflcjbkkpaaGreat.Cd
open Go.Proofs.YtdmacflcjbkkpaaGreat.Co
open Go.ChangeShapes Go.WideShapes Go.ChangeAt Go.RowKit
open Go.Proofs.YtdmacflcjbkkpaaGreat (Rn Own SameOrNew)
open Go.Proofs.YtdmacflcjbkkpaaGreat.Tb (Blk)
structure Two (w : World) (pk gmk gkk rk : Nat → Nat) (P : Nat → St) (Q : Nat → St) : Prop where
  pu : ∀ k, k < 2 → PU w (pk k) (gmk k) (gkk k) (P k)
  dp : ∀ k, k < 2 → DP w (rk k) (Q k)
theorem two_ne {f : Nat → Nat} (h : f 0 ≠ f 1) {j k : Nat} (hj : j < 2) (hk : k < 2) (hne : j ≠ k) : f j ≠ f k := by
  have : (j = 0 ∧ k = 1) ∨ (j = 1 ∧ k = 0) := by omega
  rcases this with ⟨rfl, rfl⟩ | ⟨rfl, rfl⟩
  · exact h
  · exact fun e => h e.symm
theorem Two.below {w w' : World} {pk gmk gkk rk : Nat → Nat} {P Q : Nat → St} (h : Two w pk gmk gkk rk P Q) (hb : Below w.heap.size w w') : Two w' pk gmk gkk rk P Q := ⟨fun k hk => (h.pu k hk).below hb, fun k hk => (h.dp k hk).below hb⟩
theorem Two.prog {w w' : World} {pk gmk gkk rk : Nat → Nat} {P Q : Nat → St} {P' : St} {k : Nat} (h : Two w pk gmk gkk rk P Q) (hk2 : k < 2) (hk : Kp (fun j => j = gmk k) w w') (hp : PU w' (pk k) (gmk k) (gkk k) P') (hne : gmk 0 ≠ gmk 1) : Two w' pk gmk gkk rk (upd P k P') Q := by
  refine ⟨fun j hj => ?_, fun j hj => ?_⟩
  · by_cases e : j = k
    · subst e; rw [upd_at]; exact hp
    · rw [show upd P k P' j = P j from if_neg e]
      have m := (h.pu k hk2).map
      have o := h.pu j hj
      exact o.kept hk (fun e1 => m.ne o.here (e1 ▸ rfl)) (fun e1 => two_ne hne hj hk2 e e1) (fun e1 => m.ne o.kt (e1 ▸ rfl))
  · have m := (h.pu k hk2).map
    refine (h.dp j hj).kept hk (fun e1 => ?_)
    obtain ⟨_, _, hb, _⟩ := h.dp j hj
    exact m.ne hb (e1 ▸ rfl)
theorem Two.doc {w w' : World} {pk gmk gkk rk : Nat → Nat} {P Q : Nat → St} {Q' : St} {k : Nat} (h : Two w pk gmk gkk rk P Q) (hk2 : k < 2) (hk : Kp (fun j => j = rk k) w w') (hd : DP w' (rk k) Q') (hne : rk 0 ≠ rk 1) : Two w' pk gmk gkk rk P (upd Q k Q') := by
  obtain ⟨_, _, hb, _⟩ := h.dp k hk2
  refine ⟨fun j hj => ?_, fun j hj => ?_⟩
  · have o := h.pu j hj
    exact o.kept hk (fun e1 => by have e1 : pk j = rk k := e1; exact o.here.ne hb (by decide) e1) (fun e1 => by have e1 : gmk j = rk k := e1; exact o.map.ne hb e1) (fun e1 => by have e1 : gkk j = rk k := e1; exact o.kt.ne hb (by decide) e1)
  · by_cases e : j = k
    · subst e; rw [upd_at]; exact hd
    · rw [show upd Q k Q' j = Q j from if_neg e]
      exact (h.dp j hj).kept hk (fun e1 => two_ne hne hj hk2 e e1)
/-- A row was gone on with. -/
theorem Two.row {w w' : World} {pk gmk gkk rk : Nat → Nat} {P Q : Nat → St} {base sz n : Nat} {e : TypeId} {v : Value} {xs : List Value} (h : Two w pk gmk gkk rk P Q) (hr : w.ownsRow base e sz v n xs) (h1 : 61 ≠ e) (h2 : 93 ≠ e) (h3 : 67 ≠ e) (hk : Kp (fun q => v.ownBlock = some q) w w') : Two w' pk gmk gkk rk P Q :=
  ⟨fun j hj => (h.pu j hj).kept hk (row_far hr (far_blk (h.pu j hj).here h1)) (row_far hr (far_map (h.pu j hj).map e)) (row_far hr (far_blk (h.pu j hj).kt h2)), fun j hj => (h.dp j hj).kept hk (by
    obtain ⟨_, _, hb, _⟩ := h.dp j hj
    exact row_far hr (far_blk hb h3))⟩
set_option maxHeartbeats 1200000 in
theorem apart0r (w : World) : Calls Tryz.prog 14 #[.slice none 0 0] w fun e w' => e = .returned (.bool true) ∧ w' = w := by
  go_enter Tryz.func14, Tryz.ntmps14
  go_wp2
  go_loopw [3] (fun x wr => x = .int .i64 0 ∧ wr = w) (fun _ _ => 0)
  case atStart => exact ⟨rfl, rfl⟩
  case round =>
    obtain ⟨rfl, rfl⟩ := hrel
    go_wp2
    go_loopw [5, 6] (fun y x wq => y = .slice none 0 0 ∧ x = .int .i64 0 ∧ wq = wr) (fun _ _ _ => 0)
    case atStart => exact ⟨rfl, rfl, rfl⟩
    case round =>
      obtain ⟨rfl, rfl, rfl⟩ := hrel
      go_wp2
      go_loopw [9] (fun x wq => x = .int .i64 0 ∧ wq = wr) (fun _ _ => 0)
      case atStart => exact ⟨rfl, rfl⟩
      case round =>
        obtain ⟨rfl, rfl⟩ := hrel
        go_wp2
        go_ret
        exact ⟨rfl, rfl⟩
set_option maxHeartbeats 1200000 in
theorem apart0i (w : World) : Calls Tryz.prog 15 #[.slice none 0 0] w fun e w' => e = .returned (.bool true) ∧ w' = w := by
  go_enter Tryz.func15, Tryz.ntmps15
  go_wp2
  go_loopw [3] (fun x wr => x = .int .i64 0 ∧ wr = w) (fun _ _ => 0)
  case atStart => exact ⟨rfl, rfl⟩
  case round =>
    obtain ⟨rfl, rfl⟩ := hrel
    go_wp2
    go_loopw [5, 6] (fun y x wq => y = .slice none 0 0 ∧ x = .int .i64 0 ∧ wq = wr) (fun _ _ _ => 0)
    case atStart => exact ⟨rfl, rfl, rfl⟩
    case round =>
      obtain ⟨rfl, rfl, rfl⟩ := hrel
      go_wp2
      go_loopw [9] (fun x wq => x = .int .i64 0 ∧ wq = wr) (fun _ _ => 0)
      case atStart => exact ⟨rfl, rfl⟩
      case round =>
        obtain ⟨rfl, rfl⟩ := hrel
        go_wp2
        go_ret
        exact ⟨rfl, rfl⟩
end Go.Proofs.YtdmacflcjbkkpaaGreat.Cd
namespace Go.Proofs.YtdmacflcjbkkpaaGreat.Cd
open Go.Proofs.YtdmacflcjbkkpaaGreat.Co
open Go.ChangeShapes Go.WideShapes Go.ChangeAt Go.RowKit
open Go.Proofs.YtdmacflcjbkkpaaGreat (Rn Own SameOrNew AP Inv1)
theorem row_some {w : World} {base n : Nat} {e : TypeId} {v : Value} {xs : List Value} (h : w.ownsRow base e 1 v n xs) (hn : 0 < n) : ∃ g cap, v = .slice (some ⟨g, 0, none⟩) n cap ∧ base ≤ g ∧ g < w.heap.size ∧ ∀ j y, j < n → xs[j]? = some y → w.cell? ⟨g, j, none⟩ = some y := by
  have h0 := h
  rcases h.2 with ⟨_, hn0⟩ | ⟨g, cap, cur, rfl, _⟩
  · omega
  · have l := h0.lt g rfl
    exact ⟨g, cap, rfl, l.1, l.2, fun j y hj hy => (h0.cellAt j (by omega)).trans hy⟩
theorem row_at (T : Nat → Value) {n j : Nat} (h : j < n) : ((List.range n).map T)[j]? = some (T j) := by
  rw [List.getElem?_map, List.getElem?_range h]; rfl
theorem tol_ap {w : World} {base n g : Nat} {v : Value} {T : Nat → Value} {B : Nat → Nat} {F : Nat → List Ru} (h : Tol w base v n T B F) (hg : v.ownBlock = some g) : AP n g T := by
  refine ⟨fun i j hi hj hne q e1 e2 => ?_, fun j hj e => row_far (h.own j hj).1.2 (far_row h.row (by decide) hg) e⟩
  rcases Nat.lt_or_gt_of_ne hne with l | l
  · have := h.ap j hj i l q e1
    have := ((h.own j hj).1.2.lt q e2).1
    omega
  · have := h.ap i hi j l q e2
    have := ((h.own i hi).1.2.lt q e1).1
    omega
theorem hel_ap {w : World} {base n g : Nat} {v : Value} {T : Nat → Value} {B N : Nat → Nat} {F : Nat → Nat → Int} (h : Hel w base v n T B N F) (hg : v.ownBlock = some g) : Ic.AP n g T := by
  refine ⟨fun i j hi hj hne => ?_, fun j hj e => row_far (h.own j hj).1.2 (far_row h.row (by decide) hg) e⟩
  cases e1 : (T i).ownBlock with
  | none => exact .inl rfl
  | some q =>
    refine .inr fun e2 => ?_
    have e2 : (T j).ownBlock = some q := e2.symm
    rcases Nat.lt_or_gt_of_ne hne with l | l
    · have := h.ap j hj i l q e1
      have := ((h.own j hj).1.2.lt q e2).1
      omega
    · have := h.ap i hi j l q e2
      have := ((h.own i hi).1.2.lt q e1).1
      omega
def G2 (n : Nat) (F : Nat → Nat → Int) (j i : Nat) : Int := if j < n then F j i else 0
theorem g2_at {n j : Nat} (F : Nat → Nat → Int) (h : j < n) : G2 n F j = F j := by
  funext i
  exact if_pos h
theorem g2_b {w : World} {base n : Nat} {v : Value} {T : Nat → Value} {B N : Nat → Nat} {F : Nat → Nat → Int} (h : Hel w base v n T B N F) (j i : Nat) : -9223372036854775808 ≤ G2 n F j i ∧ G2 n F j i < 9223372036854775808 := by
  unfold G2
  by_cases e : j < n
  · rw [if_pos e]; exact (h.own j e).1.1 i
  · rw [if_neg e]; omega
/-- The told lists are laid apart. -/
theorem told_apart {w : World} {base n g cap : Nat} {T : Nat → Value} {B : Nat → Nat} {F : Nat → List Ru} (h : Tol w base (.slice (some ⟨g, 0, none⟩) n cap) n T B F) (hn : n ≤ 900) (hn0 : 0 < n) (fl : ∀ j, j < n → (F j).length ≤ 5) :
    Calls Tryz.prog 14 #[.slice (some ⟨g, 0, none⟩) n cap] w fun e w' => e = .returned (.bool true) ∧ Kp (fun q => ∃ j, j < n ∧ (T j).ownBlock = some q) w w' := by
  obtain ⟨g', cap', e, hb, hl, hc⟩ := row_some h.row hn0
  cases e
  exact apart15 _ base n g cap T (fun j => (F j).length) F w (tol_ap h rfl) ⟨fun j hj => (h.own j hj).1.base (h.own j hj).2, fun j hj => hc j _ hj (row_at T hj)⟩ (fun _ _ => rfl) hn (fun j hj => by have := fl j hj; omega) (by omega) hl (fun j hj q e => ⟨j, hj, e⟩)
theorem helds_apart {w : World} {base n g cap : Nat} {T : Nat → Value} {B N : Nat → Nat} {F : Nat → Nat → Int} (h : Hel w base (.slice (some ⟨g, 0, none⟩) n cap) n T B N F) (hn : n ≤ 900) (hn0 : 0 < n) (nl : ∀ j, j < n → N j ≤ 64) :
    Calls Tryz.prog 15 #[.slice (some ⟨g, 0, none⟩) n cap] w fun e w' => e = .returned (.bool true) ∧ Below base w w' := by
  obtain ⟨g', cap', e, hb, hl, hc⟩ := row_some h.row hn0
  cases e
  refine Calls.mono (Ic.apart30 base n g cap T N (G2 n F) w (hel_ap h rfl) ⟨fun j hj => ?_, fun j hj => hc j _ hj (row_at T hj)⟩ (g2_b h) hn hn0 (fun j hj => by have := nl j hj; omega) (by omega) (fun _ => True) (fun _ _ _ _ => trivial)) ?_
  · rw [g2_at F hj]
    exact Ic.own_base (h.own j hj).1 (h.own j hj).2
  · rintro e w' ⟨he, hb, _⟩
    exact ⟨he, hb⟩
/-- One of the told lists against the one that was wanted. -/
theorem told_same {w : World} {base n j : Nat} {a b : Value} {T T' : Nat → Value} {B B' : Nat → Nat} {F : Nat → List Ru} (h : Tol w base a n T B F) (h' : Tol w base b n T' B' F) (hj : j < n) (fl : (F j).length ≤ 5) :
    (∃ a n c a' n' c', T j = .slice a n c ∧ T' j = .slice a' n' c') ∧ Calls Tryz.prog 11 #[T j, T' j] w fun e w' => e = .returned (.bool true) ∧ ∃ d, w' = w.drewN d := by
  have o1 := (h.own j hj).1
  have o2 := (h'.own j hj).1
  obtain ⟨a1, n1, c1, e1⟩ := o1.isSlice
  obtain ⟨a2, n2, c2, e2⟩ := o2.isSlice
  refine ⟨⟨_, _, _, _, _, _, e1, e2⟩, ?_⟩
  have hh := Go.Proofs.YtdmacflcjbkkpaaGreat.same14 _ _ (F j) (F j) w o1.reads o2.reads (by omega) (by omega)
  rw [decide_eq_true rfl] at hh
  exact hh
end Go.Proofs.YtdmacflcjbkkpaaGreat.Cd
