/- Variables of one cell, and the state while 'walk' goes over a ledger's events: what stays when memory is made, when the count is written. No function of the program in it. -/
import Derived.Test.YtadcindaafjckaaLat
import Derived.Test.YtadcindaafjckaaRlives
import Derived.OpenShut
import Derived.ChangeOld
import Derived.Carry
namespace Go.Proofs.Ytadcindaafjckaa
open Go.ChangeShapes Go.WideShapes Go.ChangeAt Go.RowKit Go.Shelf
/-- A variable of one cell. -/
def Cel (W : World) (b : Nat) (v : Value) (t : TypeId) : Prop := W.heap[b]? = some (.cells #[v] t (0, 0))
theorem Cel.lt {W : World} {b : Nat} {v : Value} {t : TypeId} (h : Cel W b v t) : b < W.heap.size := (Array.getElem?_eq_some_iff.1 h).1
theorem Cel.cell {W : World} {b : Nat} {v : Value} {t : TypeId} (h : Cel W b v t) : W.cell? ⟨b, 0, none⟩ = some v := by rw [cell_of_row W b 0 _ t (0, 0) h]; rfl
theorem Cel.frozen {W : World} {b : Nat} {v : Value} {t : TypeId} (h : Cel W b v t) : W.frozen? ⟨b, 0, none⟩ = false := frozen_of_row W b 0 _ t h
theorem Cel.kept {W W' : World} {b : Nat} {v : Value} {t : TypeId} {S : Nat → Prop} (h : Cel W b v t) (hk : Kp S W W') (hn : ¬ S b) : Cel W' b v t := (hk.block b h.lt hn).trans h
theorem Cel.alloc {W : World} {b : Nat} {v : Value} {t : TypeId} (h : Cel W b v t) (o : Obj) : Cel (W.alloc o) b v t := h.kept (Kp.of_below (fun _ => False) (below_alloc W o)) id
theorem Cel.below {W W' : World} {b : Nat} {v : Value} {t : TypeId} (h : Cel W b v t) (hb : Below W.heap.size W W') : Cel W' b v t := h.kept (Kp.of_below (fun _ => False) hb) id
theorem Cel.set {W : World} {b : Nat} {v : Value} {t : TypeId} (h : Cel W b v t) (u : Value) : Cel (W.setCell ⟨b, 0, none⟩ u) b u t := by
  show (W.setCell ⟨b, 0, none⟩ u).heap[b]? = _
  rw [heap_setCell_same W b 0 _ t u h]; rfl
theorem Cel.other {W : World} {b b' : Nat} {v : Value} {t : TypeId} (h : Cel W b v t) (hn : b ≠ b') (u : Value) : Cel (W.setCell ⟨b', 0, none⟩ u) b v t := h.kept (Kp.setCell b' 0 u) hn
theorem Cel.kc {S : Nat → Prop} {W W' : World} {b : Nat} {v : Value} {t : TypeId} (h : Cel W b v t) (hk : KC S W W') (hn : ¬ S b) : Cel W' b v t := hk.same b _ _ _ h hn
theorem Cel.new (W : World) (v : Value) (t : TypeId) : Cel (W.alloc (.cells #[v] t)) W.heap.size v t := heap_alloc_new W _
theorem Box.kc {S : Nat → Prop} {W W' : World} {A : Nat} {k s : Int} (h : Box W A k s) (hk : KC S W W') (hn : ¬ S A) : Box W' A k s := hk.same A _ _ _ h hn
theorem kc_below {W W' : World} (h : Below W.heap.size W W') : KC (fun _ => False) W W' := KC.of_kp (Kp.of_below (fun _ => False) h) (fun _ _ e => e)
theorem KC.mono {S T : Nat → Prop} {A B : World} (h : KC S A B) (hs : ∀ b, S b → T b) : KC T A B := ⟨h.size, fun b cs t fr hb hn => h.same b cs t fr hb (fun e => hn (hs b e))⟩
theorem kc_own {A B : World} {row : Option Nat} (hg : A.grownBy B row) (hr : ∀ r, row = some r → ∃ o : Obj, A.heap[r]? = some o ∧ o.isCells = false) : KC (fun _ => False) A B := by
  refine ⟨hg.size, fun b cs t fr hb _ => (hg.block b (Array.getElem?_eq_some_iff.1 hb).1 ?_).trans hb⟩
  intro e
  obtain ⟨o, ho, hc⟩ := hr _ e.symm
  rw [hb] at ho
  cases ho
  simp [Obj.isCells] at hc
theorem kf_below (n : Nat) {W W' : World} (h : Below W.heap.size W W') : KeepsFrom n W W' := ⟨h.size, fun k _ _ hk _ => (h.block k (Array.getElem?_eq_some_iff.1 hk).1).trans hk⟩
theorem pos_nil : Pos [] := fun q hq => by simp at hq

/-- Two blocks that are written (NB, R) are none of those that stay. -/
structure WD (B NB R A Wb Bs : Nat) (v1 sv : Value) : Prop where
  nr : NB ≠ R
  ok : ∀ q, q = NB ∨ q = R → q ≠ A ∧ q ≠ Wb ∧ q ≠ Bs ∧ v1.ownBlock ≠ some q ∧ sv.ownBlock ≠ some q ∧ B ≤ q

/-- How far 'walk' has come: p events. -/
structure WI (w0 : World) (B NB R A Wb Bs : Nat) (v1 sv : Value) (L : List Rn) (stop : Int) (p : Nat) (W : World) : Prop where
  cn : Cel W NB (.int .i64 p) 3
  cr : Cel W R (.bool false) 4
  ca : Cel W A (.int .i64 stop) 3
  cw : Cel W Wb v1 32
  cb : W.cell? ⟨Bs, 0, none⟩ = some sv
  rw_ : RB W v1 L
  rs : RB W sv L
  bel : Below B w0 W
  low : B ≤ w0.heap.size

theorem WI.grow {w0 W W' : World} {B NB R A Wb Bs : Nat} {v1 sv : Value} {L : List Rn} {stop : Int} {p : Nat} (h : WI w0 B NB R A Wb Bs v1 sv L stop p W) (hk : KC (fun _ => False) W W') (hb : Below B W W') : WI w0 B NB R A Wb Bs v1 sv L stop p W' :=
  ⟨h.cn.kc hk id, h.cr.kc hk id, h.ca.kc hk id, h.cw.kc hk id, hk.cell h.cb id, h.rw_.kc hk (fun _ _ e => e), h.rs.kc hk (fun _ _ e => e), h.bel.trans hb, h.low⟩
theorem WI.below {w0 W W' : World} {B NB R A Wb Bs : Nat} {v1 sv : Value} {L : List Rn} {stop : Int} {p : Nat} (h : WI w0 B NB R A Wb Bs v1 sv L stop p W) (hb : Below W.heap.size W W') : WI w0 B NB R A Wb Bs v1 sv L stop p W' :=
  h.grow (kc_below hb) (hb.mono (Nat.le_trans h.low h.bel.size))
theorem WI.own {w0 W W' : World} {B NB R A Wb Bs : Nat} {v1 sv : Value} {L : List Rn} {stop : Int} {p : Nat} {row : Option Nat} (h : WI w0 B NB R A Wb Bs v1 sv L stop p W) (hg : W.grownBy W' row) (hr : ∀ r, row = some r → B ≤ r ∧ ∃ o : Obj, W.heap[r]? = some o ∧ o.isCells = false) : WI w0 B NB R A Wb Bs v1 sv L stop p W' :=
  h.grow (kc_own hg (fun r e => (hr r e).2)) ((Below.refl B W).grown hg (Nat.le_trans h.low h.bel.size) (fun r e => (hr r e).1))
theorem WI.put {w0 W : World} {B NB R A Wb Bs : Nat} {v1 sv : Value} {L : List Rn} {stop : Int} {p : Nat} (h : WI w0 B NB R A Wb Bs v1 sv L stop p W) (hd : WD B NB R A Wb Bs v1 sv) (p' : Nat) : WI w0 B NB R A Wb Bs v1 sv L stop p' (W.setCell ⟨NB, 0, none⟩ (.int .i64 p')) := by
  obtain ⟨n1, n2, n3, n4, n5, n6⟩ := hd.ok NB (.inl rfl)
  have hk : KC (fun q => q = NB) W (W.setCell ⟨NB, 0, none⟩ (.int .i64 p')) := KC.of_kp (Kp.setCell NB 0 _) (fun _ _ e => e)
  exact ⟨h.cn.set _, h.cr.kc hk (Ne.symm hd.nr), h.ca.kc hk (Ne.symm n1), h.cw.kc hk (Ne.symm n2), hk.cell h.cb (Ne.symm n3), h.rw_.kc hk (fun b hb e => n4 (by rw [← e]; exact hb)), h.rs.kc hk (fun b hb e => n5 (by rw [← e]; exact hb)), h.bel.setCell (p := ⟨NB, 0, none⟩) n6 _, h.low⟩

/-- Which event comes next. -/
theorem pre_next {L : List Rn} {pre : List (Int × Int)} {x y : Int × Int} (hp : pre <+: evs L) (hy : (evs L)[pre.length]? = some y) : (pre ++ [x] <+: evs L) ↔ x = y := by
  obtain ⟨t, ht⟩ := hp
  rw [← ht] at hy ⊢
  rw [List.getElem?_append_right (Nat.le_refl _), Nat.sub_self] at hy
  constructor
  · rintro ⟨s, hs⟩
    rw [List.append_assoc] at hs
    have := List.append_cancel_left hs
    subst this
    simpa using hy
  · rintro rfl
    cases t with
    | nil => simp at hy
    | cons z t => simp at hy; subst hy; exact ⟨t, by simp⟩

/-- A loop over a function within a block: what comes behind it is walked once. -/
theorem range_cut {F : Fence} {n : Nat} {P : Program} {c : Code} {K : Act → World → Prop} {Q : Exit → Act → World → Prop} {a : Act} {w : World} (id : Nat) (J : Nat → World → Prop)
    (h2 : c.wpIn F n P (fun e a' W => (e = .normal ∨ e = .exit id) ∧ ∃ D, J D W ∧ a' = { a with defers := { target := .collected D, args := #[] } :: a.defers }) a w)
    (h1 : ∀ D W, J D W → K { a with defers := { target := .collected D, args := #[] } :: a.defers } W) :
    c.wpIn F n P (Exit.inBlock id (Exit.then K Q)) a w := by
  refine Code.wpIn_mono ?_ h2
  rintro e a' W ⟨rfl | rfl, D, hJ, rfl⟩
  · exact h1 D W hJ
  · simp only [Exit.inBlock, if_true]
    exact h1 D W hJ
end Go.Proofs.Ytadcindaafjckaa
