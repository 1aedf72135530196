/- What SkelTakes keeps: operations that were lent. -/
import Derived.Test.YtdahogdfonhnfaaVal
import Derived.Test.YtdahogdfonhnfaaVlf2
import Derived.Test.YtdahogdfonhnfaaVas
import Derived.Test.YtdahogdfonhnfaaVwh
import Derived.Test.YtdahogdfonhnfaaUlo
import Derived.Test.YtdahogdfonhnfaaUko
import Derived.Test.YtdahogdfonhnfaaUopn
namespace Go.Proofs.Ytdahogdfonhnfaa.Ou
open Go.ChangeShapes Go.WideShapes Go.ChangeAt Go.RowKit
open Go.Proofs.Ytdahogdfonhnfaa.By
open Go.Proofs.Ytdahogdfonhnfaa.Tb (Blk Blk.newAt put_all Kp.setCells)
/-- The blocks of an operation that was lent, and their capacities. -/
structure Gc where
  g1 : Nat
  c1 : Nat
  g2 : Nat
  c2 : Nat
/-- The operation that was lent. -/
def yO (x : OE) (G : Gc) : OE := ⟨x.q, some ⟨G.g1, 0, none⟩, x.dn, G.c1, x.f, some ⟨G.g2, 0, none⟩, x.mn, G.c2, x.g⟩
/-- Its lists with the marks. -/
def zO (x : OE) (G : Gc) : Fx.Fu := ⟨G.g1, x.dn + 6, G.c1, G.g2, x.mn + 6, G.c2⟩
/-- It lies in blocks from lo on, below hi. -/
structure Lo (W : World) (B : Nat) (x : OE) (G : Gc) (lo hi : Nat) : Prop where
  o1 : By.Own W B (.slice (some ⟨G.g1, 0, none⟩) (x.dn + 6) G.c1) (x.dn + 6) (lent x.dn x.f)
  o2 : By.Own W B (.slice (some ⟨G.g2, 0, none⟩) (x.mn + 6) G.c2) (x.mn + 6) (lent x.mn x.g)
  ne : G.g1 ≠ G.g2
  l1 : lo ≤ G.g1
  l2 : lo ≤ G.g2
  h1 : G.g1 < hi
  h2 : G.g2 < hi
theorem Lo.kept {S : Nat → Prop} {W W' : World} {B : Nat} {x : OE} {G : Gc} {lo hi : Nat} (h : Lo W B x G lo hi) (hk : Kp S W W') (h1 : ¬ S G.g1) (h2 : ¬ S G.g2) : Lo W' B x G lo hi :=
  ⟨own_keptB h.o1 hk (fun g e => by cases e; exact h1), own_keptB h.o2 hk (fun g e => by cases e; exact h2), h.ne, h.l1, h.l2, h.h1, h.h2⟩
theorem Lo.below {W W' : World} {B : Nat} {x : OE} {G : Gc} {lo hi : Nat} (h : Lo W B x G lo hi) (hb : Below W.heap.size W W') : Lo W' B x G lo hi := h.kept (Kp.of_below (fun _ => False) hb) id id
/-- A row of another type was turned. -/
theorem Lo.row {W W' : World} {B B' : Nat} {x : OE} {G : Gc} {lo hi : Nat} {e : TypeId} {s n : Nat} {v : Value} {xs : List Value} (h : Lo W B x G lo hi) (hr : W.ownsRow B' e s v n xs) (ht : 5 ≠ e) (hg : W.grownBy W' v.ownBlock) : Lo W' B x G lo hi :=
  h.kept (Kp.of_grown hg) (Rw.ty_ne h.o1.2 hr ht G.g1 rfl) (Rw.ty_ne h.o2.2 hr ht G.g2 rfl)
/-- Behind the first k rounds of the first loop. -/
structure L1 (w W : World) (x : Nat → OE) (k : Nat) (lv fv : Value) (G : Nat → Gc) (T : Nat → Nat) : Prop where
  lo : ∀ j, j < k → Lo W w.heap.size (x j) (G j) (T j) (T (j + 1))
  top : T k ≤ W.heap.size
  lent : Ox.Own W w.heap.size lv k (fun j => yO (x j) (G j))
  full : Fx.Own W w.heap.size fv k (fun j => zO (x j) (G j))
  bel : Below w.heap.size w W
theorem L1.below {w W W' : World} {x : Nat → OE} {k : Nat} {lv fv : Value} {G : Nat → Gc} {T : Nat → Nat} (h : L1 w W x k lv fv G T) (hb : Below W.heap.size W W') : L1 w W' x k lv fv G T :=
  ⟨fun j hj => (h.lo j hj).below hb, Nat.le_trans h.top hb.size, Ox.own_below h.lent hb, Fx.own_below h.full hb, below_next h.bel hb⟩
/-- What the round adds. -/
def addG (G : Nat → Gc) (k : Nat) (g : Gc) (j : Nat) : Gc := if j = k then g else G j
def addT (T : Nat → Nat) (k t : Nat) (j : Nat) : Nat := if j ≤ k then T j else t
theorem L1.start (w : World) (x : Nat → OE) : L1 w w x 0 (.slice none 0 0) (.slice none 0 0) (fun _ => ⟨0, 0, 0, 0⟩) (fun _ => w.heap.size) :=
  ⟨fun j hj => absurd hj (by omega), Nat.le_refl _, Ox.own_nil _ _ _, Fx.own_nil _ _ _, Below.refl _ _⟩
theorem addG_old (G : Nat → Gc) {k j : Nat} (g : Gc) (h : j < k) : addG G k g j = G j := if_neg (Nat.ne_of_lt h)
theorem addG_new (G : Nat → Gc) (k : Nat) (g : Gc) : addG G k g k = g := if_pos rfl
theorem L1.push {w W W4 W5 : World} {x : Nat → OE} {k : Nat} {lv fv lv' fv' : Value} {G : Nat → Gc} {T : Nat → Nat} (h : L1 w W x k lv fv G T) (g : Gc) (hl : Lo W w.heap.size (x k) g (T k) W.heap.size)
    (h4 : Ox.Own W4 w.heap.size lv' (k + 1) (fun j => yO (x j) (addG G k g j))) (g4 : W.grownBy W4 lv.ownBlock)
    (h5 : Fx.Own W5 w.heap.size fv' (k + 1) (fun j => zO (x j) (addG G k g j))) (g5 : W4.grownBy W5 fv.ownBlock) : L1 w W5 x (k + 1) lv' fv' (addG G k g) (addT T k W.heap.size) := by
  have f4 : Fx.Own W4 w.heap.size fv k (fun j => zO (x j) (G j)) := Fx.own_keptK h.full (Kp.of_grown g4) (Rw.ty_ne h.full h.lent (by decide))
  have lo4 : ∀ {y : OE} {c : Gc} {lo hi : Nat}, Lo W w.heap.size y c lo hi → Lo W5 w.heap.size y c lo hi := fun hy => (hy.row h.lent (by decide) g4).row f4 (by decide) g5
  have b4 : Below w.heap.size w W4 := h.bel.grown g4 h.bel.size (Ox.own_row h.lent)
  refine ⟨fun j hj => ?_, ?_, Ox.own_keptK h4 (Kp.of_grown g5) (Rw.ty_ne h4 f4 (by decide)), h5, b4.grown g5 b4.size (Fx.own_row f4)⟩
  · by_cases e : j = k
    · subst e
      rw [addG_new, show addT T j W.heap.size j = T j from if_pos (Nat.le_refl _), show addT T j W.heap.size (j + 1) = W.heap.size from if_neg (by omega)]
      exact lo4 hl
    · have hjk : j < k := by omega
      rw [addG_old G g hjk, show addT T k W.heap.size j = T j from if_pos (by omega), show addT T k W.heap.size (j + 1) = T (j + 1) from if_pos (by omega)]
      exact lo4 (h.lo j hjk)
  · rw [show addT T k W.heap.size (k + 1) = W.heap.size from if_neg (by omega)]
    exact Nat.le_trans g4.size g5.size
/-- What is put in place of an operation. -/
def O77 : OE := ⟨⟨77, 0, 0, 0, 0⟩, none, 0, 0, fun _ => 0, none, 0, 0, fun _ => 0⟩
def yK (x : Nat → OE) (G : Nat → Gc) (k j : Nat) : OE := if j < k then O77 else yO (x j) (G j)
/-- Behind the first k rounds of the second loop. -/
structure L2 (w W : World) (x : Nat → OE) (n k : Nat) (lv fv av bv cv : Value) (G : Nat → Gc) (T : Nat → Nat) (F : Nat → Sk) : Prop where
  lo : ∀ j, k ≤ j → j < n → Lo W w.heap.size (x j) (G j) (T j) (T (j + 1))
  lent : Ox.Own W w.heap.size lv n (yK x G k)
  full : Fx.Own W w.heap.size fv n (fun j => zO (x j) (G j))
  a : Sx.Own W w.heap.size av n F
  b : Sx.Own W w.heap.size bv n F
  c : Sx.Own W w.heap.size cv n F
  ab : av.ownBlock = none ∨ av.ownBlock ≠ bv.ownBlock
  bel : Below w.heap.size w W
section
variable {w W W' : World} {x : Nat → OE} {n k : Nat} {lv fv av bv cv : Value} {G : Nat → Gc} {T : Nat → Nat} {F : Nat → Sk}
theorem L2.below (h : L2 w W x n k lv fv av bv cv G T F) (hb : Below W.heap.size W W') : L2 w W' x n k lv fv av bv cv G T F :=
  ⟨fun j h1 h2 => (h.lo j h1 h2).below hb, Ox.own_below h.lent hb, Fx.own_below h.full hb, Sx.own_below h.a hb, Sx.own_below h.b hb, Sx.own_below h.c hb, h.ab, below_next h.bel hb⟩
theorem L2.mono (h : L2 w W x n k lv fv av bv cv G T F) (j : Nat) (h1 : k ≤ j) (h2 : j ≤ n) : T k ≤ T j := by
  induction j with
  | zero => obtain rfl : k = 0 := by omega
            exact Nat.le_refl _
  | succ j ih =>
    by_cases e : k = j + 1
    · subst e; exact Nat.le_refl _
    · have := ih (by omega) (by omega)
      have l := h.lo j (by omega) (by omega)
      have := l.l1
      have := l.h1
      omega
/-- The lists of operation k are written over. -/
theorem L2.over (h : L2 w W x n k lv fv av bv cv G T F) (hk : k < n) (hp : Kp (fun j => j = (G k).g1 ∨ j = (G k).g2) W W') :
    (∀ j, k + 1 ≤ j → j < n → Lo W' w.heap.size (x j) (G j) (T j) (T (j + 1))) ∧ Ox.Own W' w.heap.size lv n (yK x G k) ∧ Fx.Own W' w.heap.size fv n (fun j => zO (x j) (G j)) ∧ Sx.Own W' w.heap.size av n F ∧ Sx.Own W' w.heap.size bv n F ∧ Sx.Own W' w.heap.size cv n F ∧ Below w.heap.size w W' := by
  have l := h.lo k (Nat.le_refl _) hk
  have ty : ∀ {e : TypeId} {s m : Nat} {v : Value} {xs : List Value}, W.ownsRow w.heap.size e s v m xs → 5 ≠ e → ∀ g, v.ownBlock = some g → ¬ (g = (G k).g1 ∨ g = (G k).g2) := fun hr ht g e h' => by
    rcases h' with rfl | rfl
    · exact Rw.ty_ne l.o1.2 hr ht _ rfl e
    · exact Rw.ty_ne l.o2.2 hr ht _ rfl e
  have r1 := By.own_row l.o1 (G k).g1 rfl
  have r2 := By.own_row l.o2 (G k).g2 rfl
  refine ⟨fun j h1 h2 => ?_, Ox.own_keptK h.lent hp (ty h.lent (by decide)), Fx.own_keptK h.full hp (ty h.full (by decide)), Sx.own_keptK h.a hp (ty h.a (by decide)), Sx.own_keptK h.b hp (ty h.b (by decide)), Sx.own_keptK h.c hp (ty h.c (by decide)), h.bel.trans (hp.below h.bel.size (fun j hj e => by omega))⟩
  have lj := h.lo j (by omega) h2
  have m : T (k + 1) ≤ T j := by
    have h' : L2 w W x n k lv fv av bv cv G T F := h
    have : ∀ i, k + 1 ≤ i → i ≤ n → T (k + 1) ≤ T i := fun i => by
      induction i with
      | zero => intro h1; omega
      | succ i ih =>
        intro h1 h2
        by_cases e : k + 1 = i + 1
        · rw [e]; exact Nat.le_refl _
        · have := ih (by omega) (by omega)
          have l := h'.lo i (by omega) (by omega)
          have := l.l1
          have := l.h1
          omega
    exact this j h1 (by omega)
  have a1 := l.h1
  have a2 := l.h2
  have b1 := lj.l1
  have b2 := lj.l2
  exact lj.kept hp (by omega) (by omega)
/-- Another operation is put in its place. -/
theorem L2.put {W5 : World} {g c : Nat} (h : (∀ j, k + 1 ≤ j → j < n → Lo W w.heap.size (x j) (G j) (T j) (T (j + 1))) ∧ Ox.Own W w.heap.size (.slice (some ⟨g, 0, none⟩) n c) n (yK x G k) ∧ Fx.Own W w.heap.size fv n (fun j => zO (x j) (G j)) ∧ Sx.Own W w.heap.size av n F ∧ Sx.Own W w.heap.size bv n F ∧ Sx.Own W w.heap.size cv n F ∧ Below w.heap.size w W)
    (hab : av.ownBlock = none ∨ av.ownBlock ≠ bv.ownBlock) (h5 : Ox.Own W5 w.heap.size (.slice (some ⟨g, 0, none⟩) n c) n (Ox.upd (yK x G k) k O77)) (hp : Kp (fun j => j = g) W W5) : L2 w W5 x n (k + 1) (.slice (some ⟨g, 0, none⟩) n c) fv av bv cv G T F := by
  obtain ⟨h1, h2, h3, h4, h6, h7, h8⟩ := h
  have ty : ∀ {e : TypeId} {s m : Nat} {v : Value} {xs : List Value}, W.ownsRow w.heap.size e s v m xs → e ≠ 28 → ∀ g', v.ownBlock = some g' → ¬ g' = g := fun hr ht g' e h' => by
    subst h'
    exact Rw.ty_ne hr h2 ht _ e rfl
  have r := Ox.own_row h2 g rfl
  refine ⟨fun j a b => (h1 j a b).kept hp (ty (h1 j a b).o1.2 (by decide) _ rfl) (ty (h1 j a b).o2.2 (by decide) _ rfl), Ox.own_congr h5 (fun j _ => ?_), Fx.own_keptK h3 hp (ty h3 (by decide)), Sx.own_keptK h4 hp (ty h4 (by decide)), Sx.own_keptK h6 hp (ty h6 (by decide)), Sx.own_keptK h7 hp (ty h7 (by decide)), hab, h8.trans (hp.below h8.size (fun j hj e => by omega))⟩
  unfold Ox.upd yK
  by_cases e : j = k
  · rw [if_pos e, if_pos (by omega)]
  · rw [if_neg e]
    by_cases e2 : j < k
    · rw [if_pos e2, if_pos (by omega)]
    · rw [if_neg e2, if_neg (by omega)]
end
set_option maxRecDepth 100000 in
theorem openOpsR {H : Type} {enc : TypeId × Value → H} {w : World} {base : Nat} {held : Bool} {fuel : Nat} {A : Option Addr} {m cap : Nat} {x : DataW H × List MemPlace} (h : DataW.trod enc Try.prog w base (fun _ => true) held fuel 22 (Value.slice A m cap).cells.toList = some x) (hsz : Sz x.1 22) :
    ∃ v, Ox.RB w (.slice A m cap) m v ∧ (∀ i, i < m → (v i).Ok w) ∧ m * 88 ≤ 140737488355328 := by
  rcases Deep.open_slice Try.underlying22 h with ⟨hcs, _⟩ | ⟨a, len, cp, k, n, D, Pl, hcs, _, hl, hm, hmm, hx, hel⟩
  · simp [Value.cells] at hcs
    obtain ⟨rfl, rfl, rfl⟩ := hcs
    exact ⟨fun _ => ⟨⟨0, 0, 0, 0, 0⟩, none, 0, 0, fun _ => 0, none, 0, 0, fun _ => 0⟩, ⟨none, 0, rfl, Nat.le_refl _, by simp [maxLen], .inl ⟨rfl, fun _ => rfl⟩⟩, fun i hi => absurd hi (by omega), by omega⟩
  · simp [Value.cells] at hcs
    obtain ⟨rfl, rfl, rfl⟩ := hcs
    have e7 : Try.prog.cellsOf 28 = 7 := by kernel_rfl
    have hlm : m ≤ k := by rw [hmm]; split <;> omega
    rw [hx] at hsz
    have hS := sz_slice Try.underlying22 hsz
    have hD := hS.2
    have hM := hS.1
    rw [bytes88] at hM
    simp only [List.length_map, List.length_range, reachBytes] at hM
    have each : ∀ i, i < m → ∃ y : OE, y.Ok w ∧ ∀ j u, (Ox.oE y)[j]? = some u → w.cell? (a.add (i * 7 + j)) = some u := by
      intro i hi
      obtain ⟨cs, h1, h2⟩ := hel i (by omega)
      rw [e7] at h1
      obtain ⟨_, _, hcell⟩ := World.cells?_some h1
      obtain ⟨q, hq, rfl⟩ := open_op h2 (hD (D i) (List.mem_map.2 ⟨i, List.mem_range.2 hi, rfl⟩))
      refine ⟨q, hq, fun j u hu => ?_⟩
      have hj : j < 7 := (List.getElem?_eq_some_iff.1 hu).1
      have := hcell j (by omega)
      rw [Deep.add_add] at this
      rw [this]; exact hu
    obtain ⟨R, hR⟩ := @Deep.choose_lt OE ⟨⟨⟨0, 0, 0, 0, 0⟩, none, 0, 0, fun _ => 0, none, 0, 0, fun _ => 0⟩⟩ _ _ each
    refine ⟨R, ⟨_, cap, rfl, hl, hm, ?_⟩, fun i hi => (hR i hi).1, by omega⟩
    by_cases h0 : m = 0
    · exact .inl ⟨h0, fun e => by cases e⟩
    obtain ⟨b, off, spot⟩ := a
    have hc0 := (hR 0 (by omega)).2 0 _ rfl
    have hspot : spot = none := by simpa [Addr.add] using World.cell?_spot hc0
    subst hspot
    refine .inr ⟨b, off, rfl, fun p u hu => ?_⟩
    obtain ⟨h1, h2⟩ := Ox.sl_get_inv _ _ _ _ hu
    have := (hR (p / 7) h1).2 (p % 7) u h2
    rw [By.add_plain] at this
    rw [show p = p / 7 * 7 + p % 7 by omega]; exact this
end Go.Proofs.Ytdahogdfonhnfaa.Ou
