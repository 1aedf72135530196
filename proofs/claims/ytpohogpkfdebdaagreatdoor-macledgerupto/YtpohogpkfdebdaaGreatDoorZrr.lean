/- The document's own ledger in memory, and what its functions answer: New, Note, NoteTimes, Runs; which blocks they may turn. One byte appended to a list that the call owns; several lists that lie apart; what the helper ApartBytes answers. -/
import Derived.Test.YtpohogpkfdebdaaGreatDoorZr
import Derived.Deep.RegionWith
import Derived.Deep.AppendLies
import Derived.Deep.RegionLaw
import Derived.Test.YtpohogpkfdebdaaGreatDoorZa
namespace Go.Proofs.YtpohogpkfdebdaaGreatDoor
open Go.ChangeShapes Go.WideShapes Go.ChangeAt Go.RowKit

/-- The document's ledger in block b holds the runs L, in the slice rv. -/
structure RLed (w : World) (b : Nat) (rv : Value) (L : List Rn) : Prop where
  here : w.heap[b]? = some (.cells #[rv] 91 (0, 0))
  own : Own w 0 rv L
  pos : Pos L
  most : tot L ≤ 9223372036854775807

theorem RLed.lt {w : World} {b : Nat} {rv : Value} {L : List Rn} (h : RLed w b rv L) : b < w.heap.size := (Array.getElem?_eq_some_iff.1 h.here).1
theorem RLed.ne {w : World} {b : Nat} {rv : Value} {L : List Rn} (h : RLed w b rv L) : rv.ownBlock ≠ some b := by
  intro e
  rcases h.own.2.2 with ⟨rfl, _⟩ | ⟨g, cap, cur, rfl, _, hg, _⟩
  · simp [Value.ownBlock] at e
  · simp [Value.ownBlock] at e
    subst e
    rw [h.here] at hg
    simp at hg
theorem RLed.kept {w w' : World} {b : Nat} {rv : Value} {L : List Rn} {S : Nat → Prop} (h : RLed w b rv L) (hk : Kp S w w') (h1 : ¬ S b) (h2 : ∀ g, rv.ownBlock = some g → ¬ S g) : RLed w' b rv L :=
  ⟨(hk.block b h.lt h1).trans h.here, h.own.kept hk h2, h.pos, h.most⟩
theorem RLed.below {w w' : World} {b : Nat} {rv : Value} {L : List Rn} (h : RLed w b rv L) (hb : Below w.heap.size w w') : RLed w' b rv L := h.kept (Kp.of_below (fun _ => False) hb) (fun e => e) (fun _ _ e => e)
end Go.Proofs.YtpohogpkfdebdaaGreatDoor
namespace Go.Proofs.YtpohogpkfdebdaaGreatDoor.By
open Go.ChangeShapes Go.WideShapes Go.ChangeAt Go.RowKit
/-- Mark i of list k, as the helper lays it. -/
def Mk (k i : Nat) : Int := (7 * ((k : Int) + 10) + (i : Int) + 1) % 256
/-- What is owned stays, where its block is none that was written. -/
theorem own_kept {w w' : World} {base : Nat} {v : Value} {n : Nat} {f : Nat → Int} {row : Option Nat} (h : Own w base v n f) (hg : w.grownBy w' row) (hne : v.ownBlock = none ∨ v.ownBlock ≠ row) : Own w' base v n f := ⟨h.1, h.2.kept hg hne⟩
theorem own_lt {w : World} {base : Nat} {v : Value} {n : Nat} {f : Nat → Int} (h : Own w base v n f) (q : Nat) (hq : v.ownBlock = some q) : q < w.heap.size := by
  rcases h.shape with ⟨rfl, _⟩ | ⟨g, cap, rfl, _, hl, _⟩
  · simp [Value.ownBlock] at hq
  · simp [Value.ownBlock] at hq; omega
/-- The state while list Vk is gone on with: u is what it has become. -/
def Going (w0 w : World) (base : Nat) (Vk u : Value) (n i : Nat) (f : Nat → Int) : Prop :=
  w0.grownBy w Vk.ownBlock ∧ Own w base Vk n f ∧ Own w base u (n + i) f ∧
    ((∃ g cap, Vk = .slice (some ⟨g, 0, none⟩) n cap ∧ u = .slice (some ⟨g, 0, none⟩) (n + i) cap) ∨ (∀ q, u.ownBlock = some q → w0.heap.size ≤ q))

/-- The m lists V lie apart, and apart from the block L of their list. -/
structure AP (m L : Nat) (V : Nat → Value) : Prop where
  dis : ∀ i j, i < m → j < m → i ≠ j → (V i).ownBlock = none ∨ (V i).ownBlock ≠ (V j).ownBlock
  dl : ∀ j, j < m → (V j).ownBlock ≠ some L

/-- List j holds the bytes G j, and stands at place j of block L. -/
def Inv1 (w : World) (base m L : Nat) (V : Nat → Value) (N : Nat → Nat) (G : Nat → Nat → Int) : Prop :=
  (∀ j, j < m → Own w base (V j) (N j) (G j)) ∧ ∀ j, j < m → w.cell? ⟨L, j, none⟩ = some (V j)

/-- Behind list k's first i bytes. -/
def G1 (F : Nat → Nat → Int) (k i j i' : Nat) : Int := if j < k ∨ (j = k ∧ i' < i) then Mk j i' else F j i'
/-- k lists have been gone on with: list j has become Wv j, and stands in the list gsv. -/
structure Inv2 (w : World) (base m L : Nat) (V : Nat → Value) (N : Nat → Nat) (S2 k : Nat) (Wv : Nat → Value) (gsv : Value) : Prop where
  olds : ∀ j, j < m → Own w base (V j) (N j) (Mk j)
  news : ∀ j, j < k → Own w base (Wv j) (N j + 6) (Mk j)
  cell : ∀ j, j < m → w.cell? ⟨L, j, none⟩ = some (V j)
  far : ∀ j, j < k → ∀ i, k ≤ i → i < m → (Wv j).ownBlock = none ∨ (Wv j).ownBlock ≠ (V i).ownBlock
  row : w.ownsRow S2 23 1 gsv k ((List.range k).map Wv)

/-- The j-th of several values. -/
def lv (vs : List Value) (j : Nat) : Value := vs.getD j (.slice none 0 0)
theorem info32 : (Tryz.prog.info? 23).map (fun i => (i.zero, i.size, i.bytes)) = some (some (.slice none 0 0), 1, 24) := by kernel_rfl
end Go.Proofs.YtpohogpkfdebdaaGreatDoor.By
