/- The document's own ledger in memory, and what its functions answer: New, Note, NoteTimes, Runs; which blocks they may turn. What the document's Len of a ledger answers. -/
import Derived.Test.YtkmkbofokoimkaaDoorZr
import Derived.Deep.RegionWith
import Derived.Deep.AppendLies
import Derived.Deep.RegionLaw
namespace Go.Proofs.YtkmkbofokoimkaaDoor
open Go.ChangeShapes Go.WideShapes Go.ChangeAt Go.RowKit

/-- The runs told: a list of its own. -/
theorem take_all {L : List Rn} {n : Nat} (h : L.length = n) : L.take n = L := List.take_of_length_le (by omega)
theorem box_after {w w1 : World} {rv : Value} {L : List Rn} {k s : Int} {m : Nat} {c : Obj} (h : Own w 0 rv L) (hk : Kp (fun j => rv.ownBlock = some j) (((w.alloc (.cells #[.int .u8 k, .int .i64 s] 48)).drewN m).alloc c) w1) :
    w1.cell? ⟨w.heap.size, 0, none⟩ = some (.int .u8 k) ∧ w1.cell? ⟨w.heap.size, 1, none⟩ = some (.int .i64 s) := by
  have hh : w1.heap[w.heap.size]? = some (.cells #[.int .u8 k, .int .i64 s] 48 (0, 0)) := by
    rw [hk.block w.heap.size (by simp; omega) (fun e => by have := (h.lt _ e).2; omega), (below_alloc ((w.alloc (.cells #[.int .u8 k, .int .i64 s] 48)).drewN m) c).block _ (by simp)]
    exact heap_alloc_new w _
  exact ⟨by rw [cell_of_row w1 _ 0 _ 48 (0, 0) hh]; rfl, by rw [cell_of_row w1 _ 1 _ 48 (0, 0) hh]; rfl⟩
end Go.Proofs.YtkmkbofokoimkaaDoor
namespace Go.Proofs.YtkmkbofokoimkaaDoor
open Go.ChangeShapes Go.WideShapes Go.ChangeAt Go.RowKit
end Go.Proofs.YtkmkbofokoimkaaDoor
