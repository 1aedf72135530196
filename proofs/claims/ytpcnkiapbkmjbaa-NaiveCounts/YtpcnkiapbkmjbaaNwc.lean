/- NaiveCounts, at every argument. -/
import Derived.Test.YtpcnkiapbkmjbaaNwd
namespace Go.Proofs.Ytpcnkiapbkmjbaa.Nv
open Go.ChangeShapes Go.WideShapes Go.ChangeAt Go.RowKit
theorem counts_law (q : Ask) (w : World) (h : q.Ok w) : Calls Try.prog 4 #[.agg #[.slice q.aa q.an q.ac, .slice q.ba q.bn q.bc, .int .u8 (q.x : Int), .int .u64 (q.b : Int), .int .u64 (q.e : Int), .int .u64 (q.m : Int)]] w fun r w' => r = .returned (.bool true) ∧ Below w.heap.size w w' :=
  counts_walk q.aa q.ba q.an q.ac q.bn q.bc q.x q.b q.e q.m q.f q.g w h.ra h.rb h.b h.e h.m
end Go.Proofs.Ytpcnkiapbkmjbaa.Nv
