/- Operations as values. -/
import Derived.Test.YtdahogdfonhnfaaUtk
namespace Go.Proofs.Ytdahogdfonhnfaa.Ou
open Go.ChangeShapes Go.WideShapes Go.ChangeAt Go.RowKit
open Go.Proofs.Ytdahogdfonhnfaa.By
/-- An operation's numbers. -/
structure Nu where
  k : Int
  h : Int
  a : Int
  c : Int
  o : Int
abbrev ov (q : Nu) (d m : Value) : Value := .agg #[.int .u8 q.k, .int .i64 q.h, .int .u8 q.a, .int .i64 q.c, .int .i64 q.o, d, m]
end Go.Proofs.Ytdahogdfonhnfaa.Ou
