/-
  NARROWER THAN 'FOR EVERY INPUT', by the rows' own cells (each row's printed sentence says how): ShakeReads: laid · ShakeBegins: laid · ShakeNames: laid · ShakeParts: laid · ShakeCounts: laid.
  DERIVED. THE GIVEN ROWS OF THIS SEAT. 5 by the template 'for every input the law returns true; each argument reads behind the call as it read before'; 0 by the template 'total and deterministic' (their statements: YtjfjjhjajgodiaaDoorTotals.lean).
  GIVEN WITH THE SEED: the statements are not yours to turn. If you find one false, say at which input.
  Laid BY PROGRAM, IN A SANDBOX (cutbox-rows.mjs): the forced cells as the released guide's own fill.sh prints them over the translation 5df7ba4cf733af6e… (all of the seat's roots in one cut). By AI agents, Wed Nov 11 2026. No macro, syntax, notation, axiom, sorry.
-/
import Derived.Test.YtjfjjhjajgodiaaDoorChecked
import GoSem.Claim
import GoSem.ClaimJoined
import GoSem.ClaimMapViews
import Derived.JoinedTies
import Derived.KernelRfl
namespace Go.Proofs.YtjfjjhjajgodiaaDoor
/- THE CELL 'sum', in the pinned program and in every row, IS THE sha256 OF THE DUMP (.gsa) THAT YtjfjjhjajgodiaaDoorProg.lean LOADS. Nothing in Lean hashes anything: it is a label: what it is worth is what the hold of that sum in a sandbox is worth. -/
noncomputable def Tryd.pinned : Pinned := { name := "ytjfjjhjajgodiaadoor", sum := "5df7ba4cf733af6e6d24abb297274b68a6abe7ecce1a7694553e0e2d49042759", checked := Tryd.checked }
namespace Rows
def none {H : Type} : Left H := { results := [], args := [] }

/- WHAT THE LISTED PACKAGE-LEVEL VARIABLES READ AS WHEN THE CALL BEGINS. Each datum BY PROGRAM (the guide's laid-datum.mjs) off the statement by which the dump's own 'gosem.cut.vars' lays the variable. In a bare row this is a premise. The card (YtjfjjhjajgodiaaDoorCards.lean) ties it to the program's text. -/
def laid_turnkey_keccak_constants {H : Type} : DataW H := .agg [.lit (.int .u64 1), .lit (.int .u64 32898), .lit (.int .u64 9223372036854808714), .lit (.int .u64 9223372039002292224), .lit (.int .u64 32907), .lit (.int .u64 2147483649), .lit (.int .u64 9223372039002292353), .lit (.int .u64 9223372036854808585), .lit (.int .u64 138), .lit (.int .u64 136), .lit (.int .u64 2147516425), .lit (.int .u64 2147483658), .lit (.int .u64 2147516555), .lit (.int .u64 9223372036854775947), .lit (.int .u64 9223372036854808713), .lit (.int .u64 9223372036854808579), .lit (.int .u64 9223372036854808578), .lit (.int .u64 9223372036854775936), .lit (.int .u64 32778), .lit (.int .u64 9223372039002259466), .lit (.int .u64 9223372039002292353), .lit (.int .u64 9223372036854808704), .lit (.int .u64 2147483649), .lit (.int .u64 9223372039002292232)]
def laid_turnkey_keccak_way {H : Type} : DataW H := .agg [.lit (.int .i64 1), .lit (.int .i64 10), .lit (.int .i64 7), .lit (.int .i64 11), .lit (.int .i64 17), .lit (.int .i64 18), .lit (.int .i64 3), .lit (.int .i64 5), .lit (.int .i64 16), .lit (.int .i64 8), .lit (.int .i64 21), .lit (.int .i64 24), .lit (.int .i64 4), .lit (.int .i64 15), .lit (.int .i64 23), .lit (.int .i64 19), .lit (.int .i64 13), .lit (.int .i64 12), .lit (.int .i64 2), .lit (.int .i64 20), .lit (.int .i64 14), .lit (.int .i64 22), .lit (.int .i64 9), .lit (.int .i64 6), .lit (.int .i64 1)]

/-- 'turnkeylaw09.ShakeReads': WHATEVER THE INPUT: true; the input reads as it did. -/
def shakeReadsSpec : ChangeSpec := { name := "shakeReads", fn := fun _ => fun
  | [d1, d2, d3, d4] => { results := [.lit (.bool true)], args := [d1, d2, d3, d4] }
  | _ => none }
def shakeReadsRow : OpenClaim := { program := "ytjfjjhjajgodiaadoor", sum := "5df7ba4cf733af6e6d24abb297274b68a6abe7ecce1a7694553e0e2d49042759", func := "turnkey/turnkeylaw09.ShakeReads", spec := "shakeReads", named := ["turnkey/keccak.constants", "turnkey/keccak.way"], apart := false, laid := [("turnkey/keccak.constants", laid_turnkey_keccak_constants), ("turnkey/keccak.way", laid_turnkey_keccak_way)] }
def ShakeReadsSaid : Prop := shakeReadsRow.holds Tryd.pinned (OpenSpec.ofChange shakeReadsSpec)

/-- ITS FALSE NEIGHBOUR: 'it returns false'. Refute it at one input. -/
def shakeReadsWrong : ChangeSpec := { name := "shakeReads", fn := fun _ => fun
  | [d1, d2, d3, d4] => { results := [.lit (.bool false)], args := [d1, d2, d3, d4] }
  | _ => none }
def ShakeReadsWrongFalsely : Prop := shakeReadsRow.holds Tryd.pinned (OpenSpec.ofChange shakeReadsWrong)

/-- 'turnkeylaw09.ShakeBegins': WHATEVER THE INPUT: true; the input reads as it did. -/
def shakeBeginsSpec : ChangeSpec := { name := "shakeBegins", fn := fun _ => fun
  | [d1, d2, d3, d4, d5, d6, d7] => { results := [.lit (.bool true)], args := [d1, d2, d3, d4, d5, d6, d7] }
  | _ => none }
def shakeBeginsRow : OpenClaim := { program := "ytjfjjhjajgodiaadoor", sum := "5df7ba4cf733af6e6d24abb297274b68a6abe7ecce1a7694553e0e2d49042759", func := "turnkey/turnkeylaw09.ShakeBegins", spec := "shakeBegins", named := ["turnkey/keccak.constants", "turnkey/keccak.way"], apart := false, laid := [("turnkey/keccak.constants", laid_turnkey_keccak_constants), ("turnkey/keccak.way", laid_turnkey_keccak_way)] }
def ShakeBeginsSaid : Prop := shakeBeginsRow.holds Tryd.pinned (OpenSpec.ofChange shakeBeginsSpec)

/-- ITS FALSE NEIGHBOUR: 'it returns false'. Refute it at one input. -/
def shakeBeginsWrong : ChangeSpec := { name := "shakeBegins", fn := fun _ => fun
  | [d1, d2, d3, d4, d5, d6, d7] => { results := [.lit (.bool false)], args := [d1, d2, d3, d4, d5, d6, d7] }
  | _ => none }
def ShakeBeginsWrongFalsely : Prop := shakeBeginsRow.holds Tryd.pinned (OpenSpec.ofChange shakeBeginsWrong)

/-- 'turnkeylaw09.ShakeNames': WHATEVER THE INPUT: true; the input reads as it did. -/
def shakeNamesSpec : ChangeSpec := { name := "shakeNames", fn := fun _ => fun
  | [] => { results := [.lit (.bool true)], args := [] }
  | _ => none }
def shakeNamesRow : OpenClaim := { program := "ytjfjjhjajgodiaadoor", sum := "5df7ba4cf733af6e6d24abb297274b68a6abe7ecce1a7694553e0e2d49042759", func := "turnkey/turnkeylaw09.ShakeNames", spec := "shakeNames", named := ["turnkey/keccak.constants", "turnkey/keccak.way"], apart := false, laid := [("turnkey/keccak.constants", laid_turnkey_keccak_constants), ("turnkey/keccak.way", laid_turnkey_keccak_way)] }
def ShakeNamesSaid : Prop := shakeNamesRow.holds Tryd.pinned (OpenSpec.ofChange shakeNamesSpec)

/-- ITS FALSE NEIGHBOUR: 'it returns false'. Refute it at one input. -/
def shakeNamesWrong : ChangeSpec := { name := "shakeNames", fn := fun _ => fun
  | [] => { results := [.lit (.bool false)], args := [] }
  | _ => none }
def ShakeNamesWrongFalsely : Prop := shakeNamesRow.holds Tryd.pinned (OpenSpec.ofChange shakeNamesWrong)

/-- 'turnkeylaw09.ShakeParts': WHATEVER THE INPUT: true; the input reads as it did. -/
def shakePartsSpec : ChangeSpec := { name := "shakeParts", fn := fun _ => fun
  | [d1, d2, d3, d4, d5, d6, d7] => { results := [.lit (.bool true)], args := [d1, d2, d3, d4, d5, d6, d7] }
  | _ => none }
def shakePartsRow : OpenClaim := { program := "ytjfjjhjajgodiaadoor", sum := "5df7ba4cf733af6e6d24abb297274b68a6abe7ecce1a7694553e0e2d49042759", func := "turnkey/turnkeylaw09.ShakeParts", spec := "shakeParts", named := ["turnkey/keccak.constants", "turnkey/keccak.way"], apart := false, laid := [("turnkey/keccak.constants", laid_turnkey_keccak_constants), ("turnkey/keccak.way", laid_turnkey_keccak_way)] }
def ShakePartsSaid : Prop := shakePartsRow.holds Tryd.pinned (OpenSpec.ofChange shakePartsSpec)

/-- ITS FALSE NEIGHBOUR: 'it returns false'. Refute it at one input. -/
def shakePartsWrong : ChangeSpec := { name := "shakeParts", fn := fun _ => fun
  | [d1, d2, d3, d4, d5, d6, d7] => { results := [.lit (.bool false)], args := [d1, d2, d3, d4, d5, d6, d7] }
  | _ => none }
def ShakePartsWrongFalsely : Prop := shakePartsRow.holds Tryd.pinned (OpenSpec.ofChange shakePartsWrong)

/-- 'turnkeylaw09.ShakeCounts': WHATEVER THE INPUT: true; the input reads as it did. -/
def shakeCountsSpec : ChangeSpec := { name := "shakeCounts", fn := fun _ => fun
  | [d1, d2, d3, d4, d5, d6, d7] => { results := [.lit (.bool true)], args := [d1, d2, d3, d4, d5, d6, d7] }
  | _ => none }
def shakeCountsRow : OpenClaim := { program := "ytjfjjhjajgodiaadoor", sum := "5df7ba4cf733af6e6d24abb297274b68a6abe7ecce1a7694553e0e2d49042759", func := "turnkey/turnkeylaw09.ShakeCounts", spec := "shakeCounts", unfollowed := true, recurses := true, named := ["turnkey/keccak.constants", "turnkey/keccak.way"], apart := false, laid := [("turnkey/keccak.constants", laid_turnkey_keccak_constants), ("turnkey/keccak.way", laid_turnkey_keccak_way)] }
def ShakeCountsSaid : Prop := shakeCountsRow.holds Tryd.pinned (OpenSpec.ofChange shakeCountsSpec)

/-- ITS FALSE NEIGHBOUR: 'it returns false'. Refute it at one input. -/
def shakeCountsWrong : ChangeSpec := { name := "shakeCounts", fn := fun _ => fun
  | [d1, d2, d3, d4, d5, d6, d7] => { results := [.lit (.bool false)], args := [d1, d2, d3, d4, d5, d6, d7] }
  | _ => none }
def ShakeCountsWrongFalsely : Prop := shakeCountsRow.holds Tryd.pinned (OpenSpec.ofChange shakeCountsWrong)

/- THE SECOND FORM. 'bulk': how many values and letters a reading holds, each counted each time it is reached (what is shared counts as often as it is met; a slice's spare places count too). A statement '..UptoSaid' is the law's where the arguments, and the package variables that the reading takes, are together of bulk at most 1048576: NARROWER than '..Said'. Prove '..Said' where nothing that the law and all that it calls make is longer than what came in: it says more and counts as full. Else prove '..UptoSaid'. A law counts once. -/
mutual
def uptoBulk {H : Type} : DataW H → Nat
  | .lit (.string bytes) => bytes.length + 1
  | .lit _ => 1
  | .nil => 1
  | .ptr d => uptoBulk d + 1
  | .slice elems spare => uptoBulkAll elems + uptoBulkAll spare + 1
  | .agg parts => uptoBulkAll parts + 1
  | .iface _ d => uptoBulk d + 1
  | .map entries => uptoBulkEntries entries + 1
  | .held _ => 1
def uptoBulkAll {H : Type} : List (DataW H) → Nat
  | [] => 0
  | d :: r => uptoBulk d + uptoBulkAll r
def uptoBulkEntries {H : Type} : List (Lit × DataW H) → Nat
  | [] => 0
  | x :: r => uptoBulkEntry x + uptoBulkEntries r
def uptoBulkEntry {H : Type} : Lit × DataW H → Nat
  | (.string bytes, d) => bytes.length + uptoBulk d + 1
  | (_, d) => uptoBulk d + 1
 end
def uptoSmall : (H : Type) → List (DataW H) → Bool := fun _ ds => decide (uptoBulkAll ds ≤ 1048576)
def OpenSpec.upto (s : _root_.Go.ChangeSpec) : _root_.Go.OpenSpec := { _root_.Go.OpenSpec.ofChange s with cond := some uptoSmall }

/-- 'turnkeylaw09.ShakeReads', WHERE WHAT IT READS IS OF BULK AT MOST 1048576: true; the input reads as it did. -/
def shakeReadsUptoRow : OpenClaim := { program := "ytjfjjhjajgodiaadoor", sum := "5df7ba4cf733af6e6d24abb297274b68a6abe7ecce1a7694553e0e2d49042759", func := "turnkey/turnkeylaw09.ShakeReads", spec := "shakeReads", named := ["turnkey/keccak.constants", "turnkey/keccak.way"], apart := false, laid := [("turnkey/keccak.constants", laid_turnkey_keccak_constants), ("turnkey/keccak.way", laid_turnkey_keccak_way)], narrowed := true }
def ShakeReadsUptoSaid : Prop := shakeReadsUptoRow.holds Tryd.pinned (OpenSpec.upto shakeReadsSpec)

/-- 'turnkeylaw09.ShakeBegins', WHERE WHAT IT READS IS OF BULK AT MOST 1048576: true; the input reads as it did. -/
def shakeBeginsUptoRow : OpenClaim := { program := "ytjfjjhjajgodiaadoor", sum := "5df7ba4cf733af6e6d24abb297274b68a6abe7ecce1a7694553e0e2d49042759", func := "turnkey/turnkeylaw09.ShakeBegins", spec := "shakeBegins", named := ["turnkey/keccak.constants", "turnkey/keccak.way"], apart := false, laid := [("turnkey/keccak.constants", laid_turnkey_keccak_constants), ("turnkey/keccak.way", laid_turnkey_keccak_way)], narrowed := true }
def ShakeBeginsUptoSaid : Prop := shakeBeginsUptoRow.holds Tryd.pinned (OpenSpec.upto shakeBeginsSpec)

/-- 'turnkeylaw09.ShakeNames', WHERE WHAT IT READS IS OF BULK AT MOST 1048576: true; the input reads as it did. -/
def shakeNamesUptoRow : OpenClaim := { program := "ytjfjjhjajgodiaadoor", sum := "5df7ba4cf733af6e6d24abb297274b68a6abe7ecce1a7694553e0e2d49042759", func := "turnkey/turnkeylaw09.ShakeNames", spec := "shakeNames", named := ["turnkey/keccak.constants", "turnkey/keccak.way"], apart := false, laid := [("turnkey/keccak.constants", laid_turnkey_keccak_constants), ("turnkey/keccak.way", laid_turnkey_keccak_way)], narrowed := true }
def ShakeNamesUptoSaid : Prop := shakeNamesUptoRow.holds Tryd.pinned (OpenSpec.upto shakeNamesSpec)

/-- 'turnkeylaw09.ShakeParts', WHERE WHAT IT READS IS OF BULK AT MOST 1048576: true; the input reads as it did. -/
def shakePartsUptoRow : OpenClaim := { program := "ytjfjjhjajgodiaadoor", sum := "5df7ba4cf733af6e6d24abb297274b68a6abe7ecce1a7694553e0e2d49042759", func := "turnkey/turnkeylaw09.ShakeParts", spec := "shakeParts", named := ["turnkey/keccak.constants", "turnkey/keccak.way"], apart := false, laid := [("turnkey/keccak.constants", laid_turnkey_keccak_constants), ("turnkey/keccak.way", laid_turnkey_keccak_way)], narrowed := true }
def ShakePartsUptoSaid : Prop := shakePartsUptoRow.holds Tryd.pinned (OpenSpec.upto shakePartsSpec)

/-- 'turnkeylaw09.ShakeCounts', WHERE WHAT IT READS IS OF BULK AT MOST 1048576: true; the input reads as it did. -/
def shakeCountsUptoRow : OpenClaim := { program := "ytjfjjhjajgodiaadoor", sum := "5df7ba4cf733af6e6d24abb297274b68a6abe7ecce1a7694553e0e2d49042759", func := "turnkey/turnkeylaw09.ShakeCounts", spec := "shakeCounts", unfollowed := true, recurses := true, named := ["turnkey/keccak.constants", "turnkey/keccak.way"], apart := false, laid := [("turnkey/keccak.constants", laid_turnkey_keccak_constants), ("turnkey/keccak.way", laid_turnkey_keccak_way)], narrowed := true }
def ShakeCountsUptoSaid : Prop := shakeCountsUptoRow.holds Tryd.pinned (OpenSpec.upto shakeCountsSpec)

end Rows
end Go.Proofs.YtjfjjhjajgodiaaDoor
