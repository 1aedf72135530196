/-
  No cell of these rows narrows 'for every input' (looked for: loops, veiled, ifaces, maps, wideKeys, modest, calm, conditions, laid).
  DERIVED. THE GIVEN ROWS OF THIS SEAT. 5 by the template 'for every input the law returns true; each argument reads behind the call as it read before'; 0 by the template 'total and deterministic' (their statements: YtdahogdfonhnfaaTotals.lean).
  GIVEN WITH THE SEED: the statements are not yours to turn. If you find one false, say at which input.
  Laid BY PROGRAM, IN A SANDBOX (cutbox-rows.mjs): the forced cells as the released guide's own fill.sh prints them over the translation 28c39b188ef64492… (all of the seat's roots in one cut). By AI agents, Wed Nov 11 2026. No macro, syntax, notation, axiom, sorry.
-/
import Derived.Test.YtdahogdfonhnfaaChecked
import GoSem.Claim
import GoSem.ClaimJoined
import GoSem.ClaimMapViews
import Derived.JoinedTies
import Derived.KernelRfl
namespace Go.Proofs.Ytdahogdfonhnfaa
/- THE CELL 'sum', in the pinned program and in every row, IS THE sha256 OF THE DUMP (.gsa) THAT YtdahogdfonhnfaaProg.lean LOADS. Nothing in Lean hashes anything: it is a label: what it is worth is what the hold of that sum in a sandbox is worth. -/
noncomputable def Try.pinned : Pinned := { name := "ytdahogdfonhnfaa", sum := "28c39b188ef64492f06debf1df2a8878b8e4370d399120a0b5590fe5a2b8de3b", checked := Try.checked }
namespace Rows
def none {H : Type} : Left H := { results := [], args := [] }

/-- 'turnkeylaw21.SkelTakes': WHATEVER THE INPUT: true; the input reads as it did. -/
def skelTakesSpec : ChangeSpec := { name := "skelTakes", fn := fun _ => fun
  | [d] => { results := [.lit (.bool true)], args := [d] }
  | _ => none }
def skelTakesRow : OpenClaim := { program := "ytdahogdfonhnfaa", sum := "28c39b188ef64492f06debf1df2a8878b8e4370d399120a0b5590fe5a2b8de3b", func := "turnkey/turnkeylaw21.SkelTakes", spec := "skelTakes", unfollowed := true, recurses := true, apart := false }
def SkelTakesSaid : Prop := skelTakesRow.holds Try.pinned (OpenSpec.ofChange skelTakesSpec)

/-- ITS FALSE NEIGHBOUR: 'it returns false'. Refute it at one input. -/
def skelTakesWrong : ChangeSpec := { name := "skelTakes", fn := fun _ => fun
  | [d] => { results := [.lit (.bool false)], args := [d] }
  | _ => none }
def SkelTakesWrongFalsely : Prop := skelTakesRow.holds Try.pinned (OpenSpec.ofChange skelTakesWrong)

/-- 'turnkeylaw21.SkelFills': WHATEVER THE INPUT: true; the input reads as it did. -/
def skelFillsSpec : ChangeSpec := { name := "skelFills", fn := fun _ => fun
  | [d1, d2] => { results := [.lit (.bool true)], args := [d1, d2] }
  | _ => none }
def skelFillsRow : OpenClaim := { program := "ytdahogdfonhnfaa", sum := "28c39b188ef64492f06debf1df2a8878b8e4370d399120a0b5590fe5a2b8de3b", func := "turnkey/turnkeylaw21.SkelFills", spec := "skelFills", unfollowed := true, recurses := true, apart := false }
def SkelFillsSaid : Prop := skelFillsRow.holds Try.pinned (OpenSpec.ofChange skelFillsSpec)

/-- ITS FALSE NEIGHBOUR: 'it returns false'. Refute it at one input. -/
def skelFillsWrong : ChangeSpec := { name := "skelFills", fn := fun _ => fun
  | [d1, d2] => { results := [.lit (.bool false)], args := [d1, d2] }
  | _ => none }
def SkelFillsWrongFalsely : Prop := skelFillsRow.holds Try.pinned (OpenSpec.ofChange skelFillsWrong)

/-- 'turnkeylaw21.SkelHolds': WHATEVER THE INPUT: true; the input reads as it did. -/
def skelHoldsSpec : ChangeSpec := { name := "skelHolds", fn := fun _ => fun
  | [d1, d2] => { results := [.lit (.bool true)], args := [d1, d2] }
  | _ => none }
def skelHoldsRow : OpenClaim := { program := "ytdahogdfonhnfaa", sum := "28c39b188ef64492f06debf1df2a8878b8e4370d399120a0b5590fe5a2b8de3b", func := "turnkey/turnkeylaw21.SkelHolds", spec := "skelHolds", apart := false }
def SkelHoldsSaid : Prop := skelHoldsRow.holds Try.pinned (OpenSpec.ofChange skelHoldsSpec)

/-- ITS FALSE NEIGHBOUR: 'it returns false'. Refute it at one input. -/
def skelHoldsWrong : ChangeSpec := { name := "skelHolds", fn := fun _ => fun
  | [d1, d2] => { results := [.lit (.bool false)], args := [d1, d2] }
  | _ => none }
def SkelHoldsWrongFalsely : Prop := skelHoldsRow.holds Try.pinned (OpenSpec.ofChange skelHoldsWrong)

/-- 'turnkeylaw21.SkelNames': WHATEVER THE INPUT: true; the input reads as it did. -/
def skelNamesSpec : ChangeSpec := { name := "skelNames", fn := fun _ => fun
  | [] => { results := [.lit (.bool true)], args := [] }
  | _ => none }
def skelNamesRow : OpenClaim := { program := "ytdahogdfonhnfaa", sum := "28c39b188ef64492f06debf1df2a8878b8e4370d399120a0b5590fe5a2b8de3b", func := "turnkey/turnkeylaw21.SkelNames", spec := "skelNames", unfollowed := true, recurses := true, apart := false }
def SkelNamesSaid : Prop := skelNamesRow.holds Try.pinned (OpenSpec.ofChange skelNamesSpec)

/-- ITS FALSE NEIGHBOUR: 'it returns false'. Refute it at one input. -/
def skelNamesWrong : ChangeSpec := { name := "skelNames", fn := fun _ => fun
  | [] => { results := [.lit (.bool false)], args := [] }
  | _ => none }
def SkelNamesWrongFalsely : Prop := skelNamesRow.holds Try.pinned (OpenSpec.ofChange skelNamesWrong)

/-- 'turnkeylaw21.SkelPublic': WHATEVER THE INPUT: true; the input reads as it did. -/
def skelPublicSpec : ChangeSpec := { name := "skelPublic", fn := fun _ => fun
  | [d1, d2, d3] => { results := [.lit (.bool true)], args := [d1, d2, d3] }
  | _ => none }
def skelPublicRow : OpenClaim := { program := "ytdahogdfonhnfaa", sum := "28c39b188ef64492f06debf1df2a8878b8e4370d399120a0b5590fe5a2b8de3b", func := "turnkey/turnkeylaw21.SkelPublic", spec := "skelPublic", unfollowed := true, recurses := true, apart := false }
def SkelPublicSaid : Prop := skelPublicRow.holds Try.pinned (OpenSpec.ofChange skelPublicSpec)

/-- ITS FALSE NEIGHBOUR: 'it returns false'. Refute it at one input. -/
def skelPublicWrong : ChangeSpec := { name := "skelPublic", fn := fun _ => fun
  | [d1, d2, d3] => { results := [.lit (.bool false)], args := [d1, d2, d3] }
  | _ => none }
def SkelPublicWrongFalsely : Prop := skelPublicRow.holds Try.pinned (OpenSpec.ofChange skelPublicWrong)

/- THE SECOND FORM. 'bulk': how many values and letters a reading holds, each counted each time it is reached (what is shared counts as often as it is met; a slice's spare places count too). A statement '..UptoSaid' is the law's where the arguments, and the package variables that the reading takes, are together of bulk at most 1048576: NARROWER than '..Said'. Prove '..Said' where nothing that the law and all that it calls make is longer than what came in: it says more and counts as full. Else prove '..UptoSaid'. A law counts once. -/
mutual
def uptoBulk {H : Type} : DataW H → Nat
  | .lit (.string bytes) => bytes.length + 1
  | .lit _ => 1
  | .nil => 1
  | .ptr d => uptoBulk d + 1
  | .slice elems spare => uptoBulkAll elems + uptoBulkAll spare + 1
  | .agg parts => uptoBulkAll parts + 1
  | .iface _ d => uptoBulk d + 1
  | .map entries => uptoBulkEntries entries + 1
  | .held _ => 1
def uptoBulkAll {H : Type} : List (DataW H) → Nat
  | [] => 0
  | d :: r => uptoBulk d + uptoBulkAll r
def uptoBulkEntries {H : Type} : List (Lit × DataW H) → Nat
  | [] => 0
  | x :: r => uptoBulkEntry x + uptoBulkEntries r
def uptoBulkEntry {H : Type} : Lit × DataW H → Nat
  | (.string bytes, d) => bytes.length + uptoBulk d + 1
  | (_, d) => uptoBulk d + 1
 end
def uptoSmall : (H : Type) → List (DataW H) → Bool := fun _ ds => decide (uptoBulkAll ds ≤ 1048576)
def OpenSpec.upto (s : _root_.Go.ChangeSpec) : _root_.Go.OpenSpec := { _root_.Go.OpenSpec.ofChange s with cond := some uptoSmall }

/-- 'turnkeylaw21.SkelTakes', WHERE WHAT IT READS IS OF BULK AT MOST 1048576: true; the input reads as it did. -/
def skelTakesUptoRow : OpenClaim := { program := "ytdahogdfonhnfaa", sum := "28c39b188ef64492f06debf1df2a8878b8e4370d399120a0b5590fe5a2b8de3b", func := "turnkey/turnkeylaw21.SkelTakes", spec := "skelTakes", unfollowed := true, recurses := true, apart := false, narrowed := true }
def SkelTakesUptoSaid : Prop := skelTakesUptoRow.holds Try.pinned (OpenSpec.upto skelTakesSpec)

/-- 'turnkeylaw21.SkelFills', WHERE WHAT IT READS IS OF BULK AT MOST 1048576: true; the input reads as it did. -/
def skelFillsUptoRow : OpenClaim := { program := "ytdahogdfonhnfaa", sum := "28c39b188ef64492f06debf1df2a8878b8e4370d399120a0b5590fe5a2b8de3b", func := "turnkey/turnkeylaw21.SkelFills", spec := "skelFills", unfollowed := true, recurses := true, apart := false, narrowed := true }
def SkelFillsUptoSaid : Prop := skelFillsUptoRow.holds Try.pinned (OpenSpec.upto skelFillsSpec)

/-- 'turnkeylaw21.SkelHolds', WHERE WHAT IT READS IS OF BULK AT MOST 1048576: true; the input reads as it did. -/
def skelHoldsUptoRow : OpenClaim := { program := "ytdahogdfonhnfaa", sum := "28c39b188ef64492f06debf1df2a8878b8e4370d399120a0b5590fe5a2b8de3b", func := "turnkey/turnkeylaw21.SkelHolds", spec := "skelHolds", apart := false, narrowed := true }
def SkelHoldsUptoSaid : Prop := skelHoldsUptoRow.holds Try.pinned (OpenSpec.upto skelHoldsSpec)

/-- 'turnkeylaw21.SkelNames', WHERE WHAT IT READS IS OF BULK AT MOST 1048576: true; the input reads as it did. -/
def skelNamesUptoRow : OpenClaim := { program := "ytdahogdfonhnfaa", sum := "28c39b188ef64492f06debf1df2a8878b8e4370d399120a0b5590fe5a2b8de3b", func := "turnkey/turnkeylaw21.SkelNames", spec := "skelNames", unfollowed := true, recurses := true, apart := false, narrowed := true }
def SkelNamesUptoSaid : Prop := skelNamesUptoRow.holds Try.pinned (OpenSpec.upto skelNamesSpec)

/-- 'turnkeylaw21.SkelPublic', WHERE WHAT IT READS IS OF BULK AT MOST 1048576: true; the input reads as it did. -/
def skelPublicUptoRow : OpenClaim := { program := "ytdahogdfonhnfaa", sum := "28c39b188ef64492f06debf1df2a8878b8e4370d399120a0b5590fe5a2b8de3b", func := "turnkey/turnkeylaw21.SkelPublic", spec := "skelPublic", unfollowed := true, recurses := true, apart := false, narrowed := true }
def SkelPublicUptoSaid : Prop := skelPublicUptoRow.holds Try.pinned (OpenSpec.upto skelPublicSpec)

end Rows
end Go.Proofs.Ytdahogdfonhnfaa
