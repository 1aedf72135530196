/- The script of AesScript: its cells. -/
import Derived.Test.YtehhnneomoddgaaDoorYa
namespace Go.Proofs.YtehhnneomoddgaaDoor.Ae
open Go.ChangeShapes Go.WideShapes Go.ChangeAt Go.RowKit
open Go.Proofs.YtehhnneomoddgaaDoor.By
/-- A call of the script. -/
structure AE where
  on : Int
  cc : Int
  pa : Option Addr
  pn : Nat
  pc : Nat
  sil : Bool
  g : Nat → Int
/-- The script's cells. -/
def Scr (W : World) (bb off m : Nat) (a : Nat → AE) : Prop := ∀ i, i < m →
  W.cell? ⟨bb, off + i * 4, none⟩ = some (.int .i64 (a i).on) ∧ W.cell? ⟨bb, off + i * 4 + 1, none⟩ = some (.int .i64 (a i).cc) ∧
  W.cell? ⟨bb, off + i * 4 + 2, none⟩ = some (.slice (a i).pa (a i).pn (a i).pc) ∧ W.cell? ⟨bb, off + i * 4 + 3, none⟩ = some (.bool (a i).sil)
end Go.Proofs.YtehhnneomoddgaaDoor.Ae
