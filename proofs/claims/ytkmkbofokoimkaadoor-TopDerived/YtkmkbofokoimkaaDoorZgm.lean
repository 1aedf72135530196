/- Which function a call through the interface comes to. A call through the interface: its receiver is there. -/
import Derived.Test.YtkmkbofokoimkaaDoorZga
import Derived.WideLaws
namespace Go.Proofs.YtkmkbofokoimkaaDoor.Dg
open Go.ChangeShapes Go.WideShapes Go.ChangeAt Go.RowKit
@[go_sem ↓ high] theorem mWrite256 (b : Nat) (w : World) : (method 240 76 (.agg #[.pointer (some ⟨b, 0, none⟩)]) "Write").run Tryd.prog w = .ok (95, .pointer (some ⟨b, 0, none⟩)) w := by kernel_rfl
@[go_sem ↓ high] theorem mSum256 (b : Nat) (w : World) : (method 240 76 (.agg #[.pointer (some ⟨b, 0, none⟩)]) "Sum").run Tryd.prog w = .ok (40, .pointer (some ⟨b, 0, none⟩)) w := by kernel_rfl
@[go_sem ↓ high] theorem mCopy256 (b : Nat) (w : World) : (method 240 76 (.agg #[.pointer (some ⟨b, 0, none⟩)]) "Copy").run Tryd.prog w = .ok (96, .agg #[.pointer (some ⟨b, 0, none⟩)]) w := by kernel_rfl
@[go_sem ↓ high] theorem mWrite512 (b : Nat) (w : World) : (method 240 81 (.agg #[.pointer (some ⟨b, 0, none⟩)]) "Write").run Tryd.prog w = .ok (101, .pointer (some ⟨b, 0, none⟩)) w := by kernel_rfl
@[go_sem ↓ high] theorem mSum512 (b : Nat) (w : World) : (method 240 81 (.agg #[.pointer (some ⟨b, 0, none⟩)]) "Sum").run Tryd.prog w = .ok (43, .pointer (some ⟨b, 0, none⟩)) w := by kernel_rfl
@[go_sem ↓ high] theorem mCopy512 (b : Nat) (w : World) : (method 240 81 (.agg #[.pointer (some ⟨b, 0, none⟩)]) "Copy").run Tryd.prog w = .ok (102, .agg #[.pointer (some ⟨b, 0, none⟩)]) w := by kernel_rfl
theorem mWrite (a : Bool) (b : Nat) (w : World) : (method 240 (tyI a) (.agg #[.pointer (some ⟨b, 0, none⟩)]) "Write").run Tryd.prog w = .ok (fWrite a, .pointer (some ⟨b, 0, none⟩)) w := by cases a <;> kernel_rfl
theorem mSum (a : Bool) (b : Nat) (w : World) : (method 240 (tyI a) (.agg #[.pointer (some ⟨b, 0, none⟩)]) "Sum").run Tryd.prog w = .ok (fSumS a, .pointer (some ⟨b, 0, none⟩)) w := by cases a <;> kernel_rfl
theorem mCopy (a : Bool) (b : Nat) (w : World) : (method 240 (tyI a) (.agg #[.pointer (some ⟨b, 0, none⟩)]) "Copy").run Tryd.prog w = .ok (fCopy a, .agg #[.pointer (some ⟨b, 0, none⟩)]) w := by cases a <;> kernel_rfl
end Go.Proofs.YtkmkbofokoimkaaDoor.Dg
namespace Go.Proofs.YtkmkbofokoimkaaDoor.Dg
open Go.ChangeShapes Go.WideShapes Go.ChangeAt Go.RowKit
@[go_sem ↓ high] theorem nWrite256 (b : Nat) (w : World) : (nilAhead 240 76 (.agg #[.pointer (some ⟨b, 0, none⟩)]) "Write").run Tryd.prog w = .ok (some false) w := by kernel_rfl
@[go_sem ↓ high] theorem nSum256 (b : Nat) (w : World) : (nilAhead 240 76 (.agg #[.pointer (some ⟨b, 0, none⟩)]) "Sum").run Tryd.prog w = .ok (some false) w := by kernel_rfl
@[go_sem ↓ high] theorem nWipe256 (b : Nat) (w : World) : (nilAhead 240 76 (.agg #[.pointer (some ⟨b, 0, none⟩)]) "Wipe").run Tryd.prog w = .ok (some false) w := by kernel_rfl
@[go_sem ↓ high] theorem nForm256 (b : Nat) (w : World) : (nilAhead 240 76 (.agg #[.pointer (some ⟨b, 0, none⟩)]) "Form").run Tryd.prog w = .ok (some false) w := by kernel_rfl
@[go_sem ↓ high] theorem nCopy256 (b : Nat) (w : World) : (nilAhead 240 76 (.agg #[.pointer (some ⟨b, 0, none⟩)]) "Copy").run Tryd.prog w = .ok (some false) w := by kernel_rfl
@[go_sem ↓ high] theorem nWrite512 (b : Nat) (w : World) : (nilAhead 240 81 (.agg #[.pointer (some ⟨b, 0, none⟩)]) "Write").run Tryd.prog w = .ok (some false) w := by kernel_rfl
@[go_sem ↓ high] theorem nSum512 (b : Nat) (w : World) : (nilAhead 240 81 (.agg #[.pointer (some ⟨b, 0, none⟩)]) "Sum").run Tryd.prog w = .ok (some false) w := by kernel_rfl
@[go_sem ↓ high] theorem nWipe512 (b : Nat) (w : World) : (nilAhead 240 81 (.agg #[.pointer (some ⟨b, 0, none⟩)]) "Wipe").run Tryd.prog w = .ok (some false) w := by kernel_rfl
@[go_sem ↓ high] theorem nForm512 (b : Nat) (w : World) : (nilAhead 240 81 (.agg #[.pointer (some ⟨b, 0, none⟩)]) "Form").run Tryd.prog w = .ok (some false) w := by kernel_rfl
@[go_sem ↓ high] theorem nCopy512 (b : Nat) (w : World) : (nilAhead 240 81 (.agg #[.pointer (some ⟨b, 0, none⟩)]) "Copy").run Tryd.prog w = .ok (some false) w := by kernel_rfl
theorem nWrite (a : Bool) (b : Nat) (w : World) : (nilAhead 240 (tyI a) (.agg #[.pointer (some ⟨b, 0, none⟩)]) "Write").run Tryd.prog w = .ok (some false) w := by cases a <;> kernel_rfl
theorem nSum (a : Bool) (b : Nat) (w : World) : (nilAhead 240 (tyI a) (.agg #[.pointer (some ⟨b, 0, none⟩)]) "Sum").run Tryd.prog w = .ok (some false) w := by cases a <;> kernel_rfl
theorem nWipe (a : Bool) (b : Nat) (w : World) : (nilAhead 240 (tyI a) (.agg #[.pointer (some ⟨b, 0, none⟩)]) "Wipe").run Tryd.prog w = .ok (some false) w := by cases a <;> kernel_rfl
theorem nForm (a : Bool) (b : Nat) (w : World) : (nilAhead 240 (tyI a) (.agg #[.pointer (some ⟨b, 0, none⟩)]) "Form").run Tryd.prog w = .ok (some false) w := by cases a <;> kernel_rfl
theorem nCopy (a : Bool) (b : Nat) (w : World) : (nilAhead 240 (tyI a) (.agg #[.pointer (some ⟨b, 0, none⟩)]) "Copy").run Tryd.prog w = .ok (some false) w := by cases a <;> kernel_rfl
end Go.Proofs.YtkmkbofokoimkaaDoor.Dg
