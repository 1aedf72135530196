/- Which function a call through the interface comes to. -/
import Derived.Test.YtojldjckpjokcaaDoorGdc
import Derived.WideLaws
namespace Go.Proofs.YtojldjckpjokcaaDoor.Dg
open Go.ChangeShapes Go.WideShapes Go.ChangeAt Go.RowKit
@[go_sem ↓ high] theorem mWrite256 (b : Nat) (w : World) : (method 259 69 (.agg #[.pointer (some ⟨b, 0, none⟩)]) "Write").run Tryd.prog w = .ok (104, .pointer (some ⟨b, 0, none⟩)) w := by kernel_rfl
@[go_sem ↓ high] theorem mSum256 (b : Nat) (w : World) : (method 259 69 (.agg #[.pointer (some ⟨b, 0, none⟩)]) "Sum").run Tryd.prog w = .ok (26, .pointer (some ⟨b, 0, none⟩)) w := by kernel_rfl
@[go_sem ↓ high] theorem mWipe256 (b : Nat) (w : World) : (method 259 69 (.agg #[.pointer (some ⟨b, 0, none⟩)]) "Wipe").run Tryd.prog w = .ok (103, .pointer (some ⟨b, 0, none⟩)) w := by kernel_rfl
@[go_sem ↓ high] theorem mForm256 (b : Nat) (w : World) : (method 259 69 (.agg #[.pointer (some ⟨b, 0, none⟩)]) "Form").run Tryd.prog w = .ok (101, .pointer (some ⟨b, 0, none⟩)) w := by kernel_rfl
@[go_sem ↓ high] theorem mCopy256 (b : Nat) (w : World) : (method 259 69 (.agg #[.pointer (some ⟨b, 0, none⟩)]) "Copy").run Tryd.prog w = .ok (105, .agg #[.pointer (some ⟨b, 0, none⟩)]) w := by kernel_rfl
@[go_sem ↓ high] theorem mWrite512 (b : Nat) (w : World) : (method 259 74 (.agg #[.pointer (some ⟨b, 0, none⟩)]) "Write").run Tryd.prog w = .ok (110, .pointer (some ⟨b, 0, none⟩)) w := by kernel_rfl
@[go_sem ↓ high] theorem mSum512 (b : Nat) (w : World) : (method 259 74 (.agg #[.pointer (some ⟨b, 0, none⟩)]) "Sum").run Tryd.prog w = .ok (29, .pointer (some ⟨b, 0, none⟩)) w := by kernel_rfl
@[go_sem ↓ high] theorem mWipe512 (b : Nat) (w : World) : (method 259 74 (.agg #[.pointer (some ⟨b, 0, none⟩)]) "Wipe").run Tryd.prog w = .ok (109, .pointer (some ⟨b, 0, none⟩)) w := by kernel_rfl
@[go_sem ↓ high] theorem mForm512 (b : Nat) (w : World) : (method 259 74 (.agg #[.pointer (some ⟨b, 0, none⟩)]) "Form").run Tryd.prog w = .ok (107, .pointer (some ⟨b, 0, none⟩)) w := by kernel_rfl
@[go_sem ↓ high] theorem mCopy512 (b : Nat) (w : World) : (method 259 74 (.agg #[.pointer (some ⟨b, 0, none⟩)]) "Copy").run Tryd.prog w = .ok (111, .agg #[.pointer (some ⟨b, 0, none⟩)]) w := by kernel_rfl
theorem mWrite (a : Bool) (b : Nat) (w : World) : (method 259 (tyI a) (.agg #[.pointer (some ⟨b, 0, none⟩)]) "Write").run Tryd.prog w = .ok (fWrite a, .pointer (some ⟨b, 0, none⟩)) w := by cases a <;> kernel_rfl
theorem mSum (a : Bool) (b : Nat) (w : World) : (method 259 (tyI a) (.agg #[.pointer (some ⟨b, 0, none⟩)]) "Sum").run Tryd.prog w = .ok (fSumS a, .pointer (some ⟨b, 0, none⟩)) w := by cases a <;> kernel_rfl
theorem mWipe (a : Bool) (b : Nat) (w : World) : (method 259 (tyI a) (.agg #[.pointer (some ⟨b, 0, none⟩)]) "Wipe").run Tryd.prog w = .ok (fWipe a, .pointer (some ⟨b, 0, none⟩)) w := by cases a <;> kernel_rfl
theorem mForm (a : Bool) (b : Nat) (w : World) : (method 259 (tyI a) (.agg #[.pointer (some ⟨b, 0, none⟩)]) "Form").run Tryd.prog w = .ok (fForm a, .pointer (some ⟨b, 0, none⟩)) w := by cases a <;> kernel_rfl
theorem mCopy (a : Bool) (b : Nat) (w : World) : (method 259 (tyI a) (.agg #[.pointer (some ⟨b, 0, none⟩)]) "Copy").run Tryd.prog w = .ok (fCopy a, .agg #[.pointer (some ⟨b, 0, none⟩)]) w := by cases a <;> kernel_rfl
end Go.Proofs.YtojldjckpjokcaaDoor.Dg
