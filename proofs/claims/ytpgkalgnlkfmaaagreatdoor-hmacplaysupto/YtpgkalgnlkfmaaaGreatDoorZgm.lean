/- Which function a call through the interface comes to. A call through the interface: its receiver is there. -/
import Derived.Test.YtpgkalgnlkfmaaaGreatDoorZga
import Derived.WideLaws
namespace Go.Proofs.YtpgkalgnlkfmaaaGreatDoor.Dg
open Go.ChangeShapes Go.WideShapes Go.ChangeAt Go.RowKit
@[go_sem ↓ high] theorem mWrite256 (b : Nat) (w : World) : (method 278 110 (.agg #[.pointer (some ⟨b, 0, none⟩)]) "Write").run Tryz.prog w = .ok (146, .pointer (some ⟨b, 0, none⟩)) w := by kernel_rfl
@[go_sem ↓ high] theorem mSum256 (b : Nat) (w : World) : (method 278 110 (.agg #[.pointer (some ⟨b, 0, none⟩)]) "Sum").run Tryz.prog w = .ok (72, .pointer (some ⟨b, 0, none⟩)) w := by kernel_rfl
@[go_sem ↓ high] theorem mWipe256 (b : Nat) (w : World) : (method 278 110 (.agg #[.pointer (some ⟨b, 0, none⟩)]) "Wipe").run Tryz.prog w = .ok (145, .pointer (some ⟨b, 0, none⟩)) w := by kernel_rfl
@[go_sem ↓ high] theorem mForm256 (b : Nat) (w : World) : (method 278 110 (.agg #[.pointer (some ⟨b, 0, none⟩)]) "Form").run Tryz.prog w = .ok (143, .pointer (some ⟨b, 0, none⟩)) w := by kernel_rfl
@[go_sem ↓ high] theorem mCopy256 (b : Nat) (w : World) : (method 278 110 (.agg #[.pointer (some ⟨b, 0, none⟩)]) "Copy").run Tryz.prog w = .ok (147, .agg #[.pointer (some ⟨b, 0, none⟩)]) w := by kernel_rfl
@[go_sem ↓ high] theorem mWrite512 (b : Nat) (w : World) : (method 278 115 (.agg #[.pointer (some ⟨b, 0, none⟩)]) "Write").run Tryz.prog w = .ok (152, .pointer (some ⟨b, 0, none⟩)) w := by kernel_rfl
@[go_sem ↓ high] theorem mSum512 (b : Nat) (w : World) : (method 278 115 (.agg #[.pointer (some ⟨b, 0, none⟩)]) "Sum").run Tryz.prog w = .ok (75, .pointer (some ⟨b, 0, none⟩)) w := by kernel_rfl
@[go_sem ↓ high] theorem mWipe512 (b : Nat) (w : World) : (method 278 115 (.agg #[.pointer (some ⟨b, 0, none⟩)]) "Wipe").run Tryz.prog w = .ok (151, .pointer (some ⟨b, 0, none⟩)) w := by kernel_rfl
@[go_sem ↓ high] theorem mForm512 (b : Nat) (w : World) : (method 278 115 (.agg #[.pointer (some ⟨b, 0, none⟩)]) "Form").run Tryz.prog w = .ok (149, .pointer (some ⟨b, 0, none⟩)) w := by kernel_rfl
@[go_sem ↓ high] theorem mCopy512 (b : Nat) (w : World) : (method 278 115 (.agg #[.pointer (some ⟨b, 0, none⟩)]) "Copy").run Tryz.prog w = .ok (153, .agg #[.pointer (some ⟨b, 0, none⟩)]) w := by kernel_rfl
theorem mWrite (a : Bool) (b : Nat) (w : World) : (method 278 (tyI a) (.agg #[.pointer (some ⟨b, 0, none⟩)]) "Write").run Tryz.prog w = .ok (fWrite a, .pointer (some ⟨b, 0, none⟩)) w := by cases a <;> kernel_rfl
theorem mSum (a : Bool) (b : Nat) (w : World) : (method 278 (tyI a) (.agg #[.pointer (some ⟨b, 0, none⟩)]) "Sum").run Tryz.prog w = .ok (fSumS a, .pointer (some ⟨b, 0, none⟩)) w := by cases a <;> kernel_rfl
theorem mWipe (a : Bool) (b : Nat) (w : World) : (method 278 (tyI a) (.agg #[.pointer (some ⟨b, 0, none⟩)]) "Wipe").run Tryz.prog w = .ok (fWipe a, .pointer (some ⟨b, 0, none⟩)) w := by cases a <;> kernel_rfl
theorem mForm (a : Bool) (b : Nat) (w : World) : (method 278 (tyI a) (.agg #[.pointer (some ⟨b, 0, none⟩)]) "Form").run Tryz.prog w = .ok (fForm a, .pointer (some ⟨b, 0, none⟩)) w := by cases a <;> kernel_rfl
theorem mCopy (a : Bool) (b : Nat) (w : World) : (method 278 (tyI a) (.agg #[.pointer (some ⟨b, 0, none⟩)]) "Copy").run Tryz.prog w = .ok (fCopy a, .agg #[.pointer (some ⟨b, 0, none⟩)]) w := by cases a <;> kernel_rfl
end Go.Proofs.YtpgkalgnlkfmaaaGreatDoor.Dg
namespace Go.Proofs.YtpgkalgnlkfmaaaGreatDoor.Dg
open Go.ChangeShapes Go.WideShapes Go.ChangeAt Go.RowKit
@[go_sem ↓ high] theorem nWrite256 (b : Nat) (w : World) : (nilAhead 278 110 (.agg #[.pointer (some ⟨b, 0, none⟩)]) "Write").run Tryz.prog w = .ok (some false) w := by kernel_rfl
@[go_sem ↓ high] theorem nSum256 (b : Nat) (w : World) : (nilAhead 278 110 (.agg #[.pointer (some ⟨b, 0, none⟩)]) "Sum").run Tryz.prog w = .ok (some false) w := by kernel_rfl
@[go_sem ↓ high] theorem nWipe256 (b : Nat) (w : World) : (nilAhead 278 110 (.agg #[.pointer (some ⟨b, 0, none⟩)]) "Wipe").run Tryz.prog w = .ok (some false) w := by kernel_rfl
@[go_sem ↓ high] theorem nForm256 (b : Nat) (w : World) : (nilAhead 278 110 (.agg #[.pointer (some ⟨b, 0, none⟩)]) "Form").run Tryz.prog w = .ok (some false) w := by kernel_rfl
@[go_sem ↓ high] theorem nCopy256 (b : Nat) (w : World) : (nilAhead 278 110 (.agg #[.pointer (some ⟨b, 0, none⟩)]) "Copy").run Tryz.prog w = .ok (some false) w := by kernel_rfl
@[go_sem ↓ high] theorem nWrite512 (b : Nat) (w : World) : (nilAhead 278 115 (.agg #[.pointer (some ⟨b, 0, none⟩)]) "Write").run Tryz.prog w = .ok (some false) w := by kernel_rfl
@[go_sem ↓ high] theorem nSum512 (b : Nat) (w : World) : (nilAhead 278 115 (.agg #[.pointer (some ⟨b, 0, none⟩)]) "Sum").run Tryz.prog w = .ok (some false) w := by kernel_rfl
@[go_sem ↓ high] theorem nWipe512 (b : Nat) (w : World) : (nilAhead 278 115 (.agg #[.pointer (some ⟨b, 0, none⟩)]) "Wipe").run Tryz.prog w = .ok (some false) w := by kernel_rfl
@[go_sem ↓ high] theorem nForm512 (b : Nat) (w : World) : (nilAhead 278 115 (.agg #[.pointer (some ⟨b, 0, none⟩)]) "Form").run Tryz.prog w = .ok (some false) w := by kernel_rfl
@[go_sem ↓ high] theorem nCopy512 (b : Nat) (w : World) : (nilAhead 278 115 (.agg #[.pointer (some ⟨b, 0, none⟩)]) "Copy").run Tryz.prog w = .ok (some false) w := by kernel_rfl
theorem nWrite (a : Bool) (b : Nat) (w : World) : (nilAhead 278 (tyI a) (.agg #[.pointer (some ⟨b, 0, none⟩)]) "Write").run Tryz.prog w = .ok (some false) w := by cases a <;> kernel_rfl
theorem nSum (a : Bool) (b : Nat) (w : World) : (nilAhead 278 (tyI a) (.agg #[.pointer (some ⟨b, 0, none⟩)]) "Sum").run Tryz.prog w = .ok (some false) w := by cases a <;> kernel_rfl
theorem nWipe (a : Bool) (b : Nat) (w : World) : (nilAhead 278 (tyI a) (.agg #[.pointer (some ⟨b, 0, none⟩)]) "Wipe").run Tryz.prog w = .ok (some false) w := by cases a <;> kernel_rfl
theorem nForm (a : Bool) (b : Nat) (w : World) : (nilAhead 278 (tyI a) (.agg #[.pointer (some ⟨b, 0, none⟩)]) "Form").run Tryz.prog w = .ok (some false) w := by cases a <;> kernel_rfl
theorem nCopy (a : Bool) (b : Nat) (w : World) : (nilAhead 278 (tyI a) (.agg #[.pointer (some ⟨b, 0, none⟩)]) "Copy").run Tryz.prog w = .ok (some false) w := by cases a <;> kernel_rfl
end Go.Proofs.YtpgkalgnlkfmaaaGreatDoor.Dg
