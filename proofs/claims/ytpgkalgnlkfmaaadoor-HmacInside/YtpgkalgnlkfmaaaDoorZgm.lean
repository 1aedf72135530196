/- Which function a call through the interface comes to. A call through the interface: its receiver is there. -/
import Derived.Test.YtpgkalgnlkfmaaaDoorZga
import Derived.WideLaws
namespace Go.Proofs.YtpgkalgnlkfmaaaDoor.Dg
open Go.ChangeShapes Go.WideShapes Go.ChangeAt Go.RowKit
@[go_sem ↓ high] theorem mWrite256 (b : Nat) (w : World) : (method 238 80 (.agg #[.pointer (some ⟨b, 0, none⟩)]) "Write").run Tryd.prog w = .ok (90, .pointer (some ⟨b, 0, none⟩)) w := by kernel_rfl
@[go_sem ↓ high] theorem mSum256 (b : Nat) (w : World) : (method 238 80 (.agg #[.pointer (some ⟨b, 0, none⟩)]) "Sum").run Tryd.prog w = .ok (38, .pointer (some ⟨b, 0, none⟩)) w := by kernel_rfl
@[go_sem ↓ high] theorem mForm256 (b : Nat) (w : World) : (method 238 80 (.agg #[.pointer (some ⟨b, 0, none⟩)]) "Form").run Tryd.prog w = .ok (87, .pointer (some ⟨b, 0, none⟩)) w := by kernel_rfl
@[go_sem ↓ high] theorem mCopy256 (b : Nat) (w : World) : (method 238 80 (.agg #[.pointer (some ⟨b, 0, none⟩)]) "Copy").run Tryd.prog w = .ok (91, .agg #[.pointer (some ⟨b, 0, none⟩)]) w := by kernel_rfl
@[go_sem ↓ high] theorem mWrite512 (b : Nat) (w : World) : (method 238 85 (.agg #[.pointer (some ⟨b, 0, none⟩)]) "Write").run Tryd.prog w = .ok (96, .pointer (some ⟨b, 0, none⟩)) w := by kernel_rfl
@[go_sem ↓ high] theorem mSum512 (b : Nat) (w : World) : (method 238 85 (.agg #[.pointer (some ⟨b, 0, none⟩)]) "Sum").run Tryd.prog w = .ok (41, .pointer (some ⟨b, 0, none⟩)) w := by kernel_rfl
@[go_sem ↓ high] theorem mForm512 (b : Nat) (w : World) : (method 238 85 (.agg #[.pointer (some ⟨b, 0, none⟩)]) "Form").run Tryd.prog w = .ok (93, .pointer (some ⟨b, 0, none⟩)) w := by kernel_rfl
@[go_sem ↓ high] theorem mCopy512 (b : Nat) (w : World) : (method 238 85 (.agg #[.pointer (some ⟨b, 0, none⟩)]) "Copy").run Tryd.prog w = .ok (97, .agg #[.pointer (some ⟨b, 0, none⟩)]) w := by kernel_rfl
theorem mWrite (a : Bool) (b : Nat) (w : World) : (method 238 (tyI a) (.agg #[.pointer (some ⟨b, 0, none⟩)]) "Write").run Tryd.prog w = .ok (fWrite a, .pointer (some ⟨b, 0, none⟩)) w := by cases a <;> kernel_rfl
theorem mSum (a : Bool) (b : Nat) (w : World) : (method 238 (tyI a) (.agg #[.pointer (some ⟨b, 0, none⟩)]) "Sum").run Tryd.prog w = .ok (fSumS a, .pointer (some ⟨b, 0, none⟩)) w := by cases a <;> kernel_rfl
theorem mForm (a : Bool) (b : Nat) (w : World) : (method 238 (tyI a) (.agg #[.pointer (some ⟨b, 0, none⟩)]) "Form").run Tryd.prog w = .ok (fForm a, .pointer (some ⟨b, 0, none⟩)) w := by cases a <;> kernel_rfl
theorem mCopy (a : Bool) (b : Nat) (w : World) : (method 238 (tyI a) (.agg #[.pointer (some ⟨b, 0, none⟩)]) "Copy").run Tryd.prog w = .ok (fCopy a, .agg #[.pointer (some ⟨b, 0, none⟩)]) w := by cases a <;> kernel_rfl
end Go.Proofs.YtpgkalgnlkfmaaaDoor.Dg
namespace Go.Proofs.YtpgkalgnlkfmaaaDoor.Dg
open Go.ChangeShapes Go.WideShapes Go.ChangeAt Go.RowKit
@[go_sem ↓ high] theorem nWrite256 (b : Nat) (w : World) : (nilAhead 238 80 (.agg #[.pointer (some ⟨b, 0, none⟩)]) "Write").run Tryd.prog w = .ok (some false) w := by kernel_rfl
@[go_sem ↓ high] theorem nSum256 (b : Nat) (w : World) : (nilAhead 238 80 (.agg #[.pointer (some ⟨b, 0, none⟩)]) "Sum").run Tryd.prog w = .ok (some false) w := by kernel_rfl
@[go_sem ↓ high] theorem nWipe256 (b : Nat) (w : World) : (nilAhead 238 80 (.agg #[.pointer (some ⟨b, 0, none⟩)]) "Wipe").run Tryd.prog w = .ok (some false) w := by kernel_rfl
@[go_sem ↓ high] theorem nForm256 (b : Nat) (w : World) : (nilAhead 238 80 (.agg #[.pointer (some ⟨b, 0, none⟩)]) "Form").run Tryd.prog w = .ok (some false) w := by kernel_rfl
@[go_sem ↓ high] theorem nCopy256 (b : Nat) (w : World) : (nilAhead 238 80 (.agg #[.pointer (some ⟨b, 0, none⟩)]) "Copy").run Tryd.prog w = .ok (some false) w := by kernel_rfl
@[go_sem ↓ high] theorem nWrite512 (b : Nat) (w : World) : (nilAhead 238 85 (.agg #[.pointer (some ⟨b, 0, none⟩)]) "Write").run Tryd.prog w = .ok (some false) w := by kernel_rfl
@[go_sem ↓ high] theorem nSum512 (b : Nat) (w : World) : (nilAhead 238 85 (.agg #[.pointer (some ⟨b, 0, none⟩)]) "Sum").run Tryd.prog w = .ok (some false) w := by kernel_rfl
@[go_sem ↓ high] theorem nWipe512 (b : Nat) (w : World) : (nilAhead 238 85 (.agg #[.pointer (some ⟨b, 0, none⟩)]) "Wipe").run Tryd.prog w = .ok (some false) w := by kernel_rfl
@[go_sem ↓ high] theorem nForm512 (b : Nat) (w : World) : (nilAhead 238 85 (.agg #[.pointer (some ⟨b, 0, none⟩)]) "Form").run Tryd.prog w = .ok (some false) w := by kernel_rfl
@[go_sem ↓ high] theorem nCopy512 (b : Nat) (w : World) : (nilAhead 238 85 (.agg #[.pointer (some ⟨b, 0, none⟩)]) "Copy").run Tryd.prog w = .ok (some false) w := by kernel_rfl
theorem nWrite (a : Bool) (b : Nat) (w : World) : (nilAhead 238 (tyI a) (.agg #[.pointer (some ⟨b, 0, none⟩)]) "Write").run Tryd.prog w = .ok (some false) w := by cases a <;> kernel_rfl
theorem nSum (a : Bool) (b : Nat) (w : World) : (nilAhead 238 (tyI a) (.agg #[.pointer (some ⟨b, 0, none⟩)]) "Sum").run Tryd.prog w = .ok (some false) w := by cases a <;> kernel_rfl
theorem nWipe (a : Bool) (b : Nat) (w : World) : (nilAhead 238 (tyI a) (.agg #[.pointer (some ⟨b, 0, none⟩)]) "Wipe").run Tryd.prog w = .ok (some false) w := by cases a <;> kernel_rfl
theorem nForm (a : Bool) (b : Nat) (w : World) : (nilAhead 238 (tyI a) (.agg #[.pointer (some ⟨b, 0, none⟩)]) "Form").run Tryd.prog w = .ok (some false) w := by cases a <;> kernel_rfl
theorem nCopy (a : Bool) (b : Nat) (w : World) : (nilAhead 238 (tyI a) (.agg #[.pointer (some ⟨b, 0, none⟩)]) "Copy").run Tryd.prog w = .ok (some false) w := by cases a <;> kernel_rfl
end Go.Proofs.YtpgkalgnlkfmaaaDoor.Dg
