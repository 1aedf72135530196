/- A call through the interface: its receiver is there. -/
import Derived.Test.YtojldjckpjokcaaDoorGmt
namespace Go.Proofs.YtojldjckpjokcaaDoor.Dg
open Go.ChangeShapes Go.WideShapes Go.ChangeAt Go.RowKit
@[go_sem ↓ high] theorem nWrite256 (b : Nat) (w : World) : (nilAhead 259 69 (.agg #[.pointer (some ⟨b, 0, none⟩)]) "Write").run Tryd.prog w = .ok (some false) w := by kernel_rfl
@[go_sem ↓ high] theorem nSum256 (b : Nat) (w : World) : (nilAhead 259 69 (.agg #[.pointer (some ⟨b, 0, none⟩)]) "Sum").run Tryd.prog w = .ok (some false) w := by kernel_rfl
@[go_sem ↓ high] theorem nWipe256 (b : Nat) (w : World) : (nilAhead 259 69 (.agg #[.pointer (some ⟨b, 0, none⟩)]) "Wipe").run Tryd.prog w = .ok (some false) w := by kernel_rfl
@[go_sem ↓ high] theorem nForm256 (b : Nat) (w : World) : (nilAhead 259 69 (.agg #[.pointer (some ⟨b, 0, none⟩)]) "Form").run Tryd.prog w = .ok (some false) w := by kernel_rfl
@[go_sem ↓ high] theorem nCopy256 (b : Nat) (w : World) : (nilAhead 259 69 (.agg #[.pointer (some ⟨b, 0, none⟩)]) "Copy").run Tryd.prog w = .ok (some false) w := by kernel_rfl
@[go_sem ↓ high] theorem nWrite512 (b : Nat) (w : World) : (nilAhead 259 74 (.agg #[.pointer (some ⟨b, 0, none⟩)]) "Write").run Tryd.prog w = .ok (some false) w := by kernel_rfl
@[go_sem ↓ high] theorem nSum512 (b : Nat) (w : World) : (nilAhead 259 74 (.agg #[.pointer (some ⟨b, 0, none⟩)]) "Sum").run Tryd.prog w = .ok (some false) w := by kernel_rfl
@[go_sem ↓ high] theorem nWipe512 (b : Nat) (w : World) : (nilAhead 259 74 (.agg #[.pointer (some ⟨b, 0, none⟩)]) "Wipe").run Tryd.prog w = .ok (some false) w := by kernel_rfl
@[go_sem ↓ high] theorem nForm512 (b : Nat) (w : World) : (nilAhead 259 74 (.agg #[.pointer (some ⟨b, 0, none⟩)]) "Form").run Tryd.prog w = .ok (some false) w := by kernel_rfl
@[go_sem ↓ high] theorem nCopy512 (b : Nat) (w : World) : (nilAhead 259 74 (.agg #[.pointer (some ⟨b, 0, none⟩)]) "Copy").run Tryd.prog w = .ok (some false) w := by kernel_rfl
theorem nWrite (a : Bool) (b : Nat) (w : World) : (nilAhead 259 (tyI a) (.agg #[.pointer (some ⟨b, 0, none⟩)]) "Write").run Tryd.prog w = .ok (some false) w := by cases a <;> kernel_rfl
theorem nSum (a : Bool) (b : Nat) (w : World) : (nilAhead 259 (tyI a) (.agg #[.pointer (some ⟨b, 0, none⟩)]) "Sum").run Tryd.prog w = .ok (some false) w := by cases a <;> kernel_rfl
theorem nWipe (a : Bool) (b : Nat) (w : World) : (nilAhead 259 (tyI a) (.agg #[.pointer (some ⟨b, 0, none⟩)]) "Wipe").run Tryd.prog w = .ok (some false) w := by cases a <;> kernel_rfl
theorem nForm (a : Bool) (b : Nat) (w : World) : (nilAhead 259 (tyI a) (.agg #[.pointer (some ⟨b, 0, none⟩)]) "Form").run Tryd.prog w = .ok (some false) w := by cases a <;> kernel_rfl
theorem nCopy (a : Bool) (b : Nat) (w : World) : (nilAhead 259 (tyI a) (.agg #[.pointer (some ⟨b, 0, none⟩)]) "Copy").run Tryd.prog w = .ok (some false) w := by cases a <;> kernel_rfl
end Go.Proofs.YtojldjckpjokcaaDoor.Dg
