/- The statements' helpers 'block', 'rising' and 'awake'; the calls without a ledger. The calls without a ledger; the statements' helper 'awake' answers true. -/
import Derived.Test.YtpohogpkfdebdaaGreatDoorYp
namespace Go.Proofs.YtpohogpkfdebdaaGreatDoor.Ae
open Go.ChangeShapes Go.WideShapes Go.ChangeAt Go.RowKit
open Go.Proofs.YtpohogpkfdebdaaGreatDoor.By Go.Proofs.YtpohogpkfdebdaaGreatDoor.Gf
open Go.Proofs.YtpohogpkfdebdaaGreatDoor.Kc (own_kept own_mono own8_type cat cat_bound wpList_cat below_grow)
/-- The examples' answers. -/
def wn : List Nat := [105, 196, 224, 216, 106, 123, 4, 48, 216, 205, 183, 128, 112, 180, 197, 90, 221, 169, 124, 164, 134, 76, 223, 224, 110, 175, 112, 160, 236, 13, 113, 145, 142, 162, 183, 202, 81, 103, 69, 191, 234, 252, 73, 144, 75, 73, 96, 137]
def wnt (i : Nat) : Nat := wn.getD i 0
theorem wn48 : #[Value.int IntKind.u8 105, Value.int IntKind.u8 196, Value.int IntKind.u8 224, Value.int IntKind.u8 216, Value.int IntKind.u8 106, Value.int IntKind.u8 123, Value.int IntKind.u8 4, Value.int IntKind.u8 48, Value.int IntKind.u8 216, Value.int IntKind.u8 205, Value.int IntKind.u8 183, Value.int IntKind.u8 128, Value.int IntKind.u8 112, Value.int IntKind.u8 180, Value.int IntKind.u8 197, Value.int IntKind.u8 90, Value.int IntKind.u8 221, Value.int IntKind.u8 169, Value.int IntKind.u8 124, Value.int IntKind.u8 164, Value.int IntKind.u8 134, Value.int IntKind.u8 76, Value.int IntKind.u8 223, Value.int IntKind.u8 224, Value.int IntKind.u8 110, Value.int IntKind.u8 175, Value.int IntKind.u8 112, Value.int IntKind.u8 160, Value.int IntKind.u8 236, Value.int IntKind.u8 13, Value.int IntKind.u8 113, Value.int IntKind.u8 145, Value.int IntKind.u8 142, Value.int IntKind.u8 162, Value.int IntKind.u8 183, Value.int IntKind.u8 202, Value.int IntKind.u8 81, Value.int IntKind.u8 103, Value.int IntKind.u8 69, Value.int IntKind.u8 191, Value.int IntKind.u8 234, Value.int IntKind.u8 252, Value.int IntKind.u8 73, Value.int IntKind.u8 144, Value.int IntKind.u8 75, Value.int IntKind.u8 73, Value.int IntKind.u8 96, Value.int IntKind.u8 137] = (bl 48 (cb wnt)).toArray := by kernel_rfl
theorem zn48 : #[Value.int IntKind.u8 0, Value.int IntKind.u8 0, Value.int IntKind.u8 0, Value.int IntKind.u8 0, Value.int IntKind.u8 0, Value.int IntKind.u8 0, Value.int IntKind.u8 0, Value.int IntKind.u8 0, Value.int IntKind.u8 0, Value.int IntKind.u8 0, Value.int IntKind.u8 0, Value.int IntKind.u8 0, Value.int IntKind.u8 0, Value.int IntKind.u8 0, Value.int IntKind.u8 0, Value.int IntKind.u8 0, Value.int IntKind.u8 0, Value.int IntKind.u8 0, Value.int IntKind.u8 0, Value.int IntKind.u8 0, Value.int IntKind.u8 0, Value.int IntKind.u8 0, Value.int IntKind.u8 0, Value.int IntKind.u8 0, Value.int IntKind.u8 0, Value.int IntKind.u8 0, Value.int IntKind.u8 0, Value.int IntKind.u8 0, Value.int IntKind.u8 0, Value.int IntKind.u8 0, Value.int IntKind.u8 0, Value.int IntKind.u8 0, Value.int IntKind.u8 0, Value.int IntKind.u8 0, Value.int IntKind.u8 0, Value.int IntKind.u8 0, Value.int IntKind.u8 0, Value.int IntKind.u8 0, Value.int IntKind.u8 0, Value.int IntKind.u8 0, Value.int IntKind.u8 0, Value.int IntKind.u8 0, Value.int IntKind.u8 0, Value.int IntKind.u8 0, Value.int IntKind.u8 0, Value.int IntKind.u8 0, Value.int IntKind.u8 0, Value.int IntKind.u8 0] = (bl 48 (cb nul)).toArray := by kernel_rfl
/-- A list's bytes as numbers. -/
def kf (f : Nat → Int) (i : Nat) : Nat := (f i).toNat
theorem rb_one (w : World) (x : Int) (hx : 0 ≤ x ∧ x < 256) : By.RB (w.alloc (.cells #[.int .u8 x] 5)) (.slice (some ⟨w.heap.size, 0, none⟩) 1 1) 1 (fun _ => x) :=
  rb_blk (Blk.newAt w _ (bl 1 (fun _ => x)) 5 _ rfl (by rw [← bl_singleton])) (fun _ => hx) (by decide)
def ris (y i : Nat) : Nat := i * y % 256
end Go.Proofs.YtpohogpkfdebdaaGreatDoor.Ae
namespace Go.Proofs.YtpohogpkfdebdaaGreatDoor.Ae
open Go.ChangeShapes Go.WideShapes Go.ChangeAt Go.RowKit
open Go.Proofs.YtpohogpkfdebdaaGreatDoor.By Go.Proofs.YtpohogpkfdebdaaGreatDoor.Gf
open Go.Proofs.YtpohogpkfdebdaaGreatDoor.Kc (own_kept own_mono own8_type cat cat_bound wpList_cat below_grow)
theorem new_ok (S : Nat → Prop) (w0 w : World) (lo : Option Nat) (L : List Rn) (k : Nat) (hk : k = 4 ∨ k = 6 ∨ k = 8) (key : Nat → Nat) (hkey : ∀ i, key i < 256) (kb ko cap : Nat) (hc : 4 * k ≤ cap) (h : LG S w0 w lo L) (h0 : Kp S w0 w) (hr : Room L)
    (hcell : ∀ W, Kp S w0 W → Kt w W → ∀ i, i < 4 * k → W.cell? ⟨kb, ko + i, none⟩ = some (.int .u8 (key i : Nat))) :
    Calls Tryz.prog 149 #[lpv lo, .slice (some ⟨kb, ko, none⟩) (4 * k) cap] w fun e w' => ∃ g, e = .returned (.tuple #[.pointer (some ⟨g, 0, none⟩), .int .i64 0]) ∧ Ci w' g k (rk k key) ∧ w.heap.size ≤ g ∧ LG S w0 w' lo (putL L ⟨4, ((4 * k : Nat) : Int), 1⟩) ∧ Kp S w0 w' ∧ Kt w w' := by
  rcases hk with rfl | rfl | rfl
  · exact new_ok16 S w0 w lo L key hkey kb ko cap hc h h0 hr hcell
  · exact new_ok24 S w0 w lo L key hkey kb ko cap hc h h0 hr hcell
  · exact new_ok32 S w0 w lo L key hkey kb ko cap hc h h0 hr hcell
end Go.Proofs.YtpohogpkfdebdaaGreatDoor.Ae
