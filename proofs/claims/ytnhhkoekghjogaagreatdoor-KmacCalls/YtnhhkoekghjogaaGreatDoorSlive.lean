/- The kernel permutes: SHAKE128 and SHA3-256 of nothing; what the statements' helper lives answers. -/
import Derived.Test.YtnhhkoekghjogaaGreatDoorSgs2
import Derived.Test.YtnhhkoekghjogaaGreatDoorQeval
namespace Go.Proofs.YtnhhkoekghjogaaGreatDoor.Kc
open Go.ChangeShapes Go.WideShapes Go.ChangeAt Go.RowKit
open Go.Proofs.YtnhhkoekghjogaaGreatDoor.By Go.Proofs.YtnhhkoekghjogaaGreatDoor.Wd
def zz : Z := ⟨fun _ => 0, 0, 0⟩
def fA : Nat → Int := mx (mx (fun _ => 0) 0 31) 167 128
def fB : Nat → Int := mx (mx (fun _ => 0) 0 6) 135 128
theorem lanesA : tb 25 (fl fA) = [31, 0, 0, 0, 0, 0, 0, 0, 0, 0, 0, 0, 0, 0, 0, 0, 0, 0, 0, 0, 9223372036854775808, 0, 0, 0, 0] := by decide +kernel
theorem lanesB : tb 25 (fl fB) = [6, 0, 0, 0, 0, 0, 0, 0, 0, 0, 0, 0, 0, 0, 0, 0, 9223372036854775808, 0, 0, 0, 0, 0, 0, 0, 0] := by decide +kernel
theorem permA : (tb 25 (perm (fl fA))).getD 0 0 = 9043949231062883455 := by
  rw [← perm_L, lanesA]
  decide +kernel
theorem permB : (tb 25 (perm (fl fB))).take 4 = [7410425521722818471, 7121987202003222865, 18035012034529034485, 5351394012144785538] := by
  rw [← perm_L, lanesB]
  decide +kernel
def lA : List Int := [127, 156, 43, 164, 232, 143, 130, 125]
def lB : List Int := [167, 255, 198, 248, 191, 30, 215, 102, 81, 193, 71, 86, 160, 97, 214, 98, 245, 128, 255, 77, 228, 59, 73, 250, 130, 216, 10, 75, 128, 248, 67, 74]
theorem sayA (i : Nat) (h : i < 8) : Z.say 168 (Z.fin 168 31 zz) i = lst lA i := by
  rw [say_part _ _ _ (by show 0 + i < 168; omega)]
  show psp fA (0 + i) = _
  rw [Nat.zero_add]
  unfold psp bf
  rw [show i / 8 = 0 from by omega, show i % 8 = i from by omega, ← tb_get 25 (perm (fl fA)) 0 (by omega), permA]
  match i, h with
  | 0, _ | 1, _ | 2, _ | 3, _ | 4, _ | 5, _ | 6, _ | 7, _ => decide
theorem take_getD (l : List Int) (n i : Nat) (h : i < n) : (l.take n).getD i 0 = l.getD i 0 := by
  rw [List.getD_eq_getElem?_getD, List.getD_eq_getElem?_getD, List.getElem?_take, if_pos h]
theorem sayB (i : Nat) (h : i < 32) : Z.say 136 (Z.fin 136 6 zz) i = lst lB i := by
  rw [say_part _ _ _ (by show 0 + i < 136; omega)]
  show psp fB (0 + i) = _
  rw [Nat.zero_add]
  unfold psp bf
  rw [← tb_get 25 (perm (fl fB)) (i / 8) (by omega), ← take_getD _ 4 _ (by omega), permB]
  revert i
  decide +kernel
theorem lA_b (i : Nat) : 0 ≤ lst lA i ∧ lst lA i < 256 := lst_bound lA (by decide) i
theorem lB_b (i : Nat) : 0 ≤ lst lB i ∧ lst lB i < 256 := lst_bound lB (by decide) i
theorem zz_ok (r : Nat) (h : 0 < r) : zz.Ok r false := ⟨fun _ => by show (0 : Int) ≤ 0 ∧ (0 : Int) < 256; decide, Nat.zero_le _, fun _ => h⟩
end Go.Proofs.YtnhhkoekghjogaaGreatDoor.Kc
