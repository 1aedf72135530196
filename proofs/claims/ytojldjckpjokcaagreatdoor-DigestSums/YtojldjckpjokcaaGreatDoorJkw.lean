/- The program's words: turned, taken out of a list, laid as bytes (words of 64 bits): what they answer, for every word, list, place and world. -/
import Derived.Test.YtojldjckpjokcaaGreatDoorRows
import Derived.Test.YtojldjckpjokcaaGreatDoorKmath
import Derived.Test.YtojldjckpjokcaaGreatDoorBkit
import Derived.Test.YtojldjckpjokcaaGreatDoorKword
import Derived.WalkKit
import Derived.ProofKit
import Derived.Deep.QuietTactic
import Derived.BigQuiet
import Derived.WalkLawsBesides
namespace Go.Proofs.YtojldjckpjokcaaGreatDoor.Wd
open Go.ChangeShapes Go.WideShapes Go.ChangeAt Go.RowKit
open Go.Proofs.YtojldjckpjokcaaGreatDoor.By
set_option maxHeartbeats 400000 in
theorem turn64 (x n : Int) (w : World) (hx : 0 ≤ x) (hx2 : x < 18446744073709551616) :
    Calls Tryz.prog 115 #[.int .u64 x, .int .i64 n] w fun e w' => e = .returned (.int .u64 (Rot 64 x n)) ∧ ∃ k, w' = w.drewN k := by
  have hfin := turned64 x n hx hx2
  have hl := and_63 n
  have h0 : 0 ≤ n % 64 := by omega
  have h1 : n % 64 < 64 := by omega
  generalize n % 64 = l at *
  have HF : Hid (bits .or .u64 (x * 2 ^ l.toNat % 18446744073709551616) (x / 2 ^ (64 - l).toNat) = Rot 64 x n) := hfin
  clear hfin
  go_enter Tryz.func115, Tryz.ntmps115
  go_wp2_with (go_at_call 113; refine (width40 _).mono ?_; rintro e w' ⟨rfl, rfl⟩)
  go_quiet ((go_at_call 113; exact Calls.quiet_of_same (width40 _)))
  go_wp2
  go_ret
  exact ⟨congrArg (fun z => Ending.returned (Value.int IntKind.u64 z)) HF.out, _, rfl⟩
set_option maxHeartbeats 400000 in
theorem take64_go (v : Value) (n : Nat) (f : Nat → Int) (at' : Int) (w : World) (hr : RB w v n f) (hn : n ≤ 140737488355328) (a0 : -9223372036854775808 ≤ at') (a1 : at' < 9223372036854775808)
    (P : Nat → Int) (hP0 : P 0 = 0) (hP : ∀ k, k ≤ 8 → 0 ≤ P k ∧ P k < 18446744073709551616) (hst : Hid (∀ k, k < 8 → bits .or .u64 (P k * 256 % 18446744073709551616) (Byt f n (at' + k)) = P (k + 1))) :
    Calls Tryz.prog 114 #[v, .int .i64 at'] w fun e w' => e = .returned (.int .u64 (P 8)) ∧ w' = w := by
  have hB := fun i => Byt_bound f n (at' + i) hr.1
  have HR : Hid (RB w v n f) := hr
  clear hr
  go_enter Tryz.func114, Tryz.ntmps114
  go_wp2_with (go_at_call 102; refine (size51 _).mono ?_; rintro e w' ⟨rfl, rfl⟩)
  go_loop [5, 8] (fun y i => ∃ k : Nat, k ≤ 8 ∧ i = .int .i64 k ∧ y = .int .u64 (P k)) (fun _ i => 8 - (intOf i).toNat)
  case atStart => exact ⟨0, Nat.zero_le _, rfl, by rw [hP0]⟩
  case round =>
    obtain ⟨k, hk, rfl, rfl⟩ := hrel
    have hb := hP k hk
    have hB := hB k
    clear hP hP0
    by_cases hlt : k < 8
    · go_wp2_with (go_at_call 111; refine (byteBehind_any _ _ f _ _ _ HR.out hn (by omega) (by omega) a0 a1).mono ?_; rintro e w' ⟨rfl, rfl⟩)
      exact ⟨⟨k + 1, by omega, by go_num, congrArg (Value.int IntKind.u64) (hst.out k hlt)⟩, by simp [intOf]; omega⟩
    · go_wp2
      go_ret
      exact ⟨by rw [show k = 8 from by omega]; rfl, rfl⟩
theorem take64 (v : Value) (n : Nat) (f : Nat → Int) (at' : Int) (w : World) (hr : RB w v n f) (hn : n ≤ 140737488355328) (a0 : -9223372036854775808 ≤ at') (a1 : at' < 9223372036854775808) :
    Calls Tryz.prog 114 #[v, .int .i64 at'] w fun e w' => e = .returned (.int .u64 (BE (fun i => Byt f n (at' + i)) 8)) ∧ w' = w := by
  have hB := fun i : Nat => Byt_bound f n (at' + i) hr.1
  have hb := fun k => BE_bound (fun i => Byt f n (at' + i)) hB k
  refine take64_go v n f at' w hr hn a0 a1 (BE (fun i => Byt f n (at' + i))) rfl (fun k hk => ⟨(hb k).1, ?_⟩) ?_
  · have h1 := hb k
    have h2 := pow_le_of k 8 hk
    omega
  · intro k hk
    have h1 := hb k
    have h2 := pow_le_of k 7 (by omega)
    exact or_be64 _ _ h1.1 (by omega) (hB k).1 (hB k).2
end Go.Proofs.YtojldjckpjokcaaGreatDoor.Wd
