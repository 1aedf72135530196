/- The document's macs: what they are, and what their calls answer. -/
import Derived.Test.YtjhhnajgfngbhaaGreatDoorZmf
namespace Go.Proofs.YtjhhnajgfngbhaaGreatDoor.Dg
open Go.ChangeShapes Go.WideShapes Go.ChangeAt Go.RowKit
open Go.Proofs.YtjhhnajgfngbhaaGreatDoor.By
open Go.Proofs.YtjhhnajgfngbhaaGreatDoor.Sh (Blk size_alloc)
/-- A mac, in the document's words: its algorithm, key and message. -/
structure DK where
  a : Bool
  nk : Nat
  kf : Nat → Int
  m : Nat
  f : Nat → Int
structure IsQk (W : World) (c : Nat) (y : DK) (kv mv : Value) : Prop where
  here : Blk W c [.int .u8 (an y.a), kv, mv, .bool true] 71
  k : By.Own W 0 kv y.nk y.kf
  m : By.Own W 0 mv y.m y.f
def IsQ (W : World) (c : Nat) : Option DK → Prop
  | none => ∃ u k v, Blk W c [u, k, v, .bool false] 71
  | some y => ∃ kv mv, IsQk W c y kv mv
theorem IsQ.blk {W : World} {c : Nat} {k : Option DK} (h : IsQ W c k) : ∃ cs, Blk W c cs 71 := by
  match k, h with
  | none, ⟨u, k, v, h⟩ => exact ⟨_, h⟩
  | some y, ⟨kv, mv, h⟩ => exact ⟨_, h.here⟩
theorem IsQ.kept {W W' : World} {c : Nat} {k : Option DK} {S : Nat → Prop} (h : IsQ W c k) (hk : Kp S W W') (h1 : ¬ S c) (h2 : ∀ g cs, Blk W g cs 5 → ¬ S g) : IsQ W' c k := by
  have ko : ∀ {v : Value} {n : Nat} {f : Nat → Int}, By.Own W 0 v n f → By.Own W' 0 v n f := fun ho => Sg.own_kept ho hk (fun g hg => by
    obtain ⟨cc, hc⟩ := Sg.own8_type ho hg
    exact h2 g cc.toList (by show W.heap[g]? = _; rw [hc]))
  match k, h with
  | none, ⟨u, k, v, h⟩ => exact ⟨u, k, v, h.kept hk h1⟩
  | some y, ⟨kv, mv, h⟩ => exact ⟨kv, mv, h.here.kept hk h1, ko h.k, ko h.m⟩
theorem IsQ.ko {W W' : World} {c : Nat} {k : Option DK} (h : IsQ W c k) (hk : Ko W W') : IsQ W' c k := by
  match k, h with
  | none, ⟨u, k, v, h⟩ => exact ⟨u, k, v, hk _ _ _ h (by decide)⟩
  | some y, ⟨kv, mv, h⟩ => exact ⟨kv, mv, hk _ _ _ h.here (by decide), hk.own h.k, hk.own h.m⟩
theorem madeZ (w : World) : Calls Tryz.prog 55 #[.pointer none] w fun e w' => e = .returned (.bool false) ∧ w' = w := by
  go_enter Tryz.func55, Tryz.ntmps55
  go_wp2
  go_ret
  exact ⟨rfl, rfl⟩
theorem madeN (c : Nat) (w : World) (h : IsQ w c none) : Calls Tryz.prog 55 #[.pointer (some ⟨c, 0, none⟩)] w fun e w' => e = .returned (.bool false) ∧ w' = w := by
  obtain ⟨u, k, v, h⟩ := h
  have c3 := h.cell 3 _ rfl
  clear h
  go_enter Tryz.func55, Tryz.ntmps55
  go_wp2
  go_ret
  exact ⟨rfl, rfl⟩
theorem madeS (c : Nat) (y : DK) (kv mv : Value) (w : World) (h : IsQk w c y kv mv) : Calls Tryz.prog 55 #[.pointer (some ⟨c, 0, none⟩)] w fun e w' => e = .returned (.bool true) ∧ w' = w := by
  have c3 := h.here.cell 3 _ rfl
  clear h
  go_enter Tryz.func55, Tryz.ntmps55
  go_wp2
  go_ret
  exact ⟨rfl, rfl⟩
theorem qWriteZ (lp v : Value) (w : World) : Calls Tryz.prog 43 #[.pointer none, lp, v] w fun e w' => e = .returned (.int .i64 1) ∧ w' = w := by
  go_enter Tryz.func43, Tryz.ntmps43
  go_wp2_with (go_at_call 55; refine (madeZ _).mono ?_; rintro e w1 ⟨rfl, rfl⟩)
  go_ret
  exact ⟨rfl, rfl⟩
theorem qWriteN (c : Nat) (lp v : Value) (w : World) (h : IsQ w c none) : Calls Tryz.prog 43 #[.pointer (some ⟨c, 0, none⟩), lp, v] w fun e w' => e = .returned (.int .i64 1) ∧ w' = w := by
  go_enter Tryz.func43, Tryz.ntmps43
  go_wp2_with (go_at_call 55; refine (madeN c _ h).mono ?_; rintro e w1 ⟨rfl, rfl⟩)
  go_ret
  exact ⟨rfl, rfl⟩
theorem qSumZ (lp : Value) (w : World) : Calls Tryz.prog 44 #[.pointer none, lp] w fun e w' => e = .returned (.tuple #[.slice none 0 0, .int .i64 1]) ∧ w' = w := by
  go_enter Tryz.func44, Tryz.ntmps44
  go_wp2_with (go_at_call 55; refine (madeZ _).mono ?_; rintro e w1 ⟨rfl, rfl⟩)
  go_ret2
  exact ⟨rfl, rfl⟩
theorem qSumN (c : Nat) (lp : Value) (w : World) (h : IsQ w c none) : Calls Tryz.prog 44 #[.pointer (some ⟨c, 0, none⟩), lp] w fun e w' => e = .returned (.tuple #[.slice none 0 0, .int .i64 1]) ∧ w' = w := by
  go_enter Tryz.func44, Tryz.ntmps44
  go_wp2_with (go_at_call 55; refine (madeN c _ h).mono ?_; rintro e w1 ⟨rfl, rfl⟩)
  go_ret2
  exact ⟨rfl, rfl⟩
theorem qResetZ (w : World) : Calls Tryz.prog 45 #[.pointer none] w fun e w' => e = .returned (.int .i64 1) ∧ w' = w := by
  go_enter Tryz.func45, Tryz.ntmps45
  go_wp2_with (go_at_call 55; refine (madeZ _).mono ?_; rintro e w1 ⟨rfl, rfl⟩)
  go_ret
  exact ⟨rfl, rfl⟩
theorem qResetN (c : Nat) (w : World) (h : IsQ w c none) : Calls Tryz.prog 45 #[.pointer (some ⟨c, 0, none⟩)] w fun e w' => e = .returned (.int .i64 1) ∧ w' = w := by
  go_enter Tryz.func45, Tryz.ntmps45
  go_wp2_with (go_at_call 55; refine (madeN c _ h).mono ?_; rintro e w1 ⟨rfl, rfl⟩)
  go_ret
  exact ⟨rfl, rfl⟩
theorem rnewNo (a : Int) (lp v : Value) (w : World) (h1 : ¬ a = 1) (h2 : ¬ a = 2) : Calls Tryz.prog 24 #[lp, .int .u8 a, v] w fun e w' => e = .returned (.tuple #[.pointer none, .int .i64 4]) ∧ w' = w := by
  go_enter Tryz.func24, Tryz.ntmps24
  go_wp2_with fail
  refine (rblockNo a _ h1 h2).mono ?_
  rintro e w1 ⟨rfl, hw1⟩
  subst w1
  go_wp2
  go_ret2
  exact ⟨rfl, rfl⟩
end Go.Proofs.YtjhhnajgfngbhaaGreatDoor.Dg
