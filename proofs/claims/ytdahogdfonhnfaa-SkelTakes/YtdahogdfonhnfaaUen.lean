/- An operation's bytes: Encode, of the program and of the document. -/
import Derived.Test.YtdahogdfonhnfaaUop
namespace Go.Proofs.Ytdahogdfonhnfaa.Ou
open Go.ChangeShapes Go.WideShapes Go.ChangeAt Go.RowKit
open Go.Proofs.Ytdahogdfonhnfaa.By
open Go.Proofs.Ytdahogdfonhnfaa.Tb (Blk Blk.newAt)
/-- The two bytes ahead. -/
def two (q : Nu) (i : Nat) : Int := if i = 0 then q.k else q.a
/-- The 32 bytes ahead of the lists. -/
def hdb (q : Nu) (n m : Nat) : Nat → Int := cat 29 (cat 26 (cat 18 (cat 10 (cat 2 (two q) (be 8 q.h)) (be 8 q.c)) (be 8 q.o)) (be 3 n)) (be 3 m)
/-- An operation's bytes. -/
def en (q : Nu) (n : Nat) (f : Nat → Int) (m : Nat) (g : Nat → Int) : Nat → Int := cat (32 + n) (cat 32 (hdb q n m) f) g
/-- Its numbers fit. -/
structure Nu.Ok (q : Nu) : Prop where
  k0 : 0 ≤ q.k
  k1 : q.k < 256
  a0 : 0 ≤ q.a
  a1 : q.a < 256
  h0 : -9223372036854775808 ≤ q.h
  h1 : q.h < 9223372036854775808
  c0 : -9223372036854775808 ≤ q.c
  c1 : q.c < 9223372036854775808
  o0 : -9223372036854775808 ≤ q.o
  o1 : q.o < 9223372036854775808
theorem two_bound {q : Nu} (hq : q.Ok) (i : Nat) : 0 ≤ two q i ∧ two q i < 256 := by
  unfold two; split
  · exact ⟨hq.k0, hq.k1⟩
  · exact ⟨hq.a0, hq.a1⟩
theorem hdb_bound {q : Nu} (hq : q.Ok) (n m i : Nat) : 0 ≤ hdb q n m i ∧ hdb q n m i < 256 := cat_bound (cat_bound (cat_bound (cat_bound (cat_bound (two_bound hq) (be_bound _ _)) (be_bound _ _)) (be_bound _ _)) (be_bound _ _)) (be_bound _ _) i
theorem en_bound {q : Nu} (hq : q.Ok) {n m : Nat} {f g : Nat → Int} (hf : ∀ i, 0 ≤ f i ∧ f i < 256) (hg : ∀ i, 0 ≤ g i ∧ g i < 256) (i : Nat) : 0 ≤ en q n f m g i ∧ en q n f m g i < 256 := cat_bound (cat_bound (hdb_bound hq n m) hf) hg i
def big (n m : Nat) : Prop := 16777215 < n ∨ 16777215 < m
instance (n m : Nat) : Decidable (big n m) := by unfold big; infer_instance
def el (n m : Nat) : Nat := if big n m then 0 else 32 + n + m
def ec (n m : Nat) : Int := if big n m then 9 else 0
theorem cut8 : (8 : Int) = ((8 : Nat) : Int) := rfl
theorem cut3 : (3 : Int) = ((3 : Nat) : Int) := rfl
end Go.Proofs.Ytdahogdfonhnfaa.Ou
