/- There and back: what the bytes of an operation say. -/
import Derived.Test.YtnadpglfliiplaaUde
namespace Go.Proofs.Ytnadpglfliiplaa.Ou
open Go.ChangeShapes Go.WideShapes Go.ChangeAt Go.RowKit
open Go.Proofs.Ytnadpglfliiplaa.By
theorem en_head (q : Nu) (n nm : Nat) (f g : Nat → Int) (i : Nat) (h : i < 32) : en q n f nm g i = hdb q n nm i := by
  unfold en; rw [cat_lt (by omega), cat_lt h]
theorem hdb_two (q : Nu) (n m i : Nat) (h : i < 2) : hdb q n m i = two q i := by
  unfold hdb; rw [cat_lt (by omega), cat_lt (by omega), cat_lt (by omega), cat_lt (by omega), cat_lt (by omega)]
theorem hdb_h (q : Nu) (n m i : Nat) (h : i < 8) : hdb q n m (2 + i) = be 8 q.h i := by
  unfold hdb; rw [cat_lt (by omega), cat_lt (by omega), cat_lt (by omega), cat_lt (by omega), cat_ge (by omega), show 2 + i - 2 = i by omega]
theorem hdb_c (q : Nu) (n m i : Nat) (h : i < 8) : hdb q n m (10 + i) = be 8 q.c i := by
  unfold hdb; rw [cat_lt (by omega), cat_lt (by omega), cat_lt (by omega), cat_ge (by omega), show 10 + i - 10 = i by omega]
theorem hdb_o (q : Nu) (n m i : Nat) (h : i < 8) : hdb q n m (18 + i) = be 8 q.o i := by
  unfold hdb; rw [cat_lt (by omega), cat_lt (by omega), cat_ge (by omega), show 18 + i - 18 = i by omega]
theorem hdb_n (q : Nu) (n m i : Nat) (h : i < 3) : hdb q n m (26 + i) = be 3 n i := by
  unfold hdb; rw [cat_lt (by omega), cat_ge (by omega), show 26 + i - 26 = i by omega]
theorem hdb_m (q : Nu) (n m i : Nat) (_h : i < 3) : hdb q n m (29 + i) = be 3 m i := by
  unfold hdb; rw [cat_ge (by omega), show 29 + i - 29 = i by omega]
/-- Bytes that begin with those of an operation. -/
def Begins (F : Nat → Int) (q : Nu) (n : Nat) (f : Nat → Int) (nm : Nat) (g : Nat → Int) : Prop := ∀ i, i < 32 + n + nm → F i = en q n f nm g i
section
variable {F : Nat → Int} {q : Nu} {n nm : Nat} {f g : Nat → Int}
theorem Begins.hd (h : Begins F q n f nm g) (i : Nat) (hi : i < 32) : F i = hdb q n nm i := by rw [h i (by omega), en_head _ _ _ _ _ _ hi]
theorem Begins.dl (h : Begins F q n f nm g) (hn : n < 16777216) : dl F = n := by
  unfold Ou.dl
  rw [BE_congr (sh 26 F) (be 3 n) 3 (fun i hi => by show F (26 + i) = _; rw [h.hd _ (by omega), hdb_n _ _ _ _ hi]), BE_be]
  show ((n : Int) % 16777216).toNat = n
  omega
theorem Begins.ml (h : Begins F q n f nm g) (hm : nm < 16777216) : ml F = nm := by
  unfold Ou.ml
  rw [BE_congr (sh 29 F) (be 3 nm) 3 (fun i hi => by show F (29 + i) = _; rw [h.hd _ (by omega), hdb_m _ _ _ _ hi]), BE_be]
  show ((nm : Int) % 16777216).toNat = nm
  omega
theorem Begins.zl (h : Begins F q n f nm g) (hn : n < 16777216) (hm : nm < 16777216) : zl F = 32 + n + nm := by unfold Ou.zl; rw [h.dl hn, h.ml hm]
theorem Begins.nu (h : Begins F q n f nm g) (hq : q.Ok) : nu F = q := by
  have e1 : BE (sh 2 F) 8 = q.h % 18446744073709551616 := by
    rw [BE_congr (sh 2 F) (be 8 q.h) 8 (fun i hi => by show F (2 + i) = _; rw [h.hd _ (by omega), hdb_h _ _ _ _ hi]), BE_be]; rfl
  have e2 : BE (sh 10 F) 8 = q.c % 18446744073709551616 := by
    rw [BE_congr (sh 10 F) (be 8 q.c) 8 (fun i hi => by show F (10 + i) = _; rw [h.hd _ (by omega), hdb_c _ _ _ _ hi]), BE_be]; rfl
  have e3 : BE (sh 18 F) 8 = q.o % 18446744073709551616 := by
    rw [BE_congr (sh 18 F) (be 8 q.o) 8 (fun i hi => by show F (18 + i) = _; rw [h.hd _ (by omega), hdb_o _ _ _ _ hi]), BE_be]; rfl
  unfold Ou.nu
  rw [e1, e2, e3, sg_mod _ hq.h0 hq.h1, sg_mod _ hq.c0 hq.c1, sg_mod _ hq.o0 hq.o1, h.hd 0 (by omega), h.hd 1 (by omega), hdb_two _ _ _ 0 (by omega), hdb_two _ _ _ 1 (by omega)]
  rfl
theorem Begins.data (h : Begins F q n f nm g) (i : Nat) (hi : i < n) : sh 32 F i = f i := by
  show F (32 + i) = _
  rw [h _ (by omega)]; unfold en; rw [cat_lt (by omega), cat_ge (by omega), show 32 + i - 32 = i by omega]
theorem Begins.more (h : Begins F q n f nm g) (i : Nat) (hi : i < nm) : sh (32 + n) F i = g i := by
  show F (32 + n + i) = _
  rw [h _ (by omega)]; unfold en; rw [cat_ge (by omega), show 32 + n + i - (32 + n) = i by omega]
end
theorem begins_en (q : Nu) (n : Nat) (f : Nat → Int) (nm : Nat) (g : Nat → Int) : Begins (en q n f nm g) q n f nm g := fun _ _ => rfl
end Go.Proofs.Ytnadpglfliiplaa.Ou
