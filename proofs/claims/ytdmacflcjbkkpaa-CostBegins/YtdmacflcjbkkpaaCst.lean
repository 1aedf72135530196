/- What is public of a vault, operation by operation (pure). -/
import Derived.Test.YtdmacflcjbkkpaaCbd
namespace Go.Proofs.Ytdmacflcjbkkpaa.Co
open Go.Proofs.Ytdmacflcjbkkpaa.Ou (Sk cn cn_b bd bd_96)
/-- So many times an event. -/
abbrev Ru := Go.Proofs.Ytdmacflcjbkkpaa.Rn
/-- What is public of a handle that is held. -/
structure He where
  key : Int
  alg : Int
  out : Int
  cus : Int
  msg : Int
structure He.Ok (h : He) : Prop where
  k0 : 0 ≤ h.key
  k1 : h.key ≤ 512
  a0 : 0 ≤ h.alg
  a1 : h.alg ≤ 7
  o0 : 0 ≤ h.out
  o1 : h.out ≤ 64
  c0 : 0 ≤ h.cus
  c1 : h.cus ≤ 64
  m0 : 0 ≤ h.msg
abbrev St := Nat → Option He
def St.Ok (P : St) : Prop := ∀ i h, P i = some h → h.Ok
def hat (P : St) (h : Int) : Option He := if 0 ≤ h ∧ h < 64 then P h.toNat else none
/-- The least that is free. -/
def fre (P : St) : Option Nat := (List.range 64).find? (fun i => (P i).isNone)
def upS (P : St) (i : Nat) (x : Option He) : St := fun j => if j = i then x else P j
theorem hat_ok {P : St} (hP : P.Ok) {i : Int} {h : He} (e : hat P i = some h) : h.Ok := by
  unfold hat at e
  split at e
  · exact hP _ _ e
  · cases e
def tks (k : Int) : Bool := k == 1 || k == 2 || k == 6 || k == 7 || k == 8
def mos (a : Int) : Int := if a = 1 then 32 else if a = 3 then 16 else 64
/-- The codes of OpBegin from ErrAlg on. -/
def bgC (s : Sk) (h : He) : Int :=
  if s.a < 1 ∨ 7 < s.a then 4 else if s.a = 3 ∧ h.key ≠ 16 ∧ h.key ≠ 24 ∧ h.key ≠ 32 then 7 else if 0 < s.d ∧ ¬ (4 ≤ s.a ∧ s.a ≤ 7) then 2 else if 64 < s.d then 9 else if s.o < 1 ∨ mos s.a < s.o then 11 else 0
/-- The codes of OpHkdf and OpPbkdf from ErrAlg on. -/
def drC (s : Sk) : Int :=
  if sz s.a = 0 then 4 else if 65536 < s.d then 9 else if (s.k = 7 ∧ (65536 < s.m ∨ 255 * sz s.a < s.o)) ∨ (s.k = 8 ∧ 4294967295 * sz s.a < s.o) then 9 else if s.k = 8 ∧ (s.c < 1 ∨ 1048576 < s.c) then 10 else if s.o < 1 ∨ 512 < s.o then 7 else 0
/-- The codes of an operation on what a handle has. -/
def fit (s : Sk) (h : He) : Int :=
  if s.k = 2 then (if h.alg ≠ 0 then 6 else bgC s h) else if s.k = 3 then (if h.alg = 0 then 6 else if 65536 < s.d then 9 else 0) else if s.k = 4 then (if h.alg = 0 then 6 else 0) else if s.k = 5 then (if h.alg = 0 then 6 else if s.d ≠ h.out then 11 else 0)
  else if s.k = 7 ∨ s.k = 8 then (if h.alg ≠ 0 then 6 else drC s) else if s.k = 9 then (if h.alg ≠ 0 then 6 else 0) else 0
def cod (P : St) (s : Sk) : Int :=
  if s.k < 1 ∨ 10 < s.k then 3 else if s.k = 1 then (if 512 < s.d then 7 else if fre P = none then 8 else 0) else match hat P s.h with
    | none => 5
    | some h => if fit s h ≠ 0 then fit s h else if tks s.k = true ∧ fre P = none then 8 else 0
def bgE (h : He) : List Ru := if sz h.alg ≠ 0 then [⟨ek h.alg, bk h.alg, kyd h.alg h.key⟩] else if h.alg = 3 then [⟨4, h.key, 1⟩, ⟨5, h.key, 1⟩] else [⟨3, 200, pad h.alg (txt 4 + txt h.cus) + pad h.alg (txt h.key)⟩]
def tlE (h : He) (n : Int) : List Ru := if sz h.alg ≠ 0 then [⟨ek h.alg, bk h.alg, ful (bk h.alg) h.msg n⟩] else if h.alg = 3 then [⟨5, h.key, chn (h.msg + n) - chn h.msg⟩] else [⟨3, 200, ful (rte h.alg) h.msg n⟩]
def xof (a : Int) : Bool := a == 6 || a == 7
def smE (h : He) : List Ru := if sz h.alg ≠ 0 then [⟨ek h.alg, bk h.alg, tgd h.alg h.msg⟩] else if h.alg = 3 then [⟨5, h.key, 1⟩] else [⟨3, 200, ful (rte h.alg) h.msg (if xof h.alg then nbr 0 else nbr (8 * h.out)) + 1⟩]
/-- What an operation that is not refused records, between EvOp and EvCode; h: what its handle has. -/
def mid (s : Sk) (h : He) : List Ru :=
  if s.k = 2 then bgE ⟨h.key, s.a, s.o, s.d, 0⟩ else if s.k = 3 then tlE h s.d else if s.k = 4 then smE h ++ [⟨8, 1024, 1⟩] else if s.k = 5 then smE h ++ [⟨6, h.out, 1⟩, ⟨8, 1024, 1⟩]
  else if s.k = 7 then [⟨ek s.a, bk s.a, hkd s.a h.key s.d s.m s.o⟩] else if s.k = 8 then [⟨ek s.a, bk s.a, pbk s.a h.key s.d s.c s.o⟩] else if s.k = 10 then [⟨8, 1024, 1⟩] else []
def flt (l : List Ru) : List Ru := l.filter (fun r => decide (1 ≤ r.c))
/-- What a handle that is taken has. -/
def hel (s : Sk) (h : He) : He := if s.k = 1 then ⟨s.d, 0, 0, 0, 0⟩ else if s.k = 2 then ⟨h.key, s.a, s.o, s.d, 0⟩ else if s.k = 6 then h else ⟨s.o, 0, 0, 0, 0⟩
def h0 : He := ⟨0, 0, 0, 0, 0⟩
def nxt (P : St) (s : Sk) : St :=
  let h := (hat P s.h).getD h0
  if s.k = 3 then upS P s.h.toNat (some ⟨h.key, h.alg, h.out, h.cus, h.msg + s.d⟩) else if s.k = 4 ∨ s.k = 5 ∨ s.k = 10 then upS P s.h.toNat none else if tks s.k then upS P ((fre P).getD 0) (some (hel s h)) else P
/-- Lengths below 0 count as 0. -/
def clp (s : Sk) : Sk := ⟨s.k, s.h, s.a, s.c, s.o, max s.d 0, max s.m 0⟩
def row (P : St) (s : Sk) : List Ru := ⟨11, s.k, 1⟩ :: (if cod P (clp s) = 0 then flt (mid (clp s) ((hat P s.h).getD h0)) else []) ++ [⟨12, cod P (clp s), 1⟩]
def stp (P : St) (s : Sk) : St := if cod P (clp s) = 0 then nxt P (clp s) else P
/-- How many events. -/
def tt : List Ru → Int
  | [] => 0
  | r :: l => r.c + tt l
theorem tt_append (l m : List Ru) : tt (l ++ m) = tt l + tt m := by
  induction l with
  | nil => simp [tt]
  | cons r l ih => simp only [List.cons_append, tt, ih]; omega
theorem tt_flt (l : List Ru) (h : ∀ r ∈ l, 0 ≤ r.c) : tt (flt l) = tt l := by
  induction l with
  | nil => rfl
  | cons r l ih =>
    have h1 := h r (by simp)
    have h2 := ih (fun x hx => h x (by simp [hx]))
    unfold flt at h2 ⊢
    rw [List.filter_cons]
    split
    · simp only [tt, h2]
    · rename_i hd
      simp only [decide_eq_true_eq] at hd
      simp only [tt, h2]; omega
theorem bd_clp (s : Sk) : bd (clp s) = bd s := by unfold bd clp; rw [cn_max, cn_max]
theorem chn_b {m n : Int} (hn : 0 ≤ n) : 0 ≤ chn (m + n) - chn m ∧ chn (m + n) - chn m ≤ n / 16 + 1 := by unfold chn; omega
end Go.Proofs.Ytdmacflcjbkkpaa.Co
