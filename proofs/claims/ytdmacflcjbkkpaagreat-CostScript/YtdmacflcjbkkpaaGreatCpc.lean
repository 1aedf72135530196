/- The codes of each kind; what each kind does, joined (pure). -/
import Derived.Test.YtdmacflcjbkkpaaGreatCrf

namespace Go.Proofs.YtdmacflcjbkkpaaGreat.Co
open Go.ChangeShapes Go.WideShapes Go.ChangeAt Go.RowKit
open Go.Proofs.YtdmacflcjbkkpaaGreat (putL)
open Go.Proofs.YtdmacflcjbkkpaaGreat.Ou (Sk sv sL cn cn_b bd bd_96)
theorem cod_put {P : St} {s : Sk} (k : s.k = 1) : cod P s = rPut P s := by
  unfold cod rPut ur
  rw [if_neg (by omega), if_pos k]
theorem fit_bk {s : Sk} (y : He) (k : s.k = 2) : fit s y = if y.alg ≠ 0 then 6 else bgC s y := by
  unfold fit
  rw [if_pos (by omega)]
theorem fit_uk {s : Sk} (y : He) (k : s.k = 3) : fit s y = if y.alg = 0 then 6 else if 65536 < s.d then 9 else 0 := by
  unfold fit
  rw [if_neg (by omega), if_pos (by omega)]
theorem fit_fk {s : Sk} (y : He) (k : s.k = 4) : fit s y = if y.alg = 0 then 6 else 0 := by
  unfold fit
  rw [if_neg (by omega), if_neg (by omega), if_pos (by omega)]
theorem fit_vk {s : Sk} (y : He) (k : s.k = 5) : fit s y = if y.alg = 0 then 6 else if s.d ≠ y.out then 11 else 0 := by
  unfold fit
  rw [if_neg (by omega), if_neg (by omega), if_neg (by omega), if_pos (by omega)]
theorem fit_ck {s : Sk} (y : He) (k : s.k = 6) : fit s y = 0 := by
  unfold fit
  rw [if_neg (by omega), if_neg (by omega), if_neg (by omega), if_neg (by omega), if_neg (by omega), if_neg (by omega)]
theorem fit_hk {s : Sk} (y : He) (k : s.k = 7) : fit s y = if y.alg ≠ 0 then 6 else drC s := by
  unfold fit
  rw [if_neg (by omega), if_neg (by omega), if_neg (by omega), if_neg (by omega), if_pos (by omega)]
theorem fit_pk {s : Sk} (y : He) (k : s.k = 8) : fit s y = if y.alg ≠ 0 then 6 else drC s := by
  unfold fit
  rw [if_neg (by omega), if_neg (by omega), if_neg (by omega), if_neg (by omega), if_pos (by omega)]
theorem fit_rk {s : Sk} (y : He) (k : s.k = 9) : fit s y = if y.alg ≠ 0 then 6 else 0 := by
  unfold fit
  rw [if_neg (by omega), if_neg (by omega), if_neg (by omega), if_neg (by omega), if_neg (by omega), if_pos (by omega)]
theorem fit_dk {s : Sk} (y : He) (k : s.k = 10) : fit s y = 0 := by
  unfold fit
  rw [if_neg (by omega), if_neg (by omega), if_neg (by omega), if_neg (by omega), if_neg (by omega), if_neg (by omega)]
theorem cod_begin {P : St} {s : Sk} (k : s.k = 2) : cod P s = rBegin P s := by
  unfold cod rBegin uk yy ur
  rw [if_neg (by omega), if_neg (by omega)]
  cases hh : hat P s.h with
  | none => first | rfl | simp
  | some y =>
    have t : tks s.k = true := by rw [k]; rfl
    have f := fit_bk y k
    unfold bgC at f
    try simp only [t]
    try simp only [f]
    try simp only [Option.getD_some]
    try simp only [true_and]
    try simp only [Bool.false_eq_true]
    try simp only [false_and]
    try simp only [reduceCtorEq]
    (repeat' split) <;> first | rfl | omega | (exfalso; omega) | (simp_all; done) | (simp_all; omega)
theorem cod_update {P : St} {s : Sk} (k : s.k = 3) : cod P s = rUpdate P s := by
  unfold cod rUpdate us
  rw [if_neg (by omega), if_neg (by omega)]
  cases hh : hat P s.h with
  | none => first | rfl | simp
  | some y =>
    have t : tks s.k = false := by rw [k]; rfl
    have f := fit_uk y k
    
    try simp only [t]
    try simp only [f]
    try simp only [Option.getD_some]
    try simp only [true_and]
    try simp only [Bool.false_eq_true]
    try simp only [false_and]
    try simp only [reduceCtorEq]
    (repeat' split) <;> first | rfl | omega | (exfalso; omega) | (simp_all; done) | (simp_all; omega)
theorem cod_finish {P : St} {s : Sk} (k : s.k = 4) : cod P s = us P s.h := by
  unfold cod us
  rw [if_neg (by omega), if_neg (by omega)]
  cases hh : hat P s.h with
  | none => first | rfl | simp
  | some y =>
    have t : tks s.k = false := by rw [k]; rfl
    have f := fit_fk y k
    
    try simp only [t]
    try simp only [f]
    try simp only [Option.getD_some]
    try simp only [true_and]
    try simp only [Bool.false_eq_true]
    try simp only [false_and]
    try simp only [reduceCtorEq]
    (repeat' split) <;> first | rfl | omega | (exfalso; omega) | (simp_all; done) | (simp_all; omega)
theorem cod_verify {P : St} {s : Sk} (k : s.k = 5) : cod P s = rVerify P s := by
  unfold cod rVerify us yy
  rw [if_neg (by omega), if_neg (by omega)]
  cases hh : hat P s.h with
  | none => first | rfl | simp
  | some y =>
    have t : tks s.k = false := by rw [k]; rfl
    have f := fit_vk y k
    
    try simp only [t]
    try simp only [f]
    try simp only [Option.getD_some]
    try simp only [true_and]
    try simp only [Bool.false_eq_true]
    try simp only [false_and]
    try simp only [reduceCtorEq]
    (repeat' split) <;> first | rfl | omega | (exfalso; omega) | (simp_all; done) | (simp_all; omega)
theorem cod_clone {P : St} {s : Sk} (k : s.k = 6) : cod P s = rClone P s := by
  unfold cod rClone uh ur
  rw [if_neg (by omega), if_neg (by omega)]
  cases hh : hat P s.h with
  | none => first | rfl | simp
  | some y =>
    have t : tks s.k = true := by rw [k]; rfl
    have f := fit_ck y k
    
    try simp only [t]
    try simp only [f]
    try simp only [Option.getD_some]
    try simp only [true_and]
    try simp only [Bool.false_eq_true]
    try simp only [false_and]
    try simp only [reduceCtorEq]
    (repeat' split) <;> first | rfl | omega | (exfalso; omega) | (simp_all; done) | (simp_all; omega)
theorem cod_hkdf {P : St} {s : Sk} (k : s.k = 7) : cod P s = rHkdf P s := by
  unfold cod rHkdf uk ur
  rw [if_neg (by omega), if_neg (by omega)]
  cases hh : hat P s.h with
  | none => first | rfl | simp
  | some y =>
    have t : tks s.k = true := by rw [k]; rfl
    have f := fit_hk y k
    unfold drC at f
    try simp only [t]
    try simp only [f]
    try simp only [Option.getD_some]
    try simp only [true_and]
    try simp only [Bool.false_eq_true]
    try simp only [false_and]
    try simp only [reduceCtorEq]
    (repeat' split) <;> first | rfl | omega | (exfalso; omega) | (simp_all; done) | (simp_all; omega)
theorem cod_pbkdf {P : St} {s : Sk} (k : s.k = 8) : cod P s = rPbkdf P s := by
  unfold cod rPbkdf uk ur
  rw [if_neg (by omega), if_neg (by omega)]
  cases hh : hat P s.h with
  | none => first | rfl | simp
  | some y =>
    have t : tks s.k = true := by rw [k]; rfl
    have f := fit_pk y k
    unfold drC at f
    try simp only [t]
    try simp only [f]
    try simp only [Option.getD_some]
    try simp only [true_and]
    try simp only [Bool.false_eq_true]
    try simp only [false_and]
    try simp only [reduceCtorEq]
    (repeat' split) <;> first | rfl | omega | (exfalso; omega) | (simp_all; done) | (simp_all; omega)
theorem cod_reveal {P : St} {s : Sk} (k : s.k = 9) : cod P s = uk P s.h := by
  unfold cod uk
  rw [if_neg (by omega), if_neg (by omega)]
  cases hh : hat P s.h with
  | none => first | rfl | simp
  | some y =>
    have t : tks s.k = false := by rw [k]; rfl
    have f := fit_rk y k
    
    try simp only [t]
    try simp only [f]
    try simp only [Option.getD_some]
    try simp only [true_and]
    try simp only [Bool.false_eq_true]
    try simp only [false_and]
    try simp only [reduceCtorEq]
    (repeat' split) <;> first | rfl | omega | (exfalso; omega) | (simp_all; done) | (simp_all; omega)
theorem cod_drop {P : St} {s : Sk} (k : s.k = 10) : cod P s = uh P s.h := by
  unfold cod uh
  rw [if_neg (by omega), if_neg (by omega)]
  cases hh : hat P s.h with
  | none => first | rfl | simp
  | some y =>
    have t : tks s.k = false := by rw [k]; rfl
    have f := fit_dk y k
    
    try simp only [t]
    try simp only [f]
    try simp only [Option.getD_some]
    try simp only [true_and]
    try simp only [Bool.false_eq_true]
    try simp only [false_and]
    try simp only [reduceCtorEq]
    (repeat' split) <;> first | rfl | omega | (exfalso; omega) | (simp_all; done) | (simp_all; omega)
theorem cod_none {P : St} {s : Sk} (k : s.k < 1 ∨ 10 < s.k) : cod P s = 3 := by unfold cod; rw [if_pos k]
end Go.Proofs.YtdmacflcjbkkpaaGreat.Co
