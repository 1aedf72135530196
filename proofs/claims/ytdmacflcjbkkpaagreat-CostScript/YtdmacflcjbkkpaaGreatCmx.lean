/- Any operation, done: what record answers, and what it leaves. -/
import Derived.Test.YtdmacflcjbkkpaaGreatCpc
import Derived.Test.YtdmacflcjbkkpaaGreatJc
import Derived.Test.YtdmacflcjbkkpaaGreatCde
import Derived.Test.YtdmacflcjbkkpaaGreatCdf
import Derived.Test.YtdmacflcjbkkpaaGreatCdv
import Derived.Test.YtdmacflcjbkkpaaGreatJe
namespace Go.Proofs.YtdmacflcjbkkpaaGreat.Co
open Go.ChangeShapes Go.WideShapes Go.ChangeAt Go.RowKit
open Go.Proofs.YtdmacflcjbkkpaaGreat (putL)
open Go.Proofs.YtdmacflcjbkkpaaGreat.Ou (Sk sv sL cn cn_b bd bd_96)
section
variable {p gm gk : Nat} {P : St} {s : Sk}
theorem rf_none (k : s.k < 1 ∨ 10 < s.k) : Rf p gm gk P s 42 := fun V _ => by rw [cod_none k]; exact refuseNone_ok _ s V
theorem rf_put (k : s.k = 1) (hs : Sk.Fit s) : Rf p gm gk P s 44 := fun V hV => by rw [cod_put k]; exact refusePut_ok p gm gk P s V hV hs
theorem rf_begin (k : s.k = 2) (hs : Sk.Fit s) : Rf p gm gk P s 46 := fun V hV => by rw [cod_begin k]; exact refuseBegin_ok p gm gk P s V hV hs
theorem rf_update (k : s.k = 3) (hs : Sk.Fit s) : Rf p gm gk P s 48 := fun V hV => by rw [cod_update k]; exact refuseUpdate_ok p gm gk P s V hV hs
theorem rf_finish (k : s.k = 4) (hs : Sk.Fit s) : Rf p gm gk P s 50 := fun V hV => by rw [cod_finish k]; exact unlessSession_ok p gm gk P s V hV hs
theorem rf_verify (k : s.k = 5) (hs : Sk.Fit s) : Rf p gm gk P s 52 := fun V hV => by rw [cod_verify k]; exact refuseVerify_ok p gm gk P s V hV hs
theorem rf_clone (k : s.k = 6) (hs : Sk.Fit s) : Rf p gm gk P s 54 := fun V hV => by rw [cod_clone k]; exact refuseClone_ok p gm gk P s V hV hs
theorem rf_hkdf (k : s.k = 7) (hs : Sk.Fit s) : Rf p gm gk P s 56 := fun V hV => by rw [cod_hkdf k]; exact refuseHkdf_ok p gm gk P s V hV hs
theorem rf_pbkdf (k : s.k = 8) (hs : Sk.Fit s) : Rf p gm gk P s 58 := fun V hV => by rw [cod_pbkdf k]; exact refusePbkdf_ok p gm gk P s V hV hs
theorem rf_reveal (k : s.k = 9) (hs : Sk.Fit s) : Rf p gm gk P s 60 := fun V hV => by rw [cod_reveal k]; exact unlessKey_ok p gm gk P s V hV hs
theorem rf_drop (k : s.k = 10) (hs : Sk.Fit s) : Rf p gm gk P s 61 := fun V hV => by rw [cod_drop k]; exact unlessHeld_ok p gm gk P s V hV hs
theorem fine_on (F : Fine P s) (k : s.k ≠ 1) : ∃ h, hat P s.h = some h ∧ fit s h = 0 ∧ (tks s.k = true → ∃ f, fre P = some f) := by
  cases F with
  | put k1 d f => exact absurd k1 k
  | on h e k c f => exact ⟨h, e, c, fun t => by
      cases hf : fre P with
      | none => exact absurd hf (f t)
      | some g => exact ⟨g, rfl⟩⟩
theorem nxt_take {f : Nat} (hf : fre P = some f) (k3 : s.k ≠ 3) (k4 : ¬ (s.k = 4 ∨ s.k = 5 ∨ s.k = 10)) (t : tks s.k = true) : nxt P s = upS P f (some (hel s ((hat P s.h).getD h0))) := by
  unfold nxt
  simp only
  rw [if_neg k3, if_neg k4, if_pos t, hf]; rfl
theorem nxt_free (k : s.k = 4 ∨ s.k = 5 ∨ s.k = 10) : nxt P s = upS P s.h.toNat none := by
  unfold nxt
  simp only
  rw [if_neg (by omega), if_pos k]
theorem smE_fold {L : List Ru} {y : He} {m : Nat} (ho : y.Ok) (h : Rm L (m + 1)) : Rm ((smE y).foldl putL L) m := by
  have b := smE_b ho
  obtain ⟨r, er, _, _⟩ := smE_one y
  refine Rm.fold (by rw [er]; exact h) (fun q hq => ?_)
  have := tt_mem b.1 hq
  omega
theorem kind_of {y : He} (ho : y.Ok) (h : y.alg ≠ 0) : y.alg = 1 ∨ y.alg = 2 ∨ y.alg = 3 ∨ (4 ≤ y.alg ∧ y.alg ≤ 7) := by
  have := ho.a0; have := ho.a1; omega
theorem dd_put (k : s.k = 1) (hs : Sk.Fit s) : Dd p gm gk P s 45 := fun c V lo L hp hl ha _ => by
  have F := fine_of c
  cases F with
  | on h e kk c f => omega
  | put k1 d f =>
    cases hf : fre P with
    | none => exact absurd hf f
    | some g =>
      rw [nxt_take hf (by omega) (by omega) (by rw [k]; rfl)]
      have m : mid s ((hat P s.h).getD h0) = [] := by unfold mid; rw [if_neg (by omega), if_neg (by omega), if_neg (by omega), if_neg (by omega), if_neg (by omega), if_neg (by omega), if_neg (by omega)]
      have e : hel s ((hat P s.h).getD h0) = ⟨s.d, 0, 0, 0, 0⟩ := by unfold hel; rw [if_pos k]
      rw [m, e]
      exact put_k p gm gk P s lo L g hf V hp hl ha hs
theorem dd_begin (k : s.k = 2) (hs : Sk.Fit s) (hP : P.Ok) : Dd p gm gk P s 47 := fun c V lo L hp hl ha hm => by
  obtain ⟨y, hy, hf0, ht⟩ := fine_on (fine_of c) (by omega)
  obtain ⟨f, hf⟩ := ht (by rw [k]; rfl)
  have ho := hat_ok hP hy
  have b2 := fit_two k hf0
  have b := bgC_zero b2.2
  have e : hel s ((hat P s.h).getD h0) = ⟨y.key, s.a, s.o, s.d, 0⟩ := by unfold hel; rw [if_neg (by omega), if_pos k, hy]; rfl
  have m : mid s ((hat P s.h).getD h0) = bgE ⟨y.key, s.a, s.o, s.d, 0⟩ := by unfold mid; rw [if_pos k, hy]; rfl
  have hq : He.Ok ⟨y.key, s.a, s.o, s.d, 0⟩ := ⟨ho.k0, ho.k1, by show 0 ≤ s.a; omega, by show s.a ≤ 7; omega, by show 0 ≤ s.o; omega, by show s.o ≤ 64; omega, by show 0 ≤ s.d; exact hs.d.1, by show s.d ≤ 64; omega, Int.le_refl 0⟩
  rw [nxt_take hf (by omega) (by omega) (by rw [k]; rfl), e, m]
  have cs : s.a = 1 ∨ s.a = 2 ∨ s.a = 3 ∨ (4 ≤ s.a ∧ s.a ≤ 7) := by omega
  rcases cs with a | a | a | a
  · exact begin_h1 p gm gk P s lo L y f hy hf a hq (hm.less (by decide)) V hp hl ha hs
  · exact begin_h2 p gm gk P s lo L y f hy hf a hq (hm.less (by decide)) V hp hl ha hs
  · exact begin_c p gm gk P s lo L y f hy hf a hq (hm.less (by decide)) V hp hl ha hs
  · exact begin_k p gm gk P s lo L y f hy hf a hq (hm.less (by decide)) V hp hl ha hs
theorem dd_update (k : s.k = 3) (hs : Sk.Fit s) (hP : P.Ok) (hg : Mg 1000000000000 P) : Dd p gm gk P s 49 := fun c V lo L hp hl ha hm => by
  obtain ⟨y, hy, hf0, -⟩ := fine_on (fine_of c) (by omega)
  have ho := hat_ok hP hy
  have b := fit_three k hf0
  have e : nxt P s = upS P s.h.toNat (some ⟨y.key, y.alg, y.out, y.cus, y.msg + s.d⟩) := by unfold nxt; simp only; rw [if_pos k, hy]; rfl
  have m : mid s ((hat P s.h).getD h0) = tlE y s.d := by unfold mid; rw [if_neg (by omega), if_pos k, hy]; rfl
  rw [e, m]
  rcases kind_of ho b.1 with a | a | a | a
  · exact update_h1 p gm gk P s lo L y hy a ho (mg_hat hg hy) ⟨hs.d.1, b.2⟩ (hm.less (by decide)) V hp hl ha hs
  · exact update_h2 p gm gk P s lo L y hy a ho (mg_hat hg hy) ⟨hs.d.1, b.2⟩ (hm.less (by decide)) V hp hl ha hs
  · exact update_c p gm gk P s lo L y hy a ho (mg_hat hg hy) ⟨hs.d.1, b.2⟩ (hm.less (by decide)) V hp hl ha hs
  · exact update_k p gm gk P s lo L y hy a ho (mg_hat hg hy) ⟨hs.d.1, b.2⟩ (hm.less (by decide)) V hp hl ha hs
theorem dd_finish (k : s.k = 4) (hs : Sk.Fit s) (hP : P.Ok) (hg : Mg 1000000000000 P) : Dd p gm gk P s 51 := fun c V lo L hp hl ha hm => by
  obtain ⟨y, hy, hf0, -⟩ := fine_on (fine_of c) (by omega)
  have ho := hat_ok hP hy
  have b : y.alg ≠ 0 := fun e => by rw [fit_fk y k, if_pos e] at hf0; exact absurd hf0 (by decide)
  have m : mid s ((hat P s.h).getD h0) = smE y ++ [⟨8, 1024, 1⟩] := by unfold mid; rw [if_neg (by omega), if_neg (by omega), if_pos k, hy]; rfl
  rw [nxt_free (.inl k), m, List.foldl_append]
  rcases kind_of ho b with a | a | a | a
  · exact finish_h1 p gm gk P s lo L y hy a ho (mg_hat hg hy) (hm.less (by decide)) (smE_fold ho (hm.less (by decide))) V hp hl ha hs
  · exact finish_h2 p gm gk P s lo L y hy a ho (mg_hat hg hy) (hm.less (by decide)) (smE_fold ho (hm.less (by decide))) V hp hl ha hs
  · exact finish_c p gm gk P s lo L y hy a ho (mg_hat hg hy) (hm.less (by decide)) (smE_fold ho (hm.less (by decide))) V hp hl ha hs
  · exact finish_k p gm gk P s lo L y hy a ho (mg_hat hg hy) (hm.less (by decide)) (smE_fold ho (hm.less (by decide))) V hp hl ha hs
theorem dd_verify (k : s.k = 5) (hs : Sk.Fit s) (hP : P.Ok) (hg : Mg 1000000000000 P) : Dd p gm gk P s 53 := fun c V lo L hp hl ha hm => by
  obtain ⟨y, hy, hf0, -⟩ := fine_on (fine_of c) (by omega)
  have ho := hat_ok hP hy
  have b : y.alg ≠ 0 := fun e => by rw [fit_vk y k, if_pos e] at hf0; exact absurd hf0 (by decide)
  have m : mid s ((hat P s.h).getD h0) = smE y ++ [⟨6, y.out, 1⟩, ⟨8, 1024, 1⟩] := by unfold mid; rw [if_neg (by omega), if_neg (by omega), if_neg (by omega), if_pos k, hy]; rfl
  rw [nxt_free (.inr (.inl k)), m, List.foldl_append]
  rcases kind_of ho b with a | a | a | a
  · exact verify_h1 p gm gk P s lo L y hy a ho (mg_hat hg hy) (hm.less (by decide)) (smE_fold ho (hm.less (by decide))) V hp hl ha hs
  · exact verify_h2 p gm gk P s lo L y hy a ho (mg_hat hg hy) (hm.less (by decide)) (smE_fold ho (hm.less (by decide))) V hp hl ha hs
  · exact verify_c p gm gk P s lo L y hy a ho (mg_hat hg hy) (hm.less (by decide)) (smE_fold ho (hm.less (by decide))) V hp hl ha hs
  · exact verify_k p gm gk P s lo L y hy a ho (mg_hat hg hy) (hm.less (by decide)) (smE_fold ho (hm.less (by decide))) V hp hl ha hs
theorem dd_clone (k : s.k = 6) (hs : Sk.Fit s) : Dd p gm gk P s 55 := fun c V lo L hp hl ha _ => by
  obtain ⟨y, hy, hf0, ht⟩ := fine_on (fine_of c) (by omega)
  obtain ⟨f, hf⟩ := ht (by rw [k]; rfl)
  have e : hel s ((hat P s.h).getD h0) = y := by unfold hel; rw [if_neg (by omega), if_neg (by omega), if_pos k, hy]; rfl
  have m : mid s ((hat P s.h).getD h0) = [] := by unfold mid; rw [if_neg (by omega), if_neg (by omega), if_neg (by omega), if_neg (by omega), if_neg (by omega), if_neg (by omega), if_neg (by omega)]
  rw [nxt_take hf (by omega) (by omega) (by rw [k]; rfl), e, m]
  exact clone_k p gm gk P s lo L y f hy hf V hp hl ha hs
theorem dd_hkdf (k : s.k = 7) (hs : Sk.Fit s) (hP : P.Ok) : Dd p gm gk P s 57 := fun c V lo L hp hl ha hm => by
  obtain ⟨y, hy, hf0, ht⟩ := fine_on (fine_of c) (by omega)
  obtain ⟨f, hf⟩ := ht (by rw [k]; rfl)
  have ho := hat_ok hP hy
  have b := drC_zero (fit_der (.inl k) hf0).2
  have e : hel s ((hat P s.h).getD h0) = ⟨s.o, 0, 0, 0, 0⟩ := by unfold hel; rw [if_neg (by omega), if_neg (by omega), if_neg (by omega)]
  have m : mid s ((hat P s.h).getD h0) = [⟨ek s.a, bk s.a, hkd s.a y.key s.d s.m s.o⟩] := by unfold mid; rw [if_neg (by omega), if_neg (by omega), if_neg (by omega), if_neg (by omega), if_pos k, hy]; rfl
  rw [nxt_take hf (by omega) (by omega) (by rw [k]; rfl), e, m]
  rcases sz_cases b.1 with ⟨a, _⟩ | ⟨a, _⟩
  · rw [a]; exact hkdf_1 p gm gk P s lo L y f hy hf a ⟨ho.k0, ho.k1⟩ ⟨hs.d.1, b.2.1⟩ ⟨hs.m.1, b.2.2.1 k⟩ b.2.2.2.2 (hm.less (by decide)) V hp hl ha hs
  · rw [a]; exact hkdf_2 p gm gk P s lo L y f hy hf a ⟨ho.k0, ho.k1⟩ ⟨hs.d.1, b.2.1⟩ ⟨hs.m.1, b.2.2.1 k⟩ b.2.2.2.2 (hm.less (by decide)) V hp hl ha hs
theorem dd_pbkdf (k : s.k = 8) (hs : Sk.Fit s) (hP : P.Ok) : Dd p gm gk P s 59 := fun c V lo L hp hl ha hm => by
  obtain ⟨y, hy, hf0, ht⟩ := fine_on (fine_of c) (by omega)
  obtain ⟨f, hf⟩ := ht (by rw [k]; rfl)
  have ho := hat_ok hP hy
  have b := drC_zero (fit_der (.inr k) hf0).2
  have e : hel s ((hat P s.h).getD h0) = ⟨s.o, 0, 0, 0, 0⟩ := by unfold hel; rw [if_neg (by omega), if_neg (by omega), if_neg (by omega)]
  have m : mid s ((hat P s.h).getD h0) = [⟨ek s.a, bk s.a, pbk s.a y.key s.d s.c s.o⟩] := by unfold mid; rw [if_neg (by omega), if_neg (by omega), if_neg (by omega), if_neg (by omega), if_neg (by omega), if_pos k, hy]; rfl
  rw [nxt_take hf (by omega) (by omega) (by rw [k]; rfl), e, m]
  rcases sz_cases b.1 with ⟨a, _⟩ | ⟨a, _⟩
  · rw [a]; exact pbkdf_1 p gm gk P s lo L y f hy hf a ⟨ho.k0, ho.k1⟩ ⟨hs.d.1, b.2.1⟩ (b.2.2.2.1 k) b.2.2.2.2 (hm.less (by decide)) V hp hl ha hs
  · rw [a]; exact pbkdf_2 p gm gk P s lo L y f hy hf a ⟨ho.k0, ho.k1⟩ ⟨hs.d.1, b.2.1⟩ (b.2.2.2.1 k) b.2.2.2.2 (hm.less (by decide)) V hp hl ha hs
theorem dd_drop (k : s.k = 10) (hs : Sk.Fit s) : Dd p gm gk P s 62 := fun c V lo L hp hl ha hm => by
  obtain ⟨y, hy, hf0, ht⟩ := fine_on (fine_of c) (by omega)
  have m : mid s ((hat P s.h).getD h0) = [⟨8, 1024, 1⟩] := by unfold mid; rw [if_neg (by omega), if_neg (by omega), if_neg (by omega), if_neg (by omega), if_neg (by omega), if_neg (by omega), if_pos k]
  rw [nxt_free (.inr (.inr k)), m]
  exact drop_k p gm gk P s lo L y hy (hm.less (by decide)) V hp hl ha hs
theorem dd_reveal (k : s.k = 9) (hs : Sk.Fit s) : Dd p gm gk P s 43 := fun c V lo L hp hl ha _ => by
  have m : mid s ((hat P s.h).getD h0) = [] := by unfold mid; rw [if_neg (by omega), if_neg (by omega), if_neg (by omega), if_neg (by omega), if_neg (by omega), if_neg (by omega), if_neg (by omega)]
  have e : nxt P s = P := by unfold nxt; simp only; rw [if_neg (by omega), if_neg (by omega), if_neg (by rw [k]; decide)]
  rw [m, e]
  exact nothing_k p gm gk P s lo L V hp hl ha hs
theorem dd_none (k : s.k < 1 ∨ 10 < s.k) : Dd p gm gk P s 43 := fun c => by rw [cod_none k] at c; exact absurd c (by decide)
end
/-- A skeleton's numbers fit, as they come in. -/
structure SkIn (s : Sk) : Prop where
  k : 0 ≤ s.k ∧ s.k ≤ 255
  h : -9223372036854775808 ≤ s.h ∧ s.h ≤ 9223372036854775807
  a : 0 ≤ s.a ∧ s.a ≤ 255
  c : -9223372036854775808 ≤ s.c ∧ s.c ≤ 9223372036854775807
  o : -9223372036854775808 ≤ s.o ∧ s.o ≤ 9223372036854775807
  d : -9223372036854775808 ≤ s.d ∧ s.d ≤ 9223372036854775807
  m : -9223372036854775808 ≤ s.m ∧ s.m ≤ 9223372036854775807
theorem SkIn.fit {s : Sk} (h : SkIn s) : Sk.Fit (clp s) := ⟨h.k, h.h, h.a, h.c, h.o, by have := h.d; show 0 ≤ max s.d 0 ∧ max s.d 0 ≤ 9223372036854775807; omega, by have := h.m; show 0 ≤ max s.m 0 ∧ max s.m 0 ≤ 9223372036854775807; omega⟩
/-- What stands between EvOp and EvCode has few events. -/
theorem mid_le (P : St) (hP : P.Ok) (s : Sk) (h : cod P (clp s) = 0) : ∀ r ∈ mid (clp s) ((hat P (clp s).h).getD h0), r.c ≤ 1125899906842624 := fun r hr => by
  have b := mid_b hP (by show 0 ≤ max s.d 0; omega) (by show 0 ≤ max s.m 0; omega) (fine_of h)
  have t := bd_top (clp s)
  have := tt_mem b.1 hr
  omega
set_option maxHeartbeats 1600000 in
theorem record_ok (p gm gk : Nat) (P : St) (s : Sk) (lo : Lo) (L : List Ru) (w : World) (hp : PU w p gm gk P) (hl : LdO w lo L) (ha : Apo lo p gm gk) (hs : SkIn s) (hP : P.Ok) (hg : Mg 1000000000000 P) (hm : Rm L 8) :
    Calls Tryz.prog 29 #[.pointer (some ⟨p, 0, none⟩), lpo lo, sv s] w fun e w' => e = .returned (.int .i64 (cod P (clp s))) ∧ ∃ lo', CT w w' p gm gk (stp P s) lo lo' ((row P s).foldl putL L) := by
  have hf := hs.fit
  have hmb := mid_le P hP s
  have ck : (clp s).k = s.k := rfl
  have cs : s.k = 0 ∨ s.k = 1 ∨ s.k = 2 ∨ s.k = 3 ∨ s.k = 4 ∨ s.k = 5 ∨ s.k = 6 ∨ s.k = 7 ∨ s.k = 8 ∨ s.k = 9 ∨ s.k = 10 ∨ 10 < s.k := by have := hs.k; omega
  rcases cs with k | k | k | k | k | k | k | k | k | k | k | k
  · exact record_0 p gm gk P s lo L w hp hl ha k hs.k hm hmb (rf_none (by rw [ck]; omega)) (dd_none (by rw [ck]; omega))
  · exact record_1 p gm gk P s lo L w hp hl ha k hs.k hm hmb (rf_put k hf) (dd_put k hf)
  · exact record_2 p gm gk P s lo L w hp hl ha k hs.k hm hmb (rf_begin k hf) (dd_begin k hf hP)
  · exact record_3 p gm gk P s lo L w hp hl ha k hs.k hm hmb (rf_update k hf) (dd_update k hf hP hg)
  · exact record_4 p gm gk P s lo L w hp hl ha k hs.k hm hmb (rf_finish k hf) (dd_finish k hf hP hg)
  · exact record_5 p gm gk P s lo L w hp hl ha k hs.k hm hmb (rf_verify k hf) (dd_verify k hf hP hg)
  · exact record_6 p gm gk P s lo L w hp hl ha k hs.k hm hmb (rf_clone k hf) (dd_clone k hf)
  · exact record_7 p gm gk P s lo L w hp hl ha k hs.k hm hmb (rf_hkdf k hf) (dd_hkdf k hf hP)
  · exact record_8 p gm gk P s lo L w hp hl ha k hs.k hm hmb (rf_pbkdf k hf) (dd_pbkdf k hf hP)
  · exact record_9 p gm gk P s lo L w hp hl ha k hs.k hm hmb (rf_reveal k hf) (dd_reveal k hf)
  · exact record_10 p gm gk P s lo L w hp hl ha k hs.k hm hmb (rf_drop k hf) (dd_drop k hf)
  · exact record_no p gm gk P s lo L w hp hl ha k hs.k hm hmb (rf_none (.inr k)) (dd_none (.inr k))
end Go.Proofs.YtdmacflcjbkkpaaGreat.Co
