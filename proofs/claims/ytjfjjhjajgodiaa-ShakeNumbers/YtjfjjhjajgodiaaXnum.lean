/- Numbers and lists written as SHAKE wants them, as functions; no function of the program in it. -/
import Derived.Test.YtjfjjhjajgodiaaXcat
namespace Go.Proofs.Ytjfjjhjajgodiaa.Kc
open Go.Proofs.Ytjfjjhjajgodiaa.By
/-- How many bytes a number has, one at least. -/
def nbf : Nat → Nat → Nat
  | 0, _ => 1
  | k + 1, n => if n < 256 then 1 else nbf k (n / 256) + 1
def nb (n : Nat) : Nat := nbf 8 n
theorem nbf_eq (j : Nat) : ∀ (f n : Nat), j ≤ f → (j = 0 ∨ ¬ n / 256 ^ j = 0) → n / 256 ^ (j + 1) = 0 → nbf f n = j + 1 := by
  induction j with
  | zero =>
    intro f n _ _ h
    have hn : n < 256 := by simpa using h
    cases f with
    | zero => rfl
    | succ f => rw [nbf, if_pos hn]
  | succ j ih =>
    intro f n hf h0 h1
    obtain ⟨f, rfl⟩ : ∃ g, f = g + 1 := ⟨f - 1, by omega⟩
    have e : ∀ k, n / 256 / 256 ^ k = n / 256 ^ (k + 1) := fun k => by rw [Nat.div_div_eq_div_mul, Nat.pow_succ, Nat.mul_comm]
    have h2 : ¬ n / 256 ^ (j + 1) = 0 := by rcases h0 with h | h; · omega
                                            · exact h
    have hn : ¬ n < 256 := fun h => h2 (by rw [← e, Nat.div_eq_of_lt h, Nat.zero_div])
    rw [nbf, if_neg hn, ih f (n / 256) (by omega) (by right; rw [e]; exact h2) (by rw [e]; exact h1)]
theorem nb_eq (n j : Nat) (hj : j ≤ 8) (h0 : j = 0 ∨ ¬ n / 256 ^ j = 0) (h1 : n / 256 ^ (j + 1) = 0) : nb n = j + 1 := nbf_eq j 8 n hj h0 h1
theorem nbf_pos (f n : Nat) : 1 ≤ nbf f n ∧ nbf f n ≤ f + 1 := by
  induction f generalizing n with
  | zero => exact ⟨Nat.le_refl _, Nat.le_refl _⟩
  | succ f ih =>
    have := ih (n / 256)
    rw [nbf]; split <;> omega
theorem nb_pos (n : Nat) : 1 ≤ nb n ∧ nb n ≤ 9 := nbf_pos 8 n
/-- Byte i of a number in k bytes, the highest first. -/
def dg (n k i : Nat) : Int := ((n / 256 ^ (k - 1 - i) % 256 : Nat) : Int)
theorem dg_b (n k i : Nat) : 0 ≤ dg n k i ∧ dg n k i < 256 := by
  have := Nat.mod_lt (n / 256 ^ (k - 1 - i)) (show 0 < 256 by decide)
  unfold dg; omega
theorem one_b {x : Int} (h : 0 ≤ x ∧ x < 256) (i : Nat) : 0 ≤ (fun _ : Nat => x) i ∧ (fun _ : Nat => x) i < 256 := h
theorem dg_next (n j : Nat) (x : Int) (hx : x = ((n / 256 ^ j % 256 : Nat) : Int)) : cat 1 (fun _ => x) (dg n j) = dg n (j + 1) := by
  funext i
  unfold cat
  by_cases h : i < 1
  · rw [if_pos h, hx]
    have : i = 0 := by omega
    subst this
    rfl
  · rw [if_neg h]
    unfold dg
    rw [show j - 1 - (i - 1) = j + 1 - 1 - i from by omega]
/-- The bytes of a number. -/
def dnn (n : Nat) : Nat → Int := dg n (nb n)
theorem dnn_b (n i : Nat) : 0 ≤ dnn n i ∧ dnn n i < 256 := dg_b _ _ _
theorem nbi_b (n : Nat) : 0 ≤ ((nb n : Nat) : Int) ∧ ((nb n : Nat) : Int) < 256 := by have := nb_pos n; omega
/-- Left of a number: nb n + 1 bytes. -/
def lf (n : Nat) : Nat → Int := cat 1 (fun _ => ((nb n : Nat) : Int)) (dnn n)
theorem lf_b (n i : Nat) : 0 ≤ lf n i ∧ lf n i < 256 := cat_bound (one_b (nbi_b n)) (dnn_b n) i
/-- Right of a number. -/
def rt (n : Nat) : Nat → Int := cat (nb n) (dnn n) (fun _ => ((nb n : Nat) : Int))
theorem rt_b (n i : Nat) : 0 ≤ rt n i ∧ rt n i < 256 := cat_bound (dnn_b n) (one_b (nbi_b n)) i
/-- String of a list of m bytes f: how many, and they. -/
def sn (m : Nat) : Nat := nb (8 * m) + 1 + m
def sg (m : Nat) (f : Nat → Int) : Nat → Int := cat (nb (8 * m) + 1) (lf (8 * m)) f
theorem sg_b {m : Nat} {f : Nat → Int} (hf : ∀ i, 0 ≤ f i ∧ f i < 256) (i : Nat) : 0 ≤ sg m f i ∧ sg m f i < 256 := cat_bound (lf_b _) hf i
/-- Pad of a list of m bytes f: how many bytes stand ahead of the noughts, how many noughts, and all. -/
def pn (m w : Nat) : Nat := nb w + 1 + m
def pz (m w : Nat) : Nat := (w - pn m w % w) % w
def pg (m : Nat) (f : Nat → Int) (w : Nat) : Nat → Int := cat (pn m w) (cat (nb w + 1) (lf w) f) (fun _ => 0)
def pN (m w : Nat) : Nat := pn m w + pz m w
theorem pg_b {m w : Nat} {f : Nat → Int} (hf : ∀ i, 0 ≤ f i ∧ f i < 256) (i : Nat) : 0 ≤ pg m f w i ∧ pg m f w i < 256 := cat_bound (cat_bound (lf_b _) hf) (fun _ => by decide) i
theorem pz_lt (m w : Nat) (hw : 0 < w) : pz m w < w := Nat.mod_lt _ hw
theorem pz_zero (m w : Nat) (h : pn m w % w = 0) : pz m w = 0 := by unfold pz; rw [h]; simp
theorem pz_some (m w : Nat) (hw : 0 < w) (h : ¬ pn m w % w = 0) : pz m w = w - pn m w % w := by
  have := Nat.mod_lt (pn m w) hw
  unfold pz; exact Nat.mod_eq_of_lt (by omega)
theorem pN_mod (m w : Nat) (hw : 0 < w) : pN m w % w = 0 := by
  unfold pN
  by_cases h : pn m w % w = 0
  · rw [pz_zero m w h]; exact h
  · have h2 := Nat.mod_lt (pn m w) hw
    have e := Nat.div_add_mod (pn m w) w
    rw [pz_some m w hw h]
    rw [show pn m w + (w - pn m w % w) = w * (pn m w / w + 1) from by rw [Nat.mul_add, Nat.mul_one]; omega]
    exact Nat.mul_mod_right _ _
end Go.Proofs.Ytjfjjhjajgodiaa.Kc
