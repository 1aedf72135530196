/- SHA-256 reckoned by the kernel: the same numbers, each reckoned once. -/
import Derived.Test.YtkmkbofokoimkaaDoorZhd
namespace Go.Proofs.YtkmkbofokoimkaaDoor.Sh
open Go.Proofs.YtkmkbofokoimkaaDoor.By Go.Proofs.YtkmkbofokoimkaaDoor.Wd

/-- A number that is reckoned ahead of what is done with it. -/
def frc {α : Type} (x : Int) (k : Int → α) : α :=
  match x with
  | .ofNat n => Nat.rec (motive := fun _ => α) (k 0) (fun m _ => k (Int.ofNat (m + 1))) n
  | .negSucc n => k (.negSucc n)
theorem frc_eq {α : Type} (x : Int) (k : Int → α) : frc x k = k x := by
  cases x with
  | ofNat n => cases n <;> rfl
  | negSucc n => rfl
/-- The words w[t-1] to w[0]. -/
def rev (T : Nat → Int) : Nat → List Int
  | 0 => []
  | t + 1 => T t :: rev T t
theorem rev_get (T : Nat → Int) (t i : Nat) (h : i < t) : (rev T t).getD i 0 = T (t - 1 - i) := by
  induction t generalizing i with
  | zero => omega
  | succ t ih =>
    cases i with
    | zero => simp [rev]
    | succ i => simp only [rev, List.getD_cons_succ]; rw [ih i (by omega)]; congr 1; omega
theorem rev_congr (T U : Nat → Int) (t : Nat) (h : ∀ i, i < t → T i = U i) : rev T t = rev U t := by
  induction t with
  | zero => rfl
  | succ t ih => simp only [rev]; rw [h t (by omega), ih (fun i hi => h i (by omega))]
theorem tab_old (b : Nat → Int) (t i : Nat) (h : i < t) : tab b (t + 1) i = tab b t i := by
  show (if i = t then nxt b t (tab b t) else tab b t i) = _
  rw [if_neg (by omega)]
theorem tab_new (b : Nat → Int) (t : Nat) : tab b (t + 1) t = nxt b t (tab b t) := by
  show (if t = t then nxt b t (tab b t) else tab b t t) = _
  rw [if_pos rfl]
theorem rev_tab (b : Nat → Int) (t : Nat) : rev (tab b (t + 1)) (t + 1) = nxt b t (tab b t) :: rev (tab b t) t := by
  simp only [rev]
  rw [tab_new, rev_congr (tab b (t + 1)) (tab b t) t (fun i hi => tab_old b t i hi)]
/-- The first words; all words. -/
def fst16 (b : Nat → Int) : Nat → List Int → List Int
  | 0, ws => ws
  | n + 1, ws => frc (BE (fun i => b (4 * (15 - n) + i)) 4) fun x => fst16 b n (x :: ws)
def nxt48 : Nat → List Int → List Int
  | 0, ws => ws
  | n + 1, ws => frc (ad (uu (ws.getD 1 0) + ws.getD 6 0 + vv (ws.getD 14 0)) (ws.getD 15 0)) fun x => nxt48 n (x :: ws)
theorem fst16_eq (b : Nat → Int) (n : Nat) (h : n ≤ 16) : fst16 b n (rev (tab b (16 - n)) (16 - n)) = rev (tab b 16) 16 := by
  induction n with
  | zero => rfl
  | succ n ih =>
    rw [fst16, frc_eq]
    have e : BE (fun i => b (4 * (15 - n) + i)) 4 = nxt b (15 - n) (tab b (15 - n)) := by unfold nxt; rw [if_pos (by omega)]
    rw [e, show 16 - (n + 1) = 15 - n from by omega, ← rev_tab, show 15 - n + 1 = 16 - n from by omega]
    exact ih (by omega)
theorem nxt48_eq (b : Nat → Int) (n : Nat) (h : n ≤ 48) : nxt48 n (rev (tab b (64 - n)) (64 - n)) = rev (tab b 64) 64 := by
  induction n with
  | zero => rfl
  | succ n ih =>
    rw [nxt48, frc_eq]
    have e : ad (uu ((rev (tab b (64 - (n + 1))) (64 - (n + 1))).getD 1 0) + (rev (tab b (64 - (n + 1))) (64 - (n + 1))).getD 6 0 + vv ((rev (tab b (64 - (n + 1))) (64 - (n + 1))).getD 14 0)) ((rev (tab b (64 - (n + 1))) (64 - (n + 1))).getD 15 0) = nxt b (63 - n) (tab b (63 - n)) := by
      rw [rev_get _ _ _ (by omega), rev_get _ _ _ (by omega), rev_get _ _ _ (by omega), rev_get _ _ _ (by omega)]
      unfold nxt
      rw [if_neg (by omega), show 64 - (n + 1) = 63 - n from by omega]
      congr 1
    rw [e, show 64 - (n + 1) = 63 - n from by omega, ← rev_tab, show 63 - n + 1 = 64 - n from by omega]
    exact ih (by omega)
/-- The 64 steps. -/
def go8 : List Int → List Int → Int → Int → Int → Int → Int → Int → Int → Int → List Int
  | k :: ks, w :: ws, a, b, c, d, e, f, g, h =>
    frc (ad (h + xr (xr (rr e 6) (rr e 11)) (rr e 25) + xr (an e f) (an (nt e) g) + k) w) fun p =>
    frc (ad p (ad (xr (xr (rr a 2) (rr a 13)) (rr a 22)) (xr (xr (an a b) (an a c)) (an b c)))) fun x =>
    frc (ad d p) fun y => go8 ks ws x a b c y e f g
  | _, _, a, b, c, d, e, f, g, h => [a, b, c, d, e, f, g, h]
theorem go8_eq (h T : Nat → Int) (wl : List Int) (hw : wl.length = 64) (hT : ∀ i (hi : i < 64), wl[i]'(by omega) = T i) (n t : Nat) (hn : t + n = 64) :
    go8 (kl.drop t) (wl.drop t) (rnds h T t 0) (rnds h T t 1) (rnds h T t 2) (rnds h T t 3) (rnds h T t 4) (rnds h T t 5) (rnds h T t 6) (rnds h T t 7) =
      [rnds h T 64 0, rnds h T 64 1, rnds h T 64 2, rnds h T 64 3, rnds h T 64 4, rnds h T 64 5, rnds h T 64 6, rnds h T 64 7] := by
  induction n generalizing t with
  | zero =>
    obtain rfl : t = 64 := by omega
    rw [List.drop_of_length_le (by decide : kl.length ≤ 64)]
    rfl
  | succ n ih =>
    have h1 : kl.drop t = K t :: kl.drop (t + 1) := by
      have hl : t < kl.length := by show t < 64; omega
      rw [List.drop_eq_getElem_cons hl]
      congr 1
      unfold K
      rw [List.getD_eq_getElem?_getD, List.getElem?_eq_getElem hl]; rfl
    have h2 : wl.drop t = T t :: wl.drop (t + 1) := by
      rw [List.drop_eq_getElem_cons (by omega : t < wl.length), hT t (by omega)]
    have e : rnds h T (t + 1) = stp (rnds h T t) (K t) (T t) := rfl
    have := ih (t + 1) (by omega)
    rw [h1, h2, go8, frc_eq, frc_eq, frc_eq, ← this, e]
    rfl
/-- h0 to h7 behind a block. -/
def blockL (h : List Int) (b : Nat → Int) : List Int :=
  match h with
  | [a, b0, c, d, e, f, g, i] => (List.zipWith ad h (go8 kl (nxt48 48 (fst16 b 16 [])).reverse a b0 c d e f g i))
  | _ => []
theorem rev_reverse (T : Nat → Int) (n : Nat) : (rev T n).reverse = (List.range n).map T := by
  induction n with
  | zero => rfl
  | succ n ih => simp [rev, List.range_succ, ih]
theorem blockL_eq (h b : Nat → Int) : blockL [h 0, h 1, h 2, h 3, h 4, h 5, h 6, h 7] b = [comp h b 0, comp h b 1, comp h b 2, comp h b 3, comp h b 4, comp h b 5, comp h b 6, comp h b 7] := by
  have e1 : nxt48 48 (fst16 b 16 []) = rev (tab b 64) 64 := by
    have h1 : fst16 b 16 [] = rev (tab b 16) 16 := fst16_eq b 16 (by omega)
    rw [h1]; exact nxt48_eq b 48 (by omega)
  have e2 := go8_eq h (tab b 64) ((List.range 64).map (tab b 64)) (by simp) (fun i hi => by simp) 64 0 rfl
  rw [List.drop_zero, List.drop_zero] at e2
  unfold blockL
  simp only []
  rw [e1, rev_reverse]
  show List.zipWith ad _ (go8 kl ((List.range 64).map (tab b 64)) (rnds h (tab b 64) 0 0) (rnds h (tab b 64) 0 1) (rnds h (tab b 64) 0 2) (rnds h (tab b 64) 0 3) (rnds h (tab b 64) 0 4) (rnds h (tab b 64) 0 5) (rnds h (tab b 64) 0 6) (rnds h (tab b 64) 0 7)) = _
  rw [e2]
  rfl
/-- Eight words as a list. -/
def l8 (h : Nat → Int) : List Int := [h 0, h 1, h 2, h 3, h 4, h 5, h 6, h 7]
theorem hw_one (f : Nat → Int) : l8 (hw f 1) = blockL bgl (fun i => f (64 * 0 + i)) := (blockL_eq bg (fun i => f (64 * 0 + i))).symm
theorem hw_two (f : Nat → Int) : l8 (hw f 2) = blockL (l8 (hw f 1)) (fun i => f (64 * 1 + i)) := (blockL_eq (hw f 1) (fun i => f (64 * 1 + i))).symm
def abc : Nat → Int := lst [97, 98, 99]
def wabc : List Int := [3128432319, 2399260650, 1094795486, 1571693091, 2953011619, 2518121116, 3021012833, 4060091821]
set_option maxRecDepth 100000 in
theorem abc_words : l8 (hw (cat 3 abc (endf 3)) 1) = wabc := by
  rw [hw_one]
  decide +kernel
end Go.Proofs.YtkmkbofokoimkaaDoor.Sh
