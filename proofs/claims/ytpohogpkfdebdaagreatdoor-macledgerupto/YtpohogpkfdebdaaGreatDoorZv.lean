/- SHA-256 reckoned by the kernel: the same numbers, each reckoned once. SHA-512 reckoned by the kernel: the same numbers, each reckoned once. Digests as eight words. The tag of which the laws of layer 17 ask first, reckoned by the kernel. -/
import Derived.Test.YtpohogpkfdebdaaGreatDoorZhc
import Derived.Test.YtpohogpkfdebdaaGreatDoorZjc
import Derived.Test.YtpohogpkfdebdaaGreatDoorZga
namespace Go.Proofs.YtpohogpkfdebdaaGreatDoor.Sh
open Go.Proofs.YtpohogpkfdebdaaGreatDoor.By Go.Proofs.YtpohogpkfdebdaaGreatDoor.Wd

/-- A number that is reckoned ahead of what is done with it. -/
def frc {α : Type} (x : Int) (k : Int → α) : α :=
  match x with
  | .ofNat n => Nat.rec (motive := fun _ => α) (k 0) (fun m _ => k (Int.ofNat (m + 1))) n
  | .negSucc n => k (.negSucc n)
theorem frc_eq {α : Type} (x : Int) (k : Int → α) : frc x k = k x := by
  cases x with
  | ofNat n => cases n <;> rfl
  | negSucc n => rfl
/-- The words w[t-1] to w[0]. -/
def rev (T : Nat → Int) : Nat → List Int
  | 0 => []
  | t + 1 => T t :: rev T t
theorem rev_get (T : Nat → Int) (t i : Nat) (h : i < t) : (rev T t).getD i 0 = T (t - 1 - i) := by
  induction t generalizing i with
  | zero => omega
  | succ t ih =>
    cases i with
    | zero => simp [rev]
    | succ i => simp only [rev, List.getD_cons_succ]; rw [ih i (by omega)]; congr 1; omega
theorem rev_congr (T U : Nat → Int) (t : Nat) (h : ∀ i, i < t → T i = U i) : rev T t = rev U t := by
  induction t with
  | zero => rfl
  | succ t ih => simp only [rev]; rw [h t (by omega), ih (fun i hi => h i (by omega))]
theorem tab_old (b : Nat → Int) (t i : Nat) (h : i < t) : tab b (t + 1) i = tab b t i := by
  show (if i = t then nxt b t (tab b t) else tab b t i) = _
  rw [if_neg (by omega)]
theorem tab_new (b : Nat → Int) (t : Nat) : tab b (t + 1) t = nxt b t (tab b t) := by
  show (if t = t then nxt b t (tab b t) else tab b t t) = _
  rw [if_pos rfl]
theorem rev_tab (b : Nat → Int) (t : Nat) : rev (tab b (t + 1)) (t + 1) = nxt b t (tab b t) :: rev (tab b t) t := by
  simp only [rev]
  rw [tab_new, rev_congr (tab b (t + 1)) (tab b t) t (fun i hi => tab_old b t i hi)]
/-- The first words; all words. -/
def fst16 (b : Nat → Int) : Nat → List Int → List Int
  | 0, ws => ws
  | n + 1, ws => frc (BE (fun i => b (4 * (15 - n) + i)) 4) fun x => fst16 b n (x :: ws)
def nxt48 : Nat → List Int → List Int
  | 0, ws => ws
  | n + 1, ws => frc (ad (uu (ws.getD 1 0) + ws.getD 6 0 + vv (ws.getD 14 0)) (ws.getD 15 0)) fun x => nxt48 n (x :: ws)
theorem fst16_eq (b : Nat → Int) (n : Nat) (h : n ≤ 16) : fst16 b n (rev (tab b (16 - n)) (16 - n)) = rev (tab b 16) 16 := by
  induction n with
  | zero => rfl
  | succ n ih =>
    rw [fst16, frc_eq]
    have e : BE (fun i => b (4 * (15 - n) + i)) 4 = nxt b (15 - n) (tab b (15 - n)) := by unfold nxt; rw [if_pos (by omega)]
    rw [e, show 16 - (n + 1) = 15 - n from by omega, ← rev_tab, show 15 - n + 1 = 16 - n from by omega]
    exact ih (by omega)
theorem nxt48_eq (b : Nat → Int) (n : Nat) (h : n ≤ 48) : nxt48 n (rev (tab b (64 - n)) (64 - n)) = rev (tab b 64) 64 := by
  induction n with
  | zero => rfl
  | succ n ih =>
    rw [nxt48, frc_eq]
    have e : ad (uu ((rev (tab b (64 - (n + 1))) (64 - (n + 1))).getD 1 0) + (rev (tab b (64 - (n + 1))) (64 - (n + 1))).getD 6 0 + vv ((rev (tab b (64 - (n + 1))) (64 - (n + 1))).getD 14 0)) ((rev (tab b (64 - (n + 1))) (64 - (n + 1))).getD 15 0) = nxt b (63 - n) (tab b (63 - n)) := by
      rw [rev_get _ _ _ (by omega), rev_get _ _ _ (by omega), rev_get _ _ _ (by omega), rev_get _ _ _ (by omega)]
      unfold nxt
      rw [if_neg (by omega), show 64 - (n + 1) = 63 - n from by omega]
      congr 1
    rw [e, show 64 - (n + 1) = 63 - n from by omega, ← rev_tab, show 63 - n + 1 = 64 - n from by omega]
    exact ih (by omega)
/-- The 64 steps. -/
def go8 : List Int → List Int → Int → Int → Int → Int → Int → Int → Int → Int → List Int
  | k :: ks, w :: ws, a, b, c, d, e, f, g, h =>
    frc (ad (h + xr (xr (rr e 6) (rr e 11)) (rr e 25) + xr (an e f) (an (nt e) g) + k) w) fun p =>
    frc (ad p (ad (xr (xr (rr a 2) (rr a 13)) (rr a 22)) (xr (xr (an a b) (an a c)) (an b c)))) fun x =>
    frc (ad d p) fun y => go8 ks ws x a b c y e f g
  | _, _, a, b, c, d, e, f, g, h => [a, b, c, d, e, f, g, h]
theorem go8_eq (h T : Nat → Int) (wl : List Int) (hw : wl.length = 64) (hT : ∀ i (hi : i < 64), wl[i]'(by omega) = T i) (n t : Nat) (hn : t + n = 64) :
    go8 (kl.drop t) (wl.drop t) (rnds h T t 0) (rnds h T t 1) (rnds h T t 2) (rnds h T t 3) (rnds h T t 4) (rnds h T t 5) (rnds h T t 6) (rnds h T t 7) =
      [rnds h T 64 0, rnds h T 64 1, rnds h T 64 2, rnds h T 64 3, rnds h T 64 4, rnds h T 64 5, rnds h T 64 6, rnds h T 64 7] := by
  induction n generalizing t with
  | zero =>
    obtain rfl : t = 64 := by omega
    rw [List.drop_of_length_le (by decide : kl.length ≤ 64)]
    rfl
  | succ n ih =>
    have h1 : kl.drop t = K t :: kl.drop (t + 1) := by
      have hl : t < kl.length := by show t < 64; omega
      rw [List.drop_eq_getElem_cons hl]
      congr 1
      unfold K
      rw [List.getD_eq_getElem?_getD, List.getElem?_eq_getElem hl]; rfl
    have h2 : wl.drop t = T t :: wl.drop (t + 1) := by
      rw [List.drop_eq_getElem_cons (by omega : t < wl.length), hT t (by omega)]
    have e : rnds h T (t + 1) = stp (rnds h T t) (K t) (T t) := rfl
    have := ih (t + 1) (by omega)
    rw [h1, h2, go8, frc_eq, frc_eq, frc_eq, ← this, e]
    rfl
/-- h0 to h7 behind a block. -/
def blockL (h : List Int) (b : Nat → Int) : List Int :=
  match h with
  | [a, b0, c, d, e, f, g, i] => (List.zipWith ad h (go8 kl (nxt48 48 (fst16 b 16 [])).reverse a b0 c d e f g i))
  | _ => []
theorem rev_reverse (T : Nat → Int) (n : Nat) : (rev T n).reverse = (List.range n).map T := by
  induction n with
  | zero => rfl
  | succ n ih => simp [rev, List.range_succ, ih]
theorem blockL_eq (h b : Nat → Int) : blockL [h 0, h 1, h 2, h 3, h 4, h 5, h 6, h 7] b = [comp h b 0, comp h b 1, comp h b 2, comp h b 3, comp h b 4, comp h b 5, comp h b 6, comp h b 7] := by
  have e1 : nxt48 48 (fst16 b 16 []) = rev (tab b 64) 64 := by
    have h1 : fst16 b 16 [] = rev (tab b 16) 16 := fst16_eq b 16 (by omega)
    rw [h1]; exact nxt48_eq b 48 (by omega)
  have e2 := go8_eq h (tab b 64) ((List.range 64).map (tab b 64)) (by simp) (fun i hi => by simp) 64 0 rfl
  rw [List.drop_zero, List.drop_zero] at e2
  unfold blockL
  simp only []
  rw [e1, rev_reverse]
  show List.zipWith ad _ (go8 kl ((List.range 64).map (tab b 64)) (rnds h (tab b 64) 0 0) (rnds h (tab b 64) 0 1) (rnds h (tab b 64) 0 2) (rnds h (tab b 64) 0 3) (rnds h (tab b 64) 0 4) (rnds h (tab b 64) 0 5) (rnds h (tab b 64) 0 6) (rnds h (tab b 64) 0 7)) = _
  rw [e2]
  rfl
/-- Eight words as a list. -/
def l8 (h : Nat → Int) : List Int := [h 0, h 1, h 2, h 3, h 4, h 5, h 6, h 7]
theorem hw_one (f : Nat → Int) : l8 (hw f 1) = blockL bgl (fun i => f (64 * 0 + i)) := (blockL_eq bg (fun i => f (64 * 0 + i))).symm
theorem hw_two (f : Nat → Int) : l8 (hw f 2) = blockL (l8 (hw f 1)) (fun i => f (64 * 1 + i)) := (blockL_eq (hw f 1) (fun i => f (64 * 1 + i))).symm
def abc : Nat → Int := lst [97, 98, 99]
def wabc : List Int := [3128432319, 2399260650, 1094795486, 1571693091, 2953011619, 2518121116, 3021012833, 4060091821]
end Go.Proofs.YtpohogpkfdebdaaGreatDoor.Sh
namespace Go.Proofs.YtpohogpkfdebdaaGreatDoor.Sg
open Go.Proofs.YtpohogpkfdebdaaGreatDoor.By Go.Proofs.YtpohogpkfdebdaaGreatDoor.Wd

/-- A number that is reckoned ahead of what is done with it. -/
def frc {α : Type} (x : Int) (k : Int → α) : α :=
  match x with
  | .ofNat n => Nat.rec (motive := fun _ => α) (k 0) (fun m _ => k (Int.ofNat (m + 1))) n
  | .negSucc n => k (.negSucc n)
/-- The words w[t-1] to w[0]. -/
def rev (T : Nat → Int) : Nat → List Int
  | 0 => []
  | t + 1 => T t :: rev T t
/-- The first words; all words. -/
def fst16 (b : Nat → Int) : Nat → List Int → List Int
  | 0, ws => ws
  | n + 1, ws => frc (BE (fun i => b (8 * (15 - n) + i)) 8) fun x => fst16 b n (x :: ws)
def nxt48 : Nat → List Int → List Int
  | 0, ws => ws
  | n + 1, ws => frc (ad (ad (ad (uu (ws.getD 1 0)) (ws.getD 6 0)) (vv (ws.getD 14 0))) (ws.getD 15 0)) fun x => nxt48 n (x :: ws)
/-- The 80 steps. -/
def go8 : List Int → List Int → Int → Int → Int → Int → Int → Int → Int → Int → List Int
  | k :: ks, w :: ws, a, b, c, d, e, f, g, h =>
    frc (ad (ad (ad (ad h (xr (xr (rr e 14) (rr e 18)) (rr e 41))) (xr (an e f) (an (nt e) g))) k) w) fun p =>
    frc (ad p (ad (xr (xr (rr a 28) (rr a 34)) (rr a 39)) (xr (xr (an a b) (an a c)) (an b c)))) fun x =>
    frc (ad d p) fun y => go8 ks ws x a b c y e f g
  | _, _, a, b, c, d, e, f, g, h => [a, b, c, d, e, f, g, h]
/-- h0 to h7 behind a block. -/
def blockL (h : List Int) (b : Nat → Int) : List Int :=
  match h with
  | [a, b0, c, d, e, f, g, i] => (List.zipWith ad h (go8 kl (nxt48 64 (fst16 b 16 [])).reverse a b0 c d e f g i))
  | _ => []
/-- Eight words as a list. -/
def l8 (h : Nat → Int) : List Int := [h 0, h 1, h 2, h 3, h 4, h 5, h 6, h 7]
def abc : Nat → Int := lst [97, 98, 99]
def wabc : List Int := [15974045371385084602, 14718171817514647857, 1362051152550133410, 765311659573367706, 2419164356178592168, 3943530547489205181, 4993722480620005390, 3069987439919277215]
def zf : Nat → Int := fun _ => 0
def wz0 : List Int := [14953042807679334589, 17389568388844322823, 15429583033687545308, 9508410676032104910, 5174866029046002352, 18411586994116160559, 7185829369460390529, 11905321118701443646]
def wz111 : List Int := [8637292367111860477, 323002945808874092, 16658556167779300018, 2390516833047199800, 9431943917186677428, 2341050226437151162, 9859737712801512992, 6070045325596391564]
def wz112 : List Int := [3162344463035575786, 12234198260026199212, 16892502102674628695, 4211929249294398678, 7096182166962873957, 8874813158149272384, 4660444870208669371, 704539584434829650]
def wz127 : List Int := [9759280767344338646, 5923389411618498927, 5703336688662736222, 14278024767981526695, 667083778911853082, 14853595033406431254, 17815256805438370756, 10790155999838245025]
def wz128 : List Int := [12363558907924374614, 17107109525833515664, 6676871913684179012, 3848239153057572261, 5969021050200112728, 6161243997109870717, 8403406421172333808, 14221480425344645649]
def wz129 : List Int := [12823229140656742538, 16517238588234030040, 17574528523777554668, 11323399088616576751, 10722987363776120384, 8636823491140726999, 9552857508207393874, 17515033872239882005]
end Go.Proofs.YtpohogpkfdebdaaGreatDoor.Sg
namespace Go.Proofs.YtpohogpkfdebdaaGreatDoor.Dg
open Go.ChangeShapes Go.WideShapes Go.ChangeAt Go.RowKit
open Go.Proofs.YtpohogpkfdebdaaGreatDoor.By
/-- Eight words out of a list. -/
def wof (l : List Int) (i : Nat) : Int := l.getD i 0
theorem lf_l8256 (h h' : Nat → Int) (e : Sh.l8 h = Sh.l8 h') (i : Nat) (hi : i < 32) : Sh.lf h i = Sh.lf h' i := by
  simp only [Sh.l8, List.cons.injEq, and_true] at e
  obtain ⟨e0, e1, e2, e3, e4, e5, e6, e7⟩ := e
  unfold Sh.lf
  have : i / 4 < 8 := by omega
  have hh : h (i / 4) = h' (i / 4) := by
    generalize i / 4 = q at this
    match q, this with
    | 0, _ => exact e0
    | 1, _ => exact e1
    | 2, _ => exact e2
    | 3, _ => exact e3
    | 4, _ => exact e4
    | 5, _ => exact e5
    | 6, _ => exact e6
    | 7, _ => exact e7
  rw [hh]
theorem abcE : Sg.abc = Sh.abc := rfl
end Go.Proofs.YtpohogpkfdebdaaGreatDoor.Dg
namespace Go.Proofs.YtpohogpkfdebdaaGreatDoor.Dg
open Go.Proofs.YtpohogpkfdebdaaGreatDoor.By Go.Proofs.YtpohogpkfdebdaaGreatDoor.Wd
def kjf : Nat → Int := lst [74, 101, 102, 101]
def mjf : Nat → Int := lst [119, 104, 97, 116, 32, 100, 111, 32, 121, 97, 32, 119, 97, 110, 116, 32, 102, 111, 114, 32, 110, 111, 116, 104, 105, 110, 103, 63]
theorem kjf_b : BB kjf := lst_bound _ (by decide)
theorem mjf_b : BB mjf := lst_bound _ (by decide)
def wi_jf : List Int := [2732885382, 1026030040, 1689030016, 607298029, 1199410252, 1865719062, 3571968279, 3324627671]
def wo_jf : List Int := [1541194054, 3210769742, 1778656294, 144012743, 1509965576, 2636593539, 2649512121, 1693202499]
set_option maxRecDepth 100000 in
theorem in_jf : Sh.l8 (Sh.hw (Sh.cat (64 + 28) (inr false (kb false 4 kjf) (mjf)) (Sh.endf (64 + 28))) 2) = wi_jf := by
  rw [Sh.hw_two, Sh.hw_one]
  decide +kernel
set_option maxRecDepth 100000 in
theorem out_jf : Sh.l8 (Sh.hw (Sh.cat (64 + 32) (cat 64 (msk 92 (kb false 4 kjf)) (Sh.lf (wof wi_jf))) (Sh.endf (64 + 32))) 2) = wo_jf := by
  rw [Sh.hw_two, Sh.hw_one]
  decide +kernel
theorem hm_jf (i : Nat) (hi : i < 32) : hm false (kb false 4 kjf) 28 (mjf) i = Sh.lf (wof wo_jf) i := by
  have h1 : ∀ j, j < 64 + 32 → cat (bk false) (msk 92 (kb false 4 kjf)) (dig false (bk false + 28) (inr false (kb false 4 kjf) (mjf))) j = cat 64 (msk 92 (kb false 4 kjf)) (Sh.lf (wof wi_jf)) j := by
    intro j hj
    show (if j < 64 then _ else _) = (if j < 64 then _ else _)
    split
    · rfl
    · exact lf_l8256 _ _ (in_jf.trans (by rfl)) _ (by show j - 64 < 32; omega)
  exact (congrFun (dig_congr false (64 + 32) _ _ h1) i).trans (lf_l8256 _ _ (out_jf.trans (by rfl)) i hi)
theorem hm_j4 : ∀ i, i < 4 → hm false (kb false 4 kjf) 28 mjf i = lst [91, 220, 193, 70] i := fun i hi => (hm_jf i (by omega)).trans ((by decide +kernel : ∀ i, i < 4 → Sh.lf (wof wo_jf) i = lst [91, 220, 193, 70] i) i hi)
theorem hm_j28 : ∀ i, i < 4 → hm false (kb false 4 kjf) 28 mjf (28 + i) = lst [100, 236, 56, 67] i := fun i hi => (hm_jf (28 + i) (by omega)).trans ((by decide +kernel : ∀ i, i < 4 → Sh.lf (wof wo_jf) (28 + i) = lst [100, 236, 56, 67] i) i hi)
end Go.Proofs.YtpohogpkfdebdaaGreatDoor.Dg
