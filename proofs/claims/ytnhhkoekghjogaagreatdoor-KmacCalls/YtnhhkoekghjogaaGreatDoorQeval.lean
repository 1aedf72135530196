/- The permutation reckoned by the kernel: the same numbers, each reckoned once. -/
import Derived.Test.YtnhhkoekghjogaaGreatDoorKb
namespace Go.Proofs.YtnhhkoekghjogaaGreatDoor.Kc
open Go.Proofs.YtnhhkoekghjogaaGreatDoor.Wd

/-- A number that is reckoned ahead of what is done with it. -/
def frc {α : Type} (x : Int) (k : Int → α) : α :=
  match x with
  | .ofNat n => Nat.rec (motive := fun _ => α) (k 0) (fun m _ => k (Int.ofNat (m + 1))) n
  | .negSucc n => k (.negSucc n)
theorem frc_eq {α : Type} (x : Int) (k : Int → α) : frc x k = k x := by
  cases x with
  | ofNat n => cases n <;> rfl
  | negSucc n => rfl
/-- g 0 to g (n - 1), each reckoned ahead. -/
def frcA {α : Type} (g : Nat → Int) : Nat → List Int → (List Int → α) → α
  | 0, acc, k => k acc
  | n + 1, acc, k => frc (g n) fun x => frcA g n (x :: acc) k
def tb (n : Nat) (g : Nat → Int) : List Int := (List.range n).map g
theorem frcA_eq {α : Type} (g : Nat → Int) (n : Nat) (acc : List Int) (k : List Int → α) : frcA g n acc k = k (tb n g ++ acc) := by
  induction n generalizing acc with
  | zero => rfl
  | succ n ih => rw [frcA, frc_eq, ih]; simp [tb, List.range_succ]
theorem frcA_nil {α : Type} (g : Nat → Int) (n : Nat) (k : List Int → α) : frcA g n [] k = k (tb n g) := by rw [frcA_eq, List.append_nil]
theorem tb_get (n : Nat) (g : Nat → Int) (i : Nat) (h : i < n) : (tb n g).getD i 0 = g i := by
  rw [List.getD_eq_getElem?_getD]
  simp [tb, h]
theorem tb_congr (n : Nat) (f g : Nat → Int) (h : ∀ i, i < n → f i = g i) : tb n f = tb n g := List.map_congr_left (fun i hi => h i (List.mem_range.1 hi))
def rdL {α : Type} (c : Int) (l : List Int) (k : List Int → α) : α :=
  frcA (fun x => xr (xr (xr (xr (l.getD x 0) (l.getD (x + 5) 0)) (l.getD (x + 10) 0)) (l.getD (x + 15) 0)) (l.getD (x + 20) 0)) 5 [] fun C =>
  frcA (fun x => xr (C.getD ((x + 4) % 5) 0) (rl (C.getD ((x + 1) % 5) 0) 1)) 5 [] fun D =>
  frcA (fun i => xr (l.getD i 0) (D.getD (i % 5) 0)) 25 [] fun M =>
  frcA (fun i => if i = 0 then M.getD 0 0 else rl (M.getD (srl.getD i 0) 0) (aml.getD i 0 : Nat)) 25 [] fun B =>
  frcA (fun i => if i = 0 then xr (xr (B.getD 0 0) (dn (B.getD 2 0) (B.getD 1 0))) c else xr (B.getD i 0) (dn (B.getD (n2 i) 0) (B.getD (n1 i) 0))) 25 [] k
theorem srl_lt : ∀ i, i < 25 → srl.getD i 0 < 25 := by decide
theorem rdL_eq {α : Type} (c : Int) (a : Nat → Int) (k : List Int → α) : rdL c (tb 25 a) k = k (tb 25 (rd c a)) := by
  unfold rdL
  rw [frcA_nil, frcA_nil, frcA_nil, frcA_nil, frcA_nil]
  have hC : tb 5 (fun x => xr (xr (xr (xr ((tb 25 a).getD x 0) ((tb 25 a).getD (x + 5) 0)) ((tb 25 a).getD (x + 10) 0)) ((tb 25 a).getD (x + 15) 0)) ((tb 25 a).getD (x + 20) 0)) = tb 5 (col a) := tb_congr 5 _ _ (fun x hx => by
    rw [tb_get 25 a _ (by omega), tb_get 25 a _ (by omega), tb_get 25 a _ (by omega), tb_get 25 a _ (by omega), tb_get 25 a _ (by omega)]; rfl)
  rw [hC]
  have hD : tb 5 (fun x => xr ((tb 5 (col a)).getD ((x + 4) % 5) 0) (rl ((tb 5 (col a)).getD ((x + 1) % 5) 0) 1)) = tb 5 (dd a) := tb_congr 5 _ _ (fun x hx => by
    rw [tb_get 5 _ _ (by omega), tb_get 5 _ _ (by omega)]; rfl)
  rw [hD]
  have hM : tb 25 (fun i => xr ((tb 25 a).getD i 0) ((tb 5 (dd a)).getD (i % 5) 0)) = tb 25 (mix a) := tb_congr 25 _ _ (fun i hi => by
    rw [tb_get 25 a _ hi, tb_get 5 _ _ (by omega)]; rfl)
  rw [hM]
  have hB : tb 25 (fun i => if i = 0 then (tb 25 (mix a)).getD 0 0 else rl ((tb 25 (mix a)).getD (srl.getD i 0) 0) (aml.getD i 0 : Nat)) = tb 25 (mv (mix a)) := tb_congr 25 _ _ (fun i hi => by
    by_cases h : i = 0
    · subst h; rw [if_pos rfl, tb_get 25 _ _ (by omega)]; rfl
    · rw [if_neg h, tb_get 25 _ _ (srl_lt i hi), mv_at _ i hi (by omega)])
  rw [hB]
  refine congrArg k (tb_congr 25 _ _ (fun i hi => ?_))
  unfold rd io
  by_cases h : i = 0
  · subst h
    rw [if_pos rfl, if_pos rfl, tb_get 25 _ _ (by omega), tb_get 25 _ _ (by omega), tb_get 25 _ _ (by omega)]; rfl
  · rw [if_neg h, if_neg h, tb_get 25 _ _ hi, tb_get 25 _ _ (by unfold n2; omega), tb_get 25 _ _ (by unfold n1; omega)]; rfl
def rdsL {α : Type} : List Int → List Int → (List Int → α) → α
  | [], l, k => k l
  | c :: cs, l, k => rdL c l fun l' => rdsL cs l' k
theorem rdsL_eq {α : Type} (a : Nat → Int) (k : List Int → α) (n t : Nat) (h : t + n = 24) : rdsL (cl.drop t) (tb 25 (rds a t)) k = k (tb 25 (perm a)) := by
  induction n generalizing t with
  | zero =>
    obtain rfl : t = 24 := by omega
    rfl
  | succ n ih =>
    have e : cl.drop t = RC t :: cl.drop (t + 1) := by
      have hl : t < cl.length := by show t < 24; omega
      rw [List.drop_eq_getElem_cons hl]
      unfold RC
      rw [List.getD_eq_getElem?_getD, List.getElem?_eq_getElem hl]; rfl
    rw [e, rdsL, rdL_eq]
    exact ih (t + 1) (by omega)
theorem perm_L (a : Nat → Int) : rdsL cl (tb 25 a) id = tb 25 (perm a) := rdsL_eq a id 24 0 rfl
def P1 : List Int := [17376452488221285863, 9571781953733019530, 15391093639620504046, 13624874521033984333, 10027350355371872343, 18417369716475457492, 10448040663659726788, 10113917136857017974, 12479658147685402012, 3500241080921619556, 16959053435453822517, 12224711289652453635, 9342009439668884831, 4879704952849025062, 140226327413610143, 424854978622500449, 7259519967065370866, 7004910057750291985, 13293599522548616907, 10105770293752443592, 10668034807192757780, 1747952066141424100, 1654286879329379778, 8500057116360352059, 16929593379567477321]
def P2 : List Int := [3268651591693945660, 7652509465582220653, 665843430262795116, 9953194536449200276, 5736547547768942934, 17967033347517840184, 9617223347116289805, 18083344793841701111, 2241559954380719961, 16500850453531636773, 7552081062576154785, 16062764016099891023, 3730174026076631541, 16142682291168730073, 9005134303344136805, 18254296170158835523, 10943093107769035584, 5254247195150641012, 16409086168290275388, 10493424989303096041, 10380288247186775419, 2317839531386326248, 6571880257221836214, 6962369734508286041, 2364509455356247900]
def z0 (_ : Nat) : Int := 0
theorem perm_one : tb 25 (perm z0) = P1 := by
  rw [← perm_L]
  decide +kernel
theorem perm_two : tb 25 (perm (perm z0)) = P2 := by
  rw [← perm_L, perm_one]
  decide +kernel
theorem one_at (i : Nat) (h : i < 25) : perm z0 i = P1.getD i 0 := by rw [← perm_one, tb_get 25 _ i h]
theorem two_at (i : Nat) (h : i < 25) : perm (perm z0) i = P2.getD i 0 := by rw [← perm_two, tb_get 25 _ i h]
theorem z0_w : AW z0 := fun _ => w0
end Go.Proofs.YtnhhkoekghjogaaGreatDoor.Kc
