/- What told, C128, C256, Shake128 and Shake256 of the program answer. -/
import Derived.Test.YtjfjjhjajgodiaaDoorXbeg
namespace Go.Proofs.YtjfjjhjajgodiaaDoor.Kc
open Go.ChangeShapes Go.WideShapes Go.ChangeAt Go.RowKit
open Go.Proofs.YtjfjjhjajgodiaaDoor.By Go.Proofs.YtjfjjhjajgodiaaDoor.Wd
theorem evn_pos (c : Nat) : Pos (evk [] c) := evk_pos pos_nil c
theorem evn_big (c : Nat) (hc : c ≤ 1000000) : Big (evk [] c) := by
  have h3 := evk_len [] c
  refine ⟨?_, by simp at h3; omega⟩
  rw [evk_tot pos_nil c (by show (0 : Int) + c ≤ _; omega)]; show (0 : Int) + c ≤ _; omega
theorem out_ge (r : Nat) (y : Z) (n : Nat) : y.c ≤ (Z.out r y n).c := by
  induction n with
  | zero => exact Nat.le_refl _
  | succ n ih =>
    refine Nat.le_trans ih ?_
    show _ ≤ ((Z.out r y n).rdy r).c
    unfold Z.rdy
    split
    · exact Nat.le_succ _
    · exact Nat.le_refl _
theorem out_le (r : Nat) (y : Z) (n : Nat) : (Z.out r y n).c ≤ y.c + n := by
  induction n with
  | zero => exact Nat.le_refl _
  | succ n ih =>
    show ((Z.out r y n).rdy r).c ≤ _
    unfold Z.rdy
    split
    · show (Z.out r y n).c + 1 ≤ _; omega
    · omega
theorem ins_ge {r : Nat} {z : Z} (h : z.p < r) (g : Nat → Int) (n : Nat) : z.c ≤ (Z.ins r z g n).c := by
  rw [(ins_count h g n).1]; exact Nat.le_add_right _ _
theorem bz_ok {st : Int} {r : Nat} (hst : Str st r) (a c : Nat) (f h : Nat → Int) : (bz r a f c h).Ok r false := by
  have h1 := hst.lo
  unfold bz
  split
  · exact zz_ok r (by omega)
  · exact (zz_ok r (by omega)).ins (by omega) _ _
theorem pN_le (a c r : Nat) (hr : 1 ≤ r) (hr2 : r ≤ 256) : pN (tn a c) r ≤ a + c + 300 := by
  have h1 := sn_le' a
  have h2 := sn_le' c
  have h3 := (nb_pos r).2
  have h4 := pz_lt (tn a c) r (by omega)
  unfold pN pn
  unfold tn at *
  omega
theorem bz_le {st : Int} {r : Nat} (hst : Str st r) (a c : Nat) (f h : Nat → Int) (hac : a + c ≤ 2000000) : (bz r a f c h).c ≤ 15000 := by
  have h1 := hst.lo
  unfold bz
  split
  · exact Nat.zero_le _
  · rw [(ins_count (z := zz) (by show 0 < r; omega) _ _).1]
    show 0 + (0 + _) / r ≤ _
    have h5 := pN_le a c r h1.2.2.2.2 h1.2.2.2.1
    rcases hst with ⟨_, rfl⟩ | ⟨_, rfl⟩ <;> omega
/-- The sponge that was shut behind a name, a custom and a message. -/
def tY (r a : Nat) (f : Nat → Int) (c : Nat) (h : Nat → Int) (m : Nat) (g : Nat → Int) : Z := Z.fin r (sfx a c) (Z.ins r (bz r a f c h) g m)
/-- What is answered: the code, how many bytes, which, how many events. -/
def tc (n : Int) : Int := if n < 0 ∨ 65536 < n then 2 else 0
def tk (n : Int) : Nat := if n < 0 ∨ 65536 < n then 0 else n.toNat
def tF (r a : Nat) (f : Nat → Int) (c : Nat) (h : Nat → Int) (m : Nat) (g : Nat → Int) (n : Int) : Nat → Int := fun i => if n < 0 ∨ 65536 < n then 0 else Z.say r (tY r a f c h m g) i
def tC (r a : Nat) (f : Nat → Int) (c : Nat) (h : Nat → Int) (m : Nat) (g : Nat → Int) (n : Int) : Nat := if n < 0 ∨ 65536 < n then 0 else (Z.out r (tY r a f c h m g) n.toNat).c
theorem tk_le (n : Int) : tk n ≤ 65536 := by unfold tk; split <;> omega
section
variable {st : Int} {r : Nat} (hst : Str st r)
include hst
theorem ins_z2 (a c : Nat) (f h : Nat → Int) (m : Nat) (g : Nat → Int) : (Z.ins r (bz r a f c h) g m).Ok r false := (bz_ok hst a c f h).ins (by have := hst.lo; omega) g m
theorem tY_ok (a c : Nat) (f h : Nat → Int) (m : Nat) (g : Nat → Int) : (tY r a f c h m g).Ok r true := Z.Ok.fin _ true _ (by have := hst.lo; omega)
theorem tF_b (a c : Nat) (f h : Nat → Int) (m : Nat) (g : Nat → Int) (n : Int) (i : Nat) : 0 ≤ tF r a f c h m g n i ∧ tF r a f c h m g n i < 256 := by
  unfold tF; split
  · decide
  · exact say_b (tY_ok hst a c f h m g) (by have := hst.lo; omega) i
theorem z2_le (a c : Nat) (f h : Nat → Int) (m : Nat) (g : Nat → Int) (hac : a + c ≤ 2000000) (hm : m ≤ 2000000) : (Z.ins r (bz r a f c h) g m).c ≤ 30000 := by
  have h1 := bz_le hst a c f h hac
  have h2 := (bz_ok hst a c f h).o rfl
  rw [(ins_count h2 g m).1]
  rcases hst with ⟨_, rfl⟩ | ⟨_, rfl⟩ <;> omega
theorem tC_le (a c : Nat) (f h : Nat → Int) (m : Nat) (g : Nat → Int) (n : Int) (hac : a + c ≤ 2000000) (hm : m ≤ 2000000) : tC r a f c h m g n ≤ 100000 := by
  unfold tC; split
  · omega
  · have h1 := z2_le hst a c f h m g hac hm
    have h2 := out_le r (tY r a f c h m g) n.toNat
    have h3 : (tY r a f c h m g).c = (Z.ins r (bz r a f c h) g m).c + 1 := rfl
    omega
end
theorem own_blk {w : World} {base g n : Nat} {f : Nat → Int} (h : Blk w g (bl n f) 5) (hf : ∀ i, 0 ≤ f i ∧ f i < 256) (hb : base ≤ g) (hn : n ≤ maxLen) : By.Own w base (.slice (some ⟨g, 0, none⟩) n n) n f :=
  ⟨hf, by rw [bl_length, Nat.mul_one], .inr ⟨g, n, (bl n f).toArray, rfl, hb, h, Nat.le_refl _, hn, by simp [bl_length], by simp [List.take_of_length_le, bl_length]⟩⟩
theorem told_bad (st n : Int) (lp p q x : Value) (w : World) (h : n < 0 ∨ 65536 < n) :
    Calls Tryd.prog 47 #[lp, .int .i64 st, p, q, x, .int .i64 n] w fun e w' => e = .returned (.tuple #[.slice none 0 0, .int .i64 2]) ∧ w' = w := by
  by_cases h1 : n < 0
  · go_enter Tryd.func47, Tryd.ntmps47
    go_wp2
    go_ret2
    exact ⟨rfl, rfl⟩
  · have h2 : 65536 < n := by omega
    go_enter Tryd.func47, Tryd.ntmps47
    go_wp2
    go_ret2
    exact ⟨rfl, rfl⟩
set_option maxRecDepth 4000 in
set_option maxHeartbeats 2000000 in
theorem told_any (st : Int) (r a c m C : Nat) (f h g : Nat → Int) (n : Int) (p q x : Value) (lo : Option Nat) (S : Nat → Prop) (w : World) (hst : Str st r) (hk : KT w) (hS0 : ¬ S 0) (hS1 : ¬ S 1) (hl : LG S w w lo (evk [] C)) (hC : C ≤ 600000)
    (hp : ∀ w', Kp S w w' → By.RB w' p a f) (hq : ∀ w', Kp S w w' → By.RB w' q c h) (hx : ∀ w', Kp S w w' → By.RB w' x m g) (hac : a + c ≤ 2000000) (hm : m ≤ 2000000) :
    Calls Tryd.prog 47 #[lpv lo, .int .i64 st, p, q, x, .int .i64 n] w fun e w' => ∃ v, e = .returned (.tuple #[v, .int .i64 (tc n)]) ∧ By.Own w' w.heap.size v (tk n) (tF r a f c h m g n) ∧ LG S w w' lo (evk [] (C + tC r a f c h m g n)) ∧ Kp S w w' := by
  by_cases hn : n < 0 ∨ 65536 < n
  · refine (told_bad st n _ _ _ _ w hn).mono ?_
    rintro e w' ⟨rfl, rfl⟩
    have e1 : tC r a f c h m g n = 0 := if_pos hn
    have e2 : tk n = 0 := if_pos hn
    have e3 : tc n = 2 := if_pos hn
    rw [e1, e2, e3]
    exact ⟨_, rfl, own_nil _ _ _ (tF_b hst a c f h m g n), hl, Kp.refl _ _⟩
  · obtain ⟨k, rfl⟩ : ∃ k : Nat, n = k := ⟨n.toNat, by omega⟩
    have hk1 : k ≤ 65536 := by omega
    have E1 : Hid (tC r a f c h m g k = (Z.out r (tY r a f c h m g) k).c) := if_neg hn
    have E2 : Hid (tk k = k) := if_neg hn
    have E3 : Hid (tc k = 0) := if_neg hn
    have E4 : Hid (tF r a f c h m g k = Z.say r (tY r a f c h m g)) := by
      show tF r a f c h m g k = _
      funext i; exact if_neg hn
    have n1 : ¬ (k : Int) < 0 := by omega
    have n2 : ¬ (65536 : Int) < k := by omega
    have HST := hid hst
    have HK := hid hk
    have HS0 := hid hS0
    have HS1 := hid hS1
    have HL := hid hl
    have HP := hid hp
    have HQ := hid hq
    have HX := hid hx
    have HAC := hid hac
    have HM := hid hm
    clear hst hk hS0 hS1 hl hp hq hx hn hac hm
    go_enter Tryd.func47, Tryd.ntmps47
    go_wp2_with fail
    refine (begin_ok st r a c f h p q lo (evk [] C) S w HST.out HK.out HS0.out HS1.out HL.out (evn_pos C) (evn_big C (by omega)) HP.out HQ.out HAC.out).mono ?_
    rintro e w1 ⟨b, rfl, hb, hs, hlg, hkp⟩
    have B1 := hid hb
    have S1 := hid hs
    have L1 : Hid (LG S w w1 lo (evk [] (C + (bz r a f c h).c))) := by rw [evk_add]; exact hlg
    have K1 := hid hkp
    have Z1 : Hid (C + (bz r a f c h).c ≤ 1000000) := by have := bz_le HST.out a c f h HAC.out; show _ ≤ _; omega
    clear hb hs hlg hkp
    go_wp2_with fail
    refine (write_sp b r m (sfx a c) x (bz r a f c h) g lo _ (Nw w S) w1 S1.out (HK.out.kept K1.out HS0.out HS1.out) (nw0 HK.out HS0.out) (nw1 HK.out HS1.out) (.inr B1.out) L1.out.nw (evn_pos _) (fun w' hk' => HX.out w' (Kp.nw K1.out hk')) (by have := HM.out; omega) (evn_big _ Z1.out)).mono ?_
    rintro e w2 ⟨rfl, hs, hlg, hkp⟩
    have G1 : Hid ((bz r a f c h).c ≤ (Z.ins r (bz r a f c h) g m).c) := ins_ge ((bz_ok HST.out a c f h).o rfl) g m
    have S2 := hid hs
    have K2 := hid (Kp.nw K1.out hkp)
    have L2 : Hid (LG S w w2 lo (evk [] (C + (Z.ins r (bz r a f c h) g m).c))) := by
      rw [← evk_add, show C + (bz r a f c h).c + ((Z.ins r (bz r a f c h) g m).c - (bz r a f c h).c) = C + (Z.ins r (bz r a f c h) g m).c from by have := G1.out; omega] at hlg
      exact HL.out.back hlg K1.out.size
    have Z2 : Hid (C + (Z.ins r (bz r a f c h) g m).c ≤ 1000000) := by have := z2_le HST.out a c f h m g HAC.out HM.out; show _ ≤ _; omega
    clear hs hlg hkp S1 L1
    go_wp2_with fail
    refine (read_open b r k (sfx a c) _ (tY r a f c h m g) lo _ (Nw w S) w2 S2.out (HK.out.kept K2.out HS0.out HS1.out) (nw0 HK.out HS0.out) (nw1 HK.out HS1.out) (.inr B1.out) L2.out.nw (evn_pos _) hk1 (evn_big _ Z2.out) _ rfl rfl).mono ?_
    rintro e w3 ⟨gb, rfl, hgb, hs, hbl, hlg, hkp⟩
    have R1 : Hid (By.Own w3 w.heap.size (.slice (some ⟨gb, 0, none⟩) k k) (tk k) (tF r a f c h m g k)) := by
      rw [E2.out, E4.out]
      exact own_blk hbl (say_b (tY_ok HST.out a c f h m g) (by have := HST.out.lo; omega)) (by have := K2.out.size; omega) (by simp [maxLen]; omega)
    have R2 : Hid (LG S w w3 lo (evk [] (C + tC r a f c h m g k))) := by
      rw [E1.out]
      have h3 : (tY r a f c h m g).c = (Z.ins r (bz r a f c h) g m).c + 1 := rfl
      have h4 := out_ge r (tY r a f c h m g) k
      rw [← evk_add, ← evk_add, show C + (Z.ins r (bz r a f c h) g m).c + (1 + ((Z.out r (tY r a f c h m g) k).c - (tY r a f c h m g).c)) = C + (Z.out r (tY r a f c h m g) k).c from by omega] at hlg
      exact HL.out.back hlg K2.out.size
    have R3 := hid (Kp.nw K2.out hkp)
    clear hs hbl hlg hkp S2 L2
    go_wp2
    go_ret2
    rw [E3.out]
    exact ⟨_, rfl, R1.out, R2.out, R3.out⟩
/-- No bytes. -/
def no0 (_ : Nat) : Int := 0
theorem no0_b (i : Nat) : 0 ≤ no0 i ∧ no0 i < 256 := by show (0 : Int) ≤ 0 ∧ (0 : Int) < 256; decide
theorem rb_none (w : World) : By.RB w (.slice none 0 0) 0 no0 := (own_nil w 0 no0 no0_b).reads
theorem c128_any (a c m C : Nat) (f h g : Nat → Int) (n : Int) (p q x : Value) (lo : Option Nat) (S : Nat → Prop) (w : World) (hk : KT w) (hS0 : ¬ S 0) (hS1 : ¬ S 1) (hl : LG S w w lo (evk [] C)) (hC : C ≤ 600000)
    (hp : ∀ w', Kp S w w' → By.RB w' p a f) (hq : ∀ w', Kp S w w' → By.RB w' q c h) (hx : ∀ w', Kp S w w' → By.RB w' x m g) (hac : a + c ≤ 2000000) (hm : m ≤ 2000000) :
    Calls Tryd.prog 11 #[lpv lo, p, q, x, .int .i64 n] w fun e w' => ∃ v, e = .returned (.tuple #[v, .int .i64 (tc n)]) ∧ By.Own w' w.heap.size v (tk n) (tF 168 a f c h m g n) ∧ LG S w w' lo (evk [] (C + tC 168 a f c h m g n)) ∧ Kp S w w' := by
  have H := hid (told_any 128 168 a c m C f h g n p q x lo S w (by unfold Str; decide) hk hS0 hS1 hl hC hp hq hx hac hm)
  clear hk hS0 hS1 hl hp hq hx
  go_enter Tryd.func11, Tryd.ntmps11
  go_wp2_with fail
  refine H.out.mono ?_
  rintro e w' ⟨v, rfl, ho, hlg, hkp⟩
  have O := hid ho
  have L := hid hlg
  have K := hid hkp
  clear ho hlg hkp H
  go_wp2
  go_ret2
  exact ⟨_, rfl, O.out, L.out, K.out⟩
theorem c256_any (a c m C : Nat) (f h g : Nat → Int) (n : Int) (p q x : Value) (lo : Option Nat) (S : Nat → Prop) (w : World) (hk : KT w) (hS0 : ¬ S 0) (hS1 : ¬ S 1) (hl : LG S w w lo (evk [] C)) (hC : C ≤ 600000)
    (hp : ∀ w', Kp S w w' → By.RB w' p a f) (hq : ∀ w', Kp S w w' → By.RB w' q c h) (hx : ∀ w', Kp S w w' → By.RB w' x m g) (hac : a + c ≤ 2000000) (hm : m ≤ 2000000) :
    Calls Tryd.prog 12 #[lpv lo, p, q, x, .int .i64 n] w fun e w' => ∃ v, e = .returned (.tuple #[v, .int .i64 (tc n)]) ∧ By.Own w' w.heap.size v (tk n) (tF 136 a f c h m g n) ∧ LG S w w' lo (evk [] (C + tC 136 a f c h m g n)) ∧ Kp S w w' := by
  have H := hid (told_any 256 136 a c m C f h g n p q x lo S w (by unfold Str; decide) hk hS0 hS1 hl hC hp hq hx hac hm)
  clear hk hS0 hS1 hl hp hq hx
  go_enter Tryd.func12, Tryd.ntmps12
  go_wp2_with fail
  refine H.out.mono ?_
  rintro e w' ⟨v, rfl, ho, hlg, hkp⟩
  have O := hid ho
  have L := hid hlg
  have K := hid hkp
  clear ho hlg hkp H
  go_wp2
  go_ret2
  exact ⟨_, rfl, O.out, L.out, K.out⟩
theorem shake128_any (m C : Nat) (g : Nat → Int) (n : Int) (x : Value) (lo : Option Nat) (S : Nat → Prop) (w : World) (hk : KT w) (hS0 : ¬ S 0) (hS1 : ¬ S 1) (hl : LG S w w lo (evk [] C)) (hC : C ≤ 600000)
    (hx : ∀ w', Kp S w w' → By.RB w' x m g) (hm : m ≤ 2000000) :
    Calls Tryd.prog 13 #[lpv lo, x, .int .i64 n] w fun e w' => ∃ v, e = .returned (.tuple #[v, .int .i64 (tc n)]) ∧ By.Own w' w.heap.size v (tk n) (tF 168 0 no0 0 no0 m g n) ∧ LG S w w' lo (evk [] (C + tC 168 0 no0 0 no0 m g n)) ∧ Kp S w w' := by
  have H := hid (c128_any 0 0 m C no0 no0 g n (.slice none 0 0) (.slice none 0 0) x lo S w hk hS0 hS1 hl hC (fun _ _ => rb_none _) (fun _ _ => rb_none _) hx (by omega) hm)
  clear hk hS0 hS1 hl hx
  go_enter Tryd.func13, Tryd.ntmps13
  go_wp2_with fail
  refine H.out.mono ?_
  rintro e w' ⟨v, rfl, ho, hlg, hkp⟩
  have O := hid ho
  have L := hid hlg
  have K := hid hkp
  clear ho hlg hkp H
  go_wp2
  go_ret2
  exact ⟨_, rfl, O.out, L.out, K.out⟩
theorem shake256_any (m C : Nat) (g : Nat → Int) (n : Int) (x : Value) (lo : Option Nat) (S : Nat → Prop) (w : World) (hk : KT w) (hS0 : ¬ S 0) (hS1 : ¬ S 1) (hl : LG S w w lo (evk [] C)) (hC : C ≤ 600000)
    (hx : ∀ w', Kp S w w' → By.RB w' x m g) (hm : m ≤ 2000000) :
    Calls Tryd.prog 14 #[lpv lo, x, .int .i64 n] w fun e w' => ∃ v, e = .returned (.tuple #[v, .int .i64 (tc n)]) ∧ By.Own w' w.heap.size v (tk n) (tF 136 0 no0 0 no0 m g n) ∧ LG S w w' lo (evk [] (C + tC 136 0 no0 0 no0 m g n)) ∧ Kp S w w' := by
  have H := hid (c256_any 0 0 m C no0 no0 g n (.slice none 0 0) (.slice none 0 0) x lo S w hk hS0 hS1 hl hC (fun _ _ => rb_none _) (fun _ _ => rb_none _) hx (by omega) hm)
  clear hk hS0 hS1 hl hx
  go_enter Tryd.func14, Tryd.ntmps14
  go_wp2_with fail
  refine H.out.mono ?_
  rintro e w' ⟨v, rfl, ho, hlg, hkp⟩
  have O := hid ho
  have L := hid hlg
  have K := hid hkp
  clear ho hlg hkp H
  go_wp2
  go_ret2
  exact ⟨_, rfl, O.out, L.out, K.out⟩
end Go.Proofs.YtjfjjhjajgodiaaDoor.Kc
