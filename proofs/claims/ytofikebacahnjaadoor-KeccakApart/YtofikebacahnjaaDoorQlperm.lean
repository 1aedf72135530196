/- The walk of the statement KeccakPermutes. -/
import Derived.Test.YtofikebacahnjaaDoorQrp
import Derived.Test.YtofikebacahnjaaDoorQprm
import Derived.Test.YtofikebacahnjaaDoorQstate
import Derived.Test.YtofikebacahnjaaDoorQeq
namespace Go.Proofs.YtofikebacahnjaaDoor.Kc
open Go.ChangeShapes Go.WideShapes Go.ChangeAt Go.RowKit
open Go.Proofs.YtofikebacahnjaaDoor.By Go.Proofs.YtofikebacahnjaaDoor.Wd
/-- Permute without a ledger. -/
theorem permuteN (a : Nat → Int) (ha : AW a) (W : World) (hk : KT W) :
    Calls Tryd.prog 9 #[.pointer none, .agg (wl 25 a).toArray] W fun e w' => e = .returned (.agg (wl 25 (perm a)).toArray) ∧ Below W.heap.size W w' := by
  refine (permute1 (fun _ => False) W W none [] a ha trivial (Kp.refl _ _) ⟨by decide, by decide⟩ hk id id).mono ?_
  rintro e w' ⟨rfl, _, hp, _⟩
  exact ⟨rfl, hp.below (Nat.le_refl _) (fun _ _ e => e)⟩
/-- What the ledger has behind k permutations. -/
def evL : Nat → List Rn
  | 0 => []
  | k + 1 => putL (evL k) ⟨3, 200, 1⟩
theorem evL_ev : ∀ k, k < 4 → evL k = ev k := by decide
theorem evL_room : ∀ k, k < 4 → tot (evL k) ≤ 4611686018427387904 ∧ (evL k).length ≤ 1 := by decide
theorem evL_Room (k : Nat) (h : k < 4) : Room (evL k) := ⟨(evL_room k h).1, by have := (evL_room k h).2; omega⟩
/-- The state permuted k times. -/
def itp (a : Nat → Int) : Nat → Nat → Int
  | 0 => a
  | k + 1 => perm (itp a k)
theorem itp_w {a : Nat → Int} (h : AW a) (k : Nat) : AW (itp a k) := by
  induction k with
  | zero => exact h
  | succ k ih => exact perm_w ih
theorem ld25k {w : World} {g : Nat} {f : Nat → Int} {t : TypeId} (h : Blk w g (wl 25 f) t) : (LDk ⟨g, 0, none⟩).run Tryd.prog w = .ok (.agg (wl 25 f).toArray) w := LDk_run (h.range 0 _ (fun j v h => by rw [Nat.zero_add]; exact h)) (wl_length _ _)
theorem ld25t {w : World} {g : Nat} {f : Nat → Int} {t : TypeId} (h : Blk w g (wl 25 f) t) : (LDt ⟨g, 0, none⟩).run Tryd.prog w = .ok (.agg (wl 25 f).toArray) w := LDt_run (h.range 0 _ (fun j v h => by rw [Nat.zero_add]; exact h)) (wl_length _ _)
theorem sv25k {w : World} {g : Nat} {f : Nat → Int} {t : TypeId} (h : Blk w g (wl 25 f) t) (x : Nat → Int) : (SVk ⟨g, 0, none⟩ (.agg (wl 25 x).toArray)).run Tryd.prog w = .ok () (w.setCells g 0 (wl 25 x)) := SVk_run (h.there 0 25 (by rw [wl_length]; omega)) (wl_length _ _) (wl_one _ _)
theorem sv25t {w : World} {g : Nat} {f : Nat → Int} {t : TypeId} (h : Blk w g (wl 25 f) t) (x : Nat → Int) : (SVt ⟨g, 0, none⟩ (.agg (wl 25 x).toArray)).run Tryd.prog w = .ok () (w.setCells g 0 (wl 25 x)) := SVt_run (h.there 0 25 (by rw [wl_length]; omega)) (wl_length _ _) (wl_one _ _)
theorem Blk.over {w : World} {g : Nat} {f : Nat → Int} {t : TypeId} (h : Blk w g (wl 25 f) t) (x : Nat → Int) : Blk (w.setCells g 0 (wl 25 x)) g (wl 25 x) t := by
  have b := h.put 0 (wl 25 x)
  rwa [put_all _ _ (by rw [wl_length, wl_length])] at b
theorem new25k (w : World) : Blk (w.alloc (.cells #[Value.int .u64 0, .int .u64 0, .int .u64 0, .int .u64 0, .int .u64 0, .int .u64 0, .int .u64 0, .int .u64 0, .int .u64 0, .int .u64 0, .int .u64 0, .int .u64 0, .int .u64 0, .int .u64 0, .int .u64 0, .int .u64 0, .int .u64 0, .int .u64 0, .int .u64 0, .int .u64 0, .int .u64 0, .int .u64 0, .int .u64 0, .int .u64 0, .int .u64 0] 29)) w.heap.size (wl 25 (fun _ => 0)) 29 := Blk.newAt _ _ _ _ _ rfl z25
theorem new25t (w : World) : Blk (w.alloc (.cells #[Value.int .u64 0, .int .u64 0, .int .u64 0, .int .u64 0, .int .u64 0, .int .u64 0, .int .u64 0, .int .u64 0, .int .u64 0, .int .u64 0, .int .u64 0, .int .u64 0, .int .u64 0, .int .u64 0, .int .u64 0, .int .u64 0, .int .u64 0, .int .u64 0, .int .u64 0, .int .u64 0, .int .u64 0, .int .u64 0, .int .u64 0, .int .u64 0, .int .u64 0] 24)) w.heap.size (wl 25 (fun _ => 0)) 24 := Blk.newAt _ _ _ _ _ rfl z25
/-- What the call's own memory holds: two states, a ledger. -/
structure PM (w W : World) (gs ga lb : Nat) (X : Nat → Int) (Y : Nat → Int) (L : List Rn) : Prop where
  s : Blk W gs (wl 25 X) 24
  a : Blk W ga (wl 25 Y) 29
  l : LG (fun k => w.heap.size ≤ k) w W (some lb) L
  kp : Kp (fun k => w.heap.size ≤ k) w W
  hs : w.heap.size ≤ gs
  ha : w.heap.size ≤ ga
theorem PM.below {w W W' : World} {gs ga lb : Nat} {X Y : Nat → Int} {L : List Rn} (h : PM w W gs ga lb X Y L) (hb : Below W.heap.size W W') : PM w W' gs ga lb X Y L :=
  ⟨h.s.below hb, h.a.below hb, h.l.below hb, h.kp.trans (Kp.of_below _ hb) (fun _ _ e => e), h.hs, h.ha⟩
theorem PM.new {w W : World} {gs ga lb : Nat} {X Y : Nat → Int} {L : List Rn} (h : PM w W gs ga lb X Y L) (o : Obj) (g : Nat) (hg : g = W.heap.size) (cs vs : List Value) (t : TypeId) (ho : o = .cells cs.toArray t) (h1 : t ≠ 45) (h2 : t ≠ 56) : PM w ((W.alloc o).setCells g 0 vs) gs ga lb X Y L := by
  subst hg
  subst ho
  have h' := h.below (below_alloc W (.cells cs.toArray t))
  have hz := h.kp.size
  have e1 := h.s.lt
  have e2 := h.a.lt
  exact ⟨h'.s.kept (Kp.setCells _ 0 _) (by omega), h'.a.kept (Kp.setCells _ 0 _) (by omega), h'.l.kept (Kp.setCells _ 0 _) (fun g e => by subst e; exact ⟨_, _, Blk.new W cs t, h1, h2⟩), h'.kp.trans (Kp.setCells _ 0 _) (fun i hi e => by omega), h.hs, h.ha⟩
theorem PM.ne {w W : World} {gs ga lb : Nat} {X Y : Nat → Int} {L : List Rn} (h : PM w W gs ga lb X Y L) : gs ≠ ga := h.s.ne h.a (by decide)
theorem PM.setA {w W : World} {gs ga lb : Nat} {X Y : Nat → Int} {L : List Rn} (h : PM w W gs ga lb X Y L) (Z : Nat → Int) : PM w (W.setCells ga 0 (wl 25 Z)) gs ga lb X Z L := by
  have hn := h.ne
  have ha := h.ha
  exact ⟨h.s.kept (Kp.setCells _ 0 _) hn, h.a.over Z, h.l.kept (Kp.setCells _ 0 _) (fun g e => by subst e; exact ⟨_, _, h.a, by decide, by decide⟩), h.kp.trans (Kp.setCells _ 0 _) (fun i hi e => by omega), h.hs, h.ha⟩
theorem PM.setS {w W : World} {gs ga lb : Nat} {X Y : Nat → Int} {L : List Rn} (h : PM w W gs ga lb X Y L) (Z : Nat → Int) : PM w (W.setCells gs 0 (wl 25 Z)) gs ga lb Z Y L := by
  have hn := h.ne
  have hs := h.hs
  exact ⟨h.s.over Z, h.a.kept (Kp.setCells _ 0 _) (fun e => hn e.symm), h.l.kept (Kp.setCells _ 0 _) (fun g e => by subst e; exact ⟨_, _, h.s, by decide, by decide⟩), h.kp.trans (Kp.setCells _ 0 _) (fun i hi e => by omega), h.hs, h.ha⟩
theorem KT.pm {w W : World} {gs ga lb : Nat} {X Y : Nat → Int} {L : List Rn} (hk : KT w) (h : PM w W gs ga lb X Y L) : KT W := by
  have hl := hk.lt
  exact hk.kept h.kp (by omega) (by omega)
theorem PM.permute {w W : World} {gs ga lb : Nat} {X Y : Nat → Int} {L : List Rn} (h : PM w W gs ga lb X Y L) (hk : KT w) (hr : Room L) (a : Nat → Int) (ha : AW a) :
    Calls Tryd.prog 9 #[.pointer (some ⟨lb, 0, none⟩), .agg (wl 25 a).toArray] W fun e w' => e = .returned (.agg (wl 25 (perm a)).toArray) ∧ PM w w' gs ga lb X Y (putL L ⟨3, 200, 1⟩) ∧ Kt W w' := by
  have hl := hk.lt
  refine (permute1 (fun k => w.heap.size ≤ k) w W (some lb) L a ha h.l h.kp hr hk (by omega) (by omega)).mono ?_
  rintro e w' ⟨rfl, h1, h2, h3⟩
  exact ⟨rfl, ⟨h3 _ _ _ h.s (by decide) (by decide), h3 _ _ _ h.a (by decide) (by decide), h1, h2, h.hs, h.ha⟩, h3⟩
theorem PM.runs {w W : World} {gs ga lb : Nat} {X Y : Nat → Int} {L : List Rn} (h : PM w W gs ga lb X Y L) (hr : Room L) :
    Calls Tryd.prog 12 #[.pointer (some ⟨lb, 0, none⟩)] W fun e w' => ∃ v, e = .returned v ∧ Go.Proofs.YtofikebacahnjaaDoor.Own w' W.heap.size v L ∧ Below W.heap.size W w' := by
  obtain ⟨_, rv, hl, _⟩ := h.l
  exact runs22 lb rv L W hl (by have := hr.2; omega)
set_option maxRecDepth 4000 in
set_option maxHeartbeats 4000000 in
theorem permutes_walk (v : Value) (n : Nat) (f : Nat → Int) (ti : Int) (w : World) (hr : By.RB w v n f) (hn : n ≤ 140737488355328) (hk : KT w) :
    Calls Tryd.prog 3 #[v, .int .i64 ti] w fun e w' => e = .returned (.bool true) ∧ Below w.heap.size w w' := by
  have HR := hid hr
  have HK := hid hk
  have HF : Hid (BB (pb f n)) := pb_b hr.1 n
  clear hr hk
  go_enter Tryd.func3, Tryd.ntmps3
  go_wp2_with fail
  refine (state1 v n f w HR.out hn).mono ?_
  rintro e w1 ⟨rfl, hb1⟩
  have HA := hid (fl_w HF.out)
  obtain ⟨A, eA⟩ : ∃ z, fl (pb f n) = z := ⟨_, rfl⟩
  rw [eA] at HA
  rw [eA]
  clear eA
  have s1 := sv25t (new25t w1) A
  have B0 := hid ((new25t w1).over A)
  have HB1 := hid hb1
  clear hb1
  go_wp2_with fail
  have BE2 := hid (below_cells (below_next HB1.out (below_alloc w1 (.cells #[Value.int .u64 0, .int .u64 0, .int .u64 0, .int .u64 0, .int .u64 0, .int .u64 0, .int .u64 0, .int .u64 0, .int .u64 0, .int .u64 0, .int .u64 0, .int .u64 0, .int .u64 0, .int .u64 0, .int .u64 0, .int .u64 0, .int .u64 0, .int .u64 0, .int .u64 0, .int .u64 0, .int .u64 0, .int .u64 0, .int .u64 0, .int .u64 0, .int .u64 0] 24))) w1.heap.size 0 (wl 25 A) HB1.out.size (by have := HB1.out.size; rw [size_alloc]; omega))
  have HZ := hid HB1.out.size
  clear HB1 s1
  obtain ⟨gs, hgs⟩ : ∃ z, w1.heap.size = z := ⟨_, rfl⟩
  rw [hgs] at B0 BE2 HZ
  rw [hgs]
  clear hgs
  obtain ⟨W2, hW2⟩ : ∃ z, World.setCells (w1.alloc (.cells #[Value.int .u64 0, .int .u64 0, .int .u64 0, .int .u64 0, .int .u64 0, .int .u64 0, .int .u64 0, .int .u64 0, .int .u64 0, .int .u64 0, .int .u64 0, .int .u64 0, .int .u64 0, .int .u64 0, .int .u64 0, .int .u64 0, .int .u64 0, .int .u64 0, .int .u64 0, .int .u64 0, .int .u64 0, .int .u64 0, .int .u64 0, .int .u64 0, .int .u64 0] 24)) gs 0 (wl 25 A) = z := ⟨_, rfl⟩
  rw [hW2] at B0 BE2
  rw [hW2]
  clear hW2
  refine (pick4 ti W2).mono ?_
  rintro e w3 ⟨⟨m, hm, rfl⟩, rfl⟩
  go_wp2_with fail
  refine (new9 w3).mono ?_
  rintro e w4 ⟨rfl, hl4, hb4⟩
  have P0 : Hid (LG (fun k => w.heap.size ≤ k) w w4 (some w3.heap.size) []) := ⟨BE2.out.size, _, hl4, fun g hg _ => by simp [Value.ownBlock] at hg⟩
  have B4 := hid (B0.out.below hb4)
  have BE4 := hid (below_next BE2.out hb4)
  have l4 := ld25t B4.out
  have s4 := sv25k (new25k w4) A
  clear B0 BE2 hl4 hb4
  obtain ⟨lb, hlb⟩ : ∃ z, w3.heap.size = z := ⟨_, rfl⟩
  rw [hlb] at P0
  rw [hlb]
  clear hlb
  go_wp2_with fail
  have PP : Hid (PM w ((w4.alloc (.cells #[Value.int .u64 0, .int .u64 0, .int .u64 0, .int .u64 0, .int .u64 0, .int .u64 0, .int .u64 0, .int .u64 0, .int .u64 0, .int .u64 0, .int .u64 0, .int .u64 0, .int .u64 0, .int .u64 0, .int .u64 0, .int .u64 0, .int .u64 0, .int .u64 0, .int .u64 0, .int .u64 0, .int .u64 0, .int .u64 0, .int .u64 0, .int .u64 0, .int .u64 0] 29)).setCells w4.heap.size 0 (wl 25 A)) gs w4.heap.size lb A A []) := by
    have hz := BE4.out.size
    have e1 := B4.out.lt
    have kp : Kp (fun k => w.heap.size ≤ k) w (w4.alloc (.cells #[Value.int .u64 0, .int .u64 0, .int .u64 0, .int .u64 0, .int .u64 0, .int .u64 0, .int .u64 0, .int .u64 0, .int .u64 0, .int .u64 0, .int .u64 0, .int .u64 0, .int .u64 0, .int .u64 0, .int .u64 0, .int .u64 0, .int .u64 0, .int .u64 0, .int .u64 0, .int .u64 0, .int .u64 0, .int .u64 0, .int .u64 0, .int .u64 0, .int .u64 0] 29)) := (Kp.of_below _ BE4.out).trans (Kp.of_below _ (below_alloc w4 _)) (fun _ _ e => e)
    exact ⟨(B4.out.alloc _).kept (Kp.setCells _ 0 _) (by omega), (new25k w4).over A, (P0.out.below (below_alloc w4 _)).kept (Kp.setCells _ 0 _) (fun g e => by subst e; exact ⟨_, _, new25k w4, by decide, by decide⟩), kp.trans (Kp.setCells _ 0 _) (fun i hi e => by omega), HZ.out, hz⟩
  obtain ⟨W5, hW5⟩ : ∃ z, World.setCells (w4.alloc (.cells #[Value.int .u64 0, .int .u64 0, .int .u64 0, .int .u64 0, .int .u64 0, .int .u64 0, .int .u64 0, .int .u64 0, .int .u64 0, .int .u64 0, .int .u64 0, .int .u64 0, .int .u64 0, .int .u64 0, .int .u64 0, .int .u64 0, .int .u64 0, .int .u64 0, .int .u64 0, .int .u64 0, .int .u64 0, .int .u64 0, .int .u64 0, .int .u64 0, .int .u64 0] 29)) w4.heap.size 0 (wl 25 A) = z := ⟨_, rfl⟩
  rw [hW5] at PP
  rw [hW5]
  clear hW5 s4 l4 B4 BE4 P0
  obtain ⟨ga, hga⟩ : ∃ z, w4.heap.size = z := ⟨_, rfl⟩
  rw [hga] at PP
  rw [hga]
  clear hga
  go_loopw [9] (fun i wr => ∃ k : Nat, k ≤ m ∧ i = .int .i64 k ∧ PM w wr gs ga lb (itp A k) (itp A k) (evL k)) (fun i _ => m - (intOf i).toNat)
  case atStart => exact ⟨0, Nat.zero_le _, rfl, PP.out⟩
  case round =>
    clear PP
    obtain ⟨k, hk, rfl, pp⟩ := hrel
    have P := hid pp
    have HX := hid (itp_w HA.out k)
    clear pp
    by_cases hlt : k < m
    · have l1 := ld25k P.out.a
      have HE : Hid (itp A (k + 1) = perm (itp A k)) := rfl
      have HE2 : Hid (evL (k + 1) = putL (evL k) ⟨3, 200, 1⟩) := rfl
      have HR2 := hid (evL_Room k (by omega))
      obtain ⟨X, eX⟩ : ∃ z, itp A k = z := ⟨_, rfl⟩
      rw [eX] at P HX HE l1
      clear eX
      obtain ⟨L, eL⟩ : ∃ z, evL k = z := ⟨_, rfl⟩
      rw [eL] at P HE2 HR2
      clear eL
      go_wp2_with fail
      refine (permuteN X HX.out _ (HK.out.pm P.out)).mono ?_
      rintro e w6 ⟨rfl, hb6⟩
      have P6 := hid (P.out.below hb6)
      clear hb6 l1 P
      have s6 := sv25k (new25k w6) (perm X)
      have P7 := hid (P6.out.new (.cells #[Value.int .u64 0, .int .u64 0, .int .u64 0, .int .u64 0, .int .u64 0, .int .u64 0, .int .u64 0, .int .u64 0, .int .u64 0, .int .u64 0, .int .u64 0, .int .u64 0, .int .u64 0, .int .u64 0, .int .u64 0, .int .u64 0, .int .u64 0, .int .u64 0, .int .u64 0, .int .u64 0, .int .u64 0, .int .u64 0, .int .u64 0, .int .u64 0, .int .u64 0] 29) w6.heap.size rfl (wl 25 (fun _ => 0)) (wl 25 (perm X)) 29 (by rw [← z25]) (by decide) (by decide))
      have Q7 := hid ((new25k w6).over (perm X))
      have l7 := ld25k P7.out.a
      go_wp2_with fail
      obtain ⟨W7, hW7⟩ : ∃ z, World.setCells (w6.alloc (.cells #[Value.int .u64 0, .int .u64 0, .int .u64 0, .int .u64 0, .int .u64 0, .int .u64 0, .int .u64 0, .int .u64 0, .int .u64 0, .int .u64 0, .int .u64 0, .int .u64 0, .int .u64 0, .int .u64 0, .int .u64 0, .int .u64 0, .int .u64 0, .int .u64 0, .int .u64 0, .int .u64 0, .int .u64 0, .int .u64 0, .int .u64 0, .int .u64 0, .int .u64 0] 29)) w6.heap.size 0 (wl 25 (perm X)) = z := ⟨_, rfl⟩
      rw [hW7] at P7 Q7
      rw [hW7]
      have HNB : Hid (w6.heap.size ≠ ga) := fun e => by have := P6.out.a.lt; omega
      clear hW7 s6 l7 P6
      obtain ⟨gb, hgb⟩ : ∃ z, w6.heap.size = z := ⟨_, rfl⟩
      rw [hgb] at Q7 HNB
      rw [hgb]
      clear hgb
      refine (P7.out.permute HK.out HR2.out X HX.out).mono ?_
      rintro e w8 ⟨rfl, p8, kt8⟩
      have P8 := hid p8
      have Q8 := hid (kt8 _ _ _ Q7.out (by decide) (by decide))
      have hne := hid (show gb ≠ ga from HNB.out)
      clear p8 kt8 P7 Q7 HNB
      have s8 := sv25k P8.out.a (perm X)
      have P9 := hid (P8.out.setA (perm X))
      have Q9 := hid (Q8.out.kept (Kp.setCells ga 0 (wl 25 (perm X))) hne.out)
      have l9 := ld25t P9.out.s
      go_wp2_with fail
      obtain ⟨W9, hW9⟩ : ∃ z, w8.setCells ga 0 (wl 25 (perm X)) = z := ⟨_, rfl⟩
      rw [hW9] at P9 Q9
      rw [hW9]
      clear hW9 s8 l9 P8 Q8
      refine (refPermute1 X HX.out W9).mono ?_
      rintro e w10 ⟨rfl, hb10⟩
      have P10 := hid (P9.out.below hb10)
      have Q10 := hid (Q9.out.below hb10)
      have hns := hid (show gb ≠ gs from fun e => by subst e; exact (P10.out.s.ne Q10.out (by decide)) rfl)
      clear hb10 P9 Q9
      have s10 := sv25t P10.out.s (perm X)
      have P11 := hid (P10.out.setS (perm X))
      have Q11 := hid (Q10.out.kept (Kp.setCells gs 0 (wl 25 (perm X))) hns.out)
      have l11 := ld25k P11.out.a
      have m11 := ld25t P11.out.s
      have n11 := ld25k Q11.out
      have e1 : eq25 (perm X) (perm X) = true := eq25_true (fun _ _ => rfl)
      go_wp2_with fail
      refine ⟨⟨k + 1, by omega, by go_num, ?_⟩, by simp [intOf]; omega⟩
      rw [HE.out, HE2.out]
      exact P11.out
    · have ek : k = m := by omega
      subst ek
      have HR2 := hid (evL_Room k hm)
      have HL2 := hid (evL_ev k hm)
      go_wp2_with fail
      refine (P.out.runs HR2.out).mono ?_
      rintro e w6 ⟨v6, rfl, ho6, hb6⟩
      have R6 := hid ho6.reads
      have HB6 := hid (below_next (P.out.kp.below (Nat.le_refl _) (fun i hi e => by omega)) hb6)
      have HZ6 := hid ho6
      clear ho6 hb6
      go_wp2_with fail
      refine (runs1 k (by omega) w6).mono ?_
      rintro e w7 ⟨v7, rfl, ho7, hb7⟩
      have R7 := hid ho7.reads
      have R6' := hid (R6.out.below hb7)
      have HB7 := hid (below_next HB6.out hb7)
      clear ho7 hb7
      go_wp2_with fail
      refine (same14 _ _ _ _ _ R6'.out R7.out (by have := HR2.out.2; omega) (by rw [← HL2.out]; have := HR2.out.2; omega)).mono ?_
      rintro e w8 ⟨rfl, d, rfl⟩
      rw [HL2.out, decide_eq_true rfl]
      go_wp2
      go_ret
      exact ⟨rfl, below_drew' HB7.out d⟩
end Go.Proofs.YtofikebacahnjaaDoor.Kc
