/- The walk of the statement KeccakApart. -/
import Derived.Test.YtofikebacahnjaaDoorQlknown
import Derived.Deep.RegionWith
import Derived.Deep.Quiet
import Derived.BigQuiet
import Derived.Deep.DeepMust
namespace Go.Proofs.YtofikebacahnjaaDoor.Kc
open Go.ChangeShapes Go.WideShapes Go.ChangeAt Go.RowKit
open Go.Proofs.YtofikebacahnjaaDoor.By Go.Proofs.YtofikebacahnjaaDoor.Wd
/-- A state of any list; noughts behind its 25 lanes. -/
def st (f : Nat → Int) (n i : Nat) : Int := if i < 25 then fl (pb f n) i else 0
theorem st_w {f : Nat → Int} (h : BB f) (n : Nat) : AW (st f n) := fun i => by
  unfold st; split
  · exact fl_w (pb_b h n) i
  · exact w0
theorem st_wl (f : Nat → Int) (n : Nat) : wl 25 (fl (pb f n)) = wl 25 (st f n) := wl_congr 25 _ _ (fun i hi => by unfold st; rw [if_pos hi])
theorem st_eq {f g : Nat → Int} {n m : Nat} (h : E25 (st f n) (st g m)) : st f n = st g m := funext fun i => by
  by_cases hi : i < 25
  · exact h i hi
  · unfold st; rw [if_neg hi, if_neg hi]
theorem rawS (v : Value) (n : Nat) (f : Nat → Int) (w : World) (hr : By.RB w v n f) (hn : n ≤ 140737488355328) :
    Calls Tryd.prog 15 #[v] w fun e w' => e = .returned (.agg (wl 25 (st f n)).toArray) ∧ Below w.heap.size w w' := by
  rw [← st_wl]
  exact raw1 v n f w hr hn
/-- Alike just where the states behind it are. -/
theorem apart_perm {a b : Nat → Int} (ha : AW a) (hb : AW b) (he : E25 a b → a = b) : eq25 (perm a) (perm b) = eq25 a b := by
  rw [Bool.eq_iff_iff, eq25_iff, eq25_iff]
  exact ⟨fun h => perm_inj ha hb h, fun h => by rw [he h]; exact fun _ _ => rfl⟩
theorem apart_bytes {a b : Nat → Int} (ha : AW a) (hb : AW b) : eq200 (bf a) (bf b) = eq25 a b := by
  rw [Bool.eq_iff_iff, eq200_iff, eq25_iff]
  refine ⟨fun h i hi => ?_, fun h => bf_congr h⟩
  rw [← fl_bf ha i, ← fl_bf hb i]
  unfold fl
  exact LE_congr _ _ 8 (fun j hj => h _ (by omega))
set_option maxRecDepth 4000 in
set_option maxHeartbeats 8000000 in
theorem apart_walk (v v' : Value) (n m : Nat) (f f' : Nat → Int) (w : World) (hr : By.RB w v n f) (hr' : By.RB w v' m f') (hn : n ≤ 140737488355328) (hm : m ≤ 140737488355328) (hk : KT w) :
    Calls Tryd.prog 4 #[v, v'] w fun e w' => e = .returned (.bool true) ∧ Below w.heap.size w w' := by
  have HR := hid hr
  have HR' := hid hr'
  have HK := hid hk
  have hlt := hid hk.lt
  have HA := hid (st_w hr.1 n)
  have HB := hid (st_w hr'.1 m)
  have HE : Hid (E25 (st f n) (st f' m) → st f n = st f' m) := st_eq
  clear hr hr' hk
  go_enter Tryd.func4, Tryd.ntmps4
  go_wp2_with fail
  refine (awake1 w HK.out).mono ?_
  rintro e w1 ⟨rfl, hb1⟩
  have R1 := hid (HR.out.below hb1)
  have R1' := hid (HR'.out.below hb1)
  have BE1 := hid hb1
  clear hb1
  go_wp2_with fail
  refine (rawS v n f w1 R1.out hn).mono ?_
  rintro e w2 ⟨rfl, hb2⟩
  obtain ⟨A, eA⟩ : ∃ z, st f n = z := ⟨_, rfl⟩
  rw [eA] at HA HE
  rw [eA]
  clear eA
  have s2 := sv25k (new25k w2) A
  have B2 := hid ((new25k w2).over A)
  have R2' := hid (R1'.out.below (below_new hb2 rfl (.cells #[Value.int .u64 0, .int .u64 0, .int .u64 0, .int .u64 0, .int .u64 0, .int .u64 0, .int .u64 0, .int .u64 0, .int .u64 0, .int .u64 0, .int .u64 0, .int .u64 0, .int .u64 0, .int .u64 0, .int .u64 0, .int .u64 0, .int .u64 0, .int .u64 0, .int .u64 0, .int .u64 0, .int .u64 0, .int .u64 0, .int .u64 0, .int .u64 0, .int .u64 0] 29) (wl 25 A)))
  have BE2 := hid (below_new (below_next BE1.out hb2) rfl (.cells #[Value.int .u64 0, .int .u64 0, .int .u64 0, .int .u64 0, .int .u64 0, .int .u64 0, .int .u64 0, .int .u64 0, .int .u64 0, .int .u64 0, .int .u64 0, .int .u64 0, .int .u64 0, .int .u64 0, .int .u64 0, .int .u64 0, .int .u64 0, .int .u64 0, .int .u64 0, .int .u64 0, .int .u64 0, .int .u64 0, .int .u64 0, .int .u64 0, .int .u64 0] 29) (wl 25 A))
  clear hb2 R1 R1' BE1
  go_wp2_with fail
  obtain ⟨W2, hW2⟩ : ∃ z, World.setCells (w2.alloc (.cells #[Value.int .u64 0, .int .u64 0, .int .u64 0, .int .u64 0, .int .u64 0, .int .u64 0, .int .u64 0, .int .u64 0, .int .u64 0, .int .u64 0, .int .u64 0, .int .u64 0, .int .u64 0, .int .u64 0, .int .u64 0, .int .u64 0, .int .u64 0, .int .u64 0, .int .u64 0, .int .u64 0, .int .u64 0, .int .u64 0, .int .u64 0, .int .u64 0, .int .u64 0] 29)) w2.heap.size 0 (wl 25 A) = z := ⟨_, rfl⟩
  rw [hW2] at B2 R2' BE2
  rw [hW2]
  clear hW2 s2
  obtain ⟨ga, hga⟩ : ∃ z, w2.heap.size = z := ⟨_, rfl⟩
  rw [hga] at B2
  rw [hga]
  clear hga
  refine (rawS v' m f' W2 R2'.out hm).mono ?_
  rintro e w3 ⟨rfl, hb3⟩
  obtain ⟨B, eB⟩ : ∃ z, st f' m = z := ⟨_, rfl⟩
  rw [eB] at HB HE
  rw [eB]
  clear eB
  have s3 := sv25k (new25k w3) B
  have B3 := hid ((new25k w3).over B)
  have C2 := hid ((B2.out.below hb3).past (.cells #[Value.int .u64 0, .int .u64 0, .int .u64 0, .int .u64 0, .int .u64 0, .int .u64 0, .int .u64 0, .int .u64 0, .int .u64 0, .int .u64 0, .int .u64 0, .int .u64 0, .int .u64 0, .int .u64 0, .int .u64 0, .int .u64 0, .int .u64 0, .int .u64 0, .int .u64 0, .int .u64 0, .int .u64 0, .int .u64 0, .int .u64 0, .int .u64 0, .int .u64 0] 29) (wl 25 B))
  have BE3 := hid (below_new (below_next BE2.out hb3) rfl (.cells #[Value.int .u64 0, .int .u64 0, .int .u64 0, .int .u64 0, .int .u64 0, .int .u64 0, .int .u64 0, .int .u64 0, .int .u64 0, .int .u64 0, .int .u64 0, .int .u64 0, .int .u64 0, .int .u64 0, .int .u64 0, .int .u64 0, .int .u64 0, .int .u64 0, .int .u64 0, .int .u64 0, .int .u64 0, .int .u64 0, .int .u64 0, .int .u64 0, .int .u64 0] 29) (wl 25 B))
  clear hb3 R2' B2 BE2
  go_wp2_with fail
  obtain ⟨W3, hW3⟩ : ∃ z, World.setCells (w3.alloc (.cells #[Value.int .u64 0, .int .u64 0, .int .u64 0, .int .u64 0, .int .u64 0, .int .u64 0, .int .u64 0, .int .u64 0, .int .u64 0, .int .u64 0, .int .u64 0, .int .u64 0, .int .u64 0, .int .u64 0, .int .u64 0, .int .u64 0, .int .u64 0, .int .u64 0, .int .u64 0, .int .u64 0, .int .u64 0, .int .u64 0, .int .u64 0, .int .u64 0, .int .u64 0] 29)) w3.heap.size 0 (wl 25 B) = z := ⟨_, rfl⟩
  rw [hW3] at B3 C2 BE3
  rw [hW3]
  clear hW3 s3
  obtain ⟨gb, hgb⟩ : ∃ z, w3.heap.size = z := ⟨_, rfl⟩
  rw [hgb] at B3
  rw [hgb]
  clear hgb
  refine (new9 W3).mono ?_
  rintro e w4 ⟨rfl, hl4, hb4⟩
  have A4 := hid (C2.out.below hb4)
  have B4 := hid (B3.out.below hb4)
  have L4 := hid hl4
  have Z4 := hid BE3.out.size
  have BE4 := hid (below_next BE3.out hb4)
  clear hl4 hb4 B3 C2 BE3
  obtain ⟨l1, hl1⟩ : ∃ z, W3.heap.size = z := ⟨_, rfl⟩
  rw [hl1] at L4 Z4
  rw [hl1]
  clear hl1
  go_wp2_with fail
  refine (new9 w4).mono ?_
  rintro e w5 ⟨rfl, hl5, hb5⟩
  have A5 := hid (A4.out.below hb5)
  have B5 := hid (B4.out.below hb5)
  have L5 := hid (Led.below L4.out hb5)
  have M5 := hid hl5
  have Z5 : Hid (l1 < w4.heap.size ∧ w.heap.size ≤ w4.heap.size) := ⟨L4.out.lt, BE4.out.size⟩
  have BE5 := hid (below_next BE4.out hb5)
  clear hl5 hb5 A4 B4 L4 BE4
  obtain ⟨l2, hl2⟩ : ∃ z, w4.heap.size = z := ⟨_, rfl⟩
  rw [hl2] at M5 Z5
  rw [hl2]
  clear hl2
  have q5 := ld25k A5.out
  go_wp2_with fail
  have z1 := hlt.out
  have z2 := Z4.out
  have z3 := Z5.out
  refine (permuteF l1 w5 A HA.out L5.out (HK.out.below BE5.out) (by omega) (by omega)).mono ?_
  rintro e w6 ⟨rfl, ⟨r1, hl6, ho6⟩, hp6⟩
  have A6 := A5.out.kept hp6 (fun e => A5.out.ne (show Blk w5 l1 _ _ from L5.out.here) (by decide) e)
  have B6 := B5.out.kept hp6 (fun e => B5.out.ne (show Blk w5 l1 _ _ from L5.out.here) (by decide) e)
  have M6 := Led.kept M5.out hp6 (by omega) (fun g hg => by simp [Value.ownBlock] at hg)
  have BE6 := BE5.out.trans (hp6.below (B := w.heap.size) BE5.out.size (fun k hk e => by omega))
  have O6 : Hid (∀ g, r1.ownBlock = some g → g ≠ l2) := fun g hg e => by
    have := M5.out.lt
    have := ho6 g hg (by omega)
    omega
  have s6 := sv25k (new25k w6) (perm A)
  have X7 := hid ((new25k w6).over (perm A))
  have A7 := hid (A6.past (.cells #[Value.int .u64 0, .int .u64 0, .int .u64 0, .int .u64 0, .int .u64 0, .int .u64 0, .int .u64 0, .int .u64 0, .int .u64 0, .int .u64 0, .int .u64 0, .int .u64 0, .int .u64 0, .int .u64 0, .int .u64 0, .int .u64 0, .int .u64 0, .int .u64 0, .int .u64 0, .int .u64 0, .int .u64 0, .int .u64 0, .int .u64 0, .int .u64 0, .int .u64 0] 29) (wl 25 (perm A)))
  have B7 := hid (B6.past (.cells #[Value.int .u64 0, .int .u64 0, .int .u64 0, .int .u64 0, .int .u64 0, .int .u64 0, .int .u64 0, .int .u64 0, .int .u64 0, .int .u64 0, .int .u64 0, .int .u64 0, .int .u64 0, .int .u64 0, .int .u64 0, .int .u64 0, .int .u64 0, .int .u64 0, .int .u64 0, .int .u64 0, .int .u64 0, .int .u64 0, .int .u64 0, .int .u64 0, .int .u64 0] 29) (wl 25 (perm A)))
  have L7 := hid (Led.past hl6 (wl 25 (fun _ => 0)) (wl 25 (perm A)) 29 (by decide) (by decide))
  have M7 := hid (Led.past M6 (wl 25 (fun _ => 0)) (wl 25 (perm A)) 29 (by decide) (by decide))
  have BE7 := hid (below_new BE6 rfl (.cells #[Value.int .u64 0, .int .u64 0, .int .u64 0, .int .u64 0, .int .u64 0, .int .u64 0, .int .u64 0, .int .u64 0, .int .u64 0, .int .u64 0, .int .u64 0, .int .u64 0, .int .u64 0, .int .u64 0, .int .u64 0, .int .u64 0, .int .u64 0, .int .u64 0, .int .u64 0, .int .u64 0, .int .u64 0, .int .u64 0, .int .u64 0, .int .u64 0, .int .u64 0] 29) (wl 25 (perm A)))
  rw [← z25] at L7 M7
  clear hl6 ho6 hp6 A6 B6 M6 BE6 A5 B5 L5 M5 BE5 q5
  have q7 := ld25k B7.out
  go_wp2_with fail
  obtain ⟨W7, hW7⟩ : ∃ z, World.setCells (w6.alloc (.cells #[Value.int .u64 0, .int .u64 0, .int .u64 0, .int .u64 0, .int .u64 0, .int .u64 0, .int .u64 0, .int .u64 0, .int .u64 0, .int .u64 0, .int .u64 0, .int .u64 0, .int .u64 0, .int .u64 0, .int .u64 0, .int .u64 0, .int .u64 0, .int .u64 0, .int .u64 0, .int .u64 0, .int .u64 0, .int .u64 0, .int .u64 0, .int .u64 0, .int .u64 0] 29)) w6.heap.size 0 (wl 25 (perm A)) = z := ⟨_, rfl⟩
  rw [hW7] at X7 A7 B7 L7 M7 BE7
  rw [hW7]
  clear hW7 s6 q7
  obtain ⟨gx, hgx⟩ : ∃ z, w6.heap.size = z := ⟨_, rfl⟩
  rw [hgx] at X7
  rw [hgx]
  clear hgx
  refine (permuteF l2 W7 B HB.out M7.out (HK.out.below BE7.out) (by omega) (by omega)).mono ?_
  rintro e w8 ⟨rfl, ⟨r2, hl8, ho8⟩, hp8⟩
  have A8 := A7.out.kept hp8 (fun e => A7.out.ne (show Blk W7 l2 _ _ from M7.out.here) (by decide) e)
  have B8 := B7.out.kept hp8 (fun e => B7.out.ne (show Blk W7 l2 _ _ from M7.out.here) (by decide) e)
  have X8 := X7.out.kept hp8 (fun e => X7.out.ne (show Blk W7 l2 _ _ from M7.out.here) (by decide) e)
  have L8 := Led.kept L7.out hp8 (by omega) (fun g hg e => O6.out g hg e)
  have BE8 := BE7.out.trans (hp8.below (B := w.heap.size) BE7.out.size (fun k hk e => by omega))
  have s8 := sv25k (new25k w8) (perm B)
  have Y9 := hid ((new25k w8).over (perm B))
  have A9 := hid (A8.past (.cells #[Value.int .u64 0, .int .u64 0, .int .u64 0, .int .u64 0, .int .u64 0, .int .u64 0, .int .u64 0, .int .u64 0, .int .u64 0, .int .u64 0, .int .u64 0, .int .u64 0, .int .u64 0, .int .u64 0, .int .u64 0, .int .u64 0, .int .u64 0, .int .u64 0, .int .u64 0, .int .u64 0, .int .u64 0, .int .u64 0, .int .u64 0, .int .u64 0, .int .u64 0] 29) (wl 25 (perm B)))
  have B9 := hid (B8.past (.cells #[Value.int .u64 0, .int .u64 0, .int .u64 0, .int .u64 0, .int .u64 0, .int .u64 0, .int .u64 0, .int .u64 0, .int .u64 0, .int .u64 0, .int .u64 0, .int .u64 0, .int .u64 0, .int .u64 0, .int .u64 0, .int .u64 0, .int .u64 0, .int .u64 0, .int .u64 0, .int .u64 0, .int .u64 0, .int .u64 0, .int .u64 0, .int .u64 0, .int .u64 0] 29) (wl 25 (perm B)))
  have X9 := hid (X8.past (.cells #[Value.int .u64 0, .int .u64 0, .int .u64 0, .int .u64 0, .int .u64 0, .int .u64 0, .int .u64 0, .int .u64 0, .int .u64 0, .int .u64 0, .int .u64 0, .int .u64 0, .int .u64 0, .int .u64 0, .int .u64 0, .int .u64 0, .int .u64 0, .int .u64 0, .int .u64 0, .int .u64 0, .int .u64 0, .int .u64 0, .int .u64 0, .int .u64 0, .int .u64 0] 29) (wl 25 (perm B)))
  have L9 := hid (Led.past L8 (wl 25 (fun _ => 0)) (wl 25 (perm B)) 29 (by decide) (by decide))
  have M9 := hid (Led.past hl8 (wl 25 (fun _ => 0)) (wl 25 (perm B)) 29 (by decide) (by decide))
  have BE9 := hid (below_new BE8 rfl (.cells #[Value.int .u64 0, .int .u64 0, .int .u64 0, .int .u64 0, .int .u64 0, .int .u64 0, .int .u64 0, .int .u64 0, .int .u64 0, .int .u64 0, .int .u64 0, .int .u64 0, .int .u64 0, .int .u64 0, .int .u64 0, .int .u64 0, .int .u64 0, .int .u64 0, .int .u64 0, .int .u64 0, .int .u64 0, .int .u64 0, .int .u64 0, .int .u64 0, .int .u64 0] 29) (wl 25 (perm B)))
  rw [← z25] at L9 M9
  clear hl8 ho8 hp8 A8 B8 X8 L8 BE8 A7 B7 X7 L7 M7 BE7 O6
  go_wp2_with fail
  obtain ⟨W9, hW9⟩ : ∃ z, World.setCells (w8.alloc (.cells #[Value.int .u64 0, .int .u64 0, .int .u64 0, .int .u64 0, .int .u64 0, .int .u64 0, .int .u64 0, .int .u64 0, .int .u64 0, .int .u64 0, .int .u64 0, .int .u64 0, .int .u64 0, .int .u64 0, .int .u64 0, .int .u64 0, .int .u64 0, .int .u64 0, .int .u64 0, .int .u64 0, .int .u64 0, .int .u64 0, .int .u64 0, .int .u64 0, .int .u64 0] 29)) w8.heap.size 0 (wl 25 (perm B)) = z := ⟨_, rfl⟩
  rw [hW9] at Y9 X9 A9 B9 L9 M9 BE9
  rw [hW9]
  clear hW9 s8
  obtain ⟨gy, hgy⟩ : ∃ z, w8.heap.size = z := ⟨_, rfl⟩
  rw [hgy] at Y9
  rw [hgy]
  clear hgy
  have HPA := hid (perm_w HA.out)
  have HPB := hid (perm_w HB.out)
  have q1 : Hid (∀ W, (Op.equalIn 10000 29 (.agg (wl 25 (perm A)).toArray) (.agg (wl 25 (perm B)).toArray)).run Tryd.prog W = .ok (eq25 A B) W) := fun W => by rw [sameK, apart_perm HA.out HB.out HE.out]
  have q2 : Hid (∀ W, (Op.equalIn 10000 29 (.agg (wl 25 A).toArray) (.agg (wl 25 B).toArray)).run Tryd.prog W = .ok (eq25 A B) W) := fun W => sameK A B W
  have q3 : Hid (∀ W, (Op.equalIn 10000 39 (.agg (bl 200 (bf A)).toArray) (.agg (bl 200 (bf B)).toArray)).run Tryd.prog W = .ok (eq25 A B) W) := fun W => by rw [same200, apart_bytes HA.out HB.out]
  have q4 : Hid (∀ W, (Op.equalIn 10000 29 (.agg (wl 25 (perm A)).toArray) (.agg (wl 25 (perm A)).toArray)).run Tryd.prog W = .ok true W) := fun W => by rw [sameK, eq25_true (fun _ _ => rfl)]
  have q5 : Hid (∀ W, (Op.equalIn 10000 39 (.agg (bl 200 (bf (perm B))).toArray) (.agg (bl 200 (bf (perm B))).toArray)).run Tryd.prog W = .ok true W) := fun W => by rw [same200, eq200_true (fun _ _ => rfl)]
  have CA : Hid (∀ W, Calls Tryd.prog 16 #[.agg (wl 25 A).toArray] W fun e w' => e = .returned (.agg (bl 200 (bf A)).toArray) ∧ Below W.heap.size W w') := fun W => bytes1 A HA.out W
  have CB : Hid (∀ W, Calls Tryd.prog 16 #[.agg (wl 25 B).toArray] W fun e w' => e = .returned (.agg (bl 200 (bf B)).toArray) ∧ Below W.heap.size W w') := fun W => bytes1 B HB.out W
  have CX : Hid (∀ W, Calls Tryd.prog 16 #[.agg (wl 25 (perm A)).toArray] W fun e w' => e = .returned (.agg (bl 200 (bf (perm A))).toArray) ∧ Below W.heap.size W w') := fun W => bytes1 _ HPA.out W
  have CY : Hid (∀ W, Calls Tryd.prog 16 #[.agg (wl 25 (perm B)).toArray] W fun e w' => e = .returned (.agg (bl 200 (bf (perm B))).toArray) ∧ Below W.heap.size W w') := fun W => bytes1 _ HPB.out W
  have FX : Hid (∀ W, Calls Tryd.prog 17 #[.agg (bl 200 (bf (perm A))).toArray] W fun e w' => e = .returned (.agg (wl 25 (perm A)).toArray) ∧ Below W.heap.size W w') := fun W => by
    have h := from1 (bf (perm A)) (bf_b _) W
    rwa [show wl 25 (fl (bf (perm A))) = wl 25 (perm A) from wl_congr 25 _ _ (fun i _ => fl_bf HPA.out i)] at h
  have FY : Hid (∀ W, Calls Tryd.prog 17 #[.agg (bl 200 (bf (perm B))).toArray] W fun e w' => e = .returned (.agg (wl 25 (perm B)).toArray) ∧ Below W.heap.size W w') := fun W => by
    have h := from1 (bf (perm B)) (bf_b _) W
    rwa [show wl 25 (fl (bf (perm B))) = wl 25 (perm B) from wl_congr 25 _ _ (fun i _ => fl_bf HPB.out i)] at h
  have PA : Hid (∀ W, KT W → Calls Tryd.prog 9 #[.pointer none, .agg (wl 25 A).toArray] W fun e w' => e = .returned (.agg (wl 25 (perm A)).toArray) ∧ Below W.heap.size W w') := fun W h => permuteN A HA.out W h
  have NA : Hid ((wl 25 A).length = 25 ∧ (wl 25 B).length = 25 ∧ (wl 25 (perm A)).length = 25 ∧ (wl 25 (perm B)).length = 25) := ⟨wl_length _ _, wl_length _ _, wl_length _ _, wl_length _ _⟩
  generalize eq25 A B = q at *
  clear HPA HPB HA HB HE
  obtain ⟨la, e1⟩ : ∃ z, wl 25 A = z := ⟨_, rfl⟩
  obtain ⟨lb, e2⟩ : ∃ z, wl 25 B = z := ⟨_, rfl⟩
  obtain ⟨lx, e3⟩ : ∃ z, wl 25 (perm A) = z := ⟨_, rfl⟩
  obtain ⟨ly, e4⟩ : ∃ z, wl 25 (perm B) = z := ⟨_, rfl⟩
  obtain ⟨ma, e5⟩ : ∃ z, bl 200 (bf A) = z := ⟨_, rfl⟩
  obtain ⟨mb, e6⟩ : ∃ z, bl 200 (bf B) = z := ⟨_, rfl⟩
  obtain ⟨mx, e7⟩ : ∃ z, bl 200 (bf (perm A)) = z := ⟨_, rfl⟩
  obtain ⟨my, e8⟩ : ∃ z, bl 200 (bf (perm B)) = z := ⟨_, rfl⟩
  rw [e1] at A9 q2 CA PA NA
  rw [e2] at B9 q2 CB NA
  rw [e3] at X9 q1 q4 CX FX PA NA
  rw [e4] at Y9 q1 CY FY NA
  rw [e5] at q3 CA
  rw [e6] at q3 CB
  rw [e7] at CX FX
  rw [e8] at q5 CY FY
  rw [e1, e2, e3, e4]
  clear e1 e2 e3 e4 e5 e6 e7 e8
  have HLD : Hid (∀ V, Below W9.heap.size W9 V → (LDk ⟨ga, 0, none⟩).run Tryd.prog V = .ok (.agg la.toArray) V ∧ (LDk ⟨gb, 0, none⟩).run Tryd.prog V = .ok (.agg lb.toArray) V ∧ (LDk ⟨gx, 0, none⟩).run Tryd.prog V = .ok (.agg lx.toArray) V ∧ (LDk ⟨gy, 0, none⟩).run Tryd.prog V = .ok (.agg ly.toArray) V) := fun V h => ⟨LDk_run ((A9.out.below h).range 0 _ (fun j v h => by rw [Nat.zero_add]; exact h)) NA.out.1, LDk_run ((B9.out.below h).range 0 _ (fun j v h => by rw [Nat.zero_add]; exact h)) NA.out.2.1, LDk_run ((X9.out.below h).range 0 _ (fun j v h => by rw [Nat.zero_add]; exact h)) NA.out.2.2.1, LDk_run ((Y9.out.below h).range 0 _ (fun j v h => by rw [Nat.zero_add]; exact h)) NA.out.2.2.2⟩
  have p1 := q1.out
  have p2 := q2.out
  have p3 := q3.out
  have p4 := q4.out
  have p5 := q5.out
  refine wp_region_quiet (C := fun V => Below W9.heap.size W9 V) (by kernel_rfl) (by kernel_rfl) (below_drewN W9 1) ?_
  refine BigFrame.wpQuiet_want (by rfl) (fun K hK => ?_)
  refine ⟨.agg lx.toArray, fun V hV => ?_, hK _ ?_⟩
  · clear hK K
    obtain ⟨x1, x2, x3, x4⟩ := HLD.out V hV
    go_simp
  clear hK K
  simp only [Act.put, List.setIfInBounds_toArray, List.set_cons_zero, List.set_cons_succ]
  refine BigFrame.wpQuiet_want (by rfl) (fun K hK => ?_)
  refine ⟨.agg ly.toArray, fun V hV => ?_, hK _ ?_⟩
  · clear hK K
    obtain ⟨x1, x2, x3, x4⟩ := HLD.out V hV
    go_simp
  clear hK K
  simp only [Act.put, List.setIfInBounds_toArray, List.set_cons_zero, List.set_cons_succ]
  refine BigFrame.wpQuiet_want (by rfl) (fun K hK => ?_)
  refine ⟨.bool q, fun V hV => ?_, hK _ ?_⟩
  · clear hK K
    go_simp
  clear hK K
  simp only [Act.put, List.setIfInBounds_toArray, List.set_cons_zero, List.set_cons_succ]
  refine BigFrame.wpQuiet_want (by rfl) (fun K hK => ?_)
  refine ⟨.agg la.toArray, fun V hV => ?_, hK _ ?_⟩
  · clear hK K
    obtain ⟨x1, x2, x3, x4⟩ := HLD.out V hV
    go_simp
  clear hK K
  simp only [Act.put, List.setIfInBounds_toArray, List.set_cons_zero, List.set_cons_succ]
  refine BigFrame.wpQuiet_want (by rfl) (fun K hK => ?_)
  refine ⟨.agg lb.toArray, fun V hV => ?_, hK _ ?_⟩
  · clear hK K
    obtain ⟨x1, x2, x3, x4⟩ := HLD.out V hV
    go_simp
  clear hK K
  simp only [Act.put, List.setIfInBounds_toArray, List.set_cons_zero, List.set_cons_succ]
  refine BigFrame.wpQuiet_want (by rfl) (fun K hK => ?_)
  refine ⟨.bool q, fun V hV => ?_, hK _ ?_⟩
  · clear hK K
    go_simp
  clear hK K
  simp only [Act.put, List.setIfInBounds_toArray, List.set_cons_zero, List.set_cons_succ]
  refine BigFrame.wpQuiet_want (by rfl) (fun K hK => ?_)
  refine ⟨.bool false, fun V hV => ?_, hK _ ?_⟩
  · clear hK K
    go_simp
  clear hK K
  simp only [Act.put, List.setIfInBounds_toArray, List.set_cons_zero, List.set_cons_succ]
  refine BigFrame.wpQuiet_want (by rfl) (fun K hK => ?_)
  refine ⟨.bool false, fun V hV => ?_, hK _ ?_⟩
  · clear hK K
    go_simp
  clear hK K
  simp only [Act.put, List.setIfInBounds_toArray, List.set_cons_zero, List.set_cons_succ]
  refine BigFrame.wpQuiet_want (by rfl) (fun K hK => ?_)
  refine ⟨.agg la.toArray, fun V hV => ?_, hK _ ?_⟩
  · clear hK K
    obtain ⟨x1, x2, x3, x4⟩ := HLD.out V hV
    go_simp
  clear hK K
  simp only [Act.put, List.setIfInBounds_toArray, List.set_cons_zero, List.set_cons_succ]
  refine BigFrame.wpQuiet_want (by rfl) (fun K hK => ?_)
  refine ⟨.agg ma.toArray, fun V hV => ?_, hK _ ?_⟩
  · clear hK K
    go_simp
    refine (CA.out V).mono ?_
    rintro e V' ⟨rfl, hb⟩
    exact ⟨rfl, below_next hV hb⟩
  clear hK K
  simp only [Act.put, List.setIfInBounds_toArray, List.set_cons_zero, List.set_cons_succ]
  refine BigFrame.wpQuiet_want (by rfl) (fun K hK => ?_)
  refine ⟨.agg lb.toArray, fun V hV => ?_, hK _ ?_⟩
  · clear hK K
    obtain ⟨x1, x2, x3, x4⟩ := HLD.out V hV
    go_simp
  clear hK K
  simp only [Act.put, List.setIfInBounds_toArray, List.set_cons_zero, List.set_cons_succ]
  refine BigFrame.wpQuiet_want (by rfl) (fun K hK => ?_)
  refine ⟨.agg mb.toArray, fun V hV => ?_, hK _ ?_⟩
  · clear hK K
    go_simp
    refine (CB.out V).mono ?_
    rintro e V' ⟨rfl, hb⟩
    exact ⟨rfl, below_next hV hb⟩
  clear hK K
  simp only [Act.put, List.setIfInBounds_toArray, List.set_cons_zero, List.set_cons_succ]
  refine BigFrame.wpQuiet_want (by rfl) (fun K hK => ?_)
  refine ⟨.bool q, fun V hV => ?_, hK _ ?_⟩
  · clear hK K
    go_simp
  clear hK K
  simp only [Act.put, List.setIfInBounds_toArray, List.set_cons_zero, List.set_cons_succ]
  refine BigFrame.wpQuiet_want (by rfl) (fun K hK => ?_)
  refine ⟨.agg la.toArray, fun V hV => ?_, hK _ ?_⟩
  · clear hK K
    obtain ⟨x1, x2, x3, x4⟩ := HLD.out V hV
    go_simp
  clear hK K
  simp only [Act.put, List.setIfInBounds_toArray, List.set_cons_zero, List.set_cons_succ]
  refine BigFrame.wpQuiet_want (by rfl) (fun K hK => ?_)
  refine ⟨.agg lb.toArray, fun V hV => ?_, hK _ ?_⟩
  · clear hK K
    obtain ⟨x1, x2, x3, x4⟩ := HLD.out V hV
    go_simp
  clear hK K
  simp only [Act.put, List.setIfInBounds_toArray, List.set_cons_zero, List.set_cons_succ]
  refine BigFrame.wpQuiet_want (by rfl) (fun K hK => ?_)
  refine ⟨.bool q, fun V hV => ?_, hK _ ?_⟩
  · clear hK K
    go_simp
  clear hK K
  simp only [Act.put, List.setIfInBounds_toArray, List.set_cons_zero, List.set_cons_succ]
  refine BigFrame.wpQuiet_want (by rfl) (fun K hK => ?_)
  refine ⟨.bool false, fun V hV => ?_, hK _ ?_⟩
  · clear hK K
    go_simp
  clear hK K
  simp only [Act.put, List.setIfInBounds_toArray, List.set_cons_zero, List.set_cons_succ]
  refine BigFrame.wpQuiet_want (by rfl) (fun K hK => ?_)
  refine ⟨.bool false, fun V hV => ?_, hK _ ?_⟩
  · clear hK K
    go_simp
  clear hK K
  simp only [Act.put, List.setIfInBounds_toArray, List.set_cons_zero, List.set_cons_succ]
  refine BigFrame.wpQuiet_want (by rfl) (fun K hK => ?_)
  refine ⟨.bool false, fun V hV => ?_, hK _ ?_⟩
  · clear hK K
    go_simp
  clear hK K
  simp only [Act.put, List.setIfInBounds_toArray, List.set_cons_zero, List.set_cons_succ]
  refine BigFrame.wpQuiet_want (by rfl) (fun K hK => ?_)
  refine ⟨.agg lx.toArray, fun V hV => ?_, hK _ ?_⟩
  · clear hK K
    obtain ⟨x1, x2, x3, x4⟩ := HLD.out V hV
    go_simp
  clear hK K
  simp only [Act.put, List.setIfInBounds_toArray, List.set_cons_zero, List.set_cons_succ]
  refine BigFrame.wpQuiet_want (by rfl) (fun K hK => ?_)
  refine ⟨.agg mx.toArray, fun V hV => ?_, hK _ ?_⟩
  · clear hK K
    go_simp
    refine (CX.out V).mono ?_
    rintro e V' ⟨rfl, hb⟩
    exact ⟨rfl, below_next hV hb⟩
  clear hK K
  simp only [Act.put, List.setIfInBounds_toArray, List.set_cons_zero, List.set_cons_succ]
  refine BigFrame.wpQuiet_want (by rfl) (fun K hK => ?_)
  refine ⟨.agg lx.toArray, fun V hV => ?_, hK _ ?_⟩
  · clear hK K
    go_simp
    refine (FX.out V).mono ?_
    rintro e V' ⟨rfl, hb⟩
    exact ⟨rfl, below_next hV hb⟩
  clear hK K
  simp only [Act.put, List.setIfInBounds_toArray, List.set_cons_zero, List.set_cons_succ]
  refine BigFrame.wpQuiet_want (by rfl) (fun K hK => ?_)
  refine ⟨.agg lx.toArray, fun V hV => ?_, hK _ ?_⟩
  · clear hK K
    obtain ⟨x1, x2, x3, x4⟩ := HLD.out V hV
    go_simp
  clear hK K
  simp only [Act.put, List.setIfInBounds_toArray, List.set_cons_zero, List.set_cons_succ]
  refine BigFrame.wpQuiet_want (by rfl) (fun K hK => ?_)
  refine ⟨.bool false, fun V hV => ?_, hK _ ?_⟩
  · clear hK K
    go_simp
  clear hK K
  simp only [Act.put, List.setIfInBounds_toArray, List.set_cons_zero, List.set_cons_succ]
  refine BigFrame.wpQuiet_want (by rfl) (fun K hK => ?_)
  refine ⟨.bool false, fun V hV => ?_, hK _ ?_⟩
  · clear hK K
    go_simp
  clear hK K
  simp only [Act.put, List.setIfInBounds_toArray, List.set_cons_zero, List.set_cons_succ]
  refine BigFrame.wpQuiet_want (by rfl) (fun K hK => ?_)
  refine ⟨.bool false, fun V hV => ?_, hK _ ?_⟩
  · clear hK K
    go_simp
  clear hK K
  simp only [Act.put, List.setIfInBounds_toArray, List.set_cons_zero, List.set_cons_succ]
  refine BigFrame.wpQuiet_want (by rfl) (fun K hK => ?_)
  refine ⟨.agg ly.toArray, fun V hV => ?_, hK _ ?_⟩
  · clear hK K
    obtain ⟨x1, x2, x3, x4⟩ := HLD.out V hV
    go_simp
  clear hK K
  simp only [Act.put, List.setIfInBounds_toArray, List.set_cons_zero, List.set_cons_succ]
  refine BigFrame.wpQuiet_want (by rfl) (fun K hK => ?_)
  refine ⟨.agg my.toArray, fun V hV => ?_, hK _ ?_⟩
  · clear hK K
    go_simp
    refine (CY.out V).mono ?_
    rintro e V' ⟨rfl, hb⟩
    exact ⟨rfl, below_next hV hb⟩
  clear hK K
  simp only [Act.put, List.setIfInBounds_toArray, List.set_cons_zero, List.set_cons_succ]
  refine BigFrame.wpQuiet_want (by rfl) (fun K hK => ?_)
  refine ⟨.agg ly.toArray, fun V hV => ?_, hK _ ?_⟩
  · clear hK K
    go_simp
    refine (FY.out V).mono ?_
    rintro e V' ⟨rfl, hb⟩
    exact ⟨rfl, below_next hV hb⟩
  clear hK K
  simp only [Act.put, List.setIfInBounds_toArray, List.set_cons_zero, List.set_cons_succ]
  refine BigFrame.wpQuiet_want (by rfl) (fun K hK => ?_)
  refine ⟨.agg my.toArray, fun V hV => ?_, hK _ ?_⟩
  · clear hK K
    go_simp
    refine (CY.out V).mono ?_
    rintro e V' ⟨rfl, hb⟩
    exact ⟨rfl, below_next hV hb⟩
  clear hK K
  simp only [Act.put, List.setIfInBounds_toArray, List.set_cons_zero, List.set_cons_succ]
  refine BigFrame.wpQuiet_want (by rfl) (fun K hK => ?_)
  refine ⟨.agg ly.toArray, fun V hV => ?_, hK _ ?_⟩
  · clear hK K
    obtain ⟨x1, x2, x3, x4⟩ := HLD.out V hV
    go_simp
  clear hK K
  simp only [Act.put, List.setIfInBounds_toArray, List.set_cons_zero, List.set_cons_succ]
  refine BigFrame.wpQuiet_want (by rfl) (fun K hK => ?_)
  refine ⟨.agg my.toArray, fun V hV => ?_, hK _ ?_⟩
  · clear hK K
    go_simp
    refine (CY.out V).mono ?_
    rintro e V' ⟨rfl, hb⟩
    exact ⟨rfl, below_next hV hb⟩
  clear hK K
  simp only [Act.put, List.setIfInBounds_toArray, List.set_cons_zero, List.set_cons_succ]
  refine BigFrame.wpQuiet_want (by rfl) (fun K hK => ?_)
  refine ⟨.bool false, fun V hV => ?_, hK _ ?_⟩
  · clear hK K
    go_simp
  clear hK K
  simp only [Act.put, List.setIfInBounds_toArray, List.set_cons_zero, List.set_cons_succ]
  refine BigFrame.wpQuiet_want (by rfl) (fun K hK => ?_)
  refine ⟨.bool false, fun V hV => ?_, hK _ ?_⟩
  · clear hK K
    go_simp
  clear hK K
  simp only [Act.put, List.setIfInBounds_toArray, List.set_cons_zero, List.set_cons_succ]
  refine wpQuiet_nil ?_
  intro W10 hb10
  have BE10 := hid (below_next BE9.out hb10)
  have HL : Hid (∀ V, Below W10.heap.size W10 V → Led V l1 r1 [⟨3, 200, 1⟩] ∧ Led V l2 r2 [⟨3, 200, 1⟩]) := fun V h => ⟨Led.below (Led.below L9.out hb10) h, Led.below (Led.below M9.out hb10) h⟩
  have HK2 : Hid (∀ V, Below W10.heap.size W10 V → KT V) := fun V h => HK.out.below (below_next BE10.out h)
  have HLE : Hid (∀ V, Below W10.heap.size W10 V → (LDk ⟨ga, 0, none⟩).run Tryd.prog V = .ok (.agg la.toArray) V ∧ (LDk ⟨gb, 0, none⟩).run Tryd.prog V = .ok (.agg lb.toArray) V ∧ (LDk ⟨gx, 0, none⟩).run Tryd.prog V = .ok (.agg lx.toArray) V ∧ (LDk ⟨gy, 0, none⟩).run Tryd.prog V = .ok (.agg ly.toArray) V) := fun V h => HLD.out V (below_next hb10 h)
  have SM : Hid (∀ (a b : Value) (W : World), Go.Proofs.YtofikebacahnjaaDoor.RB W a [⟨3, 200, 1⟩] → Go.Proofs.YtofikebacahnjaaDoor.RB W b [⟨3, 200, 1⟩] → Calls Tryd.prog 11 #[a, b] W fun e w' => e = .returned (.bool true) ∧ ∃ d, w' = W.drewN d) := fun a b W ha hb => by
    have h := same14 a b _ _ W ha hb (by decide) (by decide)
    rwa [decide_eq_true rfl] at h
  have RO : Hid (∀ W, Calls Tryd.prog 13 #[.int .i64 1] W fun e w' => ∃ v, e = .returned v ∧ Go.Proofs.YtofikebacahnjaaDoor.Own w' W.heap.size v [⟨3, 200, 1⟩] ∧ Below W.heap.size W w') := fun W => by
    have h := runs1 1 (by omega) W
    rwa [ev_one] at h
  have bd : Below W10.heap.size W10 W10.drew := below_drewN W10 1
  clear hb10 A9 B9 X9 Y9 L9 M9 q1 q2 q3 q4 q5 CA CB CX CY FX FY HLD p1 p2 p3 p5 NA z1 z2 z3
  go_wp2_with fail
  go_region_with (first
    | (go_at_call 12; go_must (first
      | (with_reducible refine (runs22 l2 r2 _ _ (HL.out _ (by with_reducible assumption)).2 (by decide)).mono ?_; rintro e w7 ⟨v7, rfl, ho7, hb7⟩; have R7 := hid ho7.reads; have R6' := hid (R6.out.below hb7); have hc7 := below_next (w := W10) (by with_reducible assumption) hb7; clear ho7 hb7)
      | (have hs := S8; with_reducible refine (runs22 l1 r1 _ _ (HL.out _ (by with_reducible assumption)).1 (by decide)).mono ?_; rintro e w9 ⟨v9, rfl, ho9, hb9⟩; have R9 := hid ho9.reads; have hc9 := below_next (w := W10) (by with_reducible assumption) hb9; clear ho9 hb9)
      | (with_reducible refine (runs22 l1 r1 _ _ (HL.out _ (by with_reducible assumption)).1 (by decide)).mono ?_; rintro e w6 ⟨v6, rfl, ho6, hb6⟩; have R6 := hid ho6.reads; have hc6 := below_next (w := W10) (by with_reducible assumption) hb6; clear ho6 hb6)))
    | (go_at_call 13; go_must (with_reducible refine (RO.out _).mono ?_; rintro e w11 ⟨v11, rfl, ho11, hb11⟩; have R11 := hid ho11.reads; have R9' := hid (R9.out.below hb11); have hc11 := below_next (w := W10) (by with_reducible assumption) hb11; clear ho11 hb11))
    | (go_at_call 11; go_must (first
      | (with_reducible refine (SM.out v9 v11 _ R9'.out R11.out).mono ?_; rintro e w12 ⟨rfl, d12, rfl⟩; have hc12 := below_drew' hc11 d12; obtain ⟨x1, x2, x3, x4⟩ := HLE.out _ hc12)
      | (with_reducible refine (SM.out v6 v7 _ R6'.out R7.out).mono ?_; rintro e w8 ⟨rfl, d8, rfl⟩; have hc8 := below_drew' hc7 d8; have S8 : True := trivial)))
    | (go_at_call 9; go_must (with_reducible refine (PA.out _ (HK2.out _ hc12)).mono ?_; rintro e w13 ⟨rfl, hb13⟩; have hc13 := below_next (w := W10) hc12 hb13; obtain ⟨x1', x2', x3', x4'⟩ := HLE.out _ hc13; clear hb13)))
  all_goals
    go_wp2
    go_ret
    exact ⟨rfl, below_next BE10.out hc13⟩
end Go.Proofs.YtofikebacahnjaaDoor.Kc
