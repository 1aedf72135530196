/- The walk of the statement KeccakKnown; Permute with a new ledger. -/
import Derived.Test.YtofikebacahnjaaDoorQawake
namespace Go.Proofs.YtofikebacahnjaaDoor.Kc
open Go.ChangeShapes Go.WideShapes Go.ChangeAt Go.RowKit
open Go.Proofs.YtofikebacahnjaaDoor.By Go.Proofs.YtofikebacahnjaaDoor.Wd
theorem put_one : putL [] ⟨3, 200, 1⟩ = [⟨3, 200, 1⟩] := by decide
theorem ev_one : ev 1 = [⟨3, 200, 1⟩] := by decide
/-- Permute with a ledger that nothing was recorded in. -/
theorem permuteF (lb : Nat) (W : World) (a : Nat → Int) (ha : AW a) (h : Led W lb (.slice none 0 0) []) (hk : KT W) (h0 : lb ≠ 0) (h1 : lb ≠ 1) :
    Calls Tryd.prog 9 #[.pointer (some ⟨lb, 0, none⟩), .agg (wl 25 a).toArray] W fun e w' => e = .returned (.agg (wl 25 (perm a)).toArray) ∧ (∃ rv, Led w' lb rv [⟨3, 200, 1⟩] ∧ ∀ g, rv.ownBlock = some g → g < W.heap.size → g = lb) ∧ Kp (fun k => k = lb) W w' := by
  refine (permute1 (fun k => k = lb) W W (some lb) [] a ha ⟨rfl, _, h, fun g hg _ => by simp [Value.ownBlock] at hg⟩ (Kp.refl _ _) ⟨by decide, by decide⟩ hk (fun e => h0 e.symm) (fun e => h1 e.symm)).mono ?_
  rintro e w' ⟨rfl, ⟨_, rv, hl, ho⟩, hp, _⟩
  rw [put_one] at hl
  exact ⟨rfl, ⟨rv, hl, ho⟩, hp⟩
theorem Led.past {W : World} {lb : Nat} {rv : Value} {L : List Rn} (h : Led W lb rv L) (cs vs : List Value) (t : TypeId) (h1 : t ≠ 45) (h2 : t ≠ 56) : Led ((W.alloc (.cells cs.toArray t)).setCells W.heap.size 0 vs) lb rv L := by
  have h' := Led.below h (below_alloc W (.cells cs.toArray t))
  have hn := led_apart h' (Blk.new W cs t) h1 h2
  exact Led.kept h' (Kp.setCells _ 0 _) (fun e => hn (.inl e.symm)) (fun g hg e => hn (.inr (by rw [hg, e])))
/-- Noughts, but the last byte. -/
def fz (i : Nat) : Int := if i = 199 then 128 else 0
theorem fz_b : BB fz := fun i => by
  unfold fz; split <;> omega
theorem fz_set : (bl 200 (fun _ => (0 : Int))).set 199 (.int .u8 128) = bl 200 fz := by
  rw [bl_set]; rfl
theorem fz_24 : fl fz 24 = 9223372036854775808 := by decide +kernel
theorem fz_0 : fl fz 0 = 0 := by decide +kernel
theorem bz (i : Nat) : bf z0 i = 0 := by
  unfold bf leByte z0; simp
theorem bz_same (W : World) : (Op.equalIn 10000 39 (.agg (bl 200 (bf z0)).toArray) (.agg zc200)).run Tryd.prog W = .ok true W := by
  have h := same200 (bf z0) (fun _ => 0) W
  rw [eq200_true (fun i _ => bz i)] at h
  exact h
theorem zc_set : zc200.setIfInBounds 199 (.int .u8 128) = (bl 200 fz).toArray := by
  rw [← fz_set]
  simp [zc200]
set_option maxRecDepth 4000 in
set_option maxHeartbeats 4000000 in
theorem known_walk (w : World) (hk : KT w) :
    Calls Tryd.prog 5 #[] w fun e w' => e = .returned (.bool true) ∧ Below w.heap.size w w' := by
  have HK := hid hk
  have hlt := hk.lt
  clear hk
  go_enter Tryd.func5, Tryd.ntmps5
  go_wp2_with fail
  refine (new9 w).mono ?_
  rintro e w1 ⟨rfl, hl1, hb1⟩
  have L1 := hid hl1
  have BE1 := hid hb1
  have K1 := hid (HK.out.below hb1)
  clear hl1 hb1
  go_wp2_with fail
  rw [z25z]
  obtain ⟨lb, hlb⟩ : ∃ z, w.heap.size = z := ⟨_, rfl⟩
  rw [hlb] at L1
  have HLB := hid hlb
  rw [hlb]
  refine (permuteF lb w1 z0 z0_w L1.out K1.out (by omega) (by omega)).mono ?_
  rintro e w2 ⟨rfl, ⟨rv, hl2, _⟩, hp2⟩
  have L2 := hid hl2
  have BE2 := hid (BE1.out.trans (hp2.below (B := w.heap.size) BE1.out.size (fun k hk e => by omega)))
  clear hl2 hp2 L1 BE1 K1 hlb
  have f1 := (new200 w2).cell 199 _ (bl_get 200 _ 199 (by omega))
  have f2 := (new200 w2).frozen 199
  have l2 : (LDb ⟨w2.heap.size, 0, none⟩).run Tryd.prog (w2.alloc (.cells (zc200.setIfInBounds 199 (.int .u8 128)) 39)) = .ok (.agg (bl 200 fz).toArray) (w2.alloc (.cells (zc200.setIfInBounds 199 (.int .u8 128)) 39)) := by
    rw [zc_set]; exact ld200 (Blk.new w2 (bl 200 fz) 39)
  go_wp2_with fail
  rw [zc_set]
  have L3 := hid (Led.below L2.out (below_alloc w2 (.cells (bl 200 fz).toArray 39)))
  have BE3 := hid (below_next BE2.out (below_alloc w2 (.cells (bl 200 fz).toArray 39)))
  clear f1 f2 L2 BE2 l2
  obtain ⟨W3, hW3⟩ : ∃ z, w2.alloc (.cells (bl 200 fz).toArray 39) = z := ⟨_, rfl⟩
  rw [hW3] at L3 BE3
  rw [hW3]
  clear hW3
  refine (from1 fz fz_b W3).mono ?_
  rintro e w4 ⟨rfl, hb4⟩
  have s4 := sv25k (new25k w4) (fl fz)
  have B4 := hid ((new25k w4).over (fl fz))
  have L4 := hid (Led.past (Led.below L3.out hb4) (wl 25 (fun _ => 0)) (wl 25 (fl fz)) 29 (by decide) (by decide))
  rw [← z25] at L4
  have BE4 := hid (below_new (below_next BE3.out hb4) rfl (.cells #[Value.int .u64 0, .int .u64 0, .int .u64 0, .int .u64 0, .int .u64 0, .int .u64 0, .int .u64 0, .int .u64 0, .int .u64 0, .int .u64 0, .int .u64 0, .int .u64 0, .int .u64 0, .int .u64 0, .int .u64 0, .int .u64 0, .int .u64 0, .int .u64 0, .int .u64 0, .int .u64 0, .int .u64 0, .int .u64 0, .int .u64 0, .int .u64 0, .int .u64 0] 29) (wl 25 (fl fz)))
  clear hb4 L3 BE3
  go_wp2_with fail
  obtain ⟨W4, hW4⟩ : ∃ z, World.setCells (w4.alloc (.cells #[Value.int .u64 0, .int .u64 0, .int .u64 0, .int .u64 0, .int .u64 0, .int .u64 0, .int .u64 0, .int .u64 0, .int .u64 0, .int .u64 0, .int .u64 0, .int .u64 0, .int .u64 0, .int .u64 0, .int .u64 0, .int .u64 0, .int .u64 0, .int .u64 0, .int .u64 0, .int .u64 0, .int .u64 0, .int .u64 0, .int .u64 0, .int .u64 0, .int .u64 0] 29)) w4.heap.size 0 (wl 25 (fl fz)) = z := ⟨_, rfl⟩
  rw [hW4] at B4 L4 BE4
  rw [hW4]
  clear hW4 s4
  obtain ⟨gs, hgs⟩ : ∃ z, w4.heap.size = z := ⟨_, rfl⟩
  rw [hgs] at B4
  rw [hgs]
  clear hgs
  refine (awake1 W4 (HK.out.below BE4.out)).mono ?_
  rintro e w5 ⟨rfl, hb5⟩
  have L5 := hid (Led.below L4.out hb5)
  have B5 := hid (B4.out.below hb5)
  have BE5 := hid (below_next BE4.out hb5)
  clear hb5 L4 B4 BE4
  go_wp2_with fail
  refine (runs22 lb rv _ w5 L5.out (by decide)).mono ?_
  rintro e w6 ⟨v6, rfl, ho6, hb6⟩
  have R6 := hid ho6.reads
  have B6 := hid (B5.out.below hb6)
  have BE6 := hid (below_next BE5.out hb6)
  clear ho6 hb6 L5 B5 BE5
  go_wp2_with fail
  refine (runs1 1 (by omega) w6).mono ?_
  rintro e w7 ⟨v7, rfl, ho7, hb7⟩
  have R7 := hid ho7.reads
  have R6' := hid (R6.out.below hb7)
  have B7 := hid (B6.out.below hb7)
  have BE7 := hid (below_next BE6.out hb7)
  clear ho7 hb7 B6 BE6
  go_wp2_with fail
  refine (same14 _ _ _ _ _ R6'.out R7.out (by decide) (by decide)).mono ?_
  rintro e w8 ⟨rfl, d, rfl⟩
  rw [ev_one, decide_eq_true rfl]
  have B8 := hid (B7.out.drewN d)
  have BE8 := hid (below_drew' BE7.out d)
  have c24 := B8.out.cell 24 (.int .u64 9223372036854775808) (by rw [wl_get 25 _ 24 (by omega), fz_24])
  have c0 := B8.out.cell 0 (.int .u64 0) (by rw [wl_get 25 _ 0 (by omega), fz_0])
  clear R6 R6' R7 B7 BE7
  go_wp2_with fail
  rw [z25z]
  refine (bytes1 z0 z0_w _).mono ?_
  rintro e w9 ⟨rfl, hb9⟩
  have BE9 := hid (below_next BE8.out hb9)
  clear hb9
  have e1 := bz_same w9
  go_wp2
  go_ret
  exact ⟨rfl, BE9.out⟩
end Go.Proofs.YtofikebacahnjaaDoor.Kc
