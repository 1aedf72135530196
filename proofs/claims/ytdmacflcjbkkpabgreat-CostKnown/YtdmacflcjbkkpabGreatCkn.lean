/- CostKnown's walk: the vault that is full. -/
import Derived.Test.YtdmacflcjbkkpabGreatCsp
import Derived.Test.YtdmacflcjbkkpabGreatChd
namespace Go.Proofs.YtdmacflcjbkkpabGreat.Co
open Go.ChangeShapes Go.WideShapes Go.ChangeAt Go.RowKit
open Go.Proofs.YtdmacflcjbkkpabGreat (RB Own same14 rl rl_get)
open Go.Proofs.YtdmacflcjbkkpabGreat.Ou (Sk sv sL zS)
open Go.Proofs.YtdmacflcjbkkpabGreat.Tb (Blk)
theorem fs_in (i : Nat) (hi : i < 8) : SkIn (fs i) := by
  match i, hi with
  | 0, _ => constructor <;> decide
  | 1, _ => constructor <;> decide
  | 2, _ => constructor <;> decide
  | 3, _ => constructor <;> decide
  | 4, _ => constructor <;> decide
  | 5, _ => constructor <;> decide
  | 6, _ => constructor <;> decide
  | 7, _ => constructor <;> decide
theorem kd0 (p gm gk : Nat) (V : World) (h : PU V p gm gk (QF 0)) : Calls Tryz.prog 5 #[.pointer (some ⟨p, 0, none⟩), .agg #[.int .u8 1, .int .i64 0, .int .u8 0, .int .i64 0, .int .i64 0, .int .i64 513, .int .i64 0]] V fun e w2 => ∃ v, e = .returned (.tuple #[v, .int .i64 7]) ∧ PU w2 p gm gk (QF 1) ∧ Kp (fun j => j = gm) V w2 := by
  have d := do_ok p gm gk (QF 0) (fs 0) V h (fs_in 0 (by omega)) (QF_ok 0) (QF_mg (by omega))
  rw [QF_c0] at d
  refine Calls.mono d ?_
  rintro e w2 ⟨v, he, ho, hp, hk⟩
  exact ⟨v, he, hp, hk⟩
theorem kd1 (p gm gk : Nat) (V : World) (h : PU V p gm gk (QF 1)) : Calls Tryz.prog 5 #[.pointer (some ⟨p, 0, none⟩), .agg #[.int .u8 1, .int .i64 0, .int .u8 0, .int .i64 0, .int .i64 0, .int .i64 512, .int .i64 0]] V fun e w2 => ∃ v, e = .returned (.tuple #[v, .int .i64 8]) ∧ PU w2 p gm gk (QF 2) ∧ Kp (fun j => j = gm) V w2 := by
  have d := do_ok p gm gk (QF 1) (fs 1) V h (fs_in 1 (by omega)) (QF_ok 1) (QF_mg (by omega))
  rw [QF_c1] at d
  refine Calls.mono d ?_
  rintro e w2 ⟨v, he, ho, hp, hk⟩
  exact ⟨v, he, hp, hk⟩
theorem kd2 (p gm gk : Nat) (V : World) (h : PU V p gm gk (QF 2)) : Calls Tryz.prog 5 #[.pointer (some ⟨p, 0, none⟩), .agg #[.int .u8 6, .int .i64 64, .int .u8 0, .int .i64 0, .int .i64 0, .int .i64 0, .int .i64 0]] V fun e w2 => ∃ v, e = .returned (.tuple #[v, .int .i64 5]) ∧ PU w2 p gm gk (QF 3) ∧ Kp (fun j => j = gm) V w2 := by
  have d := do_ok p gm gk (QF 2) (fs 2) V h (fs_in 2 (by omega)) (QF_ok 2) (QF_mg (by omega))
  rw [QF_c2] at d
  refine Calls.mono d ?_
  rintro e w2 ⟨v, he, ho, hp, hk⟩
  exact ⟨v, he, hp, hk⟩
theorem kd3 (p gm gk : Nat) (V : World) (h : PU V p gm gk (QF 3)) : Calls Tryz.prog 5 #[.pointer (some ⟨p, 0, none⟩), .agg #[.int .u8 6, .int .i64 63, .int .u8 0, .int .i64 0, .int .i64 0, .int .i64 0, .int .i64 0]] V fun e w2 => ∃ v, e = .returned (.tuple #[v, .int .i64 8]) ∧ PU w2 p gm gk (QF 4) ∧ Kp (fun j => j = gm) V w2 := by
  have d := do_ok p gm gk (QF 3) (fs 3) V h (fs_in 3 (by omega)) (QF_ok 3) (QF_mg (by omega))
  rw [QF_c3] at d
  refine Calls.mono d ?_
  rintro e w2 ⟨v, he, ho, hp, hk⟩
  exact ⟨v, he, hp, hk⟩
theorem kd4 (p gm gk : Nat) (V : World) (h : PU V p gm gk (QF 4)) : Calls Tryz.prog 5 #[.pointer (some ⟨p, 0, none⟩), .agg #[.int .u8 2, .int .i64 17, .int .u8 3, .int .i64 0, .int .i64 16, .int .i64 0, .int .i64 0]] V fun e w2 => ∃ v, e = .returned (.tuple #[v, .int .i64 7]) ∧ PU w2 p gm gk (QF 5) ∧ Kp (fun j => j = gm) V w2 := by
  have d := do_ok p gm gk (QF 4) (fs 4) V h (fs_in 4 (by omega)) (QF_ok 4) (QF_mg (by omega))
  rw [QF_c4] at d
  refine Calls.mono d ?_
  rintro e w2 ⟨v, he, ho, hp, hk⟩
  exact ⟨v, he, hp, hk⟩
theorem kd5 (p gm gk : Nat) (V : World) (h : PU V p gm gk (QF 5)) : Calls Tryz.prog 5 #[.pointer (some ⟨p, 0, none⟩), .agg #[.int .u8 2, .int .i64 16, .int .u8 3, .int .i64 0, .int .i64 16, .int .i64 0, .int .i64 0]] V fun e w2 => ∃ v, e = .returned (.tuple #[v, .int .i64 8]) ∧ PU w2 p gm gk (QF 6) ∧ Kp (fun j => j = gm) V w2 := by
  have d := do_ok p gm gk (QF 5) (fs 5) V h (fs_in 5 (by omega)) (QF_ok 5) (QF_mg (by omega))
  rw [QF_c5] at d
  refine Calls.mono d ?_
  rintro e w2 ⟨v, he, ho, hp, hk⟩
  exact ⟨v, he, hp, hk⟩
theorem kd6 (p gm gk : Nat) (V : World) (h : PU V p gm gk (QF 6)) : Calls Tryz.prog 5 #[.pointer (some ⟨p, 0, none⟩), .agg #[.int .u8 10, .int .i64 9, .int .u8 0, .int .i64 0, .int .i64 0, .int .i64 0, .int .i64 0]] V fun e w2 => ∃ v, e = .returned (.tuple #[v, .int .i64 0]) ∧ PU w2 p gm gk (QF 7) ∧ Kp (fun j => j = gm) V w2 := by
  have d := do_ok p gm gk (QF 6) (fs 6) V h (fs_in 6 (by omega)) (QF_ok 6) (QF_mg (by omega))
  rw [QF_c6] at d
  refine Calls.mono d ?_
  rintro e w2 ⟨v, he, ho, hp, hk⟩
  exact ⟨v, he, hp, hk⟩
theorem kd7 (p gm gk : Nat) (V : World) (h : PU V p gm gk (QF 7)) : Calls Tryz.prog 5 #[.pointer (some ⟨p, 0, none⟩), .agg #[.int .u8 2, .int .i64 16, .int .u8 5, .int .i64 0, .int .i64 64, .int .i64 64, .int .i64 0]] V fun e w2 => ∃ v, e = .returned (.tuple #[v, .int .i64 0]) ∧ Own w2 V.heap.size v [⟨11, 2, 1⟩, ⟨3, 200, 2⟩, ⟨12, 0, 1⟩] ∧ PU w2 p gm gk (QF 8) ∧ Kp (fun j => j = gm) V w2 := by
  have d := do_ok p gm gk (QF 7) (fs 7) V h (fs_in 7 (by omega)) (QF_ok 7) (QF_mg (by omega))
  rw [QF_c7, QF_row] at d
  refine Calls.mono d ?_
  rintro e w2 ⟨v, he, ho, hp, hk⟩
  exact ⟨v, he, ho, hp, hk⟩
theorem kput (p gm gk k : Nat) (hk : k < 64) (V : World) (h : PU V p gm gk (pn k)) : Calls Tryz.prog 5 #[.pointer (some ⟨p, 0, none⟩), .agg #[.int .u8 1, .int .i64 0, .int .u8 0, .int .i64 0, .int .i64 0, .int .i64 k, .int .i64 0]] V fun e w2 => ∃ v, e = .returned (.tuple #[v, .int .i64 0]) ∧ PU w2 p gm gk (pn (k + 1)) ∧ Kp (fun j => j = gm) V w2 := by
  have pp := pn_put hk
  have d := do_ok p gm gk (pn k) ⟨1, 0, 0, 0, 0, (k : Int), 0⟩ V h (by constructor <;> simp <;> omega) (pn_ok (by omega)) (fun i h e => by have := pn_mg k i h e; omega)
  rw [pp.1, pp.2] at d
  refine Calls.mono d ?_
  rintro e w2 ⟨v, he, ho, hp, hk⟩
  exact ⟨v, he, hp, hk⟩
theorem QF_cnt : cnt (QF 8) = 64 := by rfl
theorem held8 (p gm gk : Nat) (w : World) (h : PU w p gm gk (QF 8)) : Calls Tryz.prog 10 #[.pointer (some ⟨p, 0, none⟩)] w fun e w' => ∃ g cap, e = .returned (.slice (some ⟨g, 0, none⟩) 64 cap) ∧ Below w.heap.size w w' := by
  refine Calls.mono (held_ok p gm gk (QF 8) w h) ?_
  rintro e w' ⟨v, rfl, ho, hb⟩
  rw [QF_cnt] at ho
  rcases ho.2 with ⟨_, h0⟩ | ⟨g, cap, cur, rfl, _⟩
  · exact absurd h0 (by decide)
  · exact ⟨g, cap, rfl, hb⟩
theorem rb_blk {w : World} {g : Nat} {L : List Ru} (h : Blk w g (rl L) 36) (ho : ∀ r ∈ L, r.Ok) (hl : L.length ≤ 1000) : RB w (.slice (some ⟨g, 0, none⟩) L.length L.length) L :=
  ⟨ho, _, _, rfl, Nat.le_refl _, by unfold maxLen; omega, .inr ⟨g, 0, rfl, fun i r hi => by
    rw [Nat.zero_add]
    obtain ⟨a, b, c⟩ := rl_get L i r hi
    exact ⟨h.cell _ _ a, h.cell _ _ b, h.cell _ _ c⟩⟩⟩
set_option maxRecDepth 100000 in
set_option maxHeartbeats 8000000 in
theorem known_w (w : World) : Calls Tryz.prog 3 #[] w fun e w' => e = .returned (.bool true) ∧ Below w.heap.size w w' := by
  go_enter Tryz.func3, Tryz.ntmps3
  go_wp2_with fail
  refine (new_ok _).mono ?_
  rintro e W1 ⟨p, gm, gk, rfl, hpu, _, hgm, _, hb⟩
  have HP := hid hpu
  have GM := hid hgm
  have B1 := hid hb
  clear hpu hgm hb
  go_wp2
  go_loopw [2] (fun x wr => ∃ k : Nat, k ≤ 64 ∧ x = .int .i64 k ∧ PU wr p gm gk (pn k) ∧ Below w.heap.size w wr) (fun x _ => 64 - (RowKit.intOf x).toNat)
  case atStart =>
    refine ⟨0, by omega, rfl, ?_, B1.out⟩
    have e : pn 0 = fun _ => none := by funext i; unfold pn; rw [if_neg (by omega)]
    rw [e]
    exact HP.out
  case round =>
    obtain ⟨k, hk, rfl, hpu, hbel⟩ := hrel
    have P1 := hid hpu
    have HB := hid hbel
    clear hpu hbel HP
    by_cases hlt : k < 64
    · have KD := hid (kput p gm gk k hlt wr P1.out)
      have kn : (k : Int) < 64 := by omega
      go_wp2_with fail
      refine KD.out.mono ?_
      rintro e W2 ⟨v, rfl, hp2, hk2⟩
      have P2 := hid hp2
      have HB2 := hid (HB.out.trans (hk2.below (B := w.heap.size) HB.out.size (fun j hj e => by have e : j = gm := e; have := GM.out; omega)))
      clear hp2 hk2 KD P1 HB
      go_wp2
      go_roundw
      case rel => exact ⟨k + 1, by omega, by go_num, P2.out, HB2.out⟩
      case measure => simp [RowKit.intOf]; omega
    · have e : k = 64 := by omega
      subst e
      have Q0 : Hid (PU wr p gm gk (QF 0)) := hid P1.out
      have N0 := hid HB.out
      clear P1 HB
      go_wp2_with fail
      refine (kd0 p gm gk _ Q0.out).mono ?_
      rintro e V1 ⟨v0, rfl, hp, hk⟩
      have Q1 := hid hp
      have N1 := hid (N0.out.trans (hk.below (B := w.heap.size) N0.out.size (fun j hj e => by have e : j = gm := e; have := GM.out; omega)))
      clear hp hk Q0 N0
      go_wp2_with fail
      refine (kd1 p gm gk _ Q1.out).mono ?_
      rintro e V2 ⟨v1, rfl, hp, hk⟩
      have Q2 := hid hp
      have N2 := hid (N1.out.trans (hk.below (B := w.heap.size) N1.out.size (fun j hj e => by have e : j = gm := e; have := GM.out; omega)))
      clear hp hk Q1 N1
      go_wp2_with fail
      refine (kd2 p gm gk _ Q2.out).mono ?_
      rintro e V3 ⟨v2, rfl, hp, hk⟩
      have Q3 := hid hp
      have N3 := hid (N2.out.trans (hk.below (B := w.heap.size) N2.out.size (fun j hj e => by have e : j = gm := e; have := GM.out; omega)))
      clear hp hk Q2 N2
      go_wp2_with fail
      refine (kd3 p gm gk _ Q3.out).mono ?_
      rintro e V4 ⟨v3, rfl, hp, hk⟩
      have Q4 := hid hp
      have N4 := hid (N3.out.trans (hk.below (B := w.heap.size) N3.out.size (fun j hj e => by have e : j = gm := e; have := GM.out; omega)))
      clear hp hk Q3 N3
      go_wp2_with fail
      refine (kd4 p gm gk _ Q4.out).mono ?_
      rintro e V5 ⟨v4, rfl, hp, hk⟩
      have Q5 := hid hp
      have N5 := hid (N4.out.trans (hk.below (B := w.heap.size) N4.out.size (fun j hj e => by have e : j = gm := e; have := GM.out; omega)))
      clear hp hk Q4 N4
      go_wp2_with fail
      refine (kd5 p gm gk _ Q5.out).mono ?_
      rintro e V6 ⟨v5, rfl, hp, hk⟩
      have Q6 := hid hp
      have N6 := hid (N5.out.trans (hk.below (B := w.heap.size) N5.out.size (fun j hj e => by have e : j = gm := e; have := GM.out; omega)))
      clear hp hk Q5 N5
      go_wp2_with fail
      refine (kd6 p gm gk _ Q6.out).mono ?_
      rintro e V7 ⟨v6, rfl, hp, hk⟩
      have Q7 := hid hp
      have N7 := hid (N6.out.trans (hk.below (B := w.heap.size) N6.out.size (fun j hj e => by have e : j = gm := e; have := GM.out; omega)))
      clear hp hk Q6 N6
      go_wp2_with fail
      refine (kd7 p gm gk _ Q7.out).mono ?_
      rintro e V8 ⟨v7, rfl, ho, hp, hk⟩
      have Q8 := hid hp
      have N8 := hid (N7.out.trans (hk.below (B := w.heap.size) N7.out.size (fun j hj e => by have e : j = gm := e; have := GM.out; omega)))
      obtain ⟨ra, rcp, rfl, _⟩ := ho.reads.shape
      have RR := hid ho.reads
      clear hp hk Q7 N7 ho
      go_wp2_with fail
      refine (event_ok 11 2 1 _).mono ?_
      rintro e V9 ⟨rfl, hb⟩
      have M9 := hid hb
      clear hb
      go_wp2_with fail
      refine (event_ok 3 200 2 _).mono ?_
      rintro e V10 ⟨rfl, hb⟩
      have M10 := hid (below_next M9.out hb)
      clear hb M9
      go_wp2_with fail
      refine (event_ok 12 0 1 _).mono ?_
      rintro e V11 ⟨rfl, hb⟩
      have M11 := hid (below_next M10.out hb)
      clear hb M10
      obtain ⟨U, hU⟩ : ∃ U, V11.alloc (.cells (rl [⟨11, 2, 1⟩, ⟨3, 200, 2⟩, ⟨12, 0, 1⟩]).toArray 36) = U := ⟨_, rfl⟩
      have KU : Hid (Blk U V11.heap.size (rl [⟨11, 2, 1⟩, ⟨3, 200, 2⟩, ⟨12, 0, 1⟩]) 36) := by rw [← hU]; exact Blk.newAt V11 _ _ _ V11.heap.size rfl rfl
      have MU : Hid (Below V8.heap.size V8 U) := hid (below_next M11.out (by rw [← hU]; exact below_alloc _ _))
      have hU' : V11.alloc (.cells #[.int .u8 11, .int .i64 2, .int .i64 1, .int .u8 3, .int .i64 200, .int .i64 2, .int .u8 12, .int .i64 0, .int .i64 1] 36) = U := hU
      clear hU
      go_wp2_with fail
      clear hU'
      refine (awake_ok _).mono ?_
      rintro e U1 ⟨rfl, hb⟩
      have MA := hid (below_next MU.out hb)
      have KA := hid (KU.out.below hb)
      clear hb
      go_wp2_with fail
      refine (edges_ok _).mono ?_
      rintro e U2 ⟨rfl, hb⟩
      have MB := hid (below_next MA.out hb)
      have KB := hid (rb_blk (L := [⟨11, 2, 1⟩, ⟨3, 200, 2⟩, ⟨12, 0, 1⟩]) (KA.out.below hb) (by simp [Rn.Ok]) (by decide))
      have RB2 := hid (RR.out.below MB.out)
      clear hb
      go_wp2_with fail
      refine (same14 _ _ [⟨11, 2, 1⟩, ⟨3, 200, 2⟩, ⟨12, 0, 1⟩] [⟨11, 2, 1⟩, ⟨3, 200, 2⟩, ⟨12, 0, 1⟩] _ RB2.out KB.out (by decide) (by decide)).mono ?_
      rw [decide_eq_true rfl]
      rintro e U3 ⟨rfl, d, rfl⟩
      have MC := hid (below_next MB.out (below_drewN _ d))
      go_wp2_with fail
      refine (held8 p gm gk _ (Q8.out.below MC.out)).mono ?_
      rintro e U4 ⟨g, cap, rfl, hb⟩
      have MD := hid (below_next MC.out hb)
      clear hb
      go_wp2
      go_ret
      exact ⟨rfl, below_next N8.out MD.out⟩
end Go.Proofs.YtdmacflcjbkkpabGreat.Co
