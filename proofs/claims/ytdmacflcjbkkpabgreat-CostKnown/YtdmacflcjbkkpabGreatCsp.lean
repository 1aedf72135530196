/- What KMAC128's beginning, a message and its end record: sponged; the six that the statement asks after: edges. -/
import Derived.Test.YtdmacflcjbkkpabGreatCaw
import Derived.Test.YtdmacflcjbkkpabGreatJp
import Derived.BigRegion
namespace Go.Proofs.YtdmacflcjbkkpabGreat.Co
open Go.ChangeShapes Go.WideShapes Go.ChangeAt Go.RowKit
open Go.Proofs.YtdmacflcjbkkpabGreat (RB Own same14 rl eq2 eq2_true eq2_false)
open Go.Proofs.YtdmacflcjbkkpabGreat.Ou (Sk sv sL zS LDk SVk LDk_run SVk_run)
open Go.Proofs.YtdmacflcjbkkpabGreat.Tb (Blk put_all Kp.setCells results_cell1)
def LDt (a : Addr) : Sem Value := loadVar 56 a
def SVt (a : Addr) (v : Value) : Sem Unit := storeVar 56 a v
@[go_sem ↓ high] theorem ldt (a : Addr) : loadVar 56 a = LDt a := rfl
@[go_sem ↓ high] theorem svt (a : Addr) (v : Value) : storeVar 56 a v = SVt a v := rfl
theorem infot : (Tryz.prog.info? 56).map (·.size) = some 3 := by kernel_rfl
/-- Three numbers. -/
def n3 (f : Nat → Int) : List Value := (List.range 3).map (fun i => .int .i64 (f i))
abbrev n3v (f : Nat → Int) : Value := .agg #[.int .i64 (f 0), .int .i64 (f 1), .int .i64 (f 2)]
theorem n3_get (f : Nat → Int) {i : Nat} (h : i < 3) : (n3 f)[i]? = some (.int .i64 (f i)) := by
  unfold n3; rw [List.getElem?_map, List.getElem?_range h]; rfl
theorem n3_set (f : Nat → Int) (i : Nat) (x : Int) : (n3 f).set i (.int .i64 x) = n3 (fun j => if j = i then x else f j) := by
  unfold n3
  apply List.ext_getElem?
  intro j
  by_cases hj : j < 3
  · rw [List.getElem?_set, List.getElem?_map, List.getElem?_map, List.getElem?_range hj]
    by_cases e : i = j
    · subst e
      rw [if_pos rfl, if_pos (by simpa using hj)]
      simp
    · rw [if_neg e]
      simp [show ¬ j = i from fun h => e h.symm]
  · rw [List.getElem?_eq_none (by simp; omega), List.getElem?_eq_none (by simp; omega)]
theorem LDt_run {W : World} {g : Nat} {f : Nat → Int} (h : Blk W g (n3 f) 56) : (LDt ⟨g, 0, none⟩).run Tryz.prog W = .ok (n3v f) W :=
  run_loadVar_mid W g 0 _ (n3 f) _ (h.range 0 _ (fun _ _ hv => by rw [Nat.zero_add]; exact hv)) Tryz.underlying56 rfl infot
theorem SVt_run {W : World} {g : Nat} {cs : List Value} (f : Nat → Int) (h : Blk W g cs 56) (hl : cs.length = 3) : ∃ W', (SVt ⟨g, 0, none⟩ (n3v f)).run Tryz.prog W = .ok () W' ∧ Blk W' g (n3 f) 56 ∧ Kp (fun j => j = g) W W' := by
  refine ⟨W.setCells g 0 (n3 f), run_storeVar_mid W g 0 _ (n3 f).toArray (h.there 0 _ (by simp [hl, n3])) infot (all_oneCell_toArray (fun u hu => by
    simp only [n3, List.mem_map, List.mem_range] at hu
    obtain ⟨i, _, rfl⟩ := hu
    rfl)), ?_, Kp.setCells g 0 _⟩
  have := h.put 0 (n3 f)
  rw [put_all cs (n3 f) (by rw [hl]; rfl)] at this
  exact this
/-- The lists of numbers behind k operations. -/
def nk (N : Nat → Int) (k : Nat) (i : Nat) : Int := if i < k then N i else 0
theorem nk_next (N : Nat → Int) (k : Nat) {x : Int} (h : N k = x) : (fun j => if j = k then x else nk N k j) = nk N (k + 1) := by
  funext j
  unfold nk
  by_cases e : j = k
  · rw [if_pos e, if_pos (by omega), e, h]
  · rw [if_neg e]
    by_cases e2 : j < k
    · rw [if_pos e2, if_pos (by omega)]
    · rw [if_neg e2, if_neg (by omega)]
theorem nk_same (N : Nat → Int) (k : Nat) : (fun j => if j = k then 0 else nk N k j) = nk N k := by
  funext j
  unfold nk
  by_cases e : j = k
  · rw [if_pos e, if_neg (by omega)]
  · rw [if_neg e]
theorem upd_upd (f : Nat → Int) (k : Nat) (x y : Int) : (fun j => if j = k then y else (fun j => if j = k then x else f j) j) = (fun j => if j = k then y else f j) := by
  funext j
  by_cases e : j = k
  · simp [e]
  · simp [e]
set_option maxRecDepth 100000 in
set_option maxHeartbeats 8000000 in
theorem sponged_ok (key msg out : Int) (N : Nat → Int) (hk : 0 ≤ key ∧ key ≤ 1000) (hm : 0 ≤ msg ∧ msg ≤ 1000) (ho : 0 ≤ out ∧ out ≤ 1000) (hN : ∀ i, i < 3 → Spg key msg out i (N i)) (w : World) :
    Calls Tryz.prog 18 #[.int .i64 key, .int .i64 msg, .int .i64 out] w fun e w' => e = .returned (n3v N) ∧ Below w.heap.size w w' := by
  have HS : Hid (∀ i, i < 4 → SkIn (sp key msg out i)) := hid fun i hi => by
    match i, hi with
    | 0, _ => constructor <;> simp only [sp] <;> simp <;> omega
    | 1, _ => constructor <;> simp only [sp] <;> simp <;> omega
    | 2, _ => constructor <;> simp only [sp] <;> simp <;> omega
    | 3, _ => constructor <;> simp only [sp] <;> simp <;> omega
  have HN := hid hN
  clear hN hk hm ho
  obtain ⟨W, hW⟩ : ∃ W, (w.alloc (.cells #[.int .i64 0, .int .i64 0, .int .i64 0] 56)).alloc (.cells #[.int .i64 0, .int .i64 0, .int .i64 0] 56) = W := ⟨_, rfl⟩
  have BW : Hid (Below w.heap.size w W) := by rw [← hW]; exact below_next (below_alloc _ _) (below_alloc _ _)
  have K0 : Hid (Blk W w.heap.size (n3 (fun _ => 0)) 56) := by rw [← hW]; exact (Blk.newAt w _ _ _ w.heap.size rfl rfl : Blk _ _ (n3 (fun _ => 0)) _).alloc _
  have K1 : Hid (Blk W (w.heap.size + 1) (n3 (fun _ => 0)) 56) := by rw [← hW]; exact Blk.newAt (w.alloc _) _ _ _ (w.heap.size + 1) (by simp) rfl
  go_enter Tryz.func18, Tryz.ntmps18
  go_wp2_with fail
  clear hW
  refine (new_ok _).mono ?_
  rintro e W1 ⟨p, gm, gk, rfl, hpu, hp0, hg0, hk0, hb⟩
  have HP := hid hpu
  have GE := hid (⟨hp0, hg0, hk0⟩ : W.heap.size ≤ p ∧ W.heap.size ≤ gm ∧ W.heap.size ≤ gk)
  have B1 := hid (below_next BW.out hb)
  have hw2 := K1.out.lt
  replace K0 := hid (K0.out.below hb)
  replace K1 := hid (K1.out.below hb)
  have SZ := hid hb.size
  clear hpu hp0 hg0 hk0 hb
  have HW2 := hid hw2
  clear hw2
  have D0 : Hid (∀ V, Below W1.heap.size W1 V → Calls Tryz.prog 5 #[.pointer (some ⟨p, 0, none⟩), .agg #[.int .u8 1, .int .i64 0, .int .u8 0, .int .i64 0, .int .i64 0, .int .i64 key, .int .i64 0]] V fun e w2 => ∃ v, e = .returned (.tuple #[v, .int .i64 (cod (SS key msg out 0) (clp (sp key msg out 0)))]) ∧ Own w2 V.heap.size v (row (SS key msg out 0) (sp key msg out 0)) ∧ PU w2 p gm gk (SS key msg out 1) ∧ Kp (fun j => j = gm) V w2) := hid fun V hV => do_ok p gm gk _ (sp key msg out 0) V (HP.out.below hV) (HS.out 0 (by omega)) (SS_ok key msg out 0) (SS_mg key msg out (by omega))
  go_wp2_with fail
  refine (D0.out _ (Below.refl _ _)).mono ?_
  rintro e W2 ⟨v0, rfl, _, hp2, hk2⟩
  have g0 := GE.out
  have g1 := HW2.out
  replace HP := hid hp2
  have GL := hid hp2.lt
  replace K0 := hid (K0.out.kept hk2 (fun e => by have e : w.heap.size = gm := e; omega))
  replace K1 := hid (K1.out.kept hk2 (fun e => by have e : w.heap.size + 1 = gm := e; omega))
  have s1 := B1.out.size
  have s2 := hk2.size
  have B2 := hid (B1.out.trans (hk2.below (B := w.heap.size) (by omega) (fun j hj e => by have e : j = gm := e; omega)))
  clear hp2 hk2 D0 s1 s2 g0 g1
  obtain ⟨W3, hW3⟩ : ∃ U, W2.alloc (.cells (Sx.sl 3 (fun i => sp key msg out (i + 1))).toArray 31) = U := ⟨_, rfl⟩
  have KL : Hid (Blk W3 W2.heap.size (Sx.sl 3 (fun i => sp key msg out (i + 1))) 31) := by rw [← hW3]; exact Blk.newAt W2 _ _ _ W2.heap.size rfl rfl
  have N3 : Hid (Below W2.heap.size W2 W3) := by rw [← hW3]; exact below_alloc _ _
  have hW3' : W2.alloc (.cells #[.int .u8 2, .int .i64 0, .int .u8 4, .int .i64 0, .int .i64 out, .int .i64 0, .int .i64 0, .int .u8 3, .int .i64 1, .int .u8 0, .int .i64 0, .int .i64 0, .int .i64 msg, .int .i64 0, .int .u8 4, .int .i64 1, .int .u8 0, .int .i64 0, .int .i64 0, .int .i64 0, .int .i64 0] 31) = W3 := hW3
  clear hW3
  obtain ⟨gl, hgl⟩ : ∃ g, W2.heap.size = g := ⟨_, rfl⟩
  rw [hgl] at KL GL
  go_wp2
  clear hW3'
  have HGL : Hid (W2.heap.size = gl) := hid hgl
  clear hgl
  go_loopw [10] (fun x wr => ∃ k : Nat, k ≤ 3 ∧ x = .int .i64 k ∧ PU wr p gm gk (SS key msg out (k + 1)) ∧ Blk wr (w.heap.size + 1) (n3 (nk N k)) 56 ∧ Blk wr w.heap.size (n3 (fun _ => 0)) 56 ∧ Blk wr gl (Sx.sl 3 (fun i => sp key msg out (i + 1))) 31 ∧ Below w.heap.size w wr) (fun x _ => 3 - (RowKit.intOf x).toNat)
  case atStart =>
    refine ⟨0, by omega, rfl, HP.out.below N3.out, ?_, K0.out.below N3.out, KL.out, below_next B2.out N3.out⟩
    have e : nk N 0 = fun _ => 0 := by funext i; unfold nk; rw [if_neg (by omega)]
    rw [e]
    exact K1.out.below N3.out
  case round =>
    obtain ⟨k, hk, rfl, hpu, hkn, hkr, hkl, hbel⟩ := hrel
    have P1 := hid hpu
    have KN := hid hkn
    have KR := hid hkr
    have KL1 := hid hkl
    have HB := hid hbel
    clear hpu hkn hkr hkl hbel
    clear HP K0 K1 KL
    by_cases hlt : k < 3
    · obtain ⟨b, off, e, ld⟩ := (sx_blk KL1.out (by omega)).ldB hlt
      simp only [Option.some.injEq, Addr.mk.injEq, and_true] at e
      obtain ⟨rfl, rfl⟩ := e
      have x0 := ld wr (Below.refl _ _)
      have S := HN.out k hlt
      have RC : Hid (∀ V, Below wr.heap.size wr V → Calls Tryz.prog 5 #[.pointer (some ⟨p, 0, none⟩), sv (sp key msg out (k + 1))] V fun e w2 => ∃ v, e = .returned (.tuple #[v, .int .i64 0]) ∧ Own w2 V.heap.size v (row (SS key msg out (k + 1)) (sp key msg out (k + 1))) ∧ PU w2 p gm gk (SS key msg out (k + 1 + 1)) ∧ Kp (fun j => j = gm) V w2) := hid (fun V hb => by
        have := do_ok p gm gk _ (sp key msg out (k + 1)) V (P1.out.below hb) (HS.out (k + 1) (by omega)) (SS_ok key msg out (k + 1)) (SS_mg key msg out (by omega))
        rw [S.c] at this
        exact this)
      obtain ⟨sc, sk, sl, sb⟩ := S
      clear sc
      obtain ⟨R, hR⟩ : ∃ R, row (SS key msg out (k + 1)) (sp key msg out (k + 1)) = R := ⟨_, rfl⟩
      obtain ⟨s, hs⟩ : ∃ s, sp key msg out (k + 1) = s := ⟨_, rfl⟩
      have x0 : (LDk ⟨gl, 0 + k * 7, none⟩).run Tryz.prog wr = .ok (sv (sp key msg out (k + 1))) wr := x0
      rw [hR] at RC sk sl sb
      rw [hs] at RC x0
      have SK := hid sk
      have SB := hid sb
      have SL := hid sl
      obtain ⟨y1, y2, y3, y4, y5, y6, y7⟩ := s
      rw [Nat.zero_add] at x0
      clear hR hs sk sb sl ld
      have kn : (k : Int) < 3 := by omega
      have kz : (0 : Int) ≤ (k : Int) := by omega
      go_wp2_with fail
      refine (RC.out _ (Below.refl _ _)).mono ?_
      rintro e W5 ⟨v, rfl, hov, hp5, hk5⟩
      clear x0 RC
      have g0 := GE.out
      have g1 := HW2.out
      have g2 := GL.out
      have s1 := HB.out.size
      have s2 := hk5.size
      have s3 := KN.out.lt
      replace P1 := hid hp5
      replace KN := hid (KN.out.kept hk5 (fun e => by have e : w.heap.size + 1 = gm := e; omega))
      replace KR := hid (KR.out.kept hk5 (fun e => by have e : w.heap.size = gm := e; omega))
      replace KL1 := hid (KL1.out.kept hk5 (fun e => by have e : gl = gm := e; omega))
      replace HB := hid (HB.out.trans (hk5.below (B := w.heap.size) (by omega) (fun j hj e => by have e : j = gm := e; omega)))
      have OL : Hid (∀ g, v.ownBlock = some g → g ≠ w.heap.size + 1) := hid fun g e e2 => by have := hov.lt g e; omega
      have HO := hid hov
      have HG2 : Hid (w.heap.size + 1 < wr.heap.size) := hid s3
      clear g0 g1 g2 s1 s2 s3 hp5 hk5
      obtain ⟨n, hn⟩ : ∃ n, R.length = n := ⟨_, rfl⟩
      obtain ⟨a, cap, rfl⟩ : ∃ a cap, v = .slice a n cap := by
        obtain ⟨a, cap, h, _⟩ := hov.reads.shape
        exact ⟨a, cap, by rw [← hn]; exact h⟩
      have HL := hid hn
      clear hov hn
      have n10 : n ≤ 10 := by rw [← HL.out]; exact SL.out
      go_wp2
      go_loopw [13] (fun y wq => ∃ j : Nat, j ≤ n ∧ y = .int .i64 j ∧ Blk wq (w.heap.size + 1) (n3 (fun i => if i = k then kb (R.take j) else nk N k i)) 56 ∧ Kp (fun i => i = w.heap.size + 1) W5 wq) (fun y _ => n - (RowKit.intOf y).toNat)
      case atStart =>
        refine ⟨0, Nat.zero_le _, rfl, ?_, Kp.refl _ _⟩
        rw [List.take_zero]
        show Blk _ _ (n3 (fun j => if j = k then 0 else nk N k j)) _
        rw [nk_same]
        exact KN.out
      case round =>
        obtain ⟨j, hj, rfl, hb1, hkq⟩ := hrel
        have HK1 := hid hb1
        have HKQ := hid hkq
        by_cases hjn : j < n
        · obtain ⟨r, hr⟩ := get_of_lt (L := R) (k := j) (by rw [HL.out]; exact hjn)
          obtain ⟨b2, off2, rfl, d1, d2, d3⟩ := (HO.out.kept hkq (fun g e h => OL.out g e h)).reads.at hr
          have xe : (LDe ⟨b2, off2 + j * 3, none⟩).run Tryz.prog wr = .ok (.agg #[.int .u8 r.k, .int .i64 r.s]) wr := LDe_at (fun i v hv => by
            match i, hv with
            | 0, hv => cases hv; exact d1
            | 1, hv => cases hv; exact d2)
          have x1 := hb1.cell k _ (n3_get _ hlt)
          have fz := hb1.frozen k
          rw [if_pos rfl] at x1
          have bt := kb_tb R SB.out SL.out j
          have br := SB.out r (List.mem_of_getElem? hr)
          have kt := hid (kb_take R hr)
          obtain ⟨z, hz⟩ : ∃ z, kb (R.take j) = z := ⟨_, rfl⟩
          rw [hz] at x1 bt kt
          have HZ := hid hz
          have l1 : (j : Int) < n := by omega
          have lz : (0 : Int) ≤ (j : Int) := by omega
          clear hb1 hkq hr hz
          by_cases he : r.k = 3 ∧ r.s = 200
          · have hd := eq2_true he.1 he.2
            have hw1 : IntKind.i64.wrap (z + r.c) = z + r.c := by rw [IntKind.wrap_i64]; omega
            have KT : Hid (kb (R.take (j + 1)) = z + r.c) := hid (by rw [kt.out, if_pos he])
            clear he
            go_wp2
            go_region
            go_wp2
            go_roundw
            case rel => exact ⟨j + 1, by omega, by go_num, by
              have h := HK1.out.set k (.int .i64 (z + r.c))
              rw [n3_set, upd_upd] at h
              rw [KT.out]
              exact h, HKQ.out.trans ((Kp.setCell (w.heap.size + 1) k _).trans (Kp.of_below (fun _ => False) (below_drewN _ 1)) (fun _ _ e => e.elim)) (fun _ _ e => e)⟩
            case measure => simp [RowKit.intOf]; omega
          · have hd := eq2_false he
            have KT : Hid (kb (R.take (j + 1)) = z) := hid (by rw [kt.out, if_neg he]; omega)
            clear he
            go_wp2
            go_roundw
            case rel => exact ⟨j + 1, by omega, by go_num, by
              rw [KT.out, ← HZ.out]
              exact HK1.out, HKQ.out⟩
            case measure => simp [RowKit.intOf]; omega
        · have e : j = n := by omega
          subst e
          have KQ : Hid (Blk wr (w.heap.size + 1) (n3 (nk N (k + 1))) 56) := hid (by
            rw [← nk_next N k SK.out.symm]
            have h := HK1.out
            rw [← HL.out, List.take_length] at h
            exact h)
          have QP := hid (P1.out.kept HKQ.out (fun e => by have e : p = w.heap.size + 1 := e; have := GE.out; have := HW2.out; omega) (fun e => by have e : gm = w.heap.size + 1 := e; have := GE.out; have := HW2.out; omega) (fun e => by have e : gk = w.heap.size + 1 := e; have := GE.out; have := HW2.out; omega))
          have QR := hid (KR.out.kept HKQ.out (fun e => by have e : w.heap.size = w.heap.size + 1 := e; omega))
          have QL := hid (KL1.out.kept HKQ.out (fun e => by have e : gl = w.heap.size + 1 := e; have := GE.out; have := HW2.out; have := GL.out; omega))
          have QB := hid (HB.out.trans (HKQ.out.below (B := w.heap.size) HB.out.size (fun i hi e => by have e : i = w.heap.size + 1 := e; omega)))
          clear hb1 hkq
          go_wp2
          go_roundw
          case rel => exact ⟨k + 1, by omega, by go_num, QP.out, KQ.out, QR.out, QL.out, QB.out⟩
          case measure => simp [RowKit.intOf]; omega
    · have e : k = 3 := by omega
      subst e
      have l1 := LDt_run KN.out
      obtain ⟨W9, t1, k9, hk9⟩ := SVt_run (nk N 3) KR.out rfl
      have L9 : Hid ((LDt ⟨w.heap.size, 0, none⟩).run Tryz.prog W9 = .ok (n3v N) W9) := hid (LDt_run k9)
      have B9 := hid (HB.out.trans (hk9.below (B := w.heap.size) HB.out.size (fun i hi e => by have e : i = w.heap.size := e; omega)))
      clear k9 hk9
      go_wp2
      exact bodyPost_ret (results_cell1 rfl rfl L9.out) rfl ⟨rfl, B9.out⟩
/-- Three numbers are these three. -/
def a3 (a b c : Int) (i : Nat) : Int := if i = 0 then a else if i = 1 then b else c
theorem spg_all {key msg out a b c : Int} (h : Spg key msg out 0 a ∧ Spg key msg out 1 b ∧ Spg key msg out 2 c) : ∀ i, i < 3 → Spg key msg out i (a3 a b c i) := fun i hi => by
  match i, hi with
  | 0, _ => exact h.1
  | 1, _ => exact h.2.1
  | 2, _ => exact h.2.2
theorem sponged_is (key msg out a b c : Int) (hk : 0 ≤ key ∧ key ≤ 1000) (hm : 0 ≤ msg ∧ msg ≤ 1000) (ho : 0 ≤ out ∧ out ≤ 1000) (h : Spg key msg out 0 a ∧ Spg key msg out 1 b ∧ Spg key msg out 2 c) (w : World) :
    Calls Tryz.prog 18 #[.int .i64 key, .int .i64 msg, .int .i64 out] w fun e w' => e = .returned (.agg #[.int .i64 a, .int .i64 b, .int .i64 c]) ∧ Below w.heap.size w w' := sponged_ok key msg out (a3 a b c) hk hm ho (spg_all h) w
@[go_sem ↓ high] theorem q3a (w : World) : (binOp .eql 56 (.agg #[.int .i64 2, .int .i64 0, .int .i64 2]) (.agg #[.int .i64 2, .int .i64 0, .int .i64 2])).run Tryz.prog w = .ok (.bool true) w := by kernel_rfl
@[go_sem ↓ high] theorem q3b (w : World) : (binOp .eql 56 (.agg #[.int .i64 3, .int .i64 0, .int .i64 1]) (.agg #[.int .i64 3, .int .i64 0, .int .i64 1])).run Tryz.prog w = .ok (.bool true) w := by kernel_rfl
@[go_sem ↓ high] theorem q3c (w : World) : (binOp .eql 56 (.agg #[.int .i64 2, .int .i64 0, .int .i64 1]) (.agg #[.int .i64 2, .int .i64 0, .int .i64 1])).run Tryz.prog w = .ok (.bool true) w := by kernel_rfl
@[go_sem ↓ high] theorem q3d (w : World) : (binOp .eql 56 (.agg #[.int .i64 3, .int .i64 1, .int .i64 1]) (.agg #[.int .i64 3, .int .i64 1, .int .i64 1])).run Tryz.prog w = .ok (.bool true) w := by kernel_rfl
@[go_sem ↓ high] theorem q3e (w : World) : (binOp .eql 56 (.agg #[.int .i64 4, .int .i64 1, .int .i64 2]) (.agg #[.int .i64 4, .int .i64 1, .int .i64 2])).run Tryz.prog w = .ok (.bool true) w := by kernel_rfl
set_option maxRecDepth 100000 in
set_option maxHeartbeats 4000000 in
theorem edges_ok (w : World) : Calls Tryz.prog 8 #[] w fun e w' => e = .returned (.bool true) ∧ Below w.heap.size w w' := by
  go_enter Tryz.func8, Tryz.ntmps8
  go_wp2_with fail
  refine (sponged_is 163 165 32 2 0 2 (by decide) (by decide) (by decide) spg1 _).mono ?_
  rintro e W1 ⟨rfl, b1⟩
  have B1 := hid b1
  clear b1
  go_wp2_with fail
  refine (sponged_is 164 165 31 3 0 1 (by decide) (by decide) (by decide) spg2 _).mono ?_
  rintro e W2 ⟨rfl, b2⟩
  have B2 := hid (below_next B1.out b2)
  clear b2
  go_wp2_with fail
  refine (sponged_is 31 166 31 2 0 2 (by decide) (by decide) (by decide) spg3 _).mono ?_
  rintro e W3 ⟨rfl, b3⟩
  have B3 := hid (below_next B2.out b3)
  clear b3
  go_wp2_with fail
  refine (sponged_is 0 164 32 2 0 1 (by decide) (by decide) (by decide) spg4 _).mono ?_
  rintro e W4 ⟨rfl, b4⟩
  have B4 := hid (below_next B3.out b4)
  clear b4
  go_wp2_with fail
  refine (sponged_is 331 168 64 3 1 1 (by decide) (by decide) (by decide) spg5 _).mono ?_
  rintro e W5 ⟨rfl, b5⟩
  have B5 := hid (below_next B4.out b5)
  clear b5
  go_wp2_with fail
  refine (sponged_is 332 333 64 4 1 2 (by decide) (by decide) (by decide) spg6 _).mono ?_
  rintro e W6 ⟨rfl, b6⟩
  have B6 := hid (below_next B5.out b6)
  clear b6
  go_wp2
  go_ret
  exact ⟨rfl, B6.out⟩
end Go.Proofs.YtdmacflcjbkkpabGreat.Co
