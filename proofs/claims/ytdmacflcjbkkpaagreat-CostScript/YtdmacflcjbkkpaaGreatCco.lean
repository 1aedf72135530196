/- A handle taken, a slot freed. -/
import Derived.Test.YtdmacflcjbkkpaaGreatCun
namespace Go.Proofs.YtdmacflcjbkkpaaGreat.Co
open Go.ChangeShapes Go.WideShapes Go.ChangeAt Go.RowKit
open Go.Proofs.YtdmacflcjbkkpaaGreat (putL)
open Go.Proofs.YtdmacflcjbkkpaaGreat.Ou (Sk sv sL LDk SVk LDk_run SVk_run)
open Go.Proofs.YtdmacflcjbkkpaaGreat.Tb (Blk Blk.newAt put_all Kp.setCells results_cell1 results_cell2)
/-- A ledger lies apart from a Public. -/
def Apo (lo : Lo) (p gm gk : Nat) : Prop := ∀ j, blo lo j → j ≠ p ∧ j ≠ gm ∧ j ≠ gk
/-- What an operation leaves of a Public and of a ledger. -/
structure CT (w w' : World) (p gm gk : Nat) (P' : St) (lo lo' : Lo) (L' : List Rn) : Prop where
  pu : PU w' p gm gk P'
  led : LdO w' lo' L'
  ptr : lpo lo' = lpo lo
  blk : ∀ j, blo lo' j → blo lo j ∨ w.heap.size ≤ j
  kp : Kp (fun j => j = gm ∨ blo lo j) w w'
theorem PU.lt {W : World} {p gm gk : Nat} {P : St} (h : PU W p gm gk P) : p < W.heap.size ∧ gm < W.heap.size ∧ gk < W.heap.size := ⟨h.here.lt, h.map.lt, h.kt.lt⟩
theorem CT.refl {w : World} {p gm gk : Nat} {P : St} {lo : Lo} {L : List Rn} (h : PU w p gm gk P) (hl : LdO w lo L) : CT w w p gm gk P lo lo L := ⟨h, hl, rfl, fun _ e => .inl e, Kp.refl _ _⟩
theorem CT.apo {w w' : World} {p gm gk : Nat} {P P' : St} {lo lo' : Lo} {L' : List Rn} (c : CT w w' p gm gk P' lo lo' L') (hp : PU w p gm gk P) (ha : Apo lo p gm gk) : Apo lo' p gm gk := fun j hj => by
  rcases c.blk j hj with e | e
  · exact ha j e
  · have := hp.lt; omega
theorem CT.below {w w1 w2 : World} {p gm gk : Nat} {P' : St} {lo l1 : Lo} {L' : List Rn} (c : CT w w1 p gm gk P' lo l1 L') (hb : Below w1.heap.size w1 w2) : CT w w2 p gm gk P' lo l1 L' :=
  ⟨c.pu.below hb, c.led.below hb, c.ptr, c.blk, c.kp.trans (Kp.of_below (fun _ => False) hb) (fun _ _ e => e.elim)⟩
theorem CT.after {w w0 w1 : World} {p gm gk : Nat} {P' : St} {lo l1 : Lo} {L' : List Rn} (hb : Below w.heap.size w w0) (c : CT w0 w1 p gm gk P' lo l1 L') : CT w w1 p gm gk P' lo l1 L' :=
  ⟨c.pu, c.led, c.ptr, fun j hj => (c.blk j hj).imp id (fun e => Nat.le_trans hb.size e), (Kp.of_below _ hb).trans c.kp (fun _ _ e => e)⟩
theorem CT.trans {w w1 w2 : World} {p gm gk : Nat} {P' P2 : St} {lo l1 l2 : Lo} {L1 L2 : List Rn} (c : CT w w1 p gm gk P' lo l1 L1) (d : CT w1 w2 p gm gk P2 l1 l2 L2) : CT w w2 p gm gk P2 lo l2 L2 :=
  ⟨d.pu, d.led, d.ptr.trans c.ptr, fun j hj => (d.blk j hj).elim (c.blk j) (fun e => .inr (Nat.le_trans c.kp.size e)), c.kp.trans d.kp (fun i hi e => e.elim .inl (fun e => (c.blk i e).elim .inr (fun e => by omega)))⟩
/-- The ledger alone is turned. -/
theorem CT.note {w w1 : World} {p gm gk : Nat} {P : St} {lo l1 : Lo} {L1 : List Rn} (h : PU w p gm gk P) (ha : Apo lo p gm gk) (t : LT w w1 lo l1 L1) : CT w w1 p gm gk P lo l1 L1 :=
  ⟨h.kept t.kp (fun e => (ha _ e).1 rfl) (fun e => (ha _ e).2.1 rfl) (fun e => (ha _ e).2.2 rfl), t.led, t.ptr, t.blk, t.kp.mono (fun _ _ e => .inr e)⟩
/-- The map alone is turned. -/
theorem CT.map {w w1 : World} {p gm gk : Nat} {P1 : St} {lo : Lo} {L : List Rn} (hl : LdO w lo L) (ha : Apo lo p gm gk) (h1 : PU w1 p gm gk P1) (hk : Kp (fun j => j = gm) w w1) : CT w w1 p gm gk P1 lo lo L :=
  ⟨h1, hl.kept hk (fun j hj e => (ha j hj).2.1 e), rfl, fun _ e => .inl e, hk.mono (fun _ _ e => .inl e)⟩
theorem foldl_flt (l : List Ru) : ∀ A : List Ru, (flt l).foldl putL A = l.foldl putL A := by
  induction l with
  | nil => intro A; rfl
  | cons r l ih =>
    intro A
    unfold flt at ih ⊢
    by_cases h : 1 ≤ r.c
    · rw [List.filter_cons_of_pos (by simpa using h)]
      exact ih _
    · rw [List.filter_cons_of_neg (by simpa using h), List.foldl_cons, putU_0 (by omega)]
      exact ih _
theorem Rm.fold {l : List Ru} : ∀ {L : List Ru} {m : Nat}, Rm L (m + l.length) → (∀ r ∈ l, r.c ≤ 1125899906842624) → Rm (l.foldl putL L) m := by
  induction l with
  | nil => intro L m h _; exact h
  | cons r l ih =>
    intro L m h hb
    exact ih (L := putL L r) (Rm.put (m := m + l.length) (by rw [List.length_cons, ← Nat.add_assoc] at h; exact h) (hb r (by simp))) (fun q hq => hb q (by simp [hq]))
set_option maxRecDepth 8000 in
set_option maxHeartbeats 1600000 in
theorem take_ok (p gm gk : Nat) (P : St) (y : He) (f : Nat) (hf : fre P = some f) (w : World) (hp : PU w p gm gk P) :
    Calls Tryz.prog 80 #[.pointer (some ⟨p, 0, none⟩), hv y] w fun e w' => e = .returned (.tuple #[]) ∧ PU w' p gm gk (upS P f (some y)) ∧ Kp (fun j => j = gm) w w' := by
  obtain ⟨f64, fnone, fbelow⟩ := fre_inv hf
  obtain ⟨yk, ya, yo, yc, ym⟩ := y
  obtain ⟨W, hW⟩ : ∃ W, w.alloc (.cells #[.int .u8 ya, .int .i64 yo, .int .i64 yk, .int .i64 yc, .int .i64 ym] 82) = W := ⟨_, rfl⟩
  have BW : Hid (Below w.heap.size w W) := by rw [← hW]; exact below_alloc _ _
  have KB : Hid (Blk W w.heap.size [.int .u8 ya, .int .i64 yo, .int .i64 yk, .int .i64 yc, .int .i64 ym] 82) := by rw [← hW]; exact Blk.newAt w _ _ _ w.heap.size rfl rfl
  have HP := hid (hp.below BW.out)
  have gl := hp.lt
  clear hp hf
  go_enter Tryz.func80, Tryz.ntmps80
  go_wp2_with fail
  clear hW
  go_loopw [7] (fun i wr => ∃ k : Nat, k ≤ f ∧ i = .int .i64 k ∧ Below W.heap.size W wr) (fun i _ => f + 1 - (RowKit.intOf i).toNat)
  case atStart => exact ⟨0, Nat.zero_le _, rfl, Below.refl _ _⟩
  case round =>
    obtain ⟨k, hk, rfl, hb⟩ := hrel
    have hpw := HP.out.below hb
    have kbw := KB.out.below hb
    have NB := hid hb
    have x0 := hpw.c0
    have k64 : (k : Int) < 64 := by omega
    have hkP : hat P (k : Int) = P k := hat_nat P (by omega)
    have x1 := hpw.look (x := (k : Int)) (by omega) true
    rw [hkP] at x1
    obtain ⟨U, hU⟩ : ∃ U, wr.alloc (.cells #[.int .u8 0, .int .i64 0, .int .i64 0, .int .i64 0, .int .i64 0] 82) = U := ⟨_, rfl⟩
    have NU : Hid (Below wr.heap.size wr U) := by rw [← hU]; exact below_alloc _ _
    have ku : Blk U wr.heap.size [.int .u8 0, .int .i64 0, .int .i64 0, .int .i64 0, .int .i64 0] 82 := by rw [← hU]; exact Blk.newAt wr _ _ _ wr.heap.size rfl rfl
    by_cases hkf : k = f
    · subst hkf
      rw [fnone] at x1
      replace x1 : (LK (.map (some gm)) (.int .i64 k) true).run Tryz.prog wr = .ok (.tuple #[.agg #[.int .u8 0, .int .i64 0, .int .i64 0, .int .i64 0, .int .i64 0], .bool false]) wr := x1
      obtain ⟨V, s1, k1, hk1⟩ := SVg_run 0 0 0 0 0 ku rfl
      have NV : Hid (Below wr.heap.size wr V) := hid (NU.out.trans (hk1.below NU.out.size (fun k h e => by omega)))
      have ND : Hid (Below wr.heap.size wr V.drew) := hid (below_next NV.out (below_drewN V 1))
      have hpd := hpw.below ND.out
      obtain ⟨Z, mz, mpz, kz⟩ := hpd.map.put f64 ⟨yk, ya, yo, yc, ym⟩
      have mz : (MU (.map (some gm)) (.int .i64 k) (.agg #[.int .u8 ya, .int .i64 yo, .int .i64 yk, .int .i64 yc, .int .i64 ym])).run Tryz.prog V.drew = .ok () Z := mz
      have pz := hid (hpd.turn kz mpz)
      have KZ : Hid (Kp (fun j => j = gm) w Z) := hid (((Kp.of_below _ (below_next (below_next BW.out NB.out) ND.out)).trans kz (fun _ _ e => e)))
      have y0 := hpd.c0
      have y1 := LDg_run (kbw.below ND.out)
      have z0 := pz.out.c0
      have z1 := LDg_run ((kbw.below ND.out).kept kz (fun e => by have e : w.heap.size = gm := e; omega))
      clear k1 hk1 ku hpw kbw hpd kz mpz hb hkP fbelow
      go_wp2_with fail
      clear hU
      go_region_held3 (fun V => V.cell? ⟨p, 0, none⟩ = some (.map (some gm)) ∧ (LDg ⟨w.heap.size, 0, none⟩).run Tryz.prog V = .ok (.agg #[.int .u8 ya, .int .i64 yo, .int .i64 yk, .int .i64 yc, .int .i64 ym]) V) (go_keep) (fail)
      go_wp2
      exact bodyPost_ret (results_none rfl _ _ _) rfl ⟨rfl, pz.out, KZ.out⟩
    · have hlt : k < f := by omega
      cases hy : P k with
      | none => exact absurd hy (fbelow k hlt)
      | some q =>
        rw [hy] at x1
        obtain ⟨qk, qa, qo, qc, qm⟩ := q
        replace x1 : (LK (.map (some gm)) (.int .i64 k) true).run Tryz.prog wr = .ok (.tuple #[.agg #[.int .u8 qa, .int .i64 qo, .int .i64 qk, .int .i64 qc, .int .i64 qm], .bool true]) wr := x1
        obtain ⟨V, s1, k1, hk1⟩ := SVg_run qa qo qk qc qm ku rfl
        have NV : Hid (Below W.heap.size W V) := hid (below_next NB.out (NU.out.trans (hk1.below NU.out.size (fun k h e => by omega))))
        clear k1 hk1 ku hpw kbw hb hkP fbelow hy fnone
        go_wp2
        go_roundw
        case rel => exact ⟨k + 1, by omega, by go_num, NV.out⟩
        case measure => simp [RowKit.intOf]; omega
set_option maxRecDepth 8000 in
set_option maxHeartbeats 1600000 in
theorem free_ok (p gm gk : Nat) (P : St) (i : Nat) (hi : i < 64) (lo : Lo) (L : List Rn) (w : World) (hp : PU w p gm gk P) (hl : LdO w lo L) (ha : Apo lo p gm gk) (hm : Rm L 1) :
    Calls Tryz.prog 83 #[.pointer (some ⟨p, 0, none⟩), lpo lo, .int .i64 i] w fun e w' => e = .returned (.tuple #[]) ∧ ∃ lo', CT w w' p gm gk (upS P i none) lo lo' (putL L ⟨8, 1024, 1⟩) := by
  have x0 := hp.c0
  obtain ⟨Z, mz, mpz, kz⟩ := hp.map.drop hi 0
  have mz : (MD 0 #[.map (some gm), .int .i64 i]).run Tryz.prog w = .ok (.tuple #[]) Z := mz
  have pz := hp.turn kz mpz
  have c1 := CT.map hl ha pz kz
  have C1 := hid c1
  have HA := hid (c1.apo hp ha)
  have n1 := hid (note_o lo L 8 1024 Z c1.led (by omega) hm)
  clear hp hl ha hm mpz kz pz c1
  go_enter Tryz.func83, Tryz.ntmps83
  go_wp2_with fail
  refine n1.out.mono ?_
  rintro e W1 ⟨rfl, l1, t1⟩
  have T1 := hid (C1.out.trans (CT.note C1.out.pu HA.out t1))
  clear t1
  go_wp2
  go_end0
  exact ⟨rfl, l1, T1.out⟩
end Go.Proofs.YtdmacflcjbkkpaaGreat.Co
