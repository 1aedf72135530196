/- What Do of the document tells, and what it leaves. -/
import Derived.Test.YtdmacflcjbkkpaaGreatCdn
namespace Go.Proofs.YtdmacflcjbkkpaaGreat.Cd
open Go.Proofs.YtdmacflcjbkkpaaGreat.Co
open Go.ChangeShapes Go.WideShapes Go.ChangeAt Go.RowKit
open Go.Proofs.YtdmacflcjbkkpaaGreat (Rn Own sm putL SameOrNew)
open Go.Proofs.YtdmacflcjbkkpaaGreat.Ou (Sk sv sL LDk SVk LDk_run SVk_run)
open Go.Proofs.YtdmacflcjbkkpaaGreat.Tb (Blk Blk.newAt put_all Kp.setCells)
theorem mid_k (s : Sk) (h : He) : ∀ q ∈ flt (mid s h), q.k ≤ 8 := fun q hq => (flt_bt (mid_up s h).2 q hq).2
theorem mid_len (s : Sk) (h : He) : (flt (mid s h)).length ≤ 3 := by
  refine Nat.le_trans (flt_len _) ?_
  obtain ⟨z, ez, _, _⟩ := smE_one h
  have b1 : (bgE ⟨h.key, s.a, s.o, s.d, 0⟩).length ≤ 3 := by unfold bgE; split; simp; split <;> simp
  have b2 : (tlE h s.d).length ≤ 3 := by unfold tlE; split; simp; split <;> simp
  unfold mid
  rw [ez]
  repeat' split
  all_goals first | assumption | simp
theorem row_code {P : St} {s : Sk} (h : cod P (clp s) ≠ 0) : row P s = [⟨11, s.k, 1⟩] ++ [⟨12, cod P (clp s), 1⟩] ∧ stp P s = P := by
  unfold row stp
  rw [if_neg h, if_neg h]
  exact ⟨rfl, rfl⟩
theorem row_done {P : St} {s : Sk} (h : cod P (clp s) = 0) : row P s = [⟨11, s.k, 1⟩] ++ flt (mid (clp s) ((hat P (clp s).h).getD h0)) ++ [⟨12, 0, 1⟩] ∧ stp P s = nxt P (clp s) := by
  unfold row stp
  rw [if_pos h, if_pos h, h]
  exact ⟨rfl, rfl⟩
set_option maxRecDepth 100000 in
set_option maxHeartbeats 4000000 in
theorem ddo_ok (r : Nat) (P : St) (s : Sk) (w : World) (hp : DP w r P) (hs : SkIn s) (hP : P.Ok) (hg : Mg 1000000000000 P) :
    Calls Tryz.prog 9 #[.pointer (some ⟨r, 0, none⟩), sv s] w fun e w' => ∃ v, e = .returned (.tuple #[v, .int .i64 (cod P (clp s))]) ∧ Own w' w.heap.size v (row P s) ∧ DP w' r (stp P s) ∧ Kp (fun j => j = r) w w' := by
  have hf := hs.fit
  have hk0 := hs.k
  have CO := hid (code_ok r P (clp s))
  have DO := hid (fun u L V hc hp hu hl hr hb hN => done_ok w.heap.size r P (clp s) u L V hf hP hg hc hp hu hl hr hb hN)
  have CB := hid (cod_b P (clp s))
  have RC := hid (fun h => row_code (P := P) (s := s) h)
  have RD := hid (fun h => row_done (P := P) (s := s) h)
  obtain ⟨sk, sh, sa, sc, so, sd, sm⟩ := s
  have k0 : 0 ≤ sk := hk0.1
  have k1 : sk ≤ 255 := hk0.2
  have hwk : IntKind.i64.wrap sk = sk := by rw [IntKind.wrap_i64]; omega
  obtain ⟨W0, hW⟩ : ∃ W, w.alloc (.cells #[.int .u8 sk, .int .i64 sh, .int .u8 sa, .int .i64 sc, .int .i64 so, .int .i64 sd, .int .i64 sm] 40) = W := ⟨_, rfl⟩
  have BW : Hid (Below w.heap.size w W0) := by rw [← hW]; exact below_alloc _ _
  have KB : Hid (Blk W0 w.heap.size [.int .u8 sk, .int .i64 sh, .int .u8 sa, .int .i64 sc, .int .i64 so, .int .i64 sd, .int .i64 sm] 40) := by rw [← hW]; exact Blk.newAt w _ _ _ w.heap.size rfl rfl
  have HP := hid (hp.below BW.out)
  have RL := hid hp.lt
  have x0 := KB.out.cell 0 _ rfl
  have PA := hid (rput_any W0.heap.size (.slice none 0 0) [] 11 sk 1 W0 (Own.nil W0 _) ⟨by show (0 : Int) ≤ 11 ∧ (11 : Int) < 256; decide, by show -9223372036854775808 ≤ sk ∧ sk ≤ 9223372036854775807; omega, by show (-9223372036854775808 : Int) ≤ 1 ∧ (1 : Int) ≤ 9223372036854775807; decide⟩ (fun q hq => by simp at hq) (Nat.le_refl _) (by simp))
  clear hp hk0
  go_enter Tryz.func9, Tryz.ntmps9
  go_wp2_with fail
  refine PA.out.mono ?_
  rintro e w1 ⟨u1, rfl, g1⟩
  have e11 : flt [(⟨11, sk, 1⟩ : Rn)] = [⟨11, sk, 1⟩] := by simp [flt]
  have O1 : Hid (Own w1 W0.heap.size u1 [⟨11, sk, 1⟩]) := hid (by have := g1.own; rw [e11, List.nil_append] at this; exact this)
  have Q1 : Hid (Kp (fun _ => False) W0 w1) := hid (g1.kp.mono (fun k _ e => by cases e))
  have KB1 := KB.out.kept Q1.out id
  have HP1 := HP.out.kept Q1.out id
  clear g1 hW x0 e11
  have SZ : Hid (w.heap.size < W0.heap.size) := hid KB.out.lt
  have y5 := KB1.cell 5 _ rfl
  have f5 := KB1.frozen 5
  obtain ⟨w2, hw2⟩ : ∃ x, w1.setCell ⟨w.heap.size, 5, none⟩ (.int .i64 (max sd 0)) = x := ⟨_, rfl⟩
  have KB2 : Blk w2 w.heap.size [.int .u8 sk, .int .i64 sh, .int .u8 sa, .int .i64 sc, .int .i64 so, .int .i64 (max sd 0), .int .i64 sm] 40 := by rw [← hw2]; exact KB1.set 5 _
  have Q2 : Kp (fun j => j = w.heap.size) w1 w2 := by rw [← hw2]; exact Kp.setCell _ _ _
  have z6 := KB2.cell 6 _ rfl
  have f6 := KB2.frozen 6
  obtain ⟨w3, hw3⟩ : ∃ x, w2.setCell ⟨w.heap.size, 6, none⟩ (.int .i64 (max sm 0)) = x := ⟨_, rfl⟩
  have KB3 : Hid (Blk w3 w.heap.size [.int .u8 sk, .int .i64 sh, .int .u8 sa, .int .i64 sc, .int .i64 so, .int .i64 (max sd 0), .int .i64 (max sm 0)] 40) := hid (by rw [← hw3]; exact KB2.set 6 _)
  have Q3 : Kp (fun j => j = w.heap.size) w2 w3 := by rw [← hw3]; exact Kp.setCell _ _ _
  have Q13 : Hid (Kp (fun j => j = w.heap.size) w1 w3) := hid (Q2.trans Q3 (fun _ _ e => e))
  have HP3 := hid (HP1.kept Q13.out (fun e => by have e : r = w.heap.size := e; have := RL.out; omega))
  have O3 : Hid (Own w3 W0.heap.size u1 [⟨11, sk, 1⟩]) := hid (O1.out.kept Q13.out (fun g hg e => by have := (O1.out.lt g hg).1; have e : g = w.heap.size := e; have := SZ.out; omega))
  have l3 := LDk_run (s := ⟨sk, sh, sa, sc, so, max sd 0, max sm 0⟩) KB3.out
  clear KB1 HP1 KB2 Q2 Q3
  go_wp2_with fail
  clear hw2 hw3 y5 f5 z6 f6
  refine (CO.out w3 HP3.out).mono ?_
  rintro e w4 ⟨rfl, hb4⟩
  have KB4 := hid (KB3.out.below hb4)
  have HP4 := hid (HP3.out.below hb4)
  have O4 := hid (O3.out.below hb4)
  have Q4 : Hid (Kp (fun j => w.heap.size ≤ j) w w4) := hid ((((Kp.of_below (fun j => w.heap.size ≤ j) BW.out).trans Q1.out (fun _ _ e => e.elim)).trans Q13.out (fun i _ e => by have e : i = w.heap.size := e; show w.heap.size ≤ i; omega)).trans (Kp.of_below (fun j => w.heap.size ≤ j) hb4) (fun _ _ e => e))
  have S4 : Hid (W0.heap.size ≤ w4.heap.size) := hid (Nat.le_trans Q1.out.size (Nat.le_trans Q13.out.size hb4.size))
  clear l3 hb4
  obtain ⟨c, hc⟩ : ∃ c, cod P (clp ⟨sk, sh, sa, sc, so, sd, sm⟩) = c := ⟨_, rfl⟩
  rw [hc] at CB RC RD DO ⊢
  have HC := hid hc
  have cb := CB.out
  by_cases c0 : c = 0
  · subst c0
    have D := DO.out u1 [⟨11, sk, 1⟩] w4 rfl HP4.out (O4.out.base (Nat.le_of_lt SZ.out)) (fun q hq => by simp only [List.getLast?_singleton, Option.some.injEq] at hq; subst hq; show (8 : Int) < 11; decide) RL.out (Nat.le_trans (Nat.le_of_lt SZ.out) S4.out) (by simp)
    have DH := hid D
    have R := hid (RD.out rfl)
    have l4 := LDk_run (s := ⟨sk, sh, sa, sc, so, max sd 0, max sm 0⟩) KB4.out
    clear D hc
    go_wp2_with fail
    refine DH.out.mono ?_
    rintro e w5 ⟨u5, rfl, D⟩
    have D5 := hid D
    have ml := mid_len (clp ⟨sk, sh, sa, sc, so, sd, sm⟩) ((hat P (clp ⟨sk, sh, sa, sc, so, sd, sm⟩).h).getD h0)
    have mk := hid (last_app (p := fun k => k = 11 ∨ k ≤ 8) (L := [⟨11, sk, 1⟩]) (M := flt (mid (clp ⟨sk, sh, sa, sc, so, sd, sm⟩) ((hat P (clp ⟨sk, sh, sa, sc, so, sd, sm⟩).h).getD h0))) (fun q hq => by simp only [List.getLast?_singleton, Option.some.injEq] at hq; subst hq; exact .inl rfl) (fun q hq => .inr (mid_k _ _ q hq)))
    clear D l4
    go_wp2_with fail
    refine (rput_any w.heap.size u5 _ 12 0 1 w5 D5.out.own ⟨by decide, by decide, by decide⟩ (ul_of (p := fun k => k = 11 ∨ k ≤ 8) mk.out (by show ¬ ((12 : Int) = 11 ∨ (12 : Int) ≤ 8); decide)) (Nat.le_trans Q4.out.size D5.out.kp.size) (by rw [List.length_append]; simp; omega)).mono ?_
    rintro e w6 ⟨u6, rfl, g6⟩
    have G6 := hid g6
    have own6 : Hid (Own w6 w.heap.size u6 (row P ⟨sk, sh, sa, sc, so, sd, sm⟩)) := hid (by rw [R.out.1]; have := g6.own; rw [show flt [(⟨12, 0, 1⟩ : Rn)] = [⟨12, 0, 1⟩] by simp [flt]] at this; exact this)
    have dp6 : Hid (DP w6 r (stp P ⟨sk, sh, sa, sc, so, sd, sm⟩)) := hid (by rw [R.out.2]; exact D5.out.dp.kept g6.kp (fun e => own_ne D5.out.own RL.out _ e rfl))
    have kp6 : Hid (Kp (fun j => j = r) w w6) := hid (by
      have o4 : ∀ g, u1.ownBlock = some g → w.heap.size ≤ g := fun g hg => by have := (O4.out.lt g hg).1; have := SZ.out; omega
      have o5 : ∀ g, u5.ownBlock = some g → w.heap.size ≤ g := fun g hg => by
        rcases D5.out.son with e | e
        · exact o4 g (e ▸ hg)
        · have := e g hg; have := Q4.out.size; omega
      exact (((Q4.out.mono (T := fun j => j = r ∨ w.heap.size ≤ j) (fun k _ h => .inr h)).trans D5.out.kp (fun i _ e => e.elim .inl (fun h => .inr (o4 i h)))).trans g6.kp (fun i _ h => .inr (o5 i h))).mono (fun k hk e => e.elim id (fun h => absurd h (by omega))))
    clear g6
    go_wp2
    refine bodyPost_ret (results_tmp2 rfl _ _ _) rfl ?_
    exact ⟨u6, by rw [HC.out]; rfl, own6.out, dp6.out, kp6.out⟩
  · have R := hid (RC.out c0)
    have nc : (c == 0) = false := by simpa using c0
    clear hc
    go_wp2_with fail
    refine (rput_any w.heap.size u1 [⟨11, sk, 1⟩] 12 c 1 w4 (O4.out.base (Nat.le_of_lt SZ.out)) ⟨by show (0 : Int) ≤ 12 ∧ (12 : Int) < 256; decide, by show -9223372036854775808 ≤ c ∧ c ≤ 9223372036854775807; omega, by show (-9223372036854775808 : Int) ≤ 1 ∧ (1 : Int) ≤ 9223372036854775807; decide⟩ (fun q hq e => by simp only [List.getLast?_singleton, Option.some.injEq] at hq; subst hq; have : (11 : Int) = 12 := e.1; exact absurd this (by decide)) Q4.out.size (by simp)).mono ?_
    rintro e w6 ⟨u6, rfl, g6⟩
    have own6 : Hid (Own w6 w.heap.size u6 (row P ⟨sk, sh, sa, sc, so, sd, sm⟩)) := hid (by rw [R.out.1]; have := g6.own; rw [show flt [(⟨12, c, 1⟩ : Rn)] = [⟨12, c, 1⟩] by simp [flt]] at this; exact this)
    have dp6 : Hid (DP w6 r (stp P ⟨sk, sh, sa, sc, so, sd, sm⟩)) := hid (by rw [R.out.2]; exact HP4.out.kept g6.kp (fun e => by have := (O4.out.lt _ e).1; have := SZ.out; have := RL.out; omega))
    have kp6 : Hid (Kp (fun j => j = r) w w6) := hid (by
      have o4 : ∀ g, u1.ownBlock = some g → w.heap.size ≤ g := fun g hg => by have := (O4.out.lt g hg).1; have := SZ.out; omega
      exact ((Q4.out.mono (T := fun j => j = r ∨ w.heap.size ≤ j) (fun k _ h => .inr h)).trans g6.kp (fun i _ h => .inr (o4 i h))).mono (fun k hk e => e.elim id (fun h => absurd h (by omega))))
    clear g6
    go_wp2
    refine bodyPost_ret (results_tmp2 rfl _ _ _) rfl ?_
    exact ⟨u6, by rw [HC.out]; rfl, own6.out, dp6.out, kp6.out⟩
end Go.Proofs.YtdmacflcjbkkpaaGreat.Cd
