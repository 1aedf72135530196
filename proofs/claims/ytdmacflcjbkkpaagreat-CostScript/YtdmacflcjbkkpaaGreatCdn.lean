/- What an operation that is not refused records and does, of the document. -/
import Derived.Test.YtdmacflcjbkkpaaGreatCcq
import Derived.Test.YtdmacflcjbkkpaaGreatJo
import Derived.Test.YtdmacflcjbkkpaaGreatJv
import Derived.BigRegion
namespace Go.Proofs.YtdmacflcjbkkpaaGreat.Cd
open Go.Proofs.YtdmacflcjbkkpaaGreat.Co
open Go.ChangeShapes Go.WideShapes Go.ChangeAt Go.RowKit
open Go.Proofs.YtdmacflcjbkkpaaGreat (Rn Own sm putL SameOrNew)
open Go.Proofs.YtdmacflcjbkkpaaGreat.Ou (Sk sv sL LDk SVk LDk_run SVk_run)
open Go.Proofs.YtdmacflcjbkkpaaGreat.Tb (Blk Blk.newAt put_all Kp.setCells)
/-- What done leaves: the list gone on with, what is held, all else as it was. -/
structure Dn (base r : Nat) (w w' : World) (u u' : Value) (L M : List Rn) (P : St) : Prop where
  own : Own w' base u' (L ++ M)
  dp : DP w' r P
  kp : Kp (fun k => k = r ∨ u.ownBlock = some k) w w'
  son : SameOrNew w u u'
theorem own_ne {w : World} {base r : Nat} {u : Value} {L : List Rn} (hu : Own w base u L) (hr : r < base) : ∀ g, u.ownBlock = some g → g ≠ r := fun g e e2 => by
  have := (hu.lt g e).1; omega
/-- Runs were put, nothing else was turned. -/
theorem Dn.of_go {base r : Nat} {w w' : World} {u u' : Value} {L M : List Rn} {P : St} (g : Go1 base w w' u u' L M) (hp : DP w r P) (hn : ∀ g, u.ownBlock = some g → g ≠ r) : Dn base r w w' u u' L M P :=
  ⟨g.own, hp.kept g.kp (fun e => hn _ e rfl), ⟨g.kp.os, g.kp.tape, g.kp.output, g.kp.size, fun k hk hh => g.kp.block k hk (fun e => hh (.inr e))⟩, g.son⟩
theorem Dn.after {base r : Nat} {w w0 w' : World} {u u' : Value} {L M : List Rn} {P : St} (b : Below w.heap.size w w0) (d : Dn base r w0 w' u u' L M P) : Dn base r w w' u u' L M P :=
  ⟨d.own, d.dp, (Kp.of_below _ b).trans d.kp (fun _ _ e => e), d.son.imp id (fun h x hx => Nat.le_trans b.size (h x hx))⟩
/-- The Public's block was turned. -/
theorem Dn.turn {base r : Nat} {w w1 w' : World} {u u1 : Value} {L M : List Rn} {P Q : St} (d : Dn base r w w1 u u1 L M P) (hk : Kp (fun k => k = r) w1 w') (hq : DP w' r Q) (hr : r < base) : Dn base r w w' u u1 L M Q :=
  ⟨d.own.kept hk (fun g e e2 => by have e2 : g = r := e2; exact own_ne d.own hr g e e2), hq, d.kp.trans hk (fun i _ e => .inl e), d.son⟩
theorem Dn.go {base r : Nat} {w w1 w2 : World} {u u1 u2 : Value} {L M N : List Rn} {P : St} (d : Dn base r w w1 u u1 L M P) (g : Go1 base w1 w2 u1 u2 (L ++ M) N) (hr : r < base) : Dn base r w w2 u u2 L (M ++ N) P := by
  refine ⟨by rw [← List.append_assoc]; exact g.own, d.dp.kept g.kp (fun e => own_ne d.own hr _ e rfl), d.kp.trans g.kp (fun k hk e => ?_), ?_⟩
  · rcases d.son with s | s
    · rw [s] at e; exact .inr e
    · exact absurd (s k e) (by omega)
  · rcases g.son with s | s
    · rw [SameOrNew, s]; exact d.son
    · exact .inr fun k e => Nat.le_trans d.kp.size (s k e)
theorem last_app {L M : List Rn} {p : Int → Prop} (h1 : ∀ q, L.getLast? = some q → p q.k) (h2 : ∀ q ∈ M, p q.k) : ∀ q, (L ++ M).getLast? = some q → p q.k := fun q hq => by
  rw [List.getLast?_append] at hq
  cases e : M.getLast? with
  | none => rw [e] at hq; exact h1 q (by simpa using hq)
  | some z =>
    rw [e] at hq
    simp only [Option.some_or, Option.some.injEq] at hq
    subst hq
    exact h2 z (List.mem_of_getLast? e)
theorem ul_of {L : List Rn} {p : Int → Prop} (h : ∀ q, L.getLast? = some q → p q.k) {k s c : Int} (hk : ¬ p k) : ∀ q, L.getLast? = some q → Ul q ⟨k, s, c⟩ := fun q hq e => by
  have := h q hq
  have e : q.k = k := e.1
  rw [e] at this
  exact hk this
theorem flt_app (L M : List Rn) : flt (L ++ M) = flt L ++ flt M := by unfold flt; exact List.filter_append ..
theorem flt_len (L : List Rn) : (flt L).length ≤ L.length := List.length_filter_le _ _
theorem sm_k (h : He) : ∀ q ∈ flt (smE h), q.k ≤ 5 := fun q hq => by
  obtain ⟨z, ez, _, hz⟩ := smE_one h
  have := (List.mem_filter.1 hq).1
  rw [ez] at this
  simp only [List.mem_singleton] at this
  subst this; exact hz
theorem sm_len (h : He) : (flt (smE h)).length ≤ 1 := by
  obtain ⟨z, ez, _, hz⟩ := smE_one h
  have := flt_len (smE h)
  rw [ez] at this ⊢
  exact this
/-- A handle that is marked, its cells not yet written. -/
def DPm (W : World) (r i : Nat) (P : St) : Prop := ∃ b h, Blk W r (pc (ub b i true) h) 67 ∧ ∀ j, j < 64 → P j = if b j then some (h j) else none
theorem DP.mark {W : World} {r i : Nat} {P : St} (h : DP W r P) (hi : i < 64) : DPm (W.setCell ⟨r, i, none⟩ (.bool true)) r i P := by
  obtain ⟨b, f, hb, hs⟩ := h
  exact ⟨b, f, by rw [← pc_setb b f hi]; exact hb.set i _, hs⟩
theorem DPm.kept {W W' : World} {r i : Nat} {P : St} {S : Nat → Prop} (h : DPm W r i P) (hk : Kp S W W') (hn : ¬ S r) : DPm W' r i P := by
  obtain ⟨b, f, hb, hs⟩ := h
  exact ⟨b, f, hb.kept hk hn, hs⟩
theorem DPm.put {W : World} {r i : Nat} {P : St} (h : DPm W r i P) (hi : i < 64) (x : He) : W.there r (64 + i * 5) 5 ∧ DP (W.setCells r (64 + i * 5) (dL x)) r (upS P i (some x)) := by
  obtain ⟨b, f, hb, hs⟩ := h
  refine ⟨hb.there _ _ (by rw [pc_length]; omega), ub b i true, uH f i x, ?_, fun j hj => ?_⟩
  · rw [← pc_put _ f hi]; exact hb.put _ _
  · unfold upS ub uH
    by_cases e : j = i
    · rw [if_pos e, if_pos e, if_pos e]; rfl
    · rw [if_neg e, if_neg e, if_neg e]; exact hs j hj
theorem DP.cellm {W : World} {r : Nat} {P : St} (h : DP W r P) {i : Nat} (hi : i < 64) {x : He} (e : P i = some x) : W.cell? ⟨r, 64 + i * 5 + 4, none⟩ = some (.int .i64 x.msg) := by
  obtain ⟨b, f, hb, hs⟩ := h
  have e2 := hs i hi
  rw [e] at e2
  have ef : f i = x := by
    cases hbi : b i with
    | true => rw [hbi] at e2; simpa using e2.symm
    | false => rw [hbi] at e2; cases e2
  exact hb.cell _ _ (by rw [pc_h b f hi (by omega), ef]; rfl)
theorem Dn.refl {base r : Nat} {w w' : World} {u : Value} {L : List Rn} {P : St} (b : Below w.heap.size w w') (hu : Own w base u L) (hp : DP w' r P) : Dn base r w w' u u L [] P :=
  ⟨by rw [List.append_nil]; exact hu.below b, hp, Kp.of_below _ b, .inl rfl⟩
theorem Kp.drew1 {S : Nat → Prop} {w w' : World} (h : Kp S w w') : Kp S w w'.drew := h.trans (Kp.of_below (fun _ => False) (below_drewN w' 1)) (fun _ _ e => e.elim)
theorem lastq {L : List Rn} {b : Int} (hl : ∀ q, L.getLast? = some q → b < q.k) {k s c : Int} (hk : k ≤ b) : ∀ q, L.getLast? = some q → Ul q ⟨k, s, c⟩ := fun q hq e => by
  have := hl q hq
  have e : q.k = k := e.1
  omega
set_option maxRecDepth 100000 in
set_option maxHeartbeats 4000000 in
theorem done_1 (base r : Nat) (P : St) (s : Sk) (u : Value) (L : List Rn) (w : World) (hk : s.k = 1) (hs : Sk.Fit s) (hP : P.Ok) (hg : Mg 1000000000000 P) (hc : cod P s = 0) (hp : DP w r P) (hu : Own w base u L) (hl : ∀ q, L.getLast? = some q → 8 < q.k) (hr : r < base) (hb0 : base ≤ w.heap.size) (hN : L.length ≤ 1000) :
    Calls Tryz.prog 33 #[.pointer (some ⟨r, 0, none⟩), u, sv s] w fun e w' => ∃ u', e = .returned u' ∧ Dn base r w w' u u' L (flt (mid s ((hat P s.h).getD h0))) (nxt P s) := by
  obtain ⟨sk, sh, sa, sc, so, sd, sm⟩ := s
  have hk : sk = 1 := hk
  subst hk
  have _q : True := by have _ := hg; have _ := hs; have _ := hP; have _ := hc; have _ := hN; have _ := hb0; trivial
  have F1 := fine_of hc
  have hfe : ∃ f, fre P = some f := by
    cases F1 with
    | put _ _ f => cases hf : fre P with
      | none => exact absurd hf f
      | some g => exact ⟨g, rfl⟩
    | on h e k c f => exact absurd k.1 (by show ¬ (2 : Int) ≤ 1; decide)
  obtain ⟨f, hf⟩ := hfe
  have HF := hid hf
  clear hf F1
  obtain ⟨W, hW⟩ : ∃ W, (w.alloc (.cells #[.int .u8 1, .int .i64 sh, .int .u8 sa, .int .i64 sc, .int .i64 so, .int .i64 sd, .int .i64 sm] 40)).alloc (.cells #[.int .i64 0, .int .u8 0, .int .i64 0, .int .i64 0, .int .i64 0] 64) = W := ⟨_, rfl⟩
  have BW : Below w.heap.size w W := by rw [← hW]; exact below_next (below_alloc _ _) (below_alloc _ _)
  have KB : Blk W w.heap.size [.int .u8 1, .int .i64 sh, .int .u8 sa, .int .i64 sc, .int .i64 so, .int .i64 sd, .int .i64 sm] 40 := by rw [← hW]; exact (Blk.newAt w _ _ _ w.heap.size rfl rfl : Blk _ _ [.int .u8 1, .int .i64 sh, .int .u8 sa, .int .i64 sc, .int .i64 so, .int .i64 sd, .int .i64 sm] _).alloc _
  have KH : Blk W (w.heap.size + 1) (dL h0) 64 := by rw [← hW]; exact Blk.newAt (w.alloc _) _ _ _ (w.heap.size + 1) (by simp) rfl
  obtain ⟨W1, s1, k1, q1⟩ := SVd_run h0 KH rfl
  have s1 : (SVd ⟨w.heap.size + 1, 0, none⟩ (.agg #[.int .i64 0, .int .u8 0, .int .i64 0, .int .i64 0, .int .i64 0])).run Tryz.prog W = .ok () W1 := s1
  have B1 : Below w.heap.size w W1 := BW.trans (q1.below (B := w.heap.size) BW.size (fun j hj e => by have e : j = w.heap.size + 1 := e; omega))
  have KB1 := KB.kept q1 (fun e => by have e : w.heap.size = w.heap.size + 1 := e; omega)
  have HP1 : DP W1 r P := (hp.below BW).kept q1 (fun e => by have e : r = w.heap.size + 1 := e; have := hp.lt; omega)
  obtain ⟨W2, s2, k2, Q2⟩ := SVd_run ⟨sd, 0, 0, 0, 0⟩ k1 rfl
  have KB2 := hid (KB1.kept Q2 (fun e => by have e : w.heap.size = w.heap.size + 1 := e; omega))
  have KH2 := hid k2
  have HP2 := hid (HP1.kept Q2 (fun e => by have e : r = w.heap.size + 1 := e; have := hp.lt; omega))
  have B2 : Hid (Below w.heap.size w W2) := hid (B1.trans (Q2.below (B := w.heap.size) B1.size (fun j hj e => by have e : j = w.heap.size + 1 := e; omega)))
  have HU := hid hu
  have HL := hid hl
  have HR := hid hr
  have HPL := hid hp.lt
  have x0 := KB1.cell 0 _ rfl
  have x5 := KB1.cell 5 _ rfl
  clear hu hl hr hp HP1 BW KB KH KB1 k1 q1 k2 Q2
  have D2 := hid (Dn.refl B2.out HU.out HP2.out)
  have z0 := KB2.out.cell 0 _ rfl
  go_enter Tryz.func33, Tryz.ntmps33
  go_wp2_with fail
  clear hW s1 s2 x0 x5
  have FR := hid (free_ok r P W2 D2.out.dp)
  have ff := (fre_inv HF.out).1
  have fn : (f : Int) < 64 := by omega
  have fz0 : (0 : Int) ≤ (f : Int) := by omega
  have FI : frI P = (f : Int) := by unfold frI; rw [HF.out]
  have ch := D2.out.dp.cell ff
  have fz := D2.out.dp.frozen f
  obtain ⟨V1, hV1⟩ : ∃ x, W2.setCell ⟨r, f, none⟩ (.bool true) = x := ⟨_, rfl⟩
  have M1 : DPm V1 r f P := by rw [← hV1]; exact D2.out.dp.mark ff
  have J1 : Kp (fun j => j = r) W2 V1 := by rw [← hV1]; exact Kp.setCell r f _
  have KH1 : Blk V1 (w.heap.size + 1) (dL ⟨sd, 0, 0, 0, 0⟩) 64 := KH2.out.kept J1 (fun e => by have e : w.heap.size + 1 = r := e; have := HPL.out; omega)
  have ld9 : (LDd ⟨w.heap.size + 1, 0, none⟩).run Tryz.prog V1.drew = .ok (dv ⟨sd, 0, 0, 0, 0⟩) V1.drew := LDd_blk (KH1.below (below_drewN _ 1))
  have M2 : DPm V1.drew r f P := M1.kept (Kp.of_below (fun _ => False) (below_drewN V1 1)) id
  have t9 := (M2.put ff ⟨sd, 0, 0, 0, 0⟩).1
  have dp9 := (M2.put ff ⟨sd, 0, 0, 0, 0⟩).2
  have s9 := SVd_at ⟨sd, 0, 0, 0, 0⟩ t9
  obtain ⟨V2, hV2⟩ : ∃ x, V1.drew.setCells r (64 + f * 5) (dL ⟨sd, 0, 0, 0, 0⟩) = x := ⟨_, rfl⟩
  rw [hV2] at s9 dp9
  have J2 : Kp (fun j => j = r) W2 V2 := by
    rw [← hV2]
    exact J1.trans ((Kp.of_below (fun j => j = r) (below_drewN V1 1)).trans (Kp.setCells r _ _) (fun _ _ e => e)) (fun _ _ e => e)
  have D9 := hid (Dn.turn D2.out J2 dp9 HR.out)
  have EM : Hid (flt (mid ⟨1, sh, sa, sc, so, sd, sm⟩ ((hat P sh).getD h0)) = []) := hid (by unfold mid; rfl)
  have EN : Hid (nxt P ⟨1, sh, sa, sc, so, sd, sm⟩ = upS P f (some ⟨sd, 0, 0, 0, 0⟩)) := hid (by rw [nxt_take (s := ⟨1, sh, sa, sc, so, sd, sm⟩) HF.out (by show (1 : Int) ≠ 3; decide) (by show ¬ ((1 : Int) = 4 ∨ (1 : Int) = 5 ∨ (1 : Int) = 10); decide) rfl]; rfl)
  clear M1 J1 KH1 M2 t9 dp9 J2 hV2
  have y0 := KB2.out.cell 0 _ rfl
  refine (takes_ok 1 _).mono ?_
  rintro e w9 ⟨rfl, rfl⟩
  rw [show tks 1 = true from rfl]
  go_wp2_with fail
  refine FR.out.mono ?_
  rintro e w9 ⟨rfl, rfl⟩
  rw [FI]
  go_wp2_with fail
  clear hV1
  go_region
  clear ld9 s9 ch fz
  go_wp2
  go_ret
  exact ⟨u, rfl, by rw [EM.out, EN.out]; exact D9.out⟩
set_option maxRecDepth 100000 in
set_option maxHeartbeats 4000000 in
theorem done_2 (base r : Nat) (P : St) (s : Sk) (u : Value) (L : List Rn) (w : World) (hk : s.k = 2) (hs : Sk.Fit s) (hP : P.Ok) (hg : Mg 1000000000000 P) (hc : cod P s = 0) (hp : DP w r P) (hu : Own w base u L) (hl : ∀ q, L.getLast? = some q → 8 < q.k) (hr : r < base) (hb0 : base ≤ w.heap.size) (hN : L.length ≤ 1000) :
    Calls Tryz.prog 33 #[.pointer (some ⟨r, 0, none⟩), u, sv s] w fun e w' => ∃ u', e = .returned u' ∧ Dn base r w w' u u' L (flt (mid s ((hat P s.h).getD h0))) (nxt P s) := by
  obtain ⟨sk, sh, sa, sc, so, sd, sm⟩ := s
  have hk : sk = 2 := hk
  subst hk
  have _q : True := by have _ := hg; have _ := hs; have _ := hP; have _ := hc; have _ := hN; have _ := hb0; trivial
  obtain ⟨y, hy, hfit, htk⟩ := fine_on (fine_of hc) (by show (2 : Int) ≠ 1; decide)
  have hx := hat_of hy
  obtain ⟨n, rfl⟩ : ∃ n : Nat, sh = n := ⟨sh.toNat, by have : 0 ≤ sh := hx.1; omega⟩
  have n64 : n < 64 := by have : (n : Int) < 64 := hx.2.1; omega
  have Pn : P n = some y := by simpa using hx.2.2
  have hyo := hP n y Pn
  obtain ⟨W, hW⟩ : ∃ W, (w.alloc (.cells #[.int .u8 2, .int .i64 (n : Int), .int .u8 sa, .int .i64 sc, .int .i64 so, .int .i64 sd, .int .i64 sm] 40)).alloc (.cells #[.int .i64 0, .int .u8 0, .int .i64 0, .int .i64 0, .int .i64 0] 64) = W := ⟨_, rfl⟩
  have BW : Below w.heap.size w W := by rw [← hW]; exact below_next (below_alloc _ _) (below_alloc _ _)
  have KB : Blk W w.heap.size [.int .u8 2, .int .i64 (n : Int), .int .u8 sa, .int .i64 sc, .int .i64 so, .int .i64 sd, .int .i64 sm] 40 := by rw [← hW]; exact (Blk.newAt w _ _ _ w.heap.size rfl rfl : Blk _ _ [.int .u8 2, .int .i64 (n : Int), .int .u8 sa, .int .i64 sc, .int .i64 so, .int .i64 sd, .int .i64 sm] _).alloc _
  have KH : Blk W (w.heap.size + 1) (dL h0) 64 := by rw [← hW]; exact Blk.newAt (w.alloc _) _ _ _ (w.heap.size + 1) (by simp) rfl
  obtain ⟨W1, s1, k1, q1⟩ := SVd_run h0 KH rfl
  have s1 : (SVd ⟨w.heap.size + 1, 0, none⟩ (.agg #[.int .i64 0, .int .u8 0, .int .i64 0, .int .i64 0, .int .i64 0])).run Tryz.prog W = .ok () W1 := s1
  have B1 : Below w.heap.size w W1 := BW.trans (q1.below (B := w.heap.size) BW.size (fun j hj e => by have e : j = w.heap.size + 1 := e; omega))
  have KB1 := KB.kept q1 (fun e => by have e : w.heap.size = w.heap.size + 1 := e; omega)
  have b2 := fit_two (s := ⟨2, (n : Int), sa, sc, so, sd, sm⟩) (h := y) rfl hfit
  have bz := bgC_zero b2.2
  have hq : He.Ok ⟨y.key, sa, so, sd, 0⟩ := ⟨hyo.k0, hyo.k1, by show 0 ≤ sa; have : 1 ≤ sa := bz.1; omega, by show sa ≤ 7; exact bz.2.1, by show 0 ≤ so; have : 1 ≤ so := bz.2.2.2.1; omega, by show so ≤ 64; exact bz.2.2.2.2, by show 0 ≤ sd; exact hs.d.1, by show sd ≤ 64; exact bz.2.2.1, Int.le_refl 0⟩
  have HQ := hid hq
  obtain ⟨f, hf⟩ := htk rfl
  have HF := hid hf
  clear hf hq b2 bz
  have HP1 : DP W1 r P := (hp.below BW).kept q1 (fun e => by have e : r = w.heap.size + 1 := e; have := hp.lt; omega)
  have xl : (LDd ⟨r, 64 + n * 5, none⟩).run Tryz.prog W1.drew = .ok (dv y) W1.drew := (HP1.below (below_drewN W1 1)).load n64 Pn
  have K1d : Blk W1.drew (w.heap.size + 1) (dL h0) 64 := k1.below (below_drewN W1 1)
  obtain ⟨W2, s2, k2, q2⟩ := SVd_run y K1d rfl
  have Q2 : Kp (fun j => j = w.heap.size + 1) W1 W2 := (Kp.of_below (fun j => j = w.heap.size + 1) (below_drewN W1 1)).trans q2 (fun _ _ e => e)
  have KB2 := hid (KB1.kept Q2 (fun e => by have e : w.heap.size = w.heap.size + 1 := e; omega))
  have KH2 := hid k2
  have HP2 := hid (HP1.kept Q2 (fun e => by have e : r = w.heap.size + 1 := e; have := hp.lt; omega))
  have B2 : Hid (Below w.heap.size w W2) := hid (B1.trans (Q2.below (B := w.heap.size) B1.size (fun j hj e => by have e : j = w.heap.size + 1 := e; omega)))
  have HU := hid hu
  have HL := hid hl
  have HR := hid hr
  have HPL := hid hp.lt
  obtain ⟨key, alg, ot, cus, msg⟩ := y
  have x0 := KB1.cell 0 _ rfl
  have x1 := KB1.cell 1 _ rfl
  have nn : (n : Int) < 64 := by omega
  have nz : (0 : Int) ≤ (n : Int) := by omega
  clear hu hl hr hp HP1 BW KB KH KB1 k1 q1 K1d k2 q2 Q2
  go_enter Tryz.func33, Tryz.ntmps33
  go_wp2_with fail
  clear hW
  go_region
  clear s1 s2 xl x0 x1
  have z0 := KB2.out.cell 0 _ rfl
  have z2 := KB2.out.cell 2 _ rfl
  have z4 := KB2.out.cell 4 _ rfl
  have z5 := KB2.out.cell 5 _ rfl
  have h0' := KH2.out.cell 0 _ rfl
  obtain ⟨W3, s3, k3, q3⟩ := SVd_run ⟨key, sa, so, sd, 0⟩ KH2.out rfl
  have KB3 : Hid (Blk W3 w.heap.size [.int .u8 2, .int .i64 (n : Int), .int .u8 sa, .int .i64 sc, .int .i64 so, .int .i64 sd, .int .i64 sm] 40) := hid (KB2.out.kept q3 (fun e => by have e : w.heap.size = w.heap.size + 1 := e; omega))
  have KH3 : Hid (Blk W3 (w.heap.size + 1) (dL ⟨key, sa, so, sd, 0⟩) 64) := hid k3
  have HP3 := hid (HP2.out.kept q3 (fun e => by have e : r = w.heap.size + 1 := e; have := HPL.out; omega))
  have B3 : Hid (Below w.heap.size w W3) := hid (B2.out.trans (q3.below (B := w.heap.size) B2.out.size (fun j hj e => by have e : j = w.heap.size + 1 := e; omega)))
  have KL := LDd_blk k3
  clear k3 q3
  go_wp2_with fail
  refine (begun_ok base u L ⟨key, sa, so, sd, 0⟩ W3 HQ.out (HU.out.below B3.out) (fun q h => by have := HL.out q h; omega) (Nat.le_trans hb0 B3.out.size) hN).mono ?_
  rintro e w4 ⟨u4, rfl, g⟩
  have D4 := hid (Dn.after B3.out (Dn.of_go (r := r) (P := P) g HP3.out (own_ne HU.out HR.out)))
  have KB4 : Hid (Blk w4 w.heap.size [.int .u8 2, .int .i64 (n : Int), .int .u8 sa, .int .i64 sc, .int .i64 so, .int .i64 sd, .int .i64 sm] 40) := hid (KB3.out.kept g.kp (fun e => by have := (HU.out.lt _ e).2; omega))
  have KH4 : Hid (Blk w4 (w.heap.size + 1) (dL ⟨key, sa, so, sd, 0⟩) 64) := hid (KH3.out.kept g.kp (fun e => by have := (HU.out.lt _ e).2; omega))
  clear g z0 z2 z4 z5 h0' s3 KL
  have FR := hid (free_ok r P w4 D4.out.dp)
  have ff := (fre_inv HF.out).1
  have fn : (f : Int) < 64 := by omega
  have fz0 : (0 : Int) ≤ (f : Int) := by omega
  have FI : frI P = (f : Int) := by unfold frI; rw [HF.out]
  have ch := D4.out.dp.cell ff
  have fz := D4.out.dp.frozen f
  obtain ⟨V1, hV1⟩ : ∃ x, w4.setCell ⟨r, f, none⟩ (.bool true) = x := ⟨_, rfl⟩
  have M1 : DPm V1 r f P := by rw [← hV1]; exact D4.out.dp.mark ff
  have J1 : Kp (fun j => j = r) w4 V1 := by rw [← hV1]; exact Kp.setCell r f _
  have KH1 : Blk V1 (w.heap.size + 1) (dL ⟨key, sa, so, sd, 0⟩) 64 := KH4.out.kept J1 (fun e => by have e : w.heap.size + 1 = r := e; have := HPL.out; omega)
  have ld9 : (LDd ⟨w.heap.size + 1, 0, none⟩).run Tryz.prog V1.drew = .ok (dv ⟨key, sa, so, sd, 0⟩) V1.drew := LDd_blk (KH1.below (below_drewN _ 1))
  have M2 : DPm V1.drew r f P := M1.kept (Kp.of_below (fun _ => False) (below_drewN V1 1)) id
  have t9 := (M2.put ff ⟨key, sa, so, sd, 0⟩).1
  have dp9 := (M2.put ff ⟨key, sa, so, sd, 0⟩).2
  have s9 := SVd_at ⟨key, sa, so, sd, 0⟩ t9
  obtain ⟨V2, hV2⟩ : ∃ x, V1.drew.setCells r (64 + f * 5) (dL ⟨key, sa, so, sd, 0⟩) = x := ⟨_, rfl⟩
  rw [hV2] at s9 dp9
  have J2 : Kp (fun j => j = r) w4 V2 := by
    rw [← hV2]
    exact J1.trans ((Kp.of_below (fun j => j = r) (below_drewN V1 1)).trans (Kp.setCells r _ _) (fun _ _ e => e)) (fun _ _ e => e)
  have D9 := hid (Dn.turn D4.out J2 dp9 HR.out)
  have EM : Hid (flt (mid ⟨2, (n : Int), sa, sc, so, sd, sm⟩ ((hat P (n : Int)).getD h0)) = flt (bgE ⟨key, sa, so, sd, 0⟩)) := hid (by unfold mid; simp only [hy]; rfl)
  have EN : Hid (nxt P ⟨2, (n : Int), sa, sc, so, sd, sm⟩ = upS P f (some ⟨key, sa, so, sd, 0⟩)) := hid (by rw [nxt_take (s := ⟨2, (n : Int), sa, sc, so, sd, sm⟩) HF.out (by show (2 : Int) ≠ 3; decide) (by show ¬ ((2 : Int) = 4 ∨ (2 : Int) = 5 ∨ (2 : Int) = 10); decide) rfl]; unfold hel; simp only [hy]; rfl)
  clear M1 J1 KH1 M2 t9 dp9 J2 hV2
  have y0 := KB4.out.cell 0 _ rfl
  go_wp2_with fail
  refine (takes_ok 2 _).mono ?_
  rintro e w9 ⟨rfl, rfl⟩
  rw [show tks 2 = true from rfl]
  go_wp2_with fail
  refine FR.out.mono ?_
  rintro e w9 ⟨rfl, rfl⟩
  rw [FI]
  go_wp2_with fail
  clear hV1
  go_region
  clear ld9 s9 ch fz
  go_wp2
  go_ret
  exact ⟨u4, rfl, by rw [EM.out, EN.out]; exact D9.out⟩
set_option maxRecDepth 100000 in
set_option maxHeartbeats 4000000 in
theorem done_3 (base r : Nat) (P : St) (s : Sk) (u : Value) (L : List Rn) (w : World) (hk : s.k = 3) (hs : Sk.Fit s) (hP : P.Ok) (hg : Mg 1000000000000 P) (hc : cod P s = 0) (hp : DP w r P) (hu : Own w base u L) (hl : ∀ q, L.getLast? = some q → 8 < q.k) (hr : r < base) (hb0 : base ≤ w.heap.size) (hN : L.length ≤ 1000) :
    Calls Tryz.prog 33 #[.pointer (some ⟨r, 0, none⟩), u, sv s] w fun e w' => ∃ u', e = .returned u' ∧ Dn base r w w' u u' L (flt (mid s ((hat P s.h).getD h0))) (nxt P s) := by
  obtain ⟨sk, sh, sa, sc, so, sd, sm⟩ := s
  have hk : sk = 3 := hk
  subst hk
  have _q : True := by have _ := hg; have _ := hs; have _ := hP; have _ := hc; have _ := hN; have _ := hb0; trivial
  obtain ⟨y, hy, hfit, htk⟩ := fine_on (fine_of hc) (by show (3 : Int) ≠ 1; decide)
  have hx := hat_of hy
  obtain ⟨n, rfl⟩ : ∃ n : Nat, sh = n := ⟨sh.toNat, by have : 0 ≤ sh := hx.1; omega⟩
  have n64 : n < 64 := by have : (n : Int) < 64 := hx.2.1; omega
  have Pn : P n = some y := by simpa using hx.2.2
  have hyo := hP n y Pn
  obtain ⟨W, hW⟩ : ∃ W, (w.alloc (.cells #[.int .u8 3, .int .i64 (n : Int), .int .u8 sa, .int .i64 sc, .int .i64 so, .int .i64 sd, .int .i64 sm] 40)).alloc (.cells #[.int .i64 0, .int .u8 0, .int .i64 0, .int .i64 0, .int .i64 0] 64) = W := ⟨_, rfl⟩
  have BW : Below w.heap.size w W := by rw [← hW]; exact below_next (below_alloc _ _) (below_alloc _ _)
  have KB : Blk W w.heap.size [.int .u8 3, .int .i64 (n : Int), .int .u8 sa, .int .i64 sc, .int .i64 so, .int .i64 sd, .int .i64 sm] 40 := by rw [← hW]; exact (Blk.newAt w _ _ _ w.heap.size rfl rfl : Blk _ _ [.int .u8 3, .int .i64 (n : Int), .int .u8 sa, .int .i64 sc, .int .i64 so, .int .i64 sd, .int .i64 sm] _).alloc _
  have KH : Blk W (w.heap.size + 1) (dL h0) 64 := by rw [← hW]; exact Blk.newAt (w.alloc _) _ _ _ (w.heap.size + 1) (by simp) rfl
  obtain ⟨W1, s1, k1, q1⟩ := SVd_run h0 KH rfl
  have s1 : (SVd ⟨w.heap.size + 1, 0, none⟩ (.agg #[.int .i64 0, .int .u8 0, .int .i64 0, .int .i64 0, .int .i64 0])).run Tryz.prog W = .ok () W1 := s1
  have B1 : Below w.heap.size w W1 := BW.trans (q1.below (B := w.heap.size) BW.size (fun j hj e => by have e : j = w.heap.size + 1 := e; omega))
  have KB1 := KB.kept q1 (fun e => by have e : w.heap.size = w.heap.size + 1 := e; omega)
  have hm := hg n y Pn
  have f3 := fit_three (s := ⟨3, (n : Int), sa, sc, so, sd, sm⟩) (h := y) rfl hfit
  have d1 : sd ≤ 65536 := f3.2
  have d0 : 0 ≤ sd := hs.d.1
  have cm := Pn
  have HP1 : DP W1 r P := (hp.below BW).kept q1 (fun e => by have e : r = w.heap.size + 1 := e; have := hp.lt; omega)
  have xl : (LDd ⟨r, 64 + n * 5, none⟩).run Tryz.prog W1.drew = .ok (dv y) W1.drew := (HP1.below (below_drewN W1 1)).load n64 Pn
  have K1d : Blk W1.drew (w.heap.size + 1) (dL h0) 64 := k1.below (below_drewN W1 1)
  obtain ⟨W2, s2, k2, q2⟩ := SVd_run y K1d rfl
  have Q2 : Kp (fun j => j = w.heap.size + 1) W1 W2 := (Kp.of_below (fun j => j = w.heap.size + 1) (below_drewN W1 1)).trans q2 (fun _ _ e => e)
  have KB2 := hid (KB1.kept Q2 (fun e => by have e : w.heap.size = w.heap.size + 1 := e; omega))
  have KH2 := hid k2
  have HP2 := hid (HP1.kept Q2 (fun e => by have e : r = w.heap.size + 1 := e; have := hp.lt; omega))
  have B2 : Hid (Below w.heap.size w W2) := hid (B1.trans (Q2.below (B := w.heap.size) B1.size (fun j hj e => by have e : j = w.heap.size + 1 := e; omega)))
  have HU := hid hu
  have HL := hid hl
  have HR := hid hr
  have HPL := hid hp.lt
  obtain ⟨key, alg, ot, cus, msg⟩ := y
  have x0 := KB1.cell 0 _ rfl
  have x1 := KB1.cell 1 _ rfl
  have nn : (n : Int) < 64 := by omega
  have nz : (0 : Int) ≤ (n : Int) := by omega
  have MS := hid hm
  have YO := hid hyo
  have CM := hid cm
  clear hm hyo f3 cm
  clear hu hl hr hp HP1 BW KB KH KB1 k1 q1 K1d k2 q2 Q2
  go_enter Tryz.func33, Tryz.ntmps33
  go_wp2_with fail
  clear hW
  go_region
  clear s1 s2 xl x0 x1
  have z0 := KB2.out.cell 0 _ rfl
  have z5 := KB2.out.cell 5 _ rfl
  have KL := LDd_blk KH2.out
  have m0 : 0 ≤ msg := YO.out.m0
  have m1 : msg ≤ 1000000000000 := MS.out
  have hw : IntKind.i64.wrap (msg + sd) = msg + sd := by rw [IntKind.wrap_i64]; omega
  go_wp2_with fail
  refine (told_ok base u L ⟨key, alg, ot, cus, msg⟩ sd W2 YO.out MS.out ⟨d0, d1⟩ (HU.out.below B2.out) (fun q h => by have := HL.out q h; omega) (Nat.le_trans hb0 B2.out.size) hN).mono ?_
  rintro e w3 ⟨u3, rfl, g⟩
  have D3 := hid (Dn.after B2.out (Dn.of_go (r := r) (P := P) g HP2.out (own_ne HU.out HR.out)))
  have KB3 : Hid (Blk w3 w.heap.size [.int .u8 3, .int .i64 (n : Int), .int .u8 sa, .int .i64 sc, .int .i64 so, .int .i64 sd, .int .i64 sm] 40) := hid (KB2.out.kept g.kp (fun e => by have := (HU.out.lt _ e).2; omega))
  have KH3 : Hid (Blk w3 (w.heap.size + 1) (dL ⟨key, alg, ot, cus, msg⟩) 64) := hid (KH2.out.kept g.kp (fun e => by have := (HU.out.lt _ e).2; omega))
  clear g z0 z5 KL
  have z1 := KB3.out.cell 1 _ rfl
  have z5 := KB3.out.cell 5 _ rfl
  have h4 := KH3.out.cell 4 _ rfl
  have ch := D3.out.dp.cellm n64 CM.out
  have fz := D3.out.dp.frozen (64 + n * 5 + 4)
  obtain ⟨W4, hW4⟩ : ∃ x, (w3.setCell ⟨r, 64 + n * 5 + 4, none⟩ (.int .i64 (msg + sd))).drew = x := ⟨_, rfl⟩
  have Q4 : Kp (fun j => j = r) w3 W4 := by rw [← hW4]; exact Kp.drew1 (Kp.setCell r _ _)
  have P4 : DP W4 r (upS P n (some ⟨key, alg, ot, cus, msg + sd⟩)) := by rw [← hW4]; exact (D3.out.dp.more n64 CM.out (msg + sd)).below (below_drewN _ 1)
  have KB4 : Hid (Blk W4 w.heap.size [.int .u8 3, .int .i64 (n : Int), .int .u8 sa, .int .i64 sc, .int .i64 so, .int .i64 sd, .int .i64 sm] 40) := hid (KB3.out.kept Q4 (fun e => by have e : w.heap.size = r := e; have := HPL.out; omega))
  have D4 := hid (Dn.turn D3.out Q4 P4 HR.out)
  have EM : Hid (flt (mid ⟨3, (n : Int), sa, sc, so, sd, sm⟩ ((hat P (n : Int)).getD h0)) = flt (tlE ⟨key, alg, ot, cus, msg⟩ sd)) := hid (by unfold mid; simp only [hy]; rfl)
  have EN : Hid (nxt P ⟨3, (n : Int), sa, sc, so, sd, sm⟩ = upS P n (some ⟨key, alg, ot, cus, msg + sd⟩)) := hid (by unfold nxt; simp only [hy]; rfl)
  clear Q4 P4
  go_wp2_with fail
  go_region
  clear hW4 ch fz z1 z5 h4
  have y0 := KB4.out.cell 0 _ rfl
  go_wp2_with fail
  refine (takes_ok 3 _).mono ?_
  rintro e w9 ⟨rfl, rfl⟩
  rw [show tks 3 = false from rfl]
  go_wp2
  go_ret
  exact ⟨u3, rfl, by rw [EM.out, EN.out]; exact D4.out⟩
set_option maxRecDepth 100000 in
set_option maxHeartbeats 4000000 in
theorem done_4 (base r : Nat) (P : St) (s : Sk) (u : Value) (L : List Rn) (w : World) (hk : s.k = 4) (hs : Sk.Fit s) (hP : P.Ok) (hg : Mg 1000000000000 P) (hc : cod P s = 0) (hp : DP w r P) (hu : Own w base u L) (hl : ∀ q, L.getLast? = some q → 8 < q.k) (hr : r < base) (hb0 : base ≤ w.heap.size) (hN : L.length ≤ 1000) :
    Calls Tryz.prog 33 #[.pointer (some ⟨r, 0, none⟩), u, sv s] w fun e w' => ∃ u', e = .returned u' ∧ Dn base r w w' u u' L (flt (mid s ((hat P s.h).getD h0))) (nxt P s) := by
  obtain ⟨sk, sh, sa, sc, so, sd, sm⟩ := s
  have hk : sk = 4 := hk
  subst hk
  have _q : True := by have _ := hg; have _ := hs; have _ := hP; have _ := hc; have _ := hN; have _ := hb0; trivial
  obtain ⟨y, hy, hfit, htk⟩ := fine_on (fine_of hc) (by show (4 : Int) ≠ 1; decide)
  have hx := hat_of hy
  obtain ⟨n, rfl⟩ : ∃ n : Nat, sh = n := ⟨sh.toNat, by have : 0 ≤ sh := hx.1; omega⟩
  have n64 : n < 64 := by have : (n : Int) < 64 := hx.2.1; omega
  have Pn : P n = some y := by simpa using hx.2.2
  have hyo := hP n y Pn
  obtain ⟨W, hW⟩ : ∃ W, (w.alloc (.cells #[.int .u8 4, .int .i64 (n : Int), .int .u8 sa, .int .i64 sc, .int .i64 so, .int .i64 sd, .int .i64 sm] 40)).alloc (.cells #[.int .i64 0, .int .u8 0, .int .i64 0, .int .i64 0, .int .i64 0] 64) = W := ⟨_, rfl⟩
  have BW : Below w.heap.size w W := by rw [← hW]; exact below_next (below_alloc _ _) (below_alloc _ _)
  have KB : Blk W w.heap.size [.int .u8 4, .int .i64 (n : Int), .int .u8 sa, .int .i64 sc, .int .i64 so, .int .i64 sd, .int .i64 sm] 40 := by rw [← hW]; exact (Blk.newAt w _ _ _ w.heap.size rfl rfl : Blk _ _ [.int .u8 4, .int .i64 (n : Int), .int .u8 sa, .int .i64 sc, .int .i64 so, .int .i64 sd, .int .i64 sm] _).alloc _
  have KH : Blk W (w.heap.size + 1) (dL h0) 64 := by rw [← hW]; exact Blk.newAt (w.alloc _) _ _ _ (w.heap.size + 1) (by simp) rfl
  obtain ⟨W1, s1, k1, q1⟩ := SVd_run h0 KH rfl
  have s1 : (SVd ⟨w.heap.size + 1, 0, none⟩ (.agg #[.int .i64 0, .int .u8 0, .int .i64 0, .int .i64 0, .int .i64 0])).run Tryz.prog W = .ok () W1 := s1
  have B1 : Below w.heap.size w W1 := BW.trans (q1.below (B := w.heap.size) BW.size (fun j hj e => by have e : j = w.heap.size + 1 := e; omega))
  have KB1 := KB.kept q1 (fun e => by have e : w.heap.size = w.heap.size + 1 := e; omega)
  have hm := hg n y Pn
  have HP1 : DP W1 r P := (hp.below BW).kept q1 (fun e => by have e : r = w.heap.size + 1 := e; have := hp.lt; omega)
  have xl : (LDd ⟨r, 64 + n * 5, none⟩).run Tryz.prog W1.drew = .ok (dv y) W1.drew := (HP1.below (below_drewN W1 1)).load n64 Pn
  have K1d : Blk W1.drew (w.heap.size + 1) (dL h0) 64 := k1.below (below_drewN W1 1)
  obtain ⟨W2, s2, k2, q2⟩ := SVd_run y K1d rfl
  have Q2 : Kp (fun j => j = w.heap.size + 1) W1 W2 := (Kp.of_below (fun j => j = w.heap.size + 1) (below_drewN W1 1)).trans q2 (fun _ _ e => e)
  have KB2 := hid (KB1.kept Q2 (fun e => by have e : w.heap.size = w.heap.size + 1 := e; omega))
  have KH2 := hid k2
  have HP2 := hid (HP1.kept Q2 (fun e => by have e : r = w.heap.size + 1 := e; have := hp.lt; omega))
  have B2 : Hid (Below w.heap.size w W2) := hid (B1.trans (Q2.below (B := w.heap.size) B1.size (fun j hj e => by have e : j = w.heap.size + 1 := e; omega)))
  have HU := hid hu
  have HL := hid hl
  have HR := hid hr
  have HPL := hid hp.lt
  obtain ⟨key, alg, ot, cus, msg⟩ := y
  have x0 := KB1.cell 0 _ rfl
  have x1 := KB1.cell 1 _ rfl
  have nn : (n : Int) < 64 := by omega
  have nz : (0 : Int) ≤ (n : Int) := by omega
  have MS := hid hm
  have YO := hid hyo
  clear hm hyo
  clear hu hl hr hp HP1 BW KB KH KB1 k1 q1 K1d k2 q2 Q2
  go_enter Tryz.func33, Tryz.ntmps33
  go_wp2_with fail
  clear hW
  go_region
  clear s1 s2 xl x0 x1
  have z0 := KB2.out.cell 0 _ rfl
  have z1 := KB2.out.cell 1 _ rfl
  have KL := LDd_blk KH2.out
  go_wp2_with fail
  refine (summed_ok base u L ⟨key, alg, ot, cus, msg⟩ W2 YO.out MS.out (HU.out.below B2.out) (fun q h => by have := HL.out q h; omega) (Nat.le_trans hb0 B2.out.size) hN).mono ?_
  rintro e w3 ⟨u3, rfl, g⟩
  have D3 := hid (Dn.after B2.out (Dn.of_go (r := r) (P := P) g HP2.out (own_ne HU.out HR.out)))
  have KB3 : Hid (Blk w3 w.heap.size [.int .u8 4, .int .i64 (n : Int), .int .u8 sa, .int .i64 sc, .int .i64 so, .int .i64 sd, .int .i64 sm] 40) := hid (KB2.out.kept g.kp (fun e => by have := (HU.out.lt _ e).2; omega))
  have LQ := hid (last_app (p := fun k => 8 < k ∨ k ≤ 5) (L := L) (M := flt (smE ⟨key, alg, ot, cus, msg⟩)) (fun q h => .inl (HL.out q h)) (fun q h => .inr (sm_k ⟨key, alg, ot, cus, msg⟩ q h)))
  have LN := sm_len ⟨key, alg, ot, cus, msg⟩
  have OB3 : Hid (∀ g, u3.ownBlock = some g → g ≠ w.heap.size) := hid (fun q e => by
    have b2 := KH2.out.lt
    rcases g.son with s | s
    · have := (HU.out.lt q (s ▸ e)).2; omega
    · have := s q e; omega)
  clear g z0 z1 KL
  have z0 := KB3.out.cell 0 _ rfl
  go_wp2_with fail
  refine (rput_any base u3 (L ++ flt (smE ⟨key, alg, ot, cus, msg⟩)) 8 1024 1 w3 D3.out.own ⟨by decide, by decide, by decide⟩ (ul_of (p := fun k => 8 < k ∨ k ≤ 5) LQ.out (by show ¬ ((8 : Int) < 8 ∨ (8 : Int) ≤ 5); decide)) (Nat.le_trans hb0 D3.out.kp.size) (by rw [List.length_append]; omega)).mono ?_
  rintro e w6 ⟨u6, rfl, g⟩
  have D6 := hid (Dn.go D3.out g HR.out)
  have KB6 : Hid (Blk w6 w.heap.size [.int .u8 4, .int .i64 (n : Int), .int .u8 sa, .int .i64 sc, .int .i64 so, .int .i64 sd, .int .i64 sm] 40) := hid (KB3.out.kept g.kp (fun e => OB3.out _ e rfl))
  clear g z0
  have z1 := KB6.out.cell 1 _ rfl
  have ch := D6.out.dp.cell n64
  have fz := D6.out.dp.frozen n
  obtain ⟨W4, hW4⟩ : ∃ x, (w6.setCell ⟨r, n, none⟩ (.bool false)).drew = x := ⟨_, rfl⟩
  have Q4 : Kp (fun j => j = r) w6 W4 := by rw [← hW4]; exact Kp.drew1 (Kp.setCell r n _)
  have P4 : DP W4 r (upS P n none) := by rw [← hW4]; exact (D6.out.dp.free n64).below (below_drewN _ 1)
  have KB4 : Hid (Blk W4 w.heap.size [.int .u8 4, .int .i64 (n : Int), .int .u8 sa, .int .i64 sc, .int .i64 so, .int .i64 sd, .int .i64 sm] 40) := hid (KB6.out.kept Q4 (fun e => by have e : w.heap.size = r := e; have := HPL.out; omega))
  have D4 := hid (Dn.turn D6.out Q4 P4 HR.out)
  have EM : Hid (flt (mid ⟨4, (n : Int), sa, sc, so, sd, sm⟩ ((hat P (n : Int)).getD h0)) = flt (smE ⟨key, alg, ot, cus, msg⟩) ++ flt [⟨8, 1024, 1⟩]) := hid (by unfold mid; simp only [hy]; rw [if_neg (by decide), if_neg (by decide), if_pos trivial, flt_app]; rfl)
  have EN : Hid (nxt P ⟨4, (n : Int), sa, sc, so, sd, sm⟩ = upS P n none) := hid (by rw [nxt_free (s := ⟨4, (n : Int), sa, sc, so, sd, sm⟩) (.inl rfl)]; rfl)
  clear Q4 P4
  go_wp2_with fail
  go_region
  clear hW4 ch fz z1
  have y0 := KB4.out.cell 0 _ rfl
  go_wp2_with fail
  refine (takes_ok 4 _).mono ?_
  rintro e w9 ⟨rfl, rfl⟩
  rw [show tks 4 = false from rfl]
  go_wp2
  go_ret
  exact ⟨u6, rfl, by rw [EM.out, EN.out]; exact D4.out⟩
set_option maxRecDepth 100000 in
set_option maxHeartbeats 4000000 in
theorem done_5 (base r : Nat) (P : St) (s : Sk) (u : Value) (L : List Rn) (w : World) (hk : s.k = 5) (hs : Sk.Fit s) (hP : P.Ok) (hg : Mg 1000000000000 P) (hc : cod P s = 0) (hp : DP w r P) (hu : Own w base u L) (hl : ∀ q, L.getLast? = some q → 8 < q.k) (hr : r < base) (hb0 : base ≤ w.heap.size) (hN : L.length ≤ 1000) :
    Calls Tryz.prog 33 #[.pointer (some ⟨r, 0, none⟩), u, sv s] w fun e w' => ∃ u', e = .returned u' ∧ Dn base r w w' u u' L (flt (mid s ((hat P s.h).getD h0))) (nxt P s) := by
  obtain ⟨sk, sh, sa, sc, so, sd, sm⟩ := s
  have hk : sk = 5 := hk
  subst hk
  have _q : True := by have _ := hg; have _ := hs; have _ := hP; have _ := hc; have _ := hN; have _ := hb0; trivial
  obtain ⟨y, hy, hfit, htk⟩ := fine_on (fine_of hc) (by show (5 : Int) ≠ 1; decide)
  have hx := hat_of hy
  obtain ⟨n, rfl⟩ : ∃ n : Nat, sh = n := ⟨sh.toNat, by have : 0 ≤ sh := hx.1; omega⟩
  have n64 : n < 64 := by have : (n : Int) < 64 := hx.2.1; omega
  have Pn : P n = some y := by simpa using hx.2.2
  have hyo := hP n y Pn
  obtain ⟨W, hW⟩ : ∃ W, (w.alloc (.cells #[.int .u8 5, .int .i64 (n : Int), .int .u8 sa, .int .i64 sc, .int .i64 so, .int .i64 sd, .int .i64 sm] 40)).alloc (.cells #[.int .i64 0, .int .u8 0, .int .i64 0, .int .i64 0, .int .i64 0] 64) = W := ⟨_, rfl⟩
  have BW : Below w.heap.size w W := by rw [← hW]; exact below_next (below_alloc _ _) (below_alloc _ _)
  have KB : Blk W w.heap.size [.int .u8 5, .int .i64 (n : Int), .int .u8 sa, .int .i64 sc, .int .i64 so, .int .i64 sd, .int .i64 sm] 40 := by rw [← hW]; exact (Blk.newAt w _ _ _ w.heap.size rfl rfl : Blk _ _ [.int .u8 5, .int .i64 (n : Int), .int .u8 sa, .int .i64 sc, .int .i64 so, .int .i64 sd, .int .i64 sm] _).alloc _
  have KH : Blk W (w.heap.size + 1) (dL h0) 64 := by rw [← hW]; exact Blk.newAt (w.alloc _) _ _ _ (w.heap.size + 1) (by simp) rfl
  obtain ⟨W1, s1, k1, q1⟩ := SVd_run h0 KH rfl
  have s1 : (SVd ⟨w.heap.size + 1, 0, none⟩ (.agg #[.int .i64 0, .int .u8 0, .int .i64 0, .int .i64 0, .int .i64 0])).run Tryz.prog W = .ok () W1 := s1
  have B1 : Below w.heap.size w W1 := BW.trans (q1.below (B := w.heap.size) BW.size (fun j hj e => by have e : j = w.heap.size + 1 := e; omega))
  have KB1 := KB.kept q1 (fun e => by have e : w.heap.size = w.heap.size + 1 := e; omega)
  have hm := hg n y Pn
  have HP1 : DP W1 r P := (hp.below BW).kept q1 (fun e => by have e : r = w.heap.size + 1 := e; have := hp.lt; omega)
  have xl : (LDd ⟨r, 64 + n * 5, none⟩).run Tryz.prog W1.drew = .ok (dv y) W1.drew := (HP1.below (below_drewN W1 1)).load n64 Pn
  have K1d : Blk W1.drew (w.heap.size + 1) (dL h0) 64 := k1.below (below_drewN W1 1)
  obtain ⟨W2, s2, k2, q2⟩ := SVd_run y K1d rfl
  have Q2 : Kp (fun j => j = w.heap.size + 1) W1 W2 := (Kp.of_below (fun j => j = w.heap.size + 1) (below_drewN W1 1)).trans q2 (fun _ _ e => e)
  have KB2 := hid (KB1.kept Q2 (fun e => by have e : w.heap.size = w.heap.size + 1 := e; omega))
  have KH2 := hid k2
  have HP2 := hid (HP1.kept Q2 (fun e => by have e : r = w.heap.size + 1 := e; have := hp.lt; omega))
  have B2 : Hid (Below w.heap.size w W2) := hid (B1.trans (Q2.below (B := w.heap.size) B1.size (fun j hj e => by have e : j = w.heap.size + 1 := e; omega)))
  have HU := hid hu
  have HL := hid hl
  have HR := hid hr
  have HPL := hid hp.lt
  obtain ⟨key, alg, ot, cus, msg⟩ := y
  have x0 := KB1.cell 0 _ rfl
  have x1 := KB1.cell 1 _ rfl
  have nn : (n : Int) < 64 := by omega
  have nz : (0 : Int) ≤ (n : Int) := by omega
  have MS := hid hm
  have YO := hid hyo
  clear hm hyo
  clear hu hl hr hp HP1 BW KB KH KB1 k1 q1 K1d k2 q2 Q2
  go_enter Tryz.func33, Tryz.ntmps33
  go_wp2_with fail
  clear hW
  go_region
  clear s1 s2 xl x0 x1
  have z0 := KB2.out.cell 0 _ rfl
  have z1 := KB2.out.cell 1 _ rfl
  have KL := LDd_blk KH2.out
  go_wp2_with fail
  refine (summed_ok base u L ⟨key, alg, ot, cus, msg⟩ W2 YO.out MS.out (HU.out.below B2.out) (fun q h => by have := HL.out q h; omega) (Nat.le_trans hb0 B2.out.size) hN).mono ?_
  rintro e w3 ⟨u3, rfl, g⟩
  have D3 := hid (Dn.after B2.out (Dn.of_go (r := r) (P := P) g HP2.out (own_ne HU.out HR.out)))
  have KB3 : Hid (Blk w3 w.heap.size [.int .u8 5, .int .i64 (n : Int), .int .u8 sa, .int .i64 sc, .int .i64 so, .int .i64 sd, .int .i64 sm] 40) := hid (KB2.out.kept g.kp (fun e => by have := (HU.out.lt _ e).2; omega))
  have LQ := hid (last_app (p := fun k => 8 < k ∨ k ≤ 5) (L := L) (M := flt (smE ⟨key, alg, ot, cus, msg⟩)) (fun q h => .inl (HL.out q h)) (fun q h => .inr (sm_k ⟨key, alg, ot, cus, msg⟩ q h)))
  have LN := sm_len ⟨key, alg, ot, cus, msg⟩
  have OF3 : Hid (∀ g, u.ownBlock = some g → g ≠ w.heap.size + 1) := hid (fun g e => by have := (HU.out.lt g e).2; omega)
  have KH3 : Hid (Blk w3 (w.heap.size + 1) (dL ⟨key, alg, ot, cus, msg⟩) 64) := hid (KH2.out.kept g.kp (fun e => OF3.out _ e rfl))
  have OB3 : Hid (∀ g, u3.ownBlock = some g → g ≠ w.heap.size ∧ g ≠ w.heap.size + 1) := hid (fun q e => by
    have b2 := KH2.out.lt
    rcases g.son with s | s
    · have := (HU.out.lt q (s ▸ e)).2; omega
    · have := s q e; omega)
  clear g z0 z1 KL
  have z0 := KB3.out.cell 0 _ rfl
  have h2 := KH3.out.cell 2 _ rfl
  have o0 : 0 ≤ ot := YO.out.o0
  have o1 : ot ≤ 64 := YO.out.o1
  go_wp2_with fail
  refine (rput_any base u3 (L ++ flt (smE ⟨key, alg, ot, cus, msg⟩)) 6 ot 1 w3 D3.out.own ⟨by show (0 : Int) ≤ 6 ∧ (6 : Int) < 256; decide, by show -9223372036854775808 ≤ ot ∧ ot ≤ 9223372036854775807; omega, by show (-9223372036854775808 : Int) ≤ 1 ∧ (1 : Int) ≤ 9223372036854775807; decide⟩ (ul_of (p := fun k => 8 < k ∨ k ≤ 5) LQ.out (by show ¬ ((8 : Int) < 6 ∨ (6 : Int) ≤ 5); decide)) (Nat.le_trans hb0 D3.out.kp.size) (by rw [List.length_append]; omega)).mono ?_
  rintro e w5 ⟨u5, rfl, g⟩
  have D5 := hid (Dn.go D3.out g HR.out)
  have KB5 : Hid (Blk w5 w.heap.size [.int .u8 5, .int .i64 (n : Int), .int .u8 sa, .int .i64 sc, .int .i64 so, .int .i64 sd, .int .i64 sm] 40) := hid (KB3.out.kept g.kp (fun e => (OB3.out _ e).1 rfl))
  have OB5 : Hid (∀ g, u5.ownBlock = some g → g ≠ w.heap.size) := hid (fun q e => by
    have b2 := KB3.out.lt
    rcases g.son with s | s
    · exact (OB3.out q (s ▸ e)).1
    · have := s q e; omega)
  have LQ5 := hid (last_app (p := fun k => 8 < k ∨ k ≤ 6) (L := L) (M := flt (smE ⟨key, alg, ot, cus, msg⟩) ++ flt [⟨6, ot, 1⟩]) (fun q h => .inl (HL.out q h)) (fun q h => by
    rcases List.mem_append.1 h with h | h
    · have := sm_k ⟨key, alg, ot, cus, msg⟩ q h; omega
    · have := (List.mem_filter.1 h).1
      simp only [List.mem_singleton] at this
      subst this
      exact .inr (by show (6 : Int) ≤ 6; decide)))
  have LN5 := flt_len [(⟨6, ot, 1⟩ : Rn)]
  have LN5 : (flt [(⟨6, ot, 1⟩ : Rn)]).length ≤ 1 := LN5
  clear g z0 h2
  go_wp2_with fail
  refine (rput_any base u5 (L ++ (flt (smE ⟨key, alg, ot, cus, msg⟩) ++ flt [⟨6, ot, 1⟩])) 8 1024 1 w5 D5.out.own ⟨by decide, by decide, by decide⟩ (ul_of (p := fun k => 8 < k ∨ k ≤ 6) LQ5.out (by show ¬ ((8 : Int) < 8 ∨ (8 : Int) ≤ 6); decide)) (Nat.le_trans hb0 D5.out.kp.size) (by rw [List.length_append, List.length_append]; omega)).mono ?_
  rintro e w6 ⟨u6, rfl, g⟩
  have D6 := hid (Dn.go D5.out g HR.out)
  have KB6 : Hid (Blk w6 w.heap.size [.int .u8 5, .int .i64 (n : Int), .int .u8 sa, .int .i64 sc, .int .i64 so, .int .i64 sd, .int .i64 sm] 40) := hid (KB5.out.kept g.kp (fun e => OB5.out _ e rfl))
  clear g
  have z1 := KB6.out.cell 1 _ rfl
  have ch := D6.out.dp.cell n64
  have fz := D6.out.dp.frozen n
  obtain ⟨W4, hW4⟩ : ∃ x, (w6.setCell ⟨r, n, none⟩ (.bool false)).drew = x := ⟨_, rfl⟩
  have Q4 : Kp (fun j => j = r) w6 W4 := by rw [← hW4]; exact Kp.drew1 (Kp.setCell r n _)
  have P4 : DP W4 r (upS P n none) := by rw [← hW4]; exact (D6.out.dp.free n64).below (below_drewN _ 1)
  have KB4 : Hid (Blk W4 w.heap.size [.int .u8 5, .int .i64 (n : Int), .int .u8 sa, .int .i64 sc, .int .i64 so, .int .i64 sd, .int .i64 sm] 40) := hid (KB6.out.kept Q4 (fun e => by have e : w.heap.size = r := e; have := HPL.out; omega))
  have D4 := hid (Dn.turn D6.out Q4 P4 HR.out)
  have EM : Hid (flt (mid ⟨5, (n : Int), sa, sc, so, sd, sm⟩ ((hat P (n : Int)).getD h0)) = flt (smE ⟨key, alg, ot, cus, msg⟩) ++ flt [⟨6, ot, 1⟩] ++ flt [⟨8, 1024, 1⟩]) := hid (by unfold mid; simp only [hy]; rw [if_neg (by decide), if_neg (by decide), if_neg (by decide), if_pos trivial, flt_app, List.append_assoc]; rfl)
  have EN : Hid (nxt P ⟨5, (n : Int), sa, sc, so, sd, sm⟩ = upS P n none) := hid (by rw [nxt_free (s := ⟨5, (n : Int), sa, sc, so, sd, sm⟩) (.inr (.inl rfl))]; rfl)
  clear Q4 P4
  go_wp2_with fail
  go_region
  clear hW4 ch fz z1
  have y0 := KB4.out.cell 0 _ rfl
  go_wp2_with fail
  refine (takes_ok 5 _).mono ?_
  rintro e w9 ⟨rfl, rfl⟩
  rw [show tks 5 = false from rfl]
  go_wp2
  go_ret
  exact ⟨u6, rfl, by rw [EM.out, EN.out]; exact D4.out⟩
set_option maxRecDepth 100000 in
set_option maxHeartbeats 4000000 in
theorem done_6 (base r : Nat) (P : St) (s : Sk) (u : Value) (L : List Rn) (w : World) (hk : s.k = 6) (hs : Sk.Fit s) (hP : P.Ok) (hg : Mg 1000000000000 P) (hc : cod P s = 0) (hp : DP w r P) (hu : Own w base u L) (hl : ∀ q, L.getLast? = some q → 8 < q.k) (hr : r < base) (hb0 : base ≤ w.heap.size) (hN : L.length ≤ 1000) :
    Calls Tryz.prog 33 #[.pointer (some ⟨r, 0, none⟩), u, sv s] w fun e w' => ∃ u', e = .returned u' ∧ Dn base r w w' u u' L (flt (mid s ((hat P s.h).getD h0))) (nxt P s) := by
  obtain ⟨sk, sh, sa, sc, so, sd, sm⟩ := s
  have hk : sk = 6 := hk
  subst hk
  have _q : True := by have _ := hg; have _ := hs; have _ := hP; have _ := hc; have _ := hN; have _ := hb0; trivial
  obtain ⟨y, hy, hfit, htk⟩ := fine_on (fine_of hc) (by show (6 : Int) ≠ 1; decide)
  have hx := hat_of hy
  obtain ⟨n, rfl⟩ : ∃ n : Nat, sh = n := ⟨sh.toNat, by have : 0 ≤ sh := hx.1; omega⟩
  have n64 : n < 64 := by have : (n : Int) < 64 := hx.2.1; omega
  have Pn : P n = some y := by simpa using hx.2.2
  have hyo := hP n y Pn
  obtain ⟨W, hW⟩ : ∃ W, (w.alloc (.cells #[.int .u8 6, .int .i64 (n : Int), .int .u8 sa, .int .i64 sc, .int .i64 so, .int .i64 sd, .int .i64 sm] 40)).alloc (.cells #[.int .i64 0, .int .u8 0, .int .i64 0, .int .i64 0, .int .i64 0] 64) = W := ⟨_, rfl⟩
  have BW : Below w.heap.size w W := by rw [← hW]; exact below_next (below_alloc _ _) (below_alloc _ _)
  have KB : Blk W w.heap.size [.int .u8 6, .int .i64 (n : Int), .int .u8 sa, .int .i64 sc, .int .i64 so, .int .i64 sd, .int .i64 sm] 40 := by rw [← hW]; exact (Blk.newAt w _ _ _ w.heap.size rfl rfl : Blk _ _ [.int .u8 6, .int .i64 (n : Int), .int .u8 sa, .int .i64 sc, .int .i64 so, .int .i64 sd, .int .i64 sm] _).alloc _
  have KH : Blk W (w.heap.size + 1) (dL h0) 64 := by rw [← hW]; exact Blk.newAt (w.alloc _) _ _ _ (w.heap.size + 1) (by simp) rfl
  obtain ⟨W1, s1, k1, q1⟩ := SVd_run h0 KH rfl
  have s1 : (SVd ⟨w.heap.size + 1, 0, none⟩ (.agg #[.int .i64 0, .int .u8 0, .int .i64 0, .int .i64 0, .int .i64 0])).run Tryz.prog W = .ok () W1 := s1
  have B1 : Below w.heap.size w W1 := BW.trans (q1.below (B := w.heap.size) BW.size (fun j hj e => by have e : j = w.heap.size + 1 := e; omega))
  have KB1 := KB.kept q1 (fun e => by have e : w.heap.size = w.heap.size + 1 := e; omega)
  have HP1 : DP W1 r P := (hp.below BW).kept q1 (fun e => by have e : r = w.heap.size + 1 := e; have := hp.lt; omega)
  have xl : (LDd ⟨r, 64 + n * 5, none⟩).run Tryz.prog W1.drew = .ok (dv y) W1.drew := (HP1.below (below_drewN W1 1)).load n64 Pn
  have K1d : Blk W1.drew (w.heap.size + 1) (dL h0) 64 := k1.below (below_drewN W1 1)
  obtain ⟨W2, s2, k2, q2⟩ := SVd_run y K1d rfl
  have Q2 : Kp (fun j => j = w.heap.size + 1) W1 W2 := (Kp.of_below (fun j => j = w.heap.size + 1) (below_drewN W1 1)).trans q2 (fun _ _ e => e)
  have KB2 := hid (KB1.kept Q2 (fun e => by have e : w.heap.size = w.heap.size + 1 := e; omega))
  have KH2 := hid k2
  have HP2 := hid (HP1.kept Q2 (fun e => by have e : r = w.heap.size + 1 := e; have := hp.lt; omega))
  have B2 : Hid (Below w.heap.size w W2) := hid (B1.trans (Q2.below (B := w.heap.size) B1.size (fun j hj e => by have e : j = w.heap.size + 1 := e; omega)))
  have HU := hid hu
  have HL := hid hl
  have HR := hid hr
  have HPL := hid hp.lt
  obtain ⟨key, alg, ot, cus, msg⟩ := y
  have x0 := KB1.cell 0 _ rfl
  have x1 := KB1.cell 1 _ rfl
  have nn : (n : Int) < 64 := by omega
  have nz : (0 : Int) ≤ (n : Int) := by omega
  clear hu hl hr hp HP1 BW KB KH KB1 k1 q1 K1d k2 q2 Q2
  go_enter Tryz.func33, Tryz.ntmps33
  go_wp2_with fail
  clear hW
  go_region
  clear s1 s2 xl x0 x1
  have D2 := hid (Dn.refl B2.out HU.out HP2.out)
  obtain ⟨f, hf⟩ := htk rfl
  have HF := hid hf
  clear hf
  have z0 := KB2.out.cell 0 _ rfl
  have FR := hid (free_ok r P W2 D2.out.dp)
  have ff := (fre_inv HF.out).1
  have fn : (f : Int) < 64 := by omega
  have fz0 : (0 : Int) ≤ (f : Int) := by omega
  have FI : frI P = (f : Int) := by unfold frI; rw [HF.out]
  have ch := D2.out.dp.cell ff
  have fz := D2.out.dp.frozen f
  obtain ⟨V1, hV1⟩ : ∃ x, W2.setCell ⟨r, f, none⟩ (.bool true) = x := ⟨_, rfl⟩
  have M1 : DPm V1 r f P := by rw [← hV1]; exact D2.out.dp.mark ff
  have J1 : Kp (fun j => j = r) W2 V1 := by rw [← hV1]; exact Kp.setCell r f _
  have KH1 : Blk V1 (w.heap.size + 1) (dL ⟨key, alg, ot, cus, msg⟩) 64 := KH2.out.kept J1 (fun e => by have e : w.heap.size + 1 = r := e; have := HPL.out; omega)
  have ld9 : (LDd ⟨w.heap.size + 1, 0, none⟩).run Tryz.prog V1.drew = .ok (dv ⟨key, alg, ot, cus, msg⟩) V1.drew := LDd_blk (KH1.below (below_drewN _ 1))
  have M2 : DPm V1.drew r f P := M1.kept (Kp.of_below (fun _ => False) (below_drewN V1 1)) id
  have t9 := (M2.put ff ⟨key, alg, ot, cus, msg⟩).1
  have dp9 := (M2.put ff ⟨key, alg, ot, cus, msg⟩).2
  have s9 := SVd_at ⟨key, alg, ot, cus, msg⟩ t9
  obtain ⟨V2, hV2⟩ : ∃ x, V1.drew.setCells r (64 + f * 5) (dL ⟨key, alg, ot, cus, msg⟩) = x := ⟨_, rfl⟩
  rw [hV2] at s9 dp9
  have J2 : Kp (fun j => j = r) W2 V2 := by
    rw [← hV2]
    exact J1.trans ((Kp.of_below (fun j => j = r) (below_drewN V1 1)).trans (Kp.setCells r _ _) (fun _ _ e => e)) (fun _ _ e => e)
  have D9 := hid (Dn.turn D2.out J2 dp9 HR.out)
  have EM : Hid (flt (mid ⟨6, (n : Int), sa, sc, so, sd, sm⟩ ((hat P (n : Int)).getD h0)) = []) := hid (by unfold mid; simp only [hy]; rfl)
  have EN : Hid (nxt P ⟨6, (n : Int), sa, sc, so, sd, sm⟩ = upS P f (some ⟨key, alg, ot, cus, msg⟩)) := hid (by rw [nxt_take (s := ⟨6, (n : Int), sa, sc, so, sd, sm⟩) HF.out (by show (6 : Int) ≠ 3; decide) (by show ¬ ((6 : Int) = 4 ∨ (6 : Int) = 5 ∨ (6 : Int) = 10); decide) rfl]; unfold hel; simp only [hy]; rfl)
  clear M1 J1 KH1 M2 t9 dp9 J2 hV2
  have y0 := KB2.out.cell 0 _ rfl
  go_wp2_with fail
  refine (takes_ok 6 _).mono ?_
  rintro e w9 ⟨rfl, rfl⟩
  rw [show tks 6 = true from rfl]
  go_wp2_with fail
  refine FR.out.mono ?_
  rintro e w9 ⟨rfl, rfl⟩
  rw [FI]
  go_wp2_with fail
  clear hV1
  go_region
  clear ld9 s9 ch fz
  go_wp2
  go_ret
  exact ⟨u, rfl, by rw [EM.out, EN.out]; exact D9.out⟩
set_option maxRecDepth 100000 in
set_option maxHeartbeats 4000000 in
theorem done_7 (base r : Nat) (P : St) (s : Sk) (u : Value) (L : List Rn) (w : World) (hk : s.k = 7) (hs : Sk.Fit s) (hP : P.Ok) (hg : Mg 1000000000000 P) (hc : cod P s = 0) (hp : DP w r P) (hu : Own w base u L) (hl : ∀ q, L.getLast? = some q → 8 < q.k) (hr : r < base) (hb0 : base ≤ w.heap.size) (hN : L.length ≤ 1000) :
    Calls Tryz.prog 33 #[.pointer (some ⟨r, 0, none⟩), u, sv s] w fun e w' => ∃ u', e = .returned u' ∧ Dn base r w w' u u' L (flt (mid s ((hat P s.h).getD h0))) (nxt P s) := by
  obtain ⟨sk, sh, sa, sc, so, sd, sm⟩ := s
  have hk : sk = 7 := hk
  subst hk
  have _q : True := by have _ := hg; have _ := hs; have _ := hP; have _ := hc; have _ := hN; have _ := hb0; trivial
  obtain ⟨y, hy, hfit, htk⟩ := fine_on (fine_of hc) (by show (7 : Int) ≠ 1; decide)
  have hx := hat_of hy
  obtain ⟨n, rfl⟩ : ∃ n : Nat, sh = n := ⟨sh.toNat, by have : 0 ≤ sh := hx.1; omega⟩
  have n64 : n < 64 := by have : (n : Int) < 64 := hx.2.1; omega
  have Pn : P n = some y := by simpa using hx.2.2
  have hyo := hP n y Pn
  obtain ⟨W, hW⟩ : ∃ W, (w.alloc (.cells #[.int .u8 7, .int .i64 (n : Int), .int .u8 sa, .int .i64 sc, .int .i64 so, .int .i64 sd, .int .i64 sm] 40)).alloc (.cells #[.int .i64 0, .int .u8 0, .int .i64 0, .int .i64 0, .int .i64 0] 64) = W := ⟨_, rfl⟩
  have BW : Below w.heap.size w W := by rw [← hW]; exact below_next (below_alloc _ _) (below_alloc _ _)
  have KB : Blk W w.heap.size [.int .u8 7, .int .i64 (n : Int), .int .u8 sa, .int .i64 sc, .int .i64 so, .int .i64 sd, .int .i64 sm] 40 := by rw [← hW]; exact (Blk.newAt w _ _ _ w.heap.size rfl rfl : Blk _ _ [.int .u8 7, .int .i64 (n : Int), .int .u8 sa, .int .i64 sc, .int .i64 so, .int .i64 sd, .int .i64 sm] _).alloc _
  have KH : Blk W (w.heap.size + 1) (dL h0) 64 := by rw [← hW]; exact Blk.newAt (w.alloc _) _ _ _ (w.heap.size + 1) (by simp) rfl
  obtain ⟨W1, s1, k1, q1⟩ := SVd_run h0 KH rfl
  have s1 : (SVd ⟨w.heap.size + 1, 0, none⟩ (.agg #[.int .i64 0, .int .u8 0, .int .i64 0, .int .i64 0, .int .i64 0])).run Tryz.prog W = .ok () W1 := s1
  have B1 : Below w.heap.size w W1 := BW.trans (q1.below (B := w.heap.size) BW.size (fun j hj e => by have e : j = w.heap.size + 1 := e; omega))
  have KB1 := KB.kept q1 (fun e => by have e : w.heap.size = w.heap.size + 1 := e; omega)
  have b := drC_zero (fit_der (s := ⟨7, (n : Int), sa, sc, so, sd, sm⟩) (h := y) (.inl rfl) hfit).2
  have bz : sz sa ≠ 0 := b.1
  have bd1 : 0 ≤ sd ∧ sd ≤ 65536 := ⟨hs.d.1, b.2.1⟩
  have bt : 0 ≤ sm ∧ sm ≤ 65536 := ⟨hs.m.1, b.2.2.1 rfl⟩
  have bo : 1 ≤ so ∧ so ≤ 512 := b.2.2.2.2
  have bk' : 0 ≤ y.key ∧ y.key ≤ 512 := ⟨hyo.k0, hyo.k1⟩
  obtain ⟨f, hf⟩ := htk rfl
  have HF := hid hf
  clear hf b
  have HP1 : DP W1 r P := (hp.below BW).kept q1 (fun e => by have e : r = w.heap.size + 1 := e; have := hp.lt; omega)
  have xl : (LDd ⟨r, 64 + n * 5, none⟩).run Tryz.prog W1.drew = .ok (dv y) W1.drew := (HP1.below (below_drewN W1 1)).load n64 Pn
  have K1d : Blk W1.drew (w.heap.size + 1) (dL h0) 64 := k1.below (below_drewN W1 1)
  obtain ⟨W2, s2, k2, q2⟩ := SVd_run y K1d rfl
  have Q2 : Kp (fun j => j = w.heap.size + 1) W1 W2 := (Kp.of_below (fun j => j = w.heap.size + 1) (below_drewN W1 1)).trans q2 (fun _ _ e => e)
  have KB2 := hid (KB1.kept Q2 (fun e => by have e : w.heap.size = w.heap.size + 1 := e; omega))
  have KH2 := hid k2
  have HP2 := hid (HP1.kept Q2 (fun e => by have e : r = w.heap.size + 1 := e; have := hp.lt; omega))
  have B2 : Hid (Below w.heap.size w W2) := hid (B1.trans (Q2.below (B := w.heap.size) B1.size (fun j hj e => by have e : j = w.heap.size + 1 := e; omega)))
  have HU := hid hu
  have HL := hid hl
  have HR := hid hr
  have HPL := hid hp.lt
  obtain ⟨key, alg, ot, cus, msg⟩ := y
  have x0 := KB1.cell 0 _ rfl
  have x1 := KB1.cell 1 _ rfl
  have nn : (n : Int) < 64 := by omega
  have nz : (0 : Int) ≤ (n : Int) := by omega
  have BK := hid (show 0 ≤ key ∧ key ≤ 512 from bk')
  clear bk' hyo
  clear hu hl hr hp HP1 BW KB KH KB1 k1 q1 K1d k2 q2 Q2
  go_enter Tryz.func33, Tryz.ntmps33
  go_wp2_with fail
  clear hW
  go_region
  clear s1 s2 xl x0 x1
  have z0 := KB2.out.cell 0 _ rfl
  have z2 := KB2.out.cell 2 _ rfl
  have z4 := KB2.out.cell 4 _ rfl
  have z5 := KB2.out.cell 5 _ rfl
  have z6 := KB2.out.cell 6 _ rfl
  have h0' := KH2.out.cell 0 _ rfl
  have CE := hid (Event_ok sa)
  have CB := hid (Block_ok sa)
  have CK := hid (fun V => hkdf_ok (a := sa) (k := key) (s := sd) (m := sm) (o := so) bz BK.out bd1 bt bo V)
  have eb := ek_b sa
  have bb := bk_le sa
  have hb := hkd_b (a := sa) (key := key) (salt := sd) (info := sm) (out := so) bz BK.out bd1.1 bt.1 bo.1
  have hx : (so / 32 + 1) * (sm / 64 + 6) ≤ 17 * 1030 := Int.mul_le_mul (by omega) (by omega) (by omega) (by decide)
  have cbd : 1 ≤ hkd sa key sd sm so ∧ hkd sa key sd sm so ≤ 1000000000 := by omega
  obtain ⟨c, hcc⟩ : ∃ c, hkd sa key sd sm so = c := ⟨_, rfl⟩
  rw [hcc] at CK cbd
  have PU := hid (fun w1 (b : Below W2.heap.size W2 w1) => rput_any base u L (ek sa) (bk sa) c w1 ((HU.out.below B2.out).below b) ⟨by show 0 ≤ ek sa ∧ ek sa < 256; omega, by show -9223372036854775808 ≤ bk sa ∧ bk sa ≤ 9223372036854775807; omega, by show -9223372036854775808 ≤ c ∧ c ≤ 9223372036854775807; omega⟩ (lastq HL.out (by omega)) (Nat.le_trans (Nat.le_trans hb0 B2.out.size) b.size) (by omega))
  have EMM : Hid (flt (mid ⟨7, (n : Int), sa, sc, so, sd, sm⟩ ((hat P (n : Int)).getD h0)) = flt [⟨ek sa, bk sa, c⟩]) := hid (by unfold mid; simp only [hy]; rw [← hcc]; rfl)
  clear hb hx hcc bz bd1 bt bo cbd eb bb
  go_wp2_with fail
  go_region_held3 (fun V => V.cell? ⟨w.heap.size, 2, none⟩ = some (.int .u8 sa) ∧ V.cell? ⟨w.heap.size, 4, none⟩ = some (.int .i64 so) ∧ V.cell? ⟨w.heap.size, 5, none⟩ = some (.int .i64 sd) ∧ V.cell? ⟨w.heap.size, 6, none⟩ = some (.int .i64 sm) ∧ V.cell? ⟨w.heap.size + 1, 0, none⟩ = some (.int .i64 key)) (go_keep) (first
    | (go_at_call 72; with_reducible refine (CE.out _).mono ?_; rintro e w' ⟨rfl, d2, rfl⟩; have yb := KB2.out.below (below_drewN W2 (1 + d2)); have yh := KH2.out.below (below_drewN W2 (1 + d2)); have cy0 := yb.cell 2 _ rfl; have cy1 := yb.cell 4 _ rfl; have cy2 := yb.cell 5 _ rfl; have cy3 := yb.cell 6 _ rfl; have cy4 := yh.cell 0 _ rfl; clear yb yh)
    | (go_at_call 73; with_reducible refine (CB.out _).mono ?_; rintro e w' ⟨rfl, d3, rfl⟩)
    | (go_at_call 74; with_reducible refine (CK.out _).mono ?_; rintro e w' ⟨rfl, d4, rfl⟩)
    | (go_at_call 31; with_reducible refine (PU.out _ (below_drewN _ _)).mono ?_; rintro e w3 ⟨u3, rfl, g⟩; have yb := (KB2.out.below (below_drewN W2 _)).kept g.kp (fun e => by have := (HU.out.lt _ e).2; omega); have yh := (KH2.out.below (below_drewN W2 _)).kept g.kp (fun e => by have := (HU.out.lt _ e).2; omega); have cz0 := yb.cell 2 _ rfl; have cz1 := yb.cell 4 _ rfl; have cz2 := yb.cell 5 _ rfl; have cz3 := yb.cell 6 _ rfl; have cz4 := yh.cell 0 _ rfl; have KB3 := hid yb; have KH3 := hid yh; have D3 := hid (Dn.after (below_next B2.out (below_drewN W2 _)) (Dn.of_go (r := r) (P := P) g (HP2.out.below (below_drewN W2 _)) (own_ne HU.out HR.out))); clear yb yh g))
  have z4 := KB3.out.cell 4 _ rfl
  obtain ⟨W5, s5, k5, q5⟩ := SVd_run ⟨so, 0, 0, 0, 0⟩ KH3.out rfl
  have KB5 : Hid (Blk W5 w.heap.size [.int .u8 7, .int .i64 (n : Int), .int .u8 sa, .int .i64 sc, .int .i64 so, .int .i64 sd, .int .i64 sm] 40) := hid (KB3.out.kept q5 (fun e => by have e : w.heap.size = w.heap.size + 1 := e; omega))
  have KH5 : Hid (Blk W5 (w.heap.size + 1) (dL ⟨so, 0, 0, 0, 0⟩) 64) := hid k5
  have OB3 : Hid (∀ g, u3.ownBlock = some g → g ≠ w.heap.size + 1) := hid (fun q e => by
    have b2 := KH2.out.lt
    rcases D3.out.son with s | s
    · have := (HU.out.lt q (s ▸ e)).2; omega
    · have o := own_nt (D3.out.own.base (Nat.zero_le _)) KH3.out (by decide) q e
      exact o)
  have D5 : Hid (Dn base r w W5 u u3 L (flt [⟨ek sa, bk sa, c⟩]) P) := hid ⟨D3.out.own.kept q5 (fun g e e2 => OB3.out g e e2), D3.out.dp.kept q5 (fun e => by have e : r = w.heap.size + 1 := e; have := HPL.out; omega), D3.out.kp.trans q5 (fun i hi e => by have e : i = w.heap.size + 1 := e; omega), D3.out.son⟩
  clear k5 q5
  have z0 := KB5.out.cell 0 _ rfl
  go_wp2_with fail
  clear s5 z4
  have FR := hid (free_ok r P W5 D5.out.dp)
  have ff := (fre_inv HF.out).1
  have fn : (f : Int) < 64 := by omega
  have fz0 : (0 : Int) ≤ (f : Int) := by omega
  have FI : frI P = (f : Int) := by unfold frI; rw [HF.out]
  have ch := D5.out.dp.cell ff
  have fz := D5.out.dp.frozen f
  obtain ⟨V1, hV1⟩ : ∃ x, W5.setCell ⟨r, f, none⟩ (.bool true) = x := ⟨_, rfl⟩
  have M1 : DPm V1 r f P := by rw [← hV1]; exact D5.out.dp.mark ff
  have J1 : Kp (fun j => j = r) W5 V1 := by rw [← hV1]; exact Kp.setCell r f _
  have KH1 : Blk V1 (w.heap.size + 1) (dL ⟨so, 0, 0, 0, 0⟩) 64 := KH5.out.kept J1 (fun e => by have e : w.heap.size + 1 = r := e; have := HPL.out; omega)
  have ld9 : (LDd ⟨w.heap.size + 1, 0, none⟩).run Tryz.prog V1.drew = .ok (dv ⟨so, 0, 0, 0, 0⟩) V1.drew := LDd_blk (KH1.below (below_drewN _ 1))
  have M2 : DPm V1.drew r f P := M1.kept (Kp.of_below (fun _ => False) (below_drewN V1 1)) id
  have t9 := (M2.put ff ⟨so, 0, 0, 0, 0⟩).1
  have dp9 := (M2.put ff ⟨so, 0, 0, 0, 0⟩).2
  have s9 := SVd_at ⟨so, 0, 0, 0, 0⟩ t9
  obtain ⟨V2, hV2⟩ : ∃ x, V1.drew.setCells r (64 + f * 5) (dL ⟨so, 0, 0, 0, 0⟩) = x := ⟨_, rfl⟩
  rw [hV2] at s9 dp9
  have J2 : Kp (fun j => j = r) W5 V2 := by
    rw [← hV2]
    exact J1.trans ((Kp.of_below (fun j => j = r) (below_drewN V1 1)).trans (Kp.setCells r _ _) (fun _ _ e => e)) (fun _ _ e => e)
  have D9 := hid (Dn.turn D5.out J2 dp9 HR.out)
  have EM : Hid (flt (mid ⟨7, (n : Int), sa, sc, so, sd, sm⟩ ((hat P (n : Int)).getD h0)) = flt [⟨ek sa, bk sa, c⟩]) := hid (by exact EMM.out)
  have EN : Hid (nxt P ⟨7, (n : Int), sa, sc, so, sd, sm⟩ = upS P f (some ⟨so, 0, 0, 0, 0⟩)) := hid (by rw [nxt_take (s := ⟨7, (n : Int), sa, sc, so, sd, sm⟩) HF.out (by show (7 : Int) ≠ 3; decide) (by show ¬ ((7 : Int) = 4 ∨ (7 : Int) = 5 ∨ (7 : Int) = 10); decide) rfl]; unfold hel; rfl)
  clear M1 J1 KH1 M2 t9 dp9 J2 hV2
  have y0 := KB5.out.cell 0 _ rfl
  refine (takes_ok 7 _).mono ?_
  rintro e w9 ⟨rfl, rfl⟩
  rw [show tks 7 = true from rfl]
  go_wp2_with fail
  refine FR.out.mono ?_
  rintro e w9 ⟨rfl, rfl⟩
  rw [FI]
  go_wp2_with fail
  clear hV1
  go_region
  clear ld9 s9 ch fz
  go_wp2
  go_ret
  exact ⟨u3, rfl, by rw [EM.out, EN.out]; exact D9.out⟩
set_option maxRecDepth 100000 in
set_option maxHeartbeats 4000000 in
theorem done_8 (base r : Nat) (P : St) (s : Sk) (u : Value) (L : List Rn) (w : World) (hk : s.k = 8) (hs : Sk.Fit s) (hP : P.Ok) (hg : Mg 1000000000000 P) (hc : cod P s = 0) (hp : DP w r P) (hu : Own w base u L) (hl : ∀ q, L.getLast? = some q → 8 < q.k) (hr : r < base) (hb0 : base ≤ w.heap.size) (hN : L.length ≤ 1000) :
    Calls Tryz.prog 33 #[.pointer (some ⟨r, 0, none⟩), u, sv s] w fun e w' => ∃ u', e = .returned u' ∧ Dn base r w w' u u' L (flt (mid s ((hat P s.h).getD h0))) (nxt P s) := by
  obtain ⟨sk, sh, sa, sc, so, sd, sm⟩ := s
  have hk : sk = 8 := hk
  subst hk
  have _q : True := by have _ := hg; have _ := hs; have _ := hP; have _ := hc; have _ := hN; have _ := hb0; trivial
  obtain ⟨y, hy, hfit, htk⟩ := fine_on (fine_of hc) (by show (8 : Int) ≠ 1; decide)
  have hx := hat_of hy
  obtain ⟨n, rfl⟩ : ∃ n : Nat, sh = n := ⟨sh.toNat, by have : 0 ≤ sh := hx.1; omega⟩
  have n64 : n < 64 := by have : (n : Int) < 64 := hx.2.1; omega
  have Pn : P n = some y := by simpa using hx.2.2
  have hyo := hP n y Pn
  obtain ⟨W, hW⟩ : ∃ W, (w.alloc (.cells #[.int .u8 8, .int .i64 (n : Int), .int .u8 sa, .int .i64 sc, .int .i64 so, .int .i64 sd, .int .i64 sm] 40)).alloc (.cells #[.int .i64 0, .int .u8 0, .int .i64 0, .int .i64 0, .int .i64 0] 64) = W := ⟨_, rfl⟩
  have BW : Below w.heap.size w W := by rw [← hW]; exact below_next (below_alloc _ _) (below_alloc _ _)
  have KB : Blk W w.heap.size [.int .u8 8, .int .i64 (n : Int), .int .u8 sa, .int .i64 sc, .int .i64 so, .int .i64 sd, .int .i64 sm] 40 := by rw [← hW]; exact (Blk.newAt w _ _ _ w.heap.size rfl rfl : Blk _ _ [.int .u8 8, .int .i64 (n : Int), .int .u8 sa, .int .i64 sc, .int .i64 so, .int .i64 sd, .int .i64 sm] _).alloc _
  have KH : Blk W (w.heap.size + 1) (dL h0) 64 := by rw [← hW]; exact Blk.newAt (w.alloc _) _ _ _ (w.heap.size + 1) (by simp) rfl
  obtain ⟨W1, s1, k1, q1⟩ := SVd_run h0 KH rfl
  have s1 : (SVd ⟨w.heap.size + 1, 0, none⟩ (.agg #[.int .i64 0, .int .u8 0, .int .i64 0, .int .i64 0, .int .i64 0])).run Tryz.prog W = .ok () W1 := s1
  have B1 : Below w.heap.size w W1 := BW.trans (q1.below (B := w.heap.size) BW.size (fun j hj e => by have e : j = w.heap.size + 1 := e; omega))
  have KB1 := KB.kept q1 (fun e => by have e : w.heap.size = w.heap.size + 1 := e; omega)
  have b := drC_zero (fit_der (s := ⟨8, (n : Int), sa, sc, so, sd, sm⟩) (h := y) (.inr rfl) hfit).2
  have bz : sz sa ≠ 0 := b.1
  have bd1 : 0 ≤ sd ∧ sd ≤ 65536 := ⟨hs.d.1, b.2.1⟩
  have bt : 1 ≤ sc ∧ sc ≤ 1048576 := b.2.2.2.1 rfl
  have bo : 1 ≤ so ∧ so ≤ 512 := b.2.2.2.2
  have bk' : 0 ≤ y.key ∧ y.key ≤ 512 := ⟨hyo.k0, hyo.k1⟩
  obtain ⟨f, hf⟩ := htk rfl
  have HF := hid hf
  clear hf b
  have HP1 : DP W1 r P := (hp.below BW).kept q1 (fun e => by have e : r = w.heap.size + 1 := e; have := hp.lt; omega)
  have xl : (LDd ⟨r, 64 + n * 5, none⟩).run Tryz.prog W1.drew = .ok (dv y) W1.drew := (HP1.below (below_drewN W1 1)).load n64 Pn
  have K1d : Blk W1.drew (w.heap.size + 1) (dL h0) 64 := k1.below (below_drewN W1 1)
  obtain ⟨W2, s2, k2, q2⟩ := SVd_run y K1d rfl
  have Q2 : Kp (fun j => j = w.heap.size + 1) W1 W2 := (Kp.of_below (fun j => j = w.heap.size + 1) (below_drewN W1 1)).trans q2 (fun _ _ e => e)
  have KB2 := hid (KB1.kept Q2 (fun e => by have e : w.heap.size = w.heap.size + 1 := e; omega))
  have KH2 := hid k2
  have HP2 := hid (HP1.kept Q2 (fun e => by have e : r = w.heap.size + 1 := e; have := hp.lt; omega))
  have B2 : Hid (Below w.heap.size w W2) := hid (B1.trans (Q2.below (B := w.heap.size) B1.size (fun j hj e => by have e : j = w.heap.size + 1 := e; omega)))
  have HU := hid hu
  have HL := hid hl
  have HR := hid hr
  have HPL := hid hp.lt
  obtain ⟨key, alg, ot, cus, msg⟩ := y
  have x0 := KB1.cell 0 _ rfl
  have x1 := KB1.cell 1 _ rfl
  have nn : (n : Int) < 64 := by omega
  have nz : (0 : Int) ≤ (n : Int) := by omega
  have BK := hid (show 0 ≤ key ∧ key ≤ 512 from bk')
  clear bk' hyo
  clear hu hl hr hp HP1 BW KB KH KB1 k1 q1 K1d k2 q2 Q2
  go_enter Tryz.func33, Tryz.ntmps33
  go_wp2_with fail
  clear hW
  go_region
  clear s1 s2 xl x0 x1
  have z0 := KB2.out.cell 0 _ rfl
  have z2 := KB2.out.cell 2 _ rfl
  have z4 := KB2.out.cell 4 _ rfl
  have z5 := KB2.out.cell 5 _ rfl
  have z3 := KB2.out.cell 3 _ rfl
  have h0' := KH2.out.cell 0 _ rfl
  have CE := hid (Event_ok sa)
  have CB := hid (Block_ok sa)
  have CK := hid (fun V => pbkdf_ok (a := sa) (k := key) (s := sd) (c := sc) (o := so) bz BK.out bd1 bt bo V)
  have eb := ek_b sa
  have bb := bk_le sa
  have hb := pbk_b (a := sa) (key := key) (salt := sd) (count := sc) (out := so) bz BK.out bd1.1 bt.1 bo.1
  have hx : (so / 32 + 1) * ((sd + 4) / 64 + 4 + 2 * (sc - 1)) ≤ 17 * 2098180 := Int.mul_le_mul (by omega) (by omega) (by omega) (by decide)
  have cbd : 1 ≤ pbk sa key sd sc so ∧ pbk sa key sd sc so ≤ 1000000000 := by omega
  obtain ⟨c, hcc⟩ : ∃ c, pbk sa key sd sc so = c := ⟨_, rfl⟩
  rw [hcc] at CK cbd
  have PU := hid (fun w1 (b : Below W2.heap.size W2 w1) => rput_any base u L (ek sa) (bk sa) c w1 ((HU.out.below B2.out).below b) ⟨by show 0 ≤ ek sa ∧ ek sa < 256; omega, by show -9223372036854775808 ≤ bk sa ∧ bk sa ≤ 9223372036854775807; omega, by show -9223372036854775808 ≤ c ∧ c ≤ 9223372036854775807; omega⟩ (lastq HL.out (by omega)) (Nat.le_trans (Nat.le_trans hb0 B2.out.size) b.size) (by omega))
  have EMM : Hid (flt (mid ⟨8, (n : Int), sa, sc, so, sd, sm⟩ ((hat P (n : Int)).getD h0)) = flt [⟨ek sa, bk sa, c⟩]) := hid (by unfold mid; simp only [hy]; rw [← hcc]; rfl)
  clear hb hx hcc bz bd1 bt bo cbd eb bb
  go_wp2_with fail
  go_region_held3 (fun V => V.cell? ⟨w.heap.size, 2, none⟩ = some (.int .u8 sa) ∧ V.cell? ⟨w.heap.size, 4, none⟩ = some (.int .i64 so) ∧ V.cell? ⟨w.heap.size, 5, none⟩ = some (.int .i64 sd) ∧ V.cell? ⟨w.heap.size, 3, none⟩ = some (.int .i64 sc) ∧ V.cell? ⟨w.heap.size + 1, 0, none⟩ = some (.int .i64 key)) (go_keep) (first
    | (go_at_call 72; with_reducible refine (CE.out _).mono ?_; rintro e w' ⟨rfl, d2, rfl⟩; have yb := KB2.out.below (below_drewN W2 (1 + d2)); have yh := KH2.out.below (below_drewN W2 (1 + d2)); have cy0 := yb.cell 2 _ rfl; have cy1 := yb.cell 4 _ rfl; have cy2 := yb.cell 5 _ rfl; have cy3 := yb.cell 3 _ rfl; have cy4 := yh.cell 0 _ rfl; clear yb yh)
    | (go_at_call 73; with_reducible refine (CB.out _).mono ?_; rintro e w' ⟨rfl, d3, rfl⟩)
    | (go_at_call 75; with_reducible refine (CK.out _).mono ?_; rintro e w' ⟨rfl, d4, rfl⟩)
    | (go_at_call 31; with_reducible refine (PU.out _ (below_drewN _ _)).mono ?_; rintro e w3 ⟨u3, rfl, g⟩; have yb := (KB2.out.below (below_drewN W2 _)).kept g.kp (fun e => by have := (HU.out.lt _ e).2; omega); have yh := (KH2.out.below (below_drewN W2 _)).kept g.kp (fun e => by have := (HU.out.lt _ e).2; omega); have cz0 := yb.cell 2 _ rfl; have cz1 := yb.cell 4 _ rfl; have cz2 := yb.cell 5 _ rfl; have cz3 := yb.cell 3 _ rfl; have cz4 := yh.cell 0 _ rfl; have KB3 := hid yb; have KH3 := hid yh; have D3 := hid (Dn.after (below_next B2.out (below_drewN W2 _)) (Dn.of_go (r := r) (P := P) g (HP2.out.below (below_drewN W2 _)) (own_ne HU.out HR.out))); clear yb yh g))
  have z4 := KB3.out.cell 4 _ rfl
  obtain ⟨W5, s5, k5, q5⟩ := SVd_run ⟨so, 0, 0, 0, 0⟩ KH3.out rfl
  have KB5 : Hid (Blk W5 w.heap.size [.int .u8 8, .int .i64 (n : Int), .int .u8 sa, .int .i64 sc, .int .i64 so, .int .i64 sd, .int .i64 sm] 40) := hid (KB3.out.kept q5 (fun e => by have e : w.heap.size = w.heap.size + 1 := e; omega))
  have KH5 : Hid (Blk W5 (w.heap.size + 1) (dL ⟨so, 0, 0, 0, 0⟩) 64) := hid k5
  have OB3 : Hid (∀ g, u3.ownBlock = some g → g ≠ w.heap.size + 1) := hid (fun q e => by
    have b2 := KH2.out.lt
    rcases D3.out.son with s | s
    · have := (HU.out.lt q (s ▸ e)).2; omega
    · have o := own_nt (D3.out.own.base (Nat.zero_le _)) KH3.out (by decide) q e
      exact o)
  have D5 : Hid (Dn base r w W5 u u3 L (flt [⟨ek sa, bk sa, c⟩]) P) := hid ⟨D3.out.own.kept q5 (fun g e e2 => OB3.out g e e2), D3.out.dp.kept q5 (fun e => by have e : r = w.heap.size + 1 := e; have := HPL.out; omega), D3.out.kp.trans q5 (fun i hi e => by have e : i = w.heap.size + 1 := e; omega), D3.out.son⟩
  clear k5 q5
  have z0 := KB5.out.cell 0 _ rfl
  go_wp2_with fail
  clear s5 z4
  have FR := hid (free_ok r P W5 D5.out.dp)
  have ff := (fre_inv HF.out).1
  have fn : (f : Int) < 64 := by omega
  have fz0 : (0 : Int) ≤ (f : Int) := by omega
  have FI : frI P = (f : Int) := by unfold frI; rw [HF.out]
  have ch := D5.out.dp.cell ff
  have fz := D5.out.dp.frozen f
  obtain ⟨V1, hV1⟩ : ∃ x, W5.setCell ⟨r, f, none⟩ (.bool true) = x := ⟨_, rfl⟩
  have M1 : DPm V1 r f P := by rw [← hV1]; exact D5.out.dp.mark ff
  have J1 : Kp (fun j => j = r) W5 V1 := by rw [← hV1]; exact Kp.setCell r f _
  have KH1 : Blk V1 (w.heap.size + 1) (dL ⟨so, 0, 0, 0, 0⟩) 64 := KH5.out.kept J1 (fun e => by have e : w.heap.size + 1 = r := e; have := HPL.out; omega)
  have ld9 : (LDd ⟨w.heap.size + 1, 0, none⟩).run Tryz.prog V1.drew = .ok (dv ⟨so, 0, 0, 0, 0⟩) V1.drew := LDd_blk (KH1.below (below_drewN _ 1))
  have M2 : DPm V1.drew r f P := M1.kept (Kp.of_below (fun _ => False) (below_drewN V1 1)) id
  have t9 := (M2.put ff ⟨so, 0, 0, 0, 0⟩).1
  have dp9 := (M2.put ff ⟨so, 0, 0, 0, 0⟩).2
  have s9 := SVd_at ⟨so, 0, 0, 0, 0⟩ t9
  obtain ⟨V2, hV2⟩ : ∃ x, V1.drew.setCells r (64 + f * 5) (dL ⟨so, 0, 0, 0, 0⟩) = x := ⟨_, rfl⟩
  rw [hV2] at s9 dp9
  have J2 : Kp (fun j => j = r) W5 V2 := by
    rw [← hV2]
    exact J1.trans ((Kp.of_below (fun j => j = r) (below_drewN V1 1)).trans (Kp.setCells r _ _) (fun _ _ e => e)) (fun _ _ e => e)
  have D9 := hid (Dn.turn D5.out J2 dp9 HR.out)
  have EM : Hid (flt (mid ⟨8, (n : Int), sa, sc, so, sd, sm⟩ ((hat P (n : Int)).getD h0)) = flt [⟨ek sa, bk sa, c⟩]) := hid (by exact EMM.out)
  have EN : Hid (nxt P ⟨8, (n : Int), sa, sc, so, sd, sm⟩ = upS P f (some ⟨so, 0, 0, 0, 0⟩)) := hid (by rw [nxt_take (s := ⟨8, (n : Int), sa, sc, so, sd, sm⟩) HF.out (by show (8 : Int) ≠ 3; decide) (by show ¬ ((8 : Int) = 4 ∨ (8 : Int) = 5 ∨ (8 : Int) = 10); decide) rfl]; unfold hel; rfl)
  clear M1 J1 KH1 M2 t9 dp9 J2 hV2
  have y0 := KB5.out.cell 0 _ rfl
  refine (takes_ok 8 _).mono ?_
  rintro e w9 ⟨rfl, rfl⟩
  rw [show tks 8 = true from rfl]
  go_wp2_with fail
  refine FR.out.mono ?_
  rintro e w9 ⟨rfl, rfl⟩
  rw [FI]
  go_wp2_with fail
  clear hV1
  go_region
  clear ld9 s9 ch fz
  go_wp2
  go_ret
  exact ⟨u3, rfl, by rw [EM.out, EN.out]; exact D9.out⟩
set_option maxRecDepth 100000 in
set_option maxHeartbeats 4000000 in
theorem done_9 (base r : Nat) (P : St) (s : Sk) (u : Value) (L : List Rn) (w : World) (hk : s.k = 9) (hs : Sk.Fit s) (hP : P.Ok) (hg : Mg 1000000000000 P) (hc : cod P s = 0) (hp : DP w r P) (hu : Own w base u L) (hl : ∀ q, L.getLast? = some q → 8 < q.k) (hr : r < base) (hb0 : base ≤ w.heap.size) (hN : L.length ≤ 1000) :
    Calls Tryz.prog 33 #[.pointer (some ⟨r, 0, none⟩), u, sv s] w fun e w' => ∃ u', e = .returned u' ∧ Dn base r w w' u u' L (flt (mid s ((hat P s.h).getD h0))) (nxt P s) := by
  obtain ⟨sk, sh, sa, sc, so, sd, sm⟩ := s
  have hk : sk = 9 := hk
  subst hk
  have _q : True := by have _ := hg; have _ := hs; have _ := hP; have _ := hc; have _ := hN; have _ := hb0; trivial
  obtain ⟨y, hy, hfit, htk⟩ := fine_on (fine_of hc) (by show (9 : Int) ≠ 1; decide)
  have hx := hat_of hy
  obtain ⟨n, rfl⟩ : ∃ n : Nat, sh = n := ⟨sh.toNat, by have : 0 ≤ sh := hx.1; omega⟩
  have n64 : n < 64 := by have : (n : Int) < 64 := hx.2.1; omega
  have Pn : P n = some y := by simpa using hx.2.2
  have hyo := hP n y Pn
  obtain ⟨W, hW⟩ : ∃ W, (w.alloc (.cells #[.int .u8 9, .int .i64 (n : Int), .int .u8 sa, .int .i64 sc, .int .i64 so, .int .i64 sd, .int .i64 sm] 40)).alloc (.cells #[.int .i64 0, .int .u8 0, .int .i64 0, .int .i64 0, .int .i64 0] 64) = W := ⟨_, rfl⟩
  have BW : Below w.heap.size w W := by rw [← hW]; exact below_next (below_alloc _ _) (below_alloc _ _)
  have KB : Blk W w.heap.size [.int .u8 9, .int .i64 (n : Int), .int .u8 sa, .int .i64 sc, .int .i64 so, .int .i64 sd, .int .i64 sm] 40 := by rw [← hW]; exact (Blk.newAt w _ _ _ w.heap.size rfl rfl : Blk _ _ [.int .u8 9, .int .i64 (n : Int), .int .u8 sa, .int .i64 sc, .int .i64 so, .int .i64 sd, .int .i64 sm] _).alloc _
  have KH : Blk W (w.heap.size + 1) (dL h0) 64 := by rw [← hW]; exact Blk.newAt (w.alloc _) _ _ _ (w.heap.size + 1) (by simp) rfl
  obtain ⟨W1, s1, k1, q1⟩ := SVd_run h0 KH rfl
  have s1 : (SVd ⟨w.heap.size + 1, 0, none⟩ (.agg #[.int .i64 0, .int .u8 0, .int .i64 0, .int .i64 0, .int .i64 0])).run Tryz.prog W = .ok () W1 := s1
  have B1 : Below w.heap.size w W1 := BW.trans (q1.below (B := w.heap.size) BW.size (fun j hj e => by have e : j = w.heap.size + 1 := e; omega))
  have KB1 := KB.kept q1 (fun e => by have e : w.heap.size = w.heap.size + 1 := e; omega)
  have HP1 : DP W1 r P := (hp.below BW).kept q1 (fun e => by have e : r = w.heap.size + 1 := e; have := hp.lt; omega)
  have xl : (LDd ⟨r, 64 + n * 5, none⟩).run Tryz.prog W1.drew = .ok (dv y) W1.drew := (HP1.below (below_drewN W1 1)).load n64 Pn
  have K1d : Blk W1.drew (w.heap.size + 1) (dL h0) 64 := k1.below (below_drewN W1 1)
  obtain ⟨W2, s2, k2, q2⟩ := SVd_run y K1d rfl
  have Q2 : Kp (fun j => j = w.heap.size + 1) W1 W2 := (Kp.of_below (fun j => j = w.heap.size + 1) (below_drewN W1 1)).trans q2 (fun _ _ e => e)
  have KB2 := hid (KB1.kept Q2 (fun e => by have e : w.heap.size = w.heap.size + 1 := e; omega))
  have KH2 := hid k2
  have HP2 := hid (HP1.kept Q2 (fun e => by have e : r = w.heap.size + 1 := e; have := hp.lt; omega))
  have B2 : Hid (Below w.heap.size w W2) := hid (B1.trans (Q2.below (B := w.heap.size) B1.size (fun j hj e => by have e : j = w.heap.size + 1 := e; omega)))
  have HU := hid hu
  have HL := hid hl
  have HR := hid hr
  have HPL := hid hp.lt
  obtain ⟨key, alg, ot, cus, msg⟩ := y
  have x0 := KB1.cell 0 _ rfl
  have x1 := KB1.cell 1 _ rfl
  have nn : (n : Int) < 64 := by omega
  have nz : (0 : Int) ≤ (n : Int) := by omega
  clear hu hl hr hp HP1 BW KB KH KB1 k1 q1 K1d k2 q2 Q2
  go_enter Tryz.func33, Tryz.ntmps33
  go_wp2_with fail
  clear hW
  go_region
  clear s1 s2 xl x0 x1
  have z0 := KB2.out.cell 0 _ rfl
  have D2 := hid (Dn.refl B2.out HU.out HP2.out)
  have EM : Hid (flt (mid ⟨9, (n : Int), sa, sc, so, sd, sm⟩ ((hat P (n : Int)).getD h0)) = []) := hid (by unfold mid; simp only [hy]; rfl)
  have EN : Hid (nxt P ⟨9, (n : Int), sa, sc, so, sd, sm⟩ = P) := hid rfl
  go_wp2_with fail
  refine (takes_ok 9 _).mono ?_
  rintro e w9 ⟨rfl, rfl⟩
  rw [show tks 9 = false from rfl]
  go_wp2
  go_ret
  exact ⟨u, rfl, by rw [EM.out, EN.out]; exact D2.out⟩
set_option maxRecDepth 100000 in
set_option maxHeartbeats 4000000 in
theorem done_10 (base r : Nat) (P : St) (s : Sk) (u : Value) (L : List Rn) (w : World) (hk : s.k = 10) (hs : Sk.Fit s) (hP : P.Ok) (hg : Mg 1000000000000 P) (hc : cod P s = 0) (hp : DP w r P) (hu : Own w base u L) (hl : ∀ q, L.getLast? = some q → 8 < q.k) (hr : r < base) (hb0 : base ≤ w.heap.size) (hN : L.length ≤ 1000) :
    Calls Tryz.prog 33 #[.pointer (some ⟨r, 0, none⟩), u, sv s] w fun e w' => ∃ u', e = .returned u' ∧ Dn base r w w' u u' L (flt (mid s ((hat P s.h).getD h0))) (nxt P s) := by
  obtain ⟨sk, sh, sa, sc, so, sd, sm⟩ := s
  have hk : sk = 10 := hk
  subst hk
  have _q : True := by have _ := hg; have _ := hs; have _ := hP; have _ := hc; have _ := hN; have _ := hb0; trivial
  obtain ⟨y, hy, hfit, htk⟩ := fine_on (fine_of hc) (by show (10 : Int) ≠ 1; decide)
  have hx := hat_of hy
  obtain ⟨n, rfl⟩ : ∃ n : Nat, sh = n := ⟨sh.toNat, by have : 0 ≤ sh := hx.1; omega⟩
  have n64 : n < 64 := by have : (n : Int) < 64 := hx.2.1; omega
  have Pn : P n = some y := by simpa using hx.2.2
  have hyo := hP n y Pn
  obtain ⟨W, hW⟩ : ∃ W, (w.alloc (.cells #[.int .u8 10, .int .i64 (n : Int), .int .u8 sa, .int .i64 sc, .int .i64 so, .int .i64 sd, .int .i64 sm] 40)).alloc (.cells #[.int .i64 0, .int .u8 0, .int .i64 0, .int .i64 0, .int .i64 0] 64) = W := ⟨_, rfl⟩
  have BW : Below w.heap.size w W := by rw [← hW]; exact below_next (below_alloc _ _) (below_alloc _ _)
  have KB : Blk W w.heap.size [.int .u8 10, .int .i64 (n : Int), .int .u8 sa, .int .i64 sc, .int .i64 so, .int .i64 sd, .int .i64 sm] 40 := by rw [← hW]; exact (Blk.newAt w _ _ _ w.heap.size rfl rfl : Blk _ _ [.int .u8 10, .int .i64 (n : Int), .int .u8 sa, .int .i64 sc, .int .i64 so, .int .i64 sd, .int .i64 sm] _).alloc _
  have KH : Blk W (w.heap.size + 1) (dL h0) 64 := by rw [← hW]; exact Blk.newAt (w.alloc _) _ _ _ (w.heap.size + 1) (by simp) rfl
  obtain ⟨W1, s1, k1, q1⟩ := SVd_run h0 KH rfl
  have s1 : (SVd ⟨w.heap.size + 1, 0, none⟩ (.agg #[.int .i64 0, .int .u8 0, .int .i64 0, .int .i64 0, .int .i64 0])).run Tryz.prog W = .ok () W1 := s1
  have B1 : Below w.heap.size w W1 := BW.trans (q1.below (B := w.heap.size) BW.size (fun j hj e => by have e : j = w.heap.size + 1 := e; omega))
  have KB1 := KB.kept q1 (fun e => by have e : w.heap.size = w.heap.size + 1 := e; omega)
  have HP1 : DP W1 r P := (hp.below BW).kept q1 (fun e => by have e : r = w.heap.size + 1 := e; have := hp.lt; omega)
  have xl : (LDd ⟨r, 64 + n * 5, none⟩).run Tryz.prog W1.drew = .ok (dv y) W1.drew := (HP1.below (below_drewN W1 1)).load n64 Pn
  have K1d : Blk W1.drew (w.heap.size + 1) (dL h0) 64 := k1.below (below_drewN W1 1)
  obtain ⟨W2, s2, k2, q2⟩ := SVd_run y K1d rfl
  have Q2 : Kp (fun j => j = w.heap.size + 1) W1 W2 := (Kp.of_below (fun j => j = w.heap.size + 1) (below_drewN W1 1)).trans q2 (fun _ _ e => e)
  have KB2 := hid (KB1.kept Q2 (fun e => by have e : w.heap.size = w.heap.size + 1 := e; omega))
  have KH2 := hid k2
  have HP2 := hid (HP1.kept Q2 (fun e => by have e : r = w.heap.size + 1 := e; have := hp.lt; omega))
  have B2 : Hid (Below w.heap.size w W2) := hid (B1.trans (Q2.below (B := w.heap.size) B1.size (fun j hj e => by have e : j = w.heap.size + 1 := e; omega)))
  have HU := hid hu
  have HL := hid hl
  have HR := hid hr
  have HPL := hid hp.lt
  obtain ⟨key, alg, ot, cus, msg⟩ := y
  have x0 := KB1.cell 0 _ rfl
  have x1 := KB1.cell 1 _ rfl
  have nn : (n : Int) < 64 := by omega
  have nz : (0 : Int) ≤ (n : Int) := by omega
  clear hu hl hr hp HP1 BW KB KH KB1 k1 q1 K1d k2 q2 Q2
  go_enter Tryz.func33, Tryz.ntmps33
  go_wp2_with fail
  clear hW
  go_region
  clear s1 s2 xl x0 x1
  have z0 := KB2.out.cell 0 _ rfl
  have z1 := KB2.out.cell 1 _ rfl
  go_wp2_with fail
  refine (rput_any base u L 8 1024 1 W2 (HU.out.below B2.out) ⟨by decide, by decide, by decide⟩ (lastq HL.out (by decide)) (Nat.le_trans hb0 B2.out.size) (by omega)).mono ?_
  rintro e w3 ⟨u3, rfl, g⟩
  have D3 := hid (Dn.after B2.out (Dn.of_go (r := r) (P := P) g HP2.out (own_ne HU.out HR.out)))
  have KB3 : Hid (Blk w3 w.heap.size [.int .u8 10, .int .i64 (n : Int), .int .u8 sa, .int .i64 sc, .int .i64 so, .int .i64 sd, .int .i64 sm] 40) := hid (KB2.out.kept g.kp (fun e => by have := (HU.out.lt _ e).2; omega))
  clear g z0 z1
  have z1 := KB3.out.cell 1 _ rfl
  have ch := D3.out.dp.cell n64
  have fz := D3.out.dp.frozen n
  obtain ⟨W4, hW4⟩ : ∃ x, (w3.setCell ⟨r, n, none⟩ (.bool false)).drew = x := ⟨_, rfl⟩
  have Q4 : Kp (fun j => j = r) w3 W4 := by rw [← hW4]; exact Kp.drew1 (Kp.setCell r n _)
  have P4 : DP W4 r (upS P n none) := by rw [← hW4]; exact (D3.out.dp.free n64).below (below_drewN _ 1)
  have KB4 : Hid (Blk W4 w.heap.size [.int .u8 10, .int .i64 (n : Int), .int .u8 sa, .int .i64 sc, .int .i64 so, .int .i64 sd, .int .i64 sm] 40) := hid (KB3.out.kept Q4 (fun e => by have e : w.heap.size = r := e; have := HPL.out; omega))
  have D4 := hid (Dn.turn D3.out Q4 P4 HR.out)
  have EM : Hid (flt (mid ⟨10, (n : Int), sa, sc, so, sd, sm⟩ ((hat P (n : Int)).getD h0)) = flt [⟨8, 1024, 1⟩]) := hid (by unfold mid; simp only [hy]; rfl)
  have EN : Hid (nxt P ⟨10, (n : Int), sa, sc, so, sd, sm⟩ = upS P n none) := hid (by rw [nxt_free (s := ⟨10, (n : Int), sa, sc, so, sd, sm⟩) (.inr (.inr rfl))]; rfl)
  clear Q4 P4
  go_wp2_with fail
  go_region
  clear hW4 ch fz z1
  have y0 := KB4.out.cell 0 _ rfl
  go_wp2_with fail
  refine (takes_ok 10 _).mono ?_
  rintro e w9 ⟨rfl, rfl⟩
  rw [show tks 10 = false from rfl]
  go_wp2
  go_ret
  exact ⟨u3, rfl, by rw [EM.out, EN.out]; exact D4.out⟩
theorem done_ok (base r : Nat) (P : St) (s : Sk) (u : Value) (L : List Rn) (w : World) (hs : Sk.Fit s) (hP : P.Ok) (hg : Mg 1000000000000 P) (hc : cod P s = 0) (hp : DP w r P) (hu : Own w base u L) (hl : ∀ q, L.getLast? = some q → 8 < q.k) (hr : r < base) (hb0 : base ≤ w.heap.size) (hN : L.length ≤ 1000) :
    Calls Tryz.prog 33 #[.pointer (some ⟨r, 0, none⟩), u, sv s] w fun e w' => ∃ u', e = .returned u' ∧ Dn base r w w' u u' L (flt (mid s ((hat P s.h).getD h0))) (nxt P s) := by
  have hk : ¬ (s.k < 1 ∨ 10 < s.k) := fun h => by
    unfold cod at hc
    rw [if_pos h] at hc
    exact absurd hc (by decide)
  rcases ten hk with k | k | k | k | k | k | k | k | k | k
  · exact done_1 base r P s u L w k hs hP hg hc hp hu hl hr hb0 hN
  · exact done_2 base r P s u L w k hs hP hg hc hp hu hl hr hb0 hN
  · exact done_3 base r P s u L w k hs hP hg hc hp hu hl hr hb0 hN
  · exact done_4 base r P s u L w k hs hP hg hc hp hu hl hr hb0 hN
  · exact done_5 base r P s u L w k hs hP hg hc hp hu hl hr hb0 hN
  · exact done_6 base r P s u L w k hs hP hg hc hp hu hl hr hb0 hN
  · exact done_7 base r P s u L w k hs hP hg hc hp hu hl hr hb0 hN
  · exact done_8 base r P s u L w k hs hP hg hc hp hu hl hr hb0 hN
  · exact done_9 base r P s u L w k hs hP hg hc hp hu hl hr hb0 hN
  · exact done_10 base r P s u L w k hs hP hg hc hp hu hl hr hb0 hN
end Go.Proofs.YtdmacflcjbkkpaaGreat.Cd
