/- The statement's walk: of any list, a part of which is handed in, Wipe leaves noughts there and all else as it was; the ledger has what the document's has. -/
import Derived.Test.YtmoadcoabfjbnaaWcompares
import Derived.Test.YtmoadcoabfjbnaaRreads
namespace Go.Proofs.Ytmoadcoabfjbnaa
open Go.ChangeShapes Go.WideShapes Go.ChangeAt Go.RowKit

set_option maxHeartbeats 1200000 in
theorem pick30 (i n : Int) (w : World) (h0 : 0 < n) (h1 : n ≤ 9223372036854775807) :
    Calls Try.prog 30 #[.int .i64 i, .int .i64 n] w fun e w' => (∃ p : Nat, (p : Int) < n ∧ e = .returned (.int .i64 p)) ∧ w' = w := by
  have a1 := Int.tmod_lt_of_pos i h0
  have a2 : - n < i.tmod n := by
    have := Int.lt_tmod_of_pos i h0
    omega
  have hz : ¬ n = 0 := by omega
  obtain ⟨q, hq⟩ : ∃ q, i.tmod n = q := ⟨_, rfl⟩
  rw [hq] at a1 a2
  have hw : IntKind.i64.wrap q = q := by rw [IntKind.wrap_i64]; omega
  by_cases hlt : q < 0
  · have hw2 : IntKind.i64.wrap (q + n) = q + n := by rw [IntKind.wrap_i64]; omega
    go_enter Try.func30, Try.ntmps30
    go_wp2
    go_ret
    exact ⟨⟨(q + n).toNat, by omega, by rw [show (((q + n).toNat : Nat) : Int) = q + n by omega]; rfl⟩, rfl⟩
  · go_enter Try.func30, Try.ntmps30
    go_wp2
    go_ret
    exact ⟨⟨q.toNat, by omega, by rw [show ((q.toNat : Nat) : Int) = q by omega]; rfl⟩, rfl⟩

/-- A part of a slice. -/
def sub (a : Option Addr) (cap : Nat) (l h : Int) : Value := .slice (if cap = l.toNat then a else a.map (·.add (l.toNat * 1))) (h.toNat - l.toNat) (cap - l.toNat)
theorem size5 (w : World) : (sizeOf (Try.prog.elem 22)).run Try.prog w = .ok 1 w := by kernel_rfl
theorem elem22 : Try.prog.underlying 22 = some (.slice (Try.prog.elem 22)) := by kernel_rfl
@[go_sem high] theorem sub_lh (w : World) (a : Option Addr) (n cap : Nat) (l h : Int) (h0 : 0 ≤ l) (h1 : l ≤ h) (h2 : h ≤ cap) : (Instr.sliceAt 22 (.slice a n cap) (some (.int .i64 l)) (some (.int .i64 h)) none).run Try.prog w = .ok (sub a cap l h) w := by
  rw [run_sliceAt_slice w 22 _ _ _ _ elem22, run_slice_lh w 22 a n cap elem22 .i64 .i64 l h h0 h1 h2, size5]
  rfl
@[go_sem high] theorem sub_h (w : World) (a : Option Addr) (n cap : Nat) (h : Int) (h0 : 0 ≤ h) (h2 : h ≤ cap) : (Instr.sliceAt 22 (.slice a n cap) none (some (.int .i64 h)) none).run Try.prog w = .ok (sub a cap 0 h) w := by
  rw [run_sliceAt_slice w 22 _ _ _ _ elem22, run_slice_h w 22 a n cap elem22 .i64 h h0 h2, size5]
  rfl
@[go_sem high] theorem sub_l (w : World) (a : Option Addr) (n cap : Nat) (l : Int) (h0 : 0 ≤ l) (h1 : l ≤ n) : (Instr.sliceAt 22 (.slice a n cap) (some (.int .i64 l)) none none).run Try.prog w = .ok (sub a cap l n) w := by
  rw [run_sliceAt_slice w 22 _ _ _ _ elem22, run_slice_l w 22 a n cap elem22 .i64 l h0 h1, size5]
  rfl
theorem rb_sub {w : World} {a : Option Addr} {N cap : Nat} {f : Nat → Int} (hr : By.RB w (.slice a N cap) N f) (l h : Int) (p q : Nat) (hl : l = p) (hh : h = (p : Int) + q) (hN : p + q ≤ N) : By.RB w (sub a cap l h) q (fun i => f (p + i)) := by
  subst hl hh
  obtain ⟨hf, a', cap', he, h1, h2, hc⟩ := hr
  simp only [Value.slice.injEq] at he
  obtain ⟨rfl, _, rfl⟩ := he
  have e1 : ((p : Int)).toNat = p := by omega
  have e2 : ((p : Int) + q).toNat - ((p : Int)).toNat = q := by omega
  unfold sub
  rw [e2, e1]
  refine ⟨fun i => hf _, _, _, rfl, by omega, by omega, ?_⟩
  by_cases hq : q = 0
  · refine .inl ⟨hq, fun hn => ?_⟩
    by_cases hcp : cap = p
    · omega
    · rw [if_neg hcp] at hn
      cases a with
      | none =>
        rcases hc with ⟨_, hc⟩ | ⟨b, off, hb, _⟩
        · have := hc rfl; omega
        · cases hb
      | some x => simp at hn
  · rcases hc with ⟨h0, _⟩ | ⟨b, off, rfl, hc⟩
    · omega
    · refine .inr ⟨b, off + p, ?_, fun i hi => ?_⟩
      · rw [if_neg (by omega)]
        simp only [Option.map_some, By.add_plain, Nat.mul_one]
      · rw [Nat.add_assoc]; exact hc (p + i) (by omega)
theorem wipe_sub (lp : Value) (base : Nat) (a : Option Addr) (N cap : Nat) (l h : Int) (p q : Nat) (f : Nat → Int) (w : World) (R : World → Prop) (hN : By.Notes w lp 8 q R) (ho : ∀ w', R w' → By.Own w' base (.slice a N cap) N f) (hl : l = p) (hh : h = (p : Int) + q) (hn : p + q ≤ N) (hR : By.Own w base (.slice a N cap) N f) :
    Calls Try.prog 31 #[lp, sub a cap l h] w fun e w' => e = .returned (.tuple #[]) ∧ ∃ w1, R w1 ∧ By.Own w' base (.slice a N cap) N (By.wiped p q f) ∧ w1.grownBy w' (Value.slice a N cap).ownBlock := by
  subst hl hh
  have e1 : ((p : Int)).toNat = p := by omega
  have e2 : ((p : Int) + q).toNat - ((p : Int)).toNat = q := by omega
  have hb := hR.1
  have zero : q = 0 → ∀ a' c', Calls Try.prog 31 #[lp, .slice a' q c'] w fun e w' => e = .returned (.tuple #[]) ∧ ∃ w1, R w1 ∧ By.Own w' base (.slice a N cap) N (By.wiped p q f) ∧ w1.grownBy w' (Value.slice a N cap).ownBlock := by
    intro hq a' c'
    subst hq
    refine (By.wipe31_z lp a' c' w R hN).mono ?_
    rintro e w1 ⟨rfl, hr⟩
    exact ⟨rfl, w1, hr, By.own_congr (ho w1 hr) (By.wiped_bound p 0 f hb) (fun i _ => by unfold By.wiped; rw [if_neg (by omega)]), World.grownBy.refl _ _⟩
  unfold sub
  rw [e2, e1]
  by_cases hq : q = 0
  · exact zero hq _ _
  · rcases hR.shape with ⟨_, h0⟩ | ⟨g, cap', he, _, _, hc, _⟩
    · omega
    · simp only [Value.slice.injEq] at he
      obtain ⟨rfl, _, rfl⟩ := he
      rw [if_neg (by omega)]
      simp only [Option.map_some, By.add_plain, Nat.mul_one, Nat.zero_add]
      exact By.wipe31 lp base g N cap p q _ f w R hN ho hn
/-- What stands in one list, then in another. -/
def jn (n : Nat) (f g : Nat → Int) (i : Nat) : Int := if i < n then f i else g (i - n)
/-- A list that is read, appended to a list that the call owns. -/
theorem wpList_join {w : World} {ops : Array Oper} {rest : List Oper} {o : Oper} {a : Act} {Q : Exit → Act → World → Prop} (hgd : o.guard = none) (s x : Operand)
    (ho : o.op = .call { callee := .builtin .append, args := #[s, x], argTypes := #[22, 22] })
    (base : Nat) (u v : Value) (n m : Nat) (f g : Nat → Int) (hu : By.Own w base u n f) (hv : By.RB w v m g) (hb0 : base ≤ w.heap.size) (hN : n + m ≤ 140737488355328)
    (hs : a.eval s = u) (hx : a.eval x = v)
    (h : ∀ u' w', By.Own w' base u' (n + m) (jn n f g) → w.grownBy w' u.ownBlock → wpList Try.prog ops Q rest (a.put o.dst u') w') : wpList Try.prog ops Q (o :: rest) a w := by
  obtain ⟨i0, hi, hz0, hz1, hz2⟩ := info_parts By.info5
  have hj : ∀ i, 0 ≤ jn n f g i ∧ jn n f g i < 256 := by
    intro i; unfold jn; split
    · exact hu.1 i
    · exact hv.1 _
  obtain ⟨ao, cap, rfl⟩ := By.RB.isSlice hv
  cases ao with
  | none =>
    obtain ⟨rfl, rfl⟩ := By.rb_nil hv
    refine wpList_append_own_none hgd s x 22 ho base 5 i0 1 Try.underlying22 hi _ _ _ hs hu.2 hx ?_
    exact h u w (By.own_congr hu hj (fun i hi => by unfold jn; rw [if_pos (show i < n from hi)])) (World.grownBy.refl _ _)
  | some ad =>
    refine wpList_append_own _ hgd s x 22 ho base 5 i0 (.int .u8 0) 1 1 Try.underlying22 hi hz0 hz1 hz2 rfl (by decide) _ _ _ hs hu.2 ad m cap (By.bl m g) hx (by rw [By.bl_length]; omega) (By.rb_cells hv) (By.bl_one m g) (by simp [maxLen]; omega) (by omega) hb0 ?_
    intro u' w' hown hgr _
    refine h u' w' ⟨hj, ?_⟩ hgr
    rw [By.bl_append] at hown
    exact hown
/-- A list of bytes was gone on with. -/
theorem St.pushed {w0 W W' : World} {b c base n : Nat} {rv ru u : Value} {L M : List Rn} {i j : Int} {f : Nat → Int} (h : St w0 W b rv L i c ru M j) (hu : By.Own W base u n f) (hg : W.grownBy W' u.ownBlock) (hb : w0.heap.size ≤ base) : St w0 W' b rv L i c ru M j := by
  rcases hu.shape with ⟨rfl, _⟩ | ⟨g, cap, rfl, hge, _⟩
  · exact h.below (By.Below.of_grown hg)
  · exact h.wrote hg (own_cellsB hu) (Nat.le_trans hb hge)
theorem wiped_is (p m : Nat) (f : Nat → Int) (i : Nat) : By.wiped p m f i = jn (p + m) (jn p f (fun _ => 0)) (fun i => f (p + m + i)) i := by
  unfold By.wiped jn
  by_cases h1 : i < p + m
  · rw [if_pos h1]
    by_cases h2 : i < p
    · rw [if_pos h2, if_neg (by omega)]
    · rw [if_neg h2, if_pos (by omega)]
  · rw [if_neg h1, if_neg (by omega)]
    congr 1
    omega

set_option maxRecDepth 100000 in
set_option maxHeartbeats 4000000 in
theorem wipes (a0 : Option Addr) (N cap0 : Nat) (x y : Int) (f : Nat → Int) (w : World) (w0 : By.RB w (.slice a0 N cap0) N f) (q0 : N ≤ 140737488351232) :
    Calls Try.prog 5 #[.slice a0 N cap0, .int .i64 x, .int .i64 y] w fun e w' => e = .returned (.bool true) ∧ Below w.heap.size w w' := by
  have HP := hid w0
  have hcap : N ≤ cap0 := By.rb_cap w0
  clear w0
  go_enter Try.func5, Try.ntmps5
  go_wp2_with fail
  refine (new9 w).mono ?_
  rintro e W1 ⟨rfl, hl, hb⟩
  have L1 := hid hl
  have B1 := hid hb
  clear hl hb
  go_wp2_with fail
  refine (refNew10 W1).mono ?_
  rintro e W2 ⟨rfl, hl, hb⟩
  have ST := hid (St.start L1.out B1.out hl hb)
  clear hl hb L1 B1
  go_wp2_with fail
  refine (By.copy16 _ N f W2 (HP.out.below ST.out.bel) (by omega)).mono ?_
  rintro e W3 ⟨v1, rfl, ho, hb⟩
  have O1 := hid ho
  have S3 := hid ST.out.bel.size
  replace ST := hid (ST.out.below hb)
  clear ho hb
  obtain ⟨a1, c1, hv1⟩ := By.own_lit_slice O1.out
  subst hv1
  have hc1 : N ≤ c1 := By.rb_cap O1.out.reads
  go_wp2_with fail
  refine (pick30 _ _ _ (by omega) (by omega)).mono ?_
  rintro e WP ⟨⟨p, hp, rfl⟩, h⟩
  subst h
  go_wp2_with fail
  refine (pick30 _ _ _ (by omega) (by omega)).mono ?_
  rintro e WP ⟨⟨m, hm, rfl⟩, h⟩
  subst h
  have hmN : p + m ≤ N := by omega
  have k1 : (p : Int) + m ≤ c1 := by omega
  have k2 : (p : Int) + m ≤ cap0 := by omega
  have k3 : (p : Int) ≤ cap0 := by omega
  have k4 : (p : Int) + m ≤ N := by omega
  have k6 : (p : Int) ≤ (p : Int) + m := by omega
  have k7 : (0 : Int) ≤ (p : Int) + m := by omega
  clear hp hm
  go_wp2_with fail
  refine (wipe_sub _ _ a1 N c1 _ _ p m f _ _ (ST.out.notes 8 m (by omega) (by omega) (by omega)) (fun w' h => h.elim fun _ h => own_kb O1.out h.2) rfl rfl hmN O1.out).mono ?_
  rintro e W5 ⟨rfl, w5, ⟨r5, hs, hk⟩, ho, hg⟩
  replace ST := hid (hs.pushed (own_kb O1.out hk) hg S3.out)
  replace O1 := hid ho
  clear hs hk ho hg
  have OW := hid (By.own_nil W5 W5.heap.size (fun _ => 0) (fun _ => ⟨Int.le_refl _, show (0 : Int) < 256 by omega⟩))
  have S5 := hid ST.out.bel.size
  have O5 := O1
  have hle := hid (Nat.le_refl W5.heap.size)
  go_wp2_with (at_builtin; go_must (refine wpList_join rfl _ _ rfl W5.heap.size _ _ 0 p _ f OW.out (By.RB.congr (rb_sub (HP.out.below ST.out.bel) 0 _ 0 p rfl ?e1 (by omega)) HP.out.1 (fun i _ => by rw [Nat.zero_add])) hle.out (by omega) rfl rfl ?_))
  case e1 => simp
  intro u6 W6 ho hg
  replace ST := hid (ST.out.pushed OW.out hg S5.out)
  replace O1 := hid (By.own_below O1.out (By.Below.of_grown hg))
  replace hle := hid (Nat.le_trans hle.out hg.size)
  replace OW := hid (By.own_congr ho HP.out.1 (fun i _ => by unfold jn; simp))
  clear ho hg
  go_wp2_with fail
  refine (By.refWiped32 _ _ m _ _ (ST.out.rnotes 8 m (by omega) (by omega) (by omega)) ?sl (by omega)).mono ?_
  case sl => exact By.RB.isSlice (rb_sub (HP.out.below ST.out.bel) _ _ p m rfl rfl hmN)
  rintro e W7 ⟨v7, rfl, w7, ⟨r7, hs, hk⟩, ho, hb⟩
  replace ST := hid (hs.below hb)
  replace O1 := hid (By.own_below (own_kb O1.out hk) hb)
  replace OW := hid (By.own_below (own_kb OW.out hk) hb)
  replace hle := hid (Nat.le_trans hle.out (Nat.le_trans hk.1 hb.size))
  have O7 := hid ho
  clear hs hk ho hb
  go_wp2_with (at_builtin; go_must (refine wpList_join rfl _ _ rfl W5.heap.size _ _ p m _ _ OW.out O7.out.reads hle.out (by omega) rfl rfl ?_))
  intro u8 W8 ho hg
  replace ST := hid (ST.out.pushed OW.out hg S5.out)
  replace O1 := hid (By.own_kept O1.out hg (By.own_apart O5.out (Nat.le_refl _) OW.out))
  replace hle := hid (Nat.le_trans hle.out hg.size)
  replace OW := hid ho
  clear ho hg O7
  go_wp2_with (at_builtin; go_must (refine wpList_join rfl _ _ rfl W5.heap.size _ _ (p + m) (N - (p + m)) _ (fun i => f (p + m + i)) OW.out (rb_sub (HP.out.below ST.out.bel) _ _ (p + m) (N - (p + m)) ?e2 ?e3 (by omega)) hle.out (by omega) rfl rfl ?_))
  case e2 => simp
  case e3 => omega
  intro u9 W9 ho hg
  replace ST := hid (ST.out.pushed OW.out hg S5.out)
  replace O1 := hid (By.own_kept O1.out hg (By.own_apart O5.out (Nat.le_refl _) OW.out))
  replace OW := hid ho
  clear ho hg hle O5
  go_wp2_with fail
  refine (By.same_true _ _ N _ _ _ O1.out.reads OW.out.reads (by omega) (fun i _ => wiped_is p m f i)).mono ?_
  rintro e Wx ⟨rfl, d1, rfl⟩
  replace ST := hid (ST.out.drewN d1)
  replace OW := hid (By.own_drewN OW.out d1)
  clear O1
  go_wp2_with fail
  refine (ST.out.runs (by omega)).mono ?_
  rintro e W10 ⟨rl1, rfl, hr, hb⟩
  have R1 := hid hr
  replace ST := hid (ST.out.below hb)
  replace OW := hid (By.own_below OW.out hb)
  clear hr hb
  go_wp2_with fail
  refine (ST.out.rruns (by omega)).mono ?_
  rintro e W11 ⟨rl2, rfl, hr, hb⟩
  replace R1 := hid (R1.out.below hb)
  have R2 := hid hr
  replace ST := hid (ST.out.below hb)
  replace OW := hid (By.own_below OW.out hb)
  clear hr hb
  go_wp2_with fail
  refine (same_runs R1.out R2.out (few_len ST.out.led (by rw [ST.out.ti]; omega))).mono ?_
  rintro e Wx ⟨rfl, d2, rfl⟩
  replace ST := hid (ST.out.drewN d2)
  replace OW := hid (By.own_drewN OW.out d2)
  clear R1 R2
  go_wp2_with fail
  refine (By.copy16 _ N f _ (HP.out.below ST.out.bel) (by omega)).mono ?_
  rintro e W12 ⟨v2, rfl, ho, hb⟩
  have S12 := hid ST.out.bel.size
  have A2 := hid (By.own_apart OW.out (Nat.le_refl _) ho)
  replace ST := hid (ST.out.below hb)
  replace OW := hid (By.own_below OW.out hb)
  have O2 := hid ho
  clear ho hb
  obtain ⟨a2, c2, hv2⟩ := By.own_lit_slice O2.out
  subst hv2
  have hc2 : N ≤ c2 := By.rb_cap O2.out.reads
  have k5 : (p : Int) + m ≤ c2 := by omega
  go_wp2_with fail
  refine (wipe_sub _ _ a2 N c2 _ _ p m f _ _ (note39n 8 m _) (fun w' h => By.own_below O2.out h) rfl rfl hmN O2.out).mono ?_
  rintro e W13 ⟨rfl, w13, hb, ho, hg⟩
  replace ST := hid ((ST.out.below hb).pushed (By.own_below O2.out hb) hg S12.out)
  replace OW := hid (By.own_kept (By.own_below OW.out hb) hg A2.out)
  replace O2 := hid ho
  clear hb ho hg A2
  go_wp2_with fail
  refine (By.same_true _ _ N _ _ _ O2.out.reads OW.out.reads (by omega) (fun i _ => wiped_is p m f i)).mono ?_
  rintro e Wx ⟨rfl, d3, rfl⟩
  replace ST := hid (ST.out.drewN d3)
  clear O2 OW
  have EC := hid (show cnt 8 (putL [] ⟨8, (m : Int), 1⟩) = 1 by simp [putL, cnt])
  go_wp2_with fail
  refine (count24 _ _ _ 8 _ ST.out.led (few_len ST.out.led (by rw [ST.out.ti]; omega))).mono ?_
  rintro e W14 ⟨rfl, hb⟩
  replace ST := hid (ST.out.below hb)
  rw [EC.out]
  clear hb
  go_wp2
  go_ret
  exact ⟨rfl, ST.out.bel⟩
end Go.Proofs.Ytmoadcoabfjbnaa
