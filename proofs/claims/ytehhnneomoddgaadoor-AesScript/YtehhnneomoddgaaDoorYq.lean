/- The document's ledger, handed in or none; the document's ciphers. The document's New. -/
import Derived.Test.YtehhnneomoddgaaDoorYn
import Derived.Test.YtehhnneomoddgaaDoorYi
import Derived.Test.YtehhnneomoddgaaDoorYp
import Derived.Test.YtehhnneomoddgaaDoorYo
namespace Go.Proofs.YtehhnneomoddgaaDoor.Ae
open Go.ChangeShapes Go.WideShapes Go.ChangeAt Go.RowKit
open Go.Proofs.YtehhnneomoddgaaDoor.By Go.Proofs.YtehhnneomoddgaaDoor.Gf
/-- The document's ledger (if there is one) has L; of the blocks that were there in w0 it has only such as S names. -/
def RLG (S : Nat → Prop) (w0 w : World) (lo : Option Nat) (L : List Rn) : Prop :=
  match lo with
  | none => True
  | some lb => S lb ∧ ∃ rv, RLed w lb rv L ∧ ∀ g, rv.ownBlock = some g → g < w0.heap.size → S g
theorem rled_apart {w : World} {lb : Nat} {rv : Value} {L : List Rn} (h : RLed w lb rv L) {g : Nat} {cs : List Value} {t : TypeId} (hg : Blk w g cs t) (h1 : t ≠ 49) (h2 : t ≠ 74) : ¬ (g = lb ∨ rv.ownBlock = some g) := by
  rintro (e | e)
  · subst e
    have := Option.some.inj (hg.symm.trans h.here)
    simp only [Obj.cells.injEq] at this
    exact h1 this.2.1
  · obtain ⟨c, hc⟩ := own_type h.own e
    have := Option.some.inj (hg.symm.trans hc)
    simp only [Obj.cells.injEq] at this
    exact h2 this.2.1
/-- Blocks that are no ledger's of the document stay. -/
def Ku (w w' : World) : Prop := w.heap.size ≤ w'.heap.size ∧ ∀ g cs t, Blk w g cs t → t ≠ 49 → t ≠ 74 → Blk w' g cs t
theorem Ku.refl (w : World) : Ku w w := ⟨Nat.le_refl _, fun _ _ _ h _ _ => h⟩
theorem Ku.trans {a b c : World} (h : Ku a b) (k : Ku b c) : Ku a c := ⟨Nat.le_trans h.1 k.1, fun g cs t hg h1 h2 => k.2 g cs t (h.2 g cs t hg h1 h2) h1 h2⟩
theorem Ku.of_below {w w' : World} (h : Below w.heap.size w w') : Ku w w' := ⟨h.size, fun _ _ _ hg _ _ => hg.below h⟩
theorem RLG.kept {S : Nat → Prop} {w0 w w' : World} {lo : Option Nat} {L : List Rn} {T : Nat → Prop} (h : RLG S w0 w lo L) (hk : Kp T w w') (hT : ∀ g, T g → ∃ cs t, Blk w g cs t ∧ t ≠ 49 ∧ t ≠ 74) : RLG S w0 w' lo L := by
  cases lo with
  | none => exact trivial
  | some lb =>
    obtain ⟨hs, rv, hl, ho⟩ := h
    refine ⟨hs, rv, hl.kept hk (fun e => ?_) (fun g hg e => ?_), ho⟩
    · obtain ⟨cs, t, hb, h1, h2⟩ := hT _ e
      exact rled_apart hl hb h1 h2 (.inl rfl)
    · obtain ⟨cs, t, hb, h1, h2⟩ := hT _ e
      exact rled_apart hl hb h1 h2 (.inr hg)
theorem RLG.below {S : Nat → Prop} {w0 w w' : World} {lo : Option Nat} {L : List Rn} (h : RLG S w0 w lo L) (hb : Below w.heap.size w w') : RLG S w0 w' lo L := h.kept (Kp.of_below (fun _ => False) hb) (fun _ e => e.elim)
theorem rtimes0 (a : Value) (n : Int) (k s : Int) (w : World) (ha : a = .agg #[.int .u8 k, .int .i64 s]) :
    Calls Tryd.prog 58 #[.pointer none, a, .int .i64 n] w fun e w' => e = .returned (.tuple #[]) ∧ Below w.heap.size w w' := by
  subst ha
  have b := below_alloc w (.cells #[.int .u8 k, .int .i64 s] 72)
  go_enter Tryd.func58, Tryd.ntmps58
  go_wp2
  refine bodyPost_ret (results_none rfl _ _ _) rfl ?_
  exact ⟨rfl, b⟩
theorem rnote0 (a : Value) (k s : Int) (w : World) (ha : a = .agg #[.int .u8 k, .int .i64 s]) :
    Calls Tryd.prog 38 #[.pointer none, a] w fun e w' => e = .returned (.tuple #[]) ∧ Below w.heap.size w w' := by
  subst ha
  have b := hid (below_alloc w (.cells #[.int .u8 k, .int .i64 s] 72))
  go_enter Tryd.func38, Tryd.ntmps38
  go_wp2_with fail
  refine (rtimes0 _ _ k s _ rfl).mono ?_
  rintro e w1 ⟨rfl, hb⟩
  have b1 := hid (below_next b.out hb)
  clear hb
  go_wp2
  go_end0
  exact ⟨rfl, b1.out⟩
theorem rnote_lg (S : Nat → Prop) (w0 w : World) (lo : Option Nat) (L : List Rn) (k s : Int) (hk : 0 ≤ k ∧ k < 256) (hs : 0 ≤ s ∧ s ≤ 1000) (h : RLG S w0 w lo L) (h0 : Kp S w0 w) (hr : Room L) :
    Calls Tryd.prog 38 #[lpv lo, .agg #[.int .u8 k, .int .i64 s]] w fun e w' => e = .returned (.tuple #[]) ∧ RLG S w0 w' lo (putL L ⟨k, s, 1⟩) ∧ Kp S w0 w' ∧ Ku w w' := by
  cases lo with
  | none =>
    refine (rnote0 _ k s w rfl).mono ?_
    rintro e w' ⟨rfl, hb⟩
    exact ⟨rfl, trivial, h0.trans (Kp.of_below S hb) (fun _ _ e => e), hb.size, fun g cs t hg _ _ => hg.below hb⟩
  | some lb =>
    obtain ⟨hs1, rv, hl, ho⟩ := h
    have hrl := room_len hr
    have hrt := hr.1
    refine (refNote42 lb rv L k s w hl ⟨hk, ⟨by show -9223372036854775808 ≤ s; omega, by show s ≤ 9223372036854775807; omega⟩, by show -9223372036854775808 ≤ (1 : Int) ∧ (1 : Int) ≤ 9223372036854775807; omega⟩ (by omega) hrl).mono ?_
    rintro e w' ⟨rfl, rv', hl', hkp, hsn⟩
    refine ⟨rfl, ⟨hs1, rv', hl', fun g hg hlt => ?_⟩, h0.trans hkp ?_, hkp.size, fun g cs t hg h1 h2 => hg.kept hkp (rled_apart hl hg h1 h2)⟩
    · rcases hsn with e | e
      · exact ho g (by rw [← e]; exact hg) hlt
      · have := e g hg; have := h0.size; omega
    · rintro i hi (rfl | e)
      · exact hs1
      · exact ho i e hi
theorem OW.ku {W W' : World} {B n : Nat} {v : Value} {f : Nat → Nat} (h : OW W B v n f) (hk : Ku W W') : OW W' B v n f := by
  obtain ⟨hl, h | ⟨q, cap, cur, rfl, hb, hc, r⟩⟩ := h
  · exact ⟨hl, .inl h⟩
  · refine ⟨hl, .inr ⟨q, cap, cur, rfl, hb, ?_, r⟩⟩
    have := hk.2 q cur.toList 77 (by show W.heap[q]? = _; rw [hc]) (by decide) (by decide)
    simpa [Blk] using this
theorem RA.ku {W W' : World} {g n : Nat} {wv : Value} {f : Nat → Nat} (h : RA W g wv n f) (hk : Ku W W') : RA W' g wv n f :=
  ⟨hk.2 _ _ _ h.here (by decide) (by decide), OW.ku (B := 0) h.own hk, h.lt⟩
/-- The document's cipher in block g. -/
structure RC (w : World) (g k : Nat) (key : Nat → Nat) : Prop where
  kk : k = 4 ∨ k = 6 ∨ k = 8
  here : ∃ a cap ga wv, Blk w g [.slice a (4 * k) cap, .bool true, .pointer (some ⟨ga, 0, none⟩)] 86 ∧ RA w ga wv (4 * (k + 7)) (wds k key (3 * k + 28))
/-- None of the document's. -/
def RN (w : World) (v : Value) : Prop := v = .pointer none ∨ ∃ g x y, v = .pointer (some ⟨g, 0, none⟩) ∧ Blk w g [x, .bool false, y] 86
theorem RC.ku {w w' : World} {g k : Nat} {key : Nat → Nat} (h : RC w g k key) (hk : Ku w w') : RC w' g k key := by
  obtain ⟨kk, a, cap, ga, wv, b, r⟩ := h
  exact ⟨kk, a, cap, ga, wv, hk.2 _ _ _ b (by decide) (by decide), r.ku hk⟩
theorem RC.below {w w' : World} {g k : Nat} {key : Nat → Nat} (h : RC w g k key) (hb : Below w.heap.size w w') : RC w' g k key := h.ku (Ku.of_below hb)
theorem RN.ku {w w' : World} {v : Value} (h : RN w v) (hk : Ku w w') : RN w' v := by
  obtain h | ⟨g, x, y, rfl, b⟩ := h
  · exact .inl h
  · exact .inr ⟨g, x, y, rfl, hk.2 _ _ _ b (by decide) (by decide)⟩

theorem rlen_rc (g k : Nat) (key : Nat → Nat) (w : World) (hc : RC w g k key) : Calls Tryd.prog 27 #[.pointer (some ⟨g, 0, none⟩)] w fun e w' => e = .returned (.int .i64 ((4 * k : Nat) : Int)) ∧ w' = w := by
  obtain ⟨kk, a, cap, ga, wv, b, r⟩ := hc
  have c0 := b.cell 0 _ rfl
  have c1 := b.cell 1 _ rfl
  clear b r kk
  go_enter Tryd.func27, Tryd.ntmps27
  go_wp2_with fail
  go_ret
  exact ⟨rfl, rfl⟩
theorem rlen_rn (v : Value) (w : World) (h : RN w v) : Calls Tryd.prog 27 #[v] w fun e w' => e = .returned (.int .i64 0) ∧ w' = w := by
  obtain rfl | ⟨g, x, y, rfl, b⟩ := h
  · go_enter Tryd.func27, Tryd.ntmps27
    go_wp2_with fail
    go_ret
    exact ⟨rfl, rfl⟩
  · have c1 := b.cell 1 _ rfl
    clear b
    go_enter Tryd.func27, Tryd.ntmps27
    go_wp2_with fail
    go_ret
    exact ⟨rfl, rfl⟩
theorem rform_rc (g k : Nat) (key : Nat → Nat) (w : World) (hc : RC w g k key) : Calls Tryd.prog 25 #[.pointer (some ⟨g, 0, none⟩)] w fun e w' => ∃ v, e = .returned v ∧ By.Own w' w.heap.size v (16 * (k + 7)) (cb (wds k key (3 * k + 28))) ∧ Below w.heap.size w w' := by
  obtain ⟨kk, a, cap, ga, wv, b, r⟩ := hc
  have c0 := b.cell 0 _ rfl
  have c1 := b.cell 1 _ rfl
  have c2 := b.cell 2 _ rfl
  have R := hid r
  have KK := hid kk
  clear b r kk
  go_enter Tryd.func25, Tryd.ntmps25
  go_wp2_with fail
  refine (rform ga (4 * (k + 7)) wv _ (by omega) (by have := KK.out; omega) _ R.out).mono ?_
  rintro e w' ⟨v, rfl, ho, hb⟩
  have HO := hid ho
  have HB := hid hb
  clear ho hb
  go_wp2_with fail
  go_ret
  have ho := HO.out
  rw [show 4 * (4 * (k + 7)) = 16 * (k + 7) from by omega] at ho
  exact ⟨v, rfl, ho, HB.out⟩
theorem rform_rn (v : Value) (w : World) (h : RN w v) : Calls Tryd.prog 25 #[v] w fun e w' => e = .returned (.slice none 0 0) ∧ w' = w := by
  obtain rfl | ⟨g, x, y, rfl, b⟩ := h
  · go_enter Tryd.func25, Tryd.ntmps25
    go_wp2_with fail
    go_ret
    exact ⟨rfl, rfl⟩
  · have c1 := b.cell 1 _ rfl
    clear b
    go_enter Tryd.func25, Tryd.ntmps25
    go_wp2_with fail
    go_ret
    exact ⟨rfl, rfl⟩
theorem rclone_rn (v : Value) (w : World) (h : RN w v) : Calls Tryd.prog 29 #[v] w fun e w' => e = .returned (.tuple #[.pointer none, .int .i64 1]) ∧ w' = w := by
  obtain rfl | ⟨g, x, y, rfl, b⟩ := h
  · go_enter Tryd.func29, Tryd.ntmps29
    go_wp2_with fail
    go_ret2
    exact ⟨rfl, rfl⟩
  · have c1 := b.cell 1 _ rfl
    clear b
    go_enter Tryd.func29, Tryd.ntmps29
    go_wp2_with fail
    go_ret2
    exact ⟨rfl, rfl⟩
theorem rclone_rc (g k : Nat) (key : Nat → Nat) (w : World) (hc : RC w g k key) : Calls Tryd.prog 29 #[.pointer (some ⟨g, 0, none⟩)] w fun e w' => e = .returned (.tuple #[.pointer (some ⟨w.heap.size, 0, none⟩), .int .i64 0]) ∧ RC w' w.heap.size k key ∧ Below w.heap.size w w' := by
  obtain ⟨kk, a, cap, ga, wv, b, r⟩ := hc
  have c0 := b.cell 0 _ rfl
  have c1 := b.cell 1 _ rfl
  have c2 := b.cell 2 _ rfl
  have R := hid r
  have KK := hid kk
  clear b r kk
  go_enter Tryd.func29, Tryd.ntmps29
  go_wp2_with fail
  go_region
  all_goals
    go_simp
    go_wp2_with fail
    refine bodyPost_ret (v := .tuple #[.pointer (some ⟨w.heap.size, 0, none⟩), .int .i64 0]) (by simp [results, Tryd.results29, go_sem]) rfl ⟨rfl, ⟨KK.out, a, cap, ga, wv, (Blk.newAt w _ [.slice a (4 * k) cap, .bool true, .pointer (some ⟨ga, 0, none⟩)] 86 _ rfl rfl).drewN 1, R.out.below (below_dr (below_alloc w _))⟩, below_dr (below_alloc w _)⟩
theorem rwipe_rn (v lv : Value) (w : World) (h : RN w v) : Calls Tryd.prog 31 #[v, lv] w fun e w' => e = .returned (.int .i64 1) ∧ w' = w := by
  obtain rfl | ⟨g, x, y, rfl, b⟩ := h
  · go_enter Tryd.func31, Tryd.ntmps31
    go_wp2_with fail
    go_ret
    exact ⟨rfl, rfl⟩
  · have c1 := b.cell 1 _ rfl
    clear b
    go_enter Tryd.func31, Tryd.ntmps31
    go_wp2_with fail
    go_ret
    exact ⟨rfl, rfl⟩

set_option maxRecDepth 8000 in
set_option maxHeartbeats 4000000 in
theorem renc_rc (S : Nat → Prop) (w0 w : World) (lo : Option Nat) (L : List Rn) (g k : Nat) (key b : Nat → Nat) (hb : B16 b) (hc : RC w g k key) (h : RLG S w0 w lo L) (h0 : Kp S w0 w) (hr : Room L) :
    Calls Tryd.prog 21 #[.pointer (some ⟨g, 0, none⟩), lpv lo, bv b] w fun e w' => e = .returned (.tuple #[bv (enc (wds k key (3 * k + 28)) (k + 6) b), .int .i64 0]) ∧ RLG S w0 w' lo (putL L ⟨5, ((4 * k : Nat) : Int), 1⟩) ∧ Kp S w0 w' ∧ Ku w w' := by
  obtain ⟨kk, a, cap, ga, wv, b0, r⟩ := hc
  have KK := hid kk
  have hk8 : k ≤ 8 := by omega
  have bel := hid ((below_alloc w (.cells (bl 16 (cb b)).toArray 58)).alloc (by simp) (.cells (bl 16 (cb (upto 0 b))).toArray 58))
  have bel' := hid (show Below w.heap.size w _ from bel.out)
  have A0 := hid ((Blk.newAt w _ _ 58 _ rfl (rfl : (bl 16 (cb b)).toArray = (bl 16 (cb b)).toArray)).alloc (.cells (bl 16 (cb (upto 0 b))).toArray 58))
  have A1 := hid (Blk.newAt (w.alloc (.cells (bl 16 (cb b)).toArray 58)) _ (bl 16 (cb (upto 0 b))) 58 (w.heap.size + 1) (by simp) rfl)
  have C := hid (b0.below bel.out)
  have R := hid (r.below bel.out)
  have HL := hid (h.below bel.out)
  have HK := hid (h0.trans (Kp.of_below S bel.out) (fun _ _ e => e))
  have HR := hid hr
  have HBB := hid hb
  have H0 := hid h0.size
  rw [← zero16 b] at bel A0 C R HL HK
  rw [show (bl 16 (cb (upto 0 b))).toArray = _ from (zero16 b).symm] at A1
  clear b0 r kk h h0 hr hb bel'
  have c0 := C.out.cell 0 _ rfl
  have c1 := C.out.cell 1 _ rfl
  unfold bv
  go_enter Tryd.func21, Tryd.ntmps21
  go_wp2_with fail
  generalize ((w.alloc (Obj.cells (bl 16 (cb b)).toArray 58)).alloc (Obj.cells #[Value.int IntKind.u8 0, Value.int IntKind.u8 0, Value.int IntKind.u8 0, Value.int IntKind.u8 0, Value.int IntKind.u8 0, Value.int IntKind.u8 0, Value.int IntKind.u8 0, Value.int IntKind.u8 0, Value.int IntKind.u8 0, Value.int IntKind.u8 0, Value.int IntKind.u8 0, Value.int IntKind.u8 0, Value.int IntKind.u8 0, Value.int IntKind.u8 0, Value.int IntKind.u8 0, Value.int IntKind.u8 0] 58)) = W2 at *
  refine (rnote_lg S w0 _ lo L 5 (4 * (k : Int)) (by omega) (by omega) HL.out HK.out HR.out).mono ?_
  rintro e W3 ⟨rfl, l3, k3, t3⟩
  rw [show (4 * (k : Int)) = ((4 * k : Nat) : Int) from by omega] at l3
  have L3 := hid l3
  have K3 := hid k3
  have T3 := hid t3
  have C3 := hid (t3.2 _ _ _ C.out (by decide) (by decide))
  have R3 := hid (R.out.ku t3)
  have D0 := hid (t3.2 _ _ _ A0.out (by decide) (by decide))
  have D1 := hid (t3.2 _ _ _ A1.out (by decide) (by decide))
  clear l3 k3 t3 c0 c1 C R HL HK A0 A1
  have c2 := C3.out.cell 2 _ rfl
  have l1 := LDb_run (range0 D0.out) (bl_length _ _)
  have l1' : (LDb ⟨w.heap.size, 0, none⟩).run Tryd.prog W3.drew = .ok (.agg (bl 16 (cb b)).toArray) W3.drew := LDb_run (range0 (D0.out.drewN 1)) (bl_length _ _)
  obtain ⟨ff, eff⟩ : ∃ ff, enc (wds k key (3 * k + 28)) (k + 6) b = ff := ⟨_, rfl⟩
  have XC := hid (show Calls Tryd.prog 47 #[.pointer (some ⟨ga, 0, none⟩), .agg (bl 16 (cb b)).toArray] W3.drew fun e w' => e = .returned (.agg (bl 16 (cb ff)).toArray) ∧ Below W3.heap.size W3.drew w' from by
    rw [← eff]
    exact renc ga (k + 6) wv (wds k key (3 * k + 28)) b HBB.out W3.drew (R3.out.below (below_dr (Below.refl _ _))) (by omega))
  have EFF := hid eff
  clear eff
  have S1 : Hid (∀ W4, Below W3.heap.size W3.drew W4 → (SVb ⟨w.heap.size + 1, 0, none⟩ (.agg (bl 16 (cb ff)).toArray)).run Tryd.prog W4 = .ok () (W4.setCells (w.heap.size + 1) 0 (bl 16 (cb ff)))) := fun W4 hb =>
    SVb_run (cs := bl 16 (cb ff)) (((D1.out.drewN 1).below hb).there 0 16 (by rw [bl_length]; omega)) (bl_length _ _) (bl_one _ _)
  go_wp2_with fail
  go_region_law (go_simp; go_at_call 47; refine XC.out.mono ?_; rintro e W4 ⟨rfl, hb4⟩; have s1 := S1.out W4 hb4; have B4 := hid hb4; clear hb4)
  all_goals
    go_wp2_with fail
    have B4 := hid (show Below W3.heap.size W3 W4 from (below_dr (Below.refl _ _)).trans B4.out)
    have D4 := hid (D1.out.below B4.out)
    have b1 := D4.out.put 0 (bl 16 (cb ff))
    rw [put_all _ _ (by rw [bl_length, bl_length])] at b1
    have l2 := hid (LDb_run (range0 b1) (bl_length _ _))
    have k5 := Kp.setCells (w := W4) (w.heap.size + 1) 0 (bl 16 (cb ff))
    have hz := H0.out
    refine bodyPost_ret ?_ rfl ⟨rfl, (L3.out.below B4.out).kept k5 (fun x e => ?_), (K3.out.trans (Kp.of_below S B4.out) (fun _ _ e => e)).trans k5 (fun i hi e => by omega), Nat.le_trans bel.out.size (Nat.le_trans T3.out.1 (Nat.le_trans B4.out.size k5.size)), fun x cs t hx h1 h2 => ?_⟩
    · rw [EFF.out]
      exact results_cell2 Tryd.results21 rfl rfl l2.out
    · subst e
      exact ⟨_, _, D4.out, by decide, by decide⟩
    · have hlt := hx.lt
      exact ((T3.out.2 x cs t (hx.below bel.out) h1 h2).below B4.out).kept k5 (by omega)

set_option maxRecDepth 8000 in
set_option maxHeartbeats 4000000 in
theorem rdec_rc (S : Nat → Prop) (w0 w : World) (lo : Option Nat) (L : List Rn) (g k : Nat) (key b : Nat → Nat) (hb : B16 b) (hc : RC w g k key) (h : RLG S w0 w lo L) (h0 : Kp S w0 w) (hr : Room L) :
    Calls Tryd.prog 23 #[.pointer (some ⟨g, 0, none⟩), lpv lo, bv b] w fun e w' => e = .returned (.tuple #[bv (dec (wds k key (3 * k + 28)) (k + 6) b), .int .i64 0]) ∧ RLG S w0 w' lo (putL L ⟨5, ((4 * k : Nat) : Int), 1⟩) ∧ Kp S w0 w' ∧ Ku w w' := by
  obtain ⟨kk, a, cap, ga, wv, b0, r⟩ := hc
  have KK := hid kk
  have hk8 : k ≤ 8 := by omega
  have bel := hid ((below_alloc w (.cells (bl 16 (cb b)).toArray 58)).alloc (by simp) (.cells (bl 16 (cb (upto 0 b))).toArray 58))
  have bel' := hid (show Below w.heap.size w _ from bel.out)
  have A0 := hid ((Blk.newAt w _ _ 58 _ rfl (rfl : (bl 16 (cb b)).toArray = (bl 16 (cb b)).toArray)).alloc (.cells (bl 16 (cb (upto 0 b))).toArray 58))
  have A1 := hid (Blk.newAt (w.alloc (.cells (bl 16 (cb b)).toArray 58)) _ (bl 16 (cb (upto 0 b))) 58 (w.heap.size + 1) (by simp) rfl)
  have C := hid (b0.below bel.out)
  have R := hid (r.below bel.out)
  have HL := hid (h.below bel.out)
  have HK := hid (h0.trans (Kp.of_below S bel.out) (fun _ _ e => e))
  have HR := hid hr
  have HBB := hid hb
  have H0 := hid h0.size
  rw [← zero16 b] at bel A0 C R HL HK
  rw [show (bl 16 (cb (upto 0 b))).toArray = _ from (zero16 b).symm] at A1
  clear b0 r kk h h0 hr hb bel'
  have c0 := C.out.cell 0 _ rfl
  have c1 := C.out.cell 1 _ rfl
  unfold bv
  go_enter Tryd.func23, Tryd.ntmps23
  go_wp2_with fail
  generalize ((w.alloc (Obj.cells (bl 16 (cb b)).toArray 58)).alloc (Obj.cells #[Value.int IntKind.u8 0, Value.int IntKind.u8 0, Value.int IntKind.u8 0, Value.int IntKind.u8 0, Value.int IntKind.u8 0, Value.int IntKind.u8 0, Value.int IntKind.u8 0, Value.int IntKind.u8 0, Value.int IntKind.u8 0, Value.int IntKind.u8 0, Value.int IntKind.u8 0, Value.int IntKind.u8 0, Value.int IntKind.u8 0, Value.int IntKind.u8 0, Value.int IntKind.u8 0, Value.int IntKind.u8 0] 58)) = W2 at *
  refine (rnote_lg S w0 _ lo L 5 (4 * (k : Int)) (by omega) (by omega) HL.out HK.out HR.out).mono ?_
  rintro e W3 ⟨rfl, l3, k3, t3⟩
  rw [show (4 * (k : Int)) = ((4 * k : Nat) : Int) from by omega] at l3
  have L3 := hid l3
  have K3 := hid k3
  have T3 := hid t3
  have C3 := hid (t3.2 _ _ _ C.out (by decide) (by decide))
  have R3 := hid (R.out.ku t3)
  have D0 := hid (t3.2 _ _ _ A0.out (by decide) (by decide))
  have D1 := hid (t3.2 _ _ _ A1.out (by decide) (by decide))
  clear l3 k3 t3 c0 c1 C R HL HK A0 A1
  have c2 := C3.out.cell 2 _ rfl
  have l1 := LDb_run (range0 D0.out) (bl_length _ _)
  have l1' : (LDb ⟨w.heap.size, 0, none⟩).run Tryd.prog W3.drew = .ok (.agg (bl 16 (cb b)).toArray) W3.drew := LDb_run (range0 (D0.out.drewN 1)) (bl_length _ _)
  obtain ⟨ff, eff⟩ : ∃ ff, dec (wds k key (3 * k + 28)) (k + 6) b = ff := ⟨_, rfl⟩
  have XC := hid (show Calls Tryd.prog 49 #[.pointer (some ⟨ga, 0, none⟩), .agg (bl 16 (cb b)).toArray] W3.drew fun e w' => e = .returned (.agg (bl 16 (cb ff)).toArray) ∧ Below W3.heap.size W3.drew w' from by
    rw [← eff]
    exact rdec ga (k + 6) wv (wds k key (3 * k + 28)) b HBB.out W3.drew (R3.out.below (below_dr (Below.refl _ _))) (by omega))
  have EFF := hid eff
  clear eff
  have S1 : Hid (∀ W4, Below W3.heap.size W3.drew W4 → (SVb ⟨w.heap.size + 1, 0, none⟩ (.agg (bl 16 (cb ff)).toArray)).run Tryd.prog W4 = .ok () (W4.setCells (w.heap.size + 1) 0 (bl 16 (cb ff)))) := fun W4 hb =>
    SVb_run (cs := bl 16 (cb ff)) (((D1.out.drewN 1).below hb).there 0 16 (by rw [bl_length]; omega)) (bl_length _ _) (bl_one _ _)
  go_wp2_with fail
  go_region_law (go_simp; go_at_call 49; refine XC.out.mono ?_; rintro e W4 ⟨rfl, hb4⟩; have s1 := S1.out W4 hb4; have B4 := hid hb4; clear hb4)
  all_goals
    go_wp2_with fail
    have B4 := hid (show Below W3.heap.size W3 W4 from (below_dr (Below.refl _ _)).trans B4.out)
    have D4 := hid (D1.out.below B4.out)
    have b1 := D4.out.put 0 (bl 16 (cb ff))
    rw [put_all _ _ (by rw [bl_length, bl_length])] at b1
    have l2 := hid (LDb_run (range0 b1) (bl_length _ _))
    have k5 := Kp.setCells (w := W4) (w.heap.size + 1) 0 (bl 16 (cb ff))
    have hz := H0.out
    refine bodyPost_ret ?_ rfl ⟨rfl, (L3.out.below B4.out).kept k5 (fun x e => ?_), (K3.out.trans (Kp.of_below S B4.out) (fun _ _ e => e)).trans k5 (fun i hi e => by omega), Nat.le_trans bel.out.size (Nat.le_trans T3.out.1 (Nat.le_trans B4.out.size k5.size)), fun x cs t hx h1 h2 => ?_⟩
    · rw [EFF.out]
      exact results_cell2 Tryd.results23 rfl rfl l2.out
    · subst e
      exact ⟨_, _, D4.out, by decide, by decide⟩
    · have hlt := hx.lt
      exact ((T3.out.2 x cs t (hx.below bel.out) h1 h2).below B4.out).kept k5 (by omega)

set_option maxRecDepth 8000 in
set_option maxHeartbeats 4000000 in
theorem renc_rn (v lv : Value) (b : Nat → Nat) (w : World) (h : RN w v) : Calls Tryd.prog 21 #[v, lv, bv b] w fun e w' => e = .returned (.tuple #[bv nul, .int .i64 1]) ∧ Below w.heap.size w w' := by
  have bel := hid ((below_alloc w (.cells (bl 16 (cb b)).toArray 58)).alloc (by simp) (.cells (bl 16 (cb nul)).toArray 58))
  have A1 := hid (Blk.newAt (w.alloc (.cells (bl 16 (cb b)).toArray 58)) _ (bl 16 (cb nul)) 58 (w.heap.size + 1) (by simp) rfl)
  have s1 := SVb_run (cs := bl 16 (cb nul)) (A1.out.there 0 16 (by rw [bl_length]; omega)) (bl_length _ _) (bl_one _ _)
  have b1 := A1.out.put 0 (bl 16 (cb nul))
  rw [put_all _ _ rfl] at b1
  have l1 := hid (LDb_run (range0 b1) (bl_length _ _))
  have hz := hid A1.out.lt
  clear b1
  unfold bv
  obtain rfl | ⟨g, x, y, rfl, bb⟩ := h
  · rw [← zeroN] at bel A1 s1 l1 hz
    go_enter Tryd.func21, Tryd.ntmps21
    go_wp2_with fail
    refine bodyPost_ret ?_ rfl ⟨rfl, below_cells bel.out _ _ _ (by omega) bel.out.size⟩
    rw [zeroN] at l1 ⊢
    exact results_cell2 Tryd.results21 rfl rfl l1.out
  · have C := hid (bb.below bel.out)
    rw [← zeroN] at bel A1 s1 l1 hz C
    have c1 := C.out.cell 1 _ rfl
    go_enter Tryd.func21, Tryd.ntmps21
    go_wp2_with fail
    refine bodyPost_ret ?_ rfl ⟨rfl, below_cells bel.out _ _ _ (by omega) bel.out.size⟩
    rw [zeroN] at l1 ⊢
    exact results_cell2 Tryd.results21 rfl rfl l1.out

set_option maxRecDepth 8000 in
set_option maxHeartbeats 4000000 in
theorem rdec_rn (v lv : Value) (b : Nat → Nat) (w : World) (h : RN w v) : Calls Tryd.prog 23 #[v, lv, bv b] w fun e w' => e = .returned (.tuple #[bv nul, .int .i64 1]) ∧ Below w.heap.size w w' := by
  have bel := hid ((below_alloc w (.cells (bl 16 (cb b)).toArray 58)).alloc (by simp) (.cells (bl 16 (cb nul)).toArray 58))
  have A1 := hid (Blk.newAt (w.alloc (.cells (bl 16 (cb b)).toArray 58)) _ (bl 16 (cb nul)) 58 (w.heap.size + 1) (by simp) rfl)
  have s1 := SVb_run (cs := bl 16 (cb nul)) (A1.out.there 0 16 (by rw [bl_length]; omega)) (bl_length _ _) (bl_one _ _)
  have b1 := A1.out.put 0 (bl 16 (cb nul))
  rw [put_all _ _ rfl] at b1
  have l1 := hid (LDb_run (range0 b1) (bl_length _ _))
  have hz := hid A1.out.lt
  clear b1
  unfold bv
  obtain rfl | ⟨g, x, y, rfl, bb⟩ := h
  · rw [← zeroN] at bel A1 s1 l1 hz
    go_enter Tryd.func23, Tryd.ntmps23
    go_wp2_with fail
    refine bodyPost_ret ?_ rfl ⟨rfl, below_cells bel.out _ _ _ (by omega) bel.out.size⟩
    rw [zeroN] at l1 ⊢
    exact results_cell2 Tryd.results23 rfl rfl l1.out
  · have C := hid (bb.below bel.out)
    rw [← zeroN] at bel A1 s1 l1 hz C
    have c1 := C.out.cell 1 _ rfl
    go_enter Tryd.func23, Tryd.ntmps23
    go_wp2_with fail
    refine bodyPost_ret ?_ rfl ⟨rfl, below_cells bel.out _ _ _ (by omega) bel.out.size⟩
    rw [zeroN] at l1 ⊢
    exact results_cell2 Tryd.results23 rfl rfl l1.out

theorem rwipe_rc (S : Nat → Prop) (w0 w : World) (lo : Option Nat) (L : List Rn) (g k : Nat) (key : Nat → Nat) (hc : RC w g k key) (h : RLG S w0 w lo L) (h0 : Kp S w0 w) (hr : Room L) (hS : g < w0.heap.size → S g) :
    Calls Tryd.prog 31 #[.pointer (some ⟨g, 0, none⟩), lpv lo] w fun e w' => e = .returned (.int .i64 0) ∧ RN w' (.pointer (some ⟨g, 0, none⟩)) ∧ RLG S w0 w' lo (putL L ⟨8, ((16 * (k + 7) : Nat) : Int), 1⟩) ∧ Kp S w0 w' := by
  obtain ⟨kk, a, cap, ga, wv, b0, r⟩ := hc
  have HB := hid b0
  have c1 := b0.cell 1 _ rfl
  have HC := hid (show RC w g k key from ⟨kk, a, cap, ga, wv, b0, r⟩)
  have KK := hid kk
  have HL := hid h
  have H0 := hid h0
  have HR := hid hr
  clear b0 r kk h h0 hr
  have HS := hid hS
  clear hS
  have hk8 : k ≤ 8 := by have := KK.out; omega
  go_enter Tryd.func31, Tryd.ntmps31
  go_wp2_with fail
  refine (rform_rc g k key w HC.out).mono ?_
  rintro e w1 ⟨v, rfl, ho, hb⟩
  obtain ⟨vg, vc, rfl, _⟩ := own_cells ho (by omega)
  have B1 := hid hb
  have C1 := hid (HB.out.below hb)
  have L1 := hid (HL.out.below hb)
  have K1 := hid (H0.out.trans (Kp.of_below S hb) (fun _ _ e => e))
  clear ho hb
  go_wp2_with fail
  refine (rnote_lg S w0 _ lo L 8 ((16 * ((k : Int) + 7))) (by omega) (by omega) L1.out K1.out HR.out).mono ?_
  rintro e W3 ⟨rfl, l3, k3, t3⟩
  rw [show (16 * ((k : Int) + 7)) = ((16 * (k + 7) : Nat) : Int) from by omega] at l3
  have L3 := hid l3
  have K3 := hid k3
  have T3 := hid t3
  have C3 := hid (t3.2 _ _ _ C1.out (by decide) (by decide))
  clear l3 k3 t3
  have f1 := C3.out.frozen 1
  have c3 := C3.out.cell 1 _ rfl
  go_wp2_with fail
  go_ret
  have k5 := Kp.setCell (w := W3) g 1 (.bool false)
  refine ⟨rfl, .inr ⟨g, _, _, rfl, C3.out.set 1 (.bool false)⟩, L3.out.kept k5 (fun x e => ?_), K3.out.trans k5 (fun i hi e => by subst e; exact HS.out hi)⟩
  subst e
  exact ⟨_, _, C3.out, by decide, by decide⟩
end Go.Proofs.YtehhnneomoddgaaDoor.Ae
namespace Go.Proofs.YtehhnneomoddgaaDoor.Ae
open Go.ChangeShapes Go.WideShapes Go.ChangeAt Go.RowKit
open Go.Proofs.YtehhnneomoddgaaDoor.By Go.Proofs.YtehhnneomoddgaaDoor.Gf
open Go.Proofs.YtehhnneomoddgaaDoor.Kc (own_kept own_mono own8_type cat cat_bound wpList_cat below_grow)
theorem rright_ok (k : Nat) (hk : k = 4 ∨ k = 6 ∨ k = 8) (w : World) : Calls Tryd.prog 37 #[.int .i64 (4 * (k : Int))] w fun e w' => e = .returned (.bool true) ∧ w' = w := by
  rcases hk with rfl | rfl | rfl
  · go_enter Tryd.func37, Tryd.ntmps37
    go_wp2_with fail
    go_ret
    exact ⟨rfl, rfl⟩
  · go_enter Tryd.func37, Tryd.ntmps37
    go_wp2_with fail
    go_ret
    exact ⟨rfl, rfl⟩
  · go_enter Tryd.func37, Tryd.ntmps37
    go_wp2_with fail
    go_ret
    exact ⟨rfl, rfl⟩
theorem rright_no (n : Nat) (h1 : n ≠ 16) (h2 : n ≠ 24) (h3 : n ≠ 32) (w : World) : Calls Tryd.prog 37 #[.int .i64 (n : Int)] w fun e w' => e = .returned (.bool false) ∧ w' = w := by
  have d1 : decide ((n : Int) = 16) = false := decide_eq_false (by omega)
  have d2 : decide ((n : Int) = 24) = false := decide_eq_false (by omega)
  have d3 : decide ((n : Int) = 32) = false := decide_eq_false (by omega)
  have e1 : ((n : Int) == 16) = false := by rw [beq_eq_false_iff_ne]; omega
  have e2 : ((n : Int) == 24) = false := by rw [beq_eq_false_iff_ne]; omega
  have e3 : ((n : Int) == 32) = false := by rw [beq_eq_false_iff_ne]; omega
  go_enter Tryd.func37, Tryd.ntmps37
  go_wp2_with fail
  go_ret
  exact ⟨rfl, rfl⟩
theorem rnew_bad (lv : Value) (a : Option Addr) (n cap : Nat) (w : World) (h1 : n ≠ 16) (h2 : n ≠ 24) (h3 : n ≠ 32) : Calls Tryd.prog 15 #[lv, .slice a n cap] w fun e w' => e = .returned (.tuple #[.pointer none, .int .i64 7]) ∧ w' = w := by
  go_enter Tryd.func15, Tryd.ntmps15
  go_wp2_with (go_at_call 37; refine (rright_no n h1 h2 h3 _).mono ?_; rintro e w' ⟨rfl, hw'⟩; subst w')
  go_ret2
  exact ⟨rfl, rfl⟩
set_option maxRecDepth 8000 in
set_option maxHeartbeats 4000000 in
theorem rnew_ok (S : Nat → Prop) (w0 w : World) (lo : Option Nat) (L : List Rn) (k : Nat) (hk : k = 4 ∨ k = 6 ∨ k = 8) (key : Nat → Nat) (hkey : ∀ i, key i < 256) (a : Option Addr) (cap : Nat) (h : RLG S w0 w lo L) (h0 : Kp S w0 w) (hr : Room L)
    (hv : ∀ W, Kp S w0 W → Ku w W → By.RB W (.slice a (4 * k) cap) (4 * k) (cb key)) :
    Calls Tryd.prog 15 #[lpv lo, .slice a (4 * k) cap] w fun e w' => ∃ g, e = .returned (.tuple #[.pointer (some ⟨g, 0, none⟩), .int .i64 0]) ∧ RC w' g k key ∧ w.heap.size ≤ g ∧ RLG S w0 w' lo (putL L ⟨4, ((4 * k : Nat) : Int), 1⟩) ∧ Kp S w0 w' ∧ Ku w w' := by
  have KK := hid hk
  have hk8 : k ≤ 8 := by omega
  have hk4 : 4 ≤ k := by omega
  have HL := hid h
  have H0 := hid h0
  have HR := hid hr
  have HV := hid hv
  have HKY := hid hkey
  clear hk h h0 hr hv hkey
  go_enter Tryd.func15, Tryd.ntmps15
  go_wp2_with (go_at_call 37; refine (rright_ok k KK.out _).mono ?_; rintro e w' ⟨rfl, hw'⟩; subst w')
  refine (rnote_lg S w0 _ lo L 4 (4 * (k : Int)) (by omega) (by omega) HL.out H0.out HR.out).mono ?_
  rintro e W3 ⟨rfl, l3, k3, t3⟩
  rw [show (4 * (k : Int)) = ((4 * k : Nat) : Int) from by omega] at l3
  have L3 := hid l3
  have K3 := hid k3
  have T3 := hid t3
  have V3 := hid (HV.out W3 k3 t3)
  have F0 : Hid (∀ i, 0 ≤ cb key i ∧ cb key i < 256) := fun i => ⟨Int.natCast_nonneg _, Int.ofNat_lt.2 (HKY.out i)⟩
  clear l3 k3 t3 HL H0 HV
  go_wp2_with (at_builtin; refine wpList_cat rfl _ _ rfl W3.heap.size 0 (4 * k) _ _ (cb key) (cb key) rfl (By.own_nil _ _ _ F0.out) rfl V3.out (by omega) (Nat.le_refl _) ?_)
  intro v' W4 ho hgr
  have hb4 : Below W3.heap.size W3 W4 := (Kp.of_grown hgr).below (Nat.le_refl _) (fun k _ e => by simp [Value.ownBlock] at e)
  rw [show cat 0 (cb key) (cb key) = cb key from by funext i; unfold cat; rw [if_neg (Nat.not_lt_zero _)]; rfl] at ho
  obtain ⟨q, cap2, rfl, hcell⟩ := own_cells ho (by omega)
  have B4 := hid hb4
  have OF := hid (rof k KK.out key HKY.out q 0 cap2 W4 (fun i hi => by rw [Nat.zero_add]; exact hcell i hi))
  clear ho hgr hb4 hcell
  go_wp2_with fail
  refine OF.out.mono ?_
  rintro e W5 ⟨ga, wv, rfl, hga, hg5, ho5, hb5⟩
  have R5 := hid (show RA W5 ga wv (4 * (k + 7)) (wds k key (3 * k + 28)) from ⟨hg5, ho5.base, wds_lt k key HKY.out _⟩)
  have B5 := hid hb5
  clear hga hg5 ho5 hb5 OF
  go_wp2_with fail
  have bN := below_alloc W5 (.cells #[.slice (some ⟨q, 0, none⟩) (4 * k) cap2, .bool true, .pointer (some ⟨ga, 0, none⟩)] 86)
  have bA : Below W3.heap.size W3 (W5.alloc (.cells #[.slice (some ⟨q, 0, none⟩) (4 * k) cap2, .bool true, .pointer (some ⟨ga, 0, none⟩)] 86)) := below_next (below_next B4.out B5.out) bN
  refine bodyPost_ret (v := .tuple #[.pointer (some ⟨W5.heap.size, 0, none⟩), .int .i64 0]) (by simp [results, Tryd.results15, go_sem]) rfl ⟨W5.heap.size, rfl, ⟨KK.out, some ⟨q, 0, none⟩, cap2, ga, wv, Blk.newAt W5 _ [.slice (some ⟨q, 0, none⟩) (4 * k) cap2, .bool true, .pointer (some ⟨ga, 0, none⟩)] 86 _ rfl rfl, R5.out.below bN⟩, Nat.le_trans T3.out.1 (Nat.le_trans B4.out.size B5.out.size), L3.out.below bA, K3.out.trans (Kp.of_below S bA) (fun _ _ e => e), T3.out.trans (Ku.of_below bA)⟩
end Go.Proofs.YtehhnneomoddgaaDoor.Ae
