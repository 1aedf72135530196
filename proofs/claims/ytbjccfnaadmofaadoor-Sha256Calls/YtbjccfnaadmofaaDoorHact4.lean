/- The helper act: New, Clone. -/
import Derived.Test.YtbjccfnaadmofaaDoorHact3
import Derived.Deep.RegionHeld3
namespace Go.Proofs.YtbjccfnaadmofaaDoor.Sh
open Go.ChangeShapes Go.WideShapes Go.ChangeAt Go.RowKit
open Go.Proofs.YtbjccfnaadmofaaDoor.By Go.Proofs.YtbjccfnaadmofaaDoor.Wd
/-- A number counted round into 0, 1, 2. -/
def pk (i : Int) : Nat := (if i.tmod 3 < 0 then i.tmod 3 + 3 else i.tmod 3).toNat
theorem pk_lt (i : Int) : pk i < 3 := by
  have a1 := Int.tmod_lt_of_pos i (show (0 : Int) < 3 by omega)
  have a2 := Int.lt_tmod_of_pos i (show (0 : Int) < 3 by omega)
  unfold pk; split <;> omega
theorem pick3 (i : Int) (w : World) : Calls Tryd.prog 20 #[.int .i64 i, .int .i64 3] w fun e w' => e = .returned (.int .i64 (pk i)) ∧ w' = w := by
  have a1 := Int.tmod_lt_of_pos i (show (0 : Int) < 3 by omega)
  have a2 := Int.lt_tmod_of_pos i (show (0 : Int) < 3 by omega)
  have e0 : ((pk i : Nat) : Int) = if i.tmod 3 < 0 then i.tmod 3 + 3 else i.tmod 3 := by unfold pk; split <;> omega
  rw [e0]
  obtain ⟨q, hq⟩ : ∃ q, i.tmod 3 = q := ⟨_, rfl⟩
  rw [hq] at a1 a2 e0 ⊢
  clear e0
  by_cases hlt : q < 0
  · rw [if_pos hlt]
    go_enter Tryd.func20, Tryd.ntmps20
    go_wp2
    go_ret
    exact ⟨rfl, rfl⟩
  · rw [if_neg hlt]
    go_enter Tryd.func20, Tryd.ntmps20
    go_wp2
    go_ret
    exact ⟨rfl, rfl⟩
theorem xc_set (K : Nat → KD) (pb qb : Nat → Nat) (lb mb : Nat) (tv wv : Value) (k b1 b2 : Nat) (x : KD) (h : k < 3) : ((xc K K pb qb lb mb tv wv).set k (ptr b1 x)).set (3 + k) (ptr b2 x) = xc (upd K k x) (upd K k x) (upd pb k b1) (upd qb k b2) lb mb tv wv := by
  match k, h with
  | 0, _ => simp [xc, upd]
  | 1, _ => simp [xc, upd]
  | 2, _ => simp [xc, upd]
section
variable {w0 W W' : World} {B : Nat} {K : Nat → KD} {pb qb : Nat → Nat} {lb mb xb : Nat} {lv mv tv wv : Value} {L : List Rn} {tl : List TE}
/-- An entry is put in place of another one. -/
theorem PW.entry (h : PW w0 B K pb qb lb lv mb mv L xb tv wv tl W) {k b1 b2 : Nat} {x : KD} (hk3 : k < 3) (hp : IsP W b1 x) (hq : IsQ W b2 x) (hB1 : B ≤ b1) (hB2 : B ≤ b2) (hf1 : ∀ i, i < 3 → K i ≠ none → pb i ≠ b1) (hf2 : ∀ i, i < 3 → K i ≠ none → qb i ≠ b2) (hk : Kp (fun j => j = xb) W W') (hx : Blk W' xb (((xc K K pb qb lb mb tv wv).set k (ptr b1 x)).set (3 + k) (ptr b2 x)) 36) :
    PW w0 B (upd K k x) (upd pb k b1) (upd qb k b2) lb lv mb mv L xb tv wv tl W' := by
  have g := h.gw
  have n1 : ∀ {y : Nat} {c : List Value} {t : TypeId}, Blk W y c t → t ≠ 36 → ¬ (y = xb) := fun hy ht e => Blk.ne hy g.x ht e
  have f : ∀ i, i ≠ k → upd K k x i ≠ none → K i ≠ none := fun i e hi => by rwa [upd_ne _ _ _ _ e] at hi
  refine ⟨⟨fun i hi => ?_, fun i hi => ?_, fun i j hi hj hij h1 h2 => ?_, fun i j hi hj hij h1 h2 => ?_, g.l.kept hk (n1 g.l.blk (by decide)) (fun y hy => ?_), g.lB, g.lg, g.m.kept hk (n1 g.m.blk (by decide)) (fun y hy => ?_), g.mB, g.mg, g.ap, (by rw [← xc_set K pb qb lb mb tv wv k b1 b2 x hk3]; exact hx), g.xB, g.bel.trans (hk.below g.hB (fun j hj e => by have := g.xB; omega)), g.kt.kept hk (by have := g.h0; have := g.xB; omega), g.h0, Nat.le_trans g.hB hk.size⟩, ⟨rowG_kept h.rw.r3 hk (fun y hy => ?_), rowG_kept h.rw.r4 hk (fun y hy => ?_), h.rw.dis, ⟨fun q hq => ⟨own_kept (h.rw.tl.own q hq).1 hk (fun y hy => ?_), own_kept (h.rw.tl.own q hq).2 hk (fun y hy => ?_)⟩, h.rw.tl.ap, h.rw.tl.sz⟩⟩⟩
  · by_cases e : i = k
    · subst e
      rw [upd_at, upd_at]
      exact ⟨hp.kept hk (fun hn => by obtain ⟨c, hc⟩ := hp.blk hn; exact n1 hc (by decide)), fun _ => hB1⟩
    · rw [upd_ne _ _ _ _ e, upd_ne _ _ _ _ e]
      exact ⟨(g.sp i hi).1.kept hk (fun hn => by obtain ⟨c, hc⟩ := (g.sp i hi).1.blk hn; exact n1 hc (by decide)), (g.sp i hi).2⟩
  · by_cases e : i = k
    · subst e
      rw [upd_at, upd_at]
      exact ⟨hq.kept hk (fun hn => by obtain ⟨c, hc⟩ := hq.blk hn; exact n1 hc (by decide)) (fun _ _ hg => n1 hg (by decide)), fun _ => hB2⟩
    · rw [upd_ne _ _ _ _ e, upd_ne _ _ _ _ e]
      exact ⟨(g.sq i hi).1.kept hk (fun hn => by obtain ⟨c, hc⟩ := (g.sq i hi).1.blk hn; exact n1 hc (by decide)) (fun _ _ hg => n1 hg (by decide)), (g.sq i hi).2⟩
  · by_cases e : i = k
    · subst e
      rw [upd_at, upd_ne _ _ _ _ (fun e => hij e.symm)]
      exact fun e2 => hf1 j hj (f j (fun e => hij e.symm) h2) e2.symm
    · rw [upd_ne _ _ _ _ e]
      by_cases e2 : j = k
      · subst e2; rw [upd_at]; exact hf1 i hi (f i e h1)
      · rw [upd_ne _ _ _ _ e2]; exact g.pn i j hi hj hij (f i e h1) (f j e2 h2)
  · by_cases e : i = k
    · subst e
      rw [upd_at, upd_ne _ _ _ _ (fun e => hij e.symm)]
      exact fun e2 => hf2 j hj (f j (fun e => hij e.symm) h2) e2.symm
    · rw [upd_ne _ _ _ _ e]
      by_cases e2 : j = k
      · subst e2; rw [upd_at]; exact hf2 i hi (f i e h1)
      · rw [upd_ne _ _ _ _ e2]; exact g.qn i j hi hj hij (f i e h1) (f j e2 h2)
  · obtain ⟨c, hc⟩ := run_blk g.l.own hy; exact n1 hc (by decide)
  · obtain ⟨c, hc⟩ := run_blk g.m.own hy; exact n1 hc (by decide)
  · obtain ⟨c, hc, _⟩ := rowG_type h.rw.r3 hy; exact n1 hc (by decide)
  · obtain ⟨c, hc, _⟩ := rowG_type h.rw.r4 hy; exact n1 hc (by decide)
  · obtain ⟨c, hc⟩ := own8_type (h.rw.tl.own q hq).1 hy; exact n1 (c := c.toList) (t := 5) (by show W.heap[y]? = _; rw [hc]) (by decide)
  · obtain ⟨c, hc⟩ := own8_type (h.rw.tl.own q hq).2 hy; exact n1 (c := c.toList) (t := 5) (by show W.heap[y]? = _; rw [hc]) (by decide)
/-- The same, where the document's entry is made behind the program's being put there. -/
theorem PW.entry2 {W1 : World} (h : PW w0 B K pb qb lb lv mb mv L xb tv wv tl W) {k b1 b2 : Nat} {x : KD} (hk3 : k < 3) (hp : IsP W b1 x) (hq : IsQ W1 b2 x) (hB1 : B ≤ b1) (hB2 : B ≤ b2) (hf1 : ∀ i, i < 3 → K i ≠ none → pb i ≠ b1) (hf2 : ∀ i, i < 3 → K i ≠ none → qb i ≠ b2) (hk0 : Kp (fun j => j = xb) W W1) (hx0 : Blk W1 xb ((xc K K pb qb lb mb tv wv).set k (ptr b1 x)) 36) (hk : Kp (fun j => j = xb) W1 W') (hx : Blk W' xb (((xc K K pb qb lb mb tv wv).set k (ptr b1 x)).set (3 + k) (ptr b2 x)) 36) :
    PW w0 B (upd K k x) (upd pb k b1) (upd qb k b2) lb lv mb mv L xb tv wv tl W' := by
  have g := h.gw
  have n0 : ∀ {y : Nat} {c : List Value} {t : TypeId}, Blk W y c t → t ≠ 36 → ¬ (y = xb) := fun hy ht e => Blk.ne hy g.x ht e
  have n1 : ∀ {y : Nat} {c : List Value} {t : TypeId}, Blk W1 y c t → t ≠ 36 → ¬ (y = xb) := fun hy ht e => Blk.ne hy hx0 ht e
  have ha : Kp (fun j => j = xb) W W' := hk0.trans hk (fun _ _ e => e)
  have f : ∀ i, i ≠ k → upd K k x i ≠ none → K i ≠ none := fun i e hi => by rwa [upd_ne _ _ _ _ e] at hi
  refine ⟨⟨fun i hi => ?_, fun i hi => ?_, fun i j hi hj hij h1 h2 => ?_, fun i j hi hj hij h1 h2 => ?_, g.l.kept ha (n0 g.l.blk (by decide)) (fun y hy => ?_), g.lB, g.lg, g.m.kept ha (n0 g.m.blk (by decide)) (fun y hy => ?_), g.mB, g.mg, g.ap, (by rw [← xc_set K pb qb lb mb tv wv k b1 b2 x hk3]; exact hx), g.xB, g.bel.trans (ha.below g.hB (fun j hj e => by have := g.xB; omega)), g.kt.kept ha (by have := g.h0; have := g.xB; omega), g.h0, Nat.le_trans g.hB ha.size⟩, ⟨rowG_kept h.rw.r3 ha (fun y hy => ?_), rowG_kept h.rw.r4 ha (fun y hy => ?_), h.rw.dis, ⟨fun q hq => ⟨own_kept (h.rw.tl.own q hq).1 ha (fun y hy => ?_), own_kept (h.rw.tl.own q hq).2 ha (fun y hy => ?_)⟩, h.rw.tl.ap, h.rw.tl.sz⟩⟩⟩
  · by_cases e : i = k
    · subst e
      rw [upd_at, upd_at]
      exact ⟨hp.kept ha (fun hn => by obtain ⟨c, hc⟩ := hp.blk hn; exact n0 hc (by decide)), fun _ => hB1⟩
    · rw [upd_ne _ _ _ _ e, upd_ne _ _ _ _ e]
      exact ⟨(g.sp i hi).1.kept ha (fun hn => by obtain ⟨c, hc⟩ := (g.sp i hi).1.blk hn; exact n0 hc (by decide)), (g.sp i hi).2⟩
  · by_cases e : i = k
    · subst e
      rw [upd_at, upd_at]
      exact ⟨hq.kept hk (fun hn => by obtain ⟨c, hc⟩ := hq.blk hn; exact n1 hc (by decide)) (fun _ _ hg => n1 hg (by decide)), fun _ => hB2⟩
    · rw [upd_ne _ _ _ _ e, upd_ne _ _ _ _ e]
      exact ⟨(g.sq i hi).1.kept ha (fun hn => by obtain ⟨c, hc⟩ := (g.sq i hi).1.blk hn; exact n0 hc (by decide)) (fun _ _ hg => n0 hg (by decide)), (g.sq i hi).2⟩
  · by_cases e : i = k
    · subst e
      rw [upd_at, upd_ne _ _ _ _ (fun e => hij e.symm)]
      exact fun e2 => hf1 j hj (f j (fun e => hij e.symm) h2) e2.symm
    · rw [upd_ne _ _ _ _ e]
      by_cases e2 : j = k
      · subst e2; rw [upd_at]; exact hf1 i hi (f i e h1)
      · rw [upd_ne _ _ _ _ e2]; exact g.pn i j hi hj hij (f i e h1) (f j e2 h2)
  · by_cases e : i = k
    · subst e
      rw [upd_at, upd_ne _ _ _ _ (fun e => hij e.symm)]
      exact fun e2 => hf2 j hj (f j (fun e => hij e.symm) h2) e2.symm
    · rw [upd_ne _ _ _ _ e]
      by_cases e2 : j = k
      · subst e2; rw [upd_at]; exact hf2 i hi (f i e h1)
      · rw [upd_ne _ _ _ _ e2]; exact g.qn i j hi hj hij (f i e h1) (f j e2 h2)
  · obtain ⟨c, hc⟩ := run_blk g.l.own hy; exact n0 hc (by decide)
  · obtain ⟨c, hc⟩ := run_blk g.m.own hy; exact n0 hc (by decide)
  · obtain ⟨c, hc, _⟩ := rowG_type h.rw.r3 hy; exact n0 hc (by decide)
  · obtain ⟨c, hc, _⟩ := rowG_type h.rw.r4 hy; exact n0 hc (by decide)
  · obtain ⟨c, hc⟩ := own8_type (h.rw.tl.own q hq).1 hy; exact n0 (c := c.toList) (t := 5) (by show W.heap[y]? = _; rw [hc]) (by decide)
  · obtain ⟨c, hc⟩ := own8_type (h.rw.tl.own q hq).2 hy; exact n0 (c := c.toList) (t := 5) (by show W.heap[y]? = _; rw [hc]) (by decide)
theorem PW.below (h : PW w0 B K pb qb lb lv mb mv L xb tv wv tl W) (hb : Below W.heap.size W W') : PW w0 B K pb qb lb lv mb mv L xb tv wv tl W' := ⟨h.gw.below hb, h.rw.kx (Kx.below hb)⟩
theorem PW.freshP (h : PW w0 B K pb qb lb lv mb mv L xb tv wv tl W) (i : Nat) (hi : i < 3) (hn : K i ≠ none) : pb i < W.heap.size := by
  obtain ⟨c, hc⟩ := (h.gw.sp i hi).1.blk hn; exact hc.lt
theorem PW.freshQ (h : PW w0 B K pb qb lb lv mb mv L xb tv wv tl W) (i : Nat) (hi : i < 3) (hn : K i ≠ none) : qb i < W.heap.size := by
  obtain ⟨c, hc⟩ := (h.gw.sq i hi).1.blk hn; exact hc.lt
theorem IsP.below {b : Nat} {x : KD} (h : IsP W b x) (hb : Below W.heap.size W W') : IsP W' b x := h.kept (Kp.of_below (fun _ => False) hb) (fun _ => id)
set_option maxRecDepth 4000 in
set_option maxHeartbeats 4000000 in
theorem PW.new (h : PW w0 B K pb qb lb lv mb mv L xb tv wv tl W) (on to : Int) (pv : Value) (sil : Bool) :
    Calls Tryd.prog 10 #[.pointer (some ⟨xb, 0, none⟩), .agg #[.int .i64 on, .int .i64 6, .int .i64 to, pv, .bool sil]] W fun e w' => e = .returned (.bool true) ∧ ∃ k b1 b2, k < 3 ∧ PW w0 B (upd K k (some (some (0, fun _ => 0)))) (upd pb k b1) (upd qb k b2) lb lv mb mv L xb tv wv tl w' := by
  have HX := hid (Blk.new W [.int .i64 on, .int .i64 6, .int .i64 to, pv, .bool sil] 42)
  have G0 := hid (h.gw.below (below_alloc W (.cells #[.int .i64 on, .int .i64 6, .int .i64 to, pv, .bool sil] 42)))
  have R0 := hid (h.rw.kx (Kx.below (below_alloc W (.cells #[.int .i64 on, .int .i64 6, .int .i64 to, pv, .bool sil] 42))))
  clear h
  go_enter Tryd.func10, Tryd.ntmps10
  go_wp2_with fail
  obtain ⟨W1, hW1⟩ : ∃ x, W.alloc (.cells #[.int .i64 on, .int .i64 6, .int .i64 to, pv, .bool sil] 42) = x := ⟨_, rfl⟩
  obtain ⟨ob, hob⟩ : ∃ x, W.heap.size = x := ⟨_, rfl⟩
  have HX1 : Hid (Blk W1 ob [.int .i64 on, .int .i64 6, .int .i64 to, pv, .bool sil] 42) := by rw [← hW1, ← hob]; exact HX.out
  rw [hW1] at G0 R0
  rw [hW1, hob]
  clear hW1 hob HX
  have o0 := HX1.out.cell 0 _ rfl
  have o1 := HX1.out.cell 1 _ rfl
  have o6 := HX1.out.cell 4 _ rfl
  refine (pickN on 3 (by omega) (by omega) W1).mono ?_
  rintro e w1 ⟨⟨k, hk3, rfl⟩, rfl⟩
  have cp := G0.out.x.cell k _ (xc_p _ _ _ _ _ _ _ _ k hk3)
  have cq := G0.out.x.cell (3 + k) _ (xc_q _ _ _ _ _ _ _ _ k hk3)
  have cl := G0.out.x.cell 6 _ rfl
  have cm := G0.out.x.cell 7 _ rfl
  have hk3' : (k : Int) < 3 := by omega
  cases hs : sil with
  | true =>
    subst hs
    go_wp2_with fail
    go_region_held3 (fun _ => True) (trivial) (first | (go_at_call 8; go_must (refine (new12 _).mono ?_; rintro e w2 ⟨rfl, hp2, hb2⟩; have H2 := hid ((PW.below ⟨G0.out, R0.out⟩ (below_drewN _ 1)).below hb2); have P2 := hid hp2; have cp2 := H2.out.gw.x.cell k _ (xc_p _ _ _ _ _ _ _ _ k hk3); have fp2 := H2.out.gw.x.frozen k; clear hp2 hb2)))
    go_wp2_with fail
    obtain ⟨b1, hb1⟩ : ∃ x, w1.heap.size = x := ⟨_, rfl⟩
    have P3 : Hid (IsP w2 b1 (some (some (0, fun _ => 0)))) := by rw [← hb1]; exact P2.out
    have F0 := hid (show B ≤ b1 ∧ ∀ i, i < 3 → K i ≠ none → pb i ≠ b1 from ⟨by rw [← hb1]; exact G0.out.hB, fun i hi hn => by have := PW.freshP ⟨G0.out, R0.out⟩ i hi hn; omega⟩)
    rw [hb1]
    clear P2 hb1 cp2 fp2
    obtain ⟨w3, hw3⟩ : ∃ x, w2.setCell ⟨xb, k, none⟩ (.pointer (some ⟨b1, 0, none⟩)) = x := ⟨_, rfl⟩
    have X3 : Hid (Blk w3 xb ((xc K K pb qb lb mb tv wv).set k (.pointer (some ⟨b1, 0, none⟩))) 36) := by rw [← hw3]; exact H2.out.gw.x.set k _
    have K3 : Hid (Kp (fun j => j = xb) w2 w3) := by rw [← hw3]; exact Kp.setCell _ _ _
    rw [hw3]
    clear hw3
    go_region_held3 (fun _ => True) (trivial) (first | (go_at_call 9; go_must (refine (rnew11 _).mono ?_; rintro e w4 ⟨rfl, hq4, hb4⟩; have Q4 := hid hq4; have B4 := hid (below_next (below_drewN w3 1) hb4); have X4 := hid (X3.out.below B4.out); have cq4 := X4.out.cell (3 + k) _ (by rw [List.getElem?_set, if_neg (by omega)]; exact xc_q _ _ _ _ _ _ _ _ k hk3); have fq4 := X4.out.frozen (3 + k); clear hq4 hb4)))
    obtain ⟨b2, hb2⟩ : ∃ x, w3.heap.size = x := ⟨_, rfl⟩
    have Q5 : Hid (IsQ w4 b2 (some (some (0, fun _ => 0)))) := by rw [← hb2]; exact Q4.out
    have K4 := hid (K3.out.trans (Kp.of_below (fun j => j = xb) B4.out) (fun _ _ e => e))
    have F4 := hid (show B ≤ b2 ∧ ∀ i, i < 3 → K i ≠ none → qb i ≠ b2 from ⟨by have := H2.out.gw.hB; have := K3.out.size; omega, fun i hi hn => by have := H2.out.freshQ i hi hn; have := K3.out.size; omega⟩)
    rw [hb2]
    clear Q4 hb2 X3 B4 cq4 fq4
    have cp5 := (X4.out.set (3 + k) (.pointer (some ⟨b2, 0, none⟩))).cell k _ (by rw [List.getElem?_set, if_neg (by omega), List.getElem?_set, if_pos rfl, if_pos (by show k < 10; omega)])
    go_wp2
    go_ret
    exact ⟨by simp, k, b1, b2, hk3, H2.out.entry2 (x := some (some (0, fun _ => 0))) hk3 P3.out Q5.out F0.out.1 F4.out.1 F0.out.2 F4.out.2 K4.out X4.out (Kp.setCell _ _ _) ((X4.out.set (3 + k) (.pointer (some ⟨b2, 0, none⟩))))⟩
  | false =>
    subst hs
    go_wp2_with fail
    go_region_held3 (fun _ => True) (trivial) (first | (go_at_call 8; go_must (refine (new12 _).mono ?_; rintro e w2 ⟨rfl, hp2, hb2⟩; have H2 := hid ((PW.below ⟨G0.out, R0.out⟩ (below_drewN _ 1)).below hb2); have P2 := hid hp2; have cp2 := H2.out.gw.x.cell k _ (xc_p _ _ _ _ _ _ _ _ k hk3); have fp2 := H2.out.gw.x.frozen k; clear hp2 hb2)))
    go_wp2_with fail
    obtain ⟨b1, hb1⟩ : ∃ x, w1.heap.size = x := ⟨_, rfl⟩
    have P3 : Hid (IsP w2 b1 (some (some (0, fun _ => 0)))) := by rw [← hb1]; exact P2.out
    have F0 := hid (show B ≤ b1 ∧ ∀ i, i < 3 → K i ≠ none → pb i ≠ b1 from ⟨by rw [← hb1]; exact G0.out.hB, fun i hi hn => by have := PW.freshP ⟨G0.out, R0.out⟩ i hi hn; omega⟩)
    rw [hb1]
    clear P2 hb1 cp2 fp2
    obtain ⟨w3, hw3⟩ : ∃ x, w2.setCell ⟨xb, k, none⟩ (.pointer (some ⟨b1, 0, none⟩)) = x := ⟨_, rfl⟩
    have X3 : Hid (Blk w3 xb ((xc K K pb qb lb mb tv wv).set k (.pointer (some ⟨b1, 0, none⟩))) 36) := by rw [← hw3]; exact H2.out.gw.x.set k _
    have K3 : Hid (Kp (fun j => j = xb) w2 w3) := by rw [← hw3]; exact Kp.setCell _ _ _
    rw [hw3]
    clear hw3
    go_region_held3 (fun _ => True) (trivial) (first | (go_at_call 9; go_must (refine (rnew11 _).mono ?_; rintro e w4 ⟨rfl, hq4, hb4⟩; have Q4 := hid hq4; have B4 := hid (below_next (below_drewN w3 1) hb4); have X4 := hid (X3.out.below B4.out); have cq4 := X4.out.cell (3 + k) _ (by rw [List.getElem?_set, if_neg (by omega)]; exact xc_q _ _ _ _ _ _ _ _ k hk3); have fq4 := X4.out.frozen (3 + k); clear hq4 hb4)))
    obtain ⟨b2, hb2⟩ : ∃ x, w3.heap.size = x := ⟨_, rfl⟩
    have Q5 : Hid (IsQ w4 b2 (some (some (0, fun _ => 0)))) := by rw [← hb2]; exact Q4.out
    have K4 := hid (K3.out.trans (Kp.of_below (fun j => j = xb) B4.out) (fun _ _ e => e))
    have F4 := hid (show B ≤ b2 ∧ ∀ i, i < 3 → K i ≠ none → qb i ≠ b2 from ⟨by have := H2.out.gw.hB; have := K3.out.size; omega, fun i hi hn => by have := H2.out.freshQ i hi hn; have := K3.out.size; omega⟩)
    rw [hb2]
    clear Q4 hb2 X3 B4 cq4 fq4
    have cp5 := (X4.out.set (3 + k) (.pointer (some ⟨b2, 0, none⟩))).cell k _ (by rw [List.getElem?_set, if_neg (by omega), List.getElem?_set, if_pos rfl, if_pos (by show k < 10; omega)])
    go_wp2
    go_ret
    exact ⟨by simp, k, b1, b2, hk3, H2.out.entry2 (x := some (some (0, fun _ => 0))) hk3 P3.out Q5.out F0.out.1 F4.out.1 F0.out.2 F4.out.2 K4.out X4.out (Kp.setCell _ _ _) ((X4.out.set (3 + k) (.pointer (some ⟨b2, 0, none⟩))))⟩

set_option maxRecDepth 4000 in
set_option maxHeartbeats 4000000 in
theorem PW.clone (h : PW w0 B K pb qb lb lv mb mv L xb tv wv tl W) (on to : Int) (pv : Value) (sil : Bool) :
    Calls Tryd.prog 10 #[.pointer (some ⟨xb, 0, none⟩), .agg #[.int .i64 on, .int .i64 2, .int .i64 to, pv, .bool sil]] W fun e w' => e = .returned (.bool true) ∧ ∃ k b1 b2, k < 3 ∧ PW w0 B (upd K (pk to) (cnK (K k))) (upd pb (pk to) b1) (upd qb (pk to) b2) lb lv mb mv L xb tv wv tl w' := by
  have HX := hid (Blk.new W [.int .i64 on, .int .i64 2, .int .i64 to, pv, .bool sil] 42)
  have G0 := hid (h.gw.below (below_alloc W (.cells #[.int .i64 on, .int .i64 2, .int .i64 to, pv, .bool sil] 42)))
  have R0 := hid (h.rw.kx (Kx.below (below_alloc W (.cells #[.int .i64 on, .int .i64 2, .int .i64 to, pv, .bool sil] 42))))
  clear h
  go_enter Tryd.func10, Tryd.ntmps10
  go_wp2_with fail
  obtain ⟨W1, hW1⟩ : ∃ x, W.alloc (.cells #[.int .i64 on, .int .i64 2, .int .i64 to, pv, .bool sil] 42) = x := ⟨_, rfl⟩
  obtain ⟨ob, hob⟩ : ∃ x, W.heap.size = x := ⟨_, rfl⟩
  have HX1 : Hid (Blk W1 ob [.int .i64 on, .int .i64 2, .int .i64 to, pv, .bool sil] 42) := by rw [← hW1, ← hob]; exact HX.out
  rw [hW1] at G0 R0
  rw [hW1, hob]
  clear hW1 hob HX
  have o0 := HX1.out.cell 0 _ rfl
  have o1 := HX1.out.cell 1 _ rfl
  have o6 := HX1.out.cell 4 _ rfl
  refine (pickN on 3 (by omega) (by omega) W1).mono ?_
  rintro e w1 ⟨⟨k, hk3, rfl⟩, rfl⟩
  have cp := G0.out.x.cell k _ (xc_p _ _ _ _ _ _ _ _ k hk3)
  have cq := G0.out.x.cell (3 + k) _ (xc_q _ _ _ _ _ _ _ _ k hk3)
  have cl := G0.out.x.cell 6 _ rfl
  have cm := G0.out.x.cell 7 _ rfl
  have hk3' : (k : Int) < 3 := by omega
  obtain ⟨j, hj⟩ : ∃ j, pk to = j := ⟨_, rfl⟩
  have hj3 : j < 3 := by rw [← hj]; exact pk_lt to
  have hj4 : (j : Int) < 3 := by omega
  have HPK : Hid (∀ w, Calls Tryd.prog 20 #[.int .i64 to, .int .i64 3] w fun e w' => e = .returned (.int .i64 (j : Int)) ∧ w' = w) := fun w => by rw [← hj]; exact pick3 to w
  have HJ := hid hj
  clear hj
  cases hs : sil with
  | true =>
    subst hs
    have o2 := HX1.out.cell 2 _ rfl
    go_wp2_with fail
    refine (G0.out.cloneP hk3).mono ?_
    rintro e w2 ⟨b1, hc1, rfl, hp2, hb2⟩
    have H2 := hid (PW.below ⟨G0.out, R0.out⟩ hb2)
    have X2 := hid (HX1.out.below hb2)
    have P2 := hid hp2
    have F0 := hid (show B ≤ b1 ∧ ∀ i, i < 3 → K i ≠ none → pb i ≠ b1 from ⟨Nat.le_trans G0.out.hB hc1, fun i hi hn => by have := PW.freshP ⟨G0.out, R0.out⟩ i hi hn; omega⟩)
    clear hp2 hb2 hc1
    go_wp2_with fail
    refine (H2.out.gw.cloneQ hk3).mono ?_
    rintro e w4 ⟨b2, hc2, rfl, hq4, hb4⟩
    have H4 := hid (H2.out.below hb4)
    have X4 := hid (X2.out.below hb4)
    have P4 := hid (P2.out.below hb4)
    have Q4 := hid hq4
    have F2 := hid (show B ≤ b2 ∧ ∀ i, i < 3 → K i ≠ none → qb i ≠ b2 from ⟨Nat.le_trans H2.out.gw.hB hc2, fun i hi hn => by have := H2.out.freshQ i hi hn; omega⟩)
    clear hq4 hb4 hc2
    clear P2 H2 X2
    obtain ⟨x, hx⟩ : ∃ x, cnK (K k) = x := ⟨_, rfl⟩
    have HXX := hid hx
    rw [hx] at P4 Q4
    rw [hx]
    clear hx
    have hxo : ob ≠ xb := Blk.ne X4.out H4.out.gw.x (by decide)
    have ob1 := X4.out.cell 2 _ rfl
    have cj := H4.out.gw.x.cell j _ (xc_p _ _ _ _ _ _ _ _ j hj3)
    have fj := H4.out.gw.x.frozen j
    cases x with
    | none =>
      have cj2 := (H4.out.gw.x.set j (Value.pointer none)).cell (3 + j) _ (by rw [List.getElem?_set, if_neg (by omega)]; exact xc_q _ _ _ _ _ _ _ _ j hj3)
      have fj2 := (H4.out.gw.x.set j (Value.pointer none)).frozen (3 + j)
      have ob2 := (X4.out.other hxo j (Value.pointer none)).cell 2 _ rfl
      have ob3 := ((X4.out.other hxo j (Value.pointer none)).other hxo (3 + j) (Value.pointer none)).cell 2 _ rfl
      rw [show ptr b1 (none) = (Value.pointer none) from rfl, show ptr b2 (none) = (Value.pointer none) from rfl]
      go_wp2_with fail
      go_region_held3 (fun W' => W'.cell? ⟨ob, 2, none⟩ = some (.int .i64 to)) (go_keep) (first | (go_at_call 20; go_must (refine (HPK.out _).mono ?_; rintro e wz ⟨rfl, rfl⟩)))
      go_wp2_with fail
      go_region_held3 (fun W' => W'.cell? ⟨ob, 2, none⟩ = some (.int .i64 to)) (go_keep) (first | (go_at_call 20; go_must (refine (HPK.out _).mono ?_; rintro e wz ⟨rfl, rfl⟩)))
      go_wp2
      go_ret
      rw [HJ.out]
      refine ⟨by simp, k, b1, b2, hk3, ?_⟩
      rw [HXX.out]
      exact H4.out.entry (x := none) hj3 P4.out Q4.out F0.out.1 F2.out.1 F0.out.2 F2.out.2 (((Kp.setCell xb j (Value.pointer none)).trans (Kp.setCell xb (3 + j) (Value.pointer none)) (fun _ _ e => e)).trans (Kp.of_below _ (below_drewN _ 2)) (fun _ _ e => e)) (((H4.out.gw.x.set j (Value.pointer none)).set (3 + j) (Value.pointer none)).drewN 2)
    | some y =>
      have cj2 := (H4.out.gw.x.set j (Value.pointer (some ⟨b1, 0, none⟩))).cell (3 + j) _ (by rw [List.getElem?_set, if_neg (by omega)]; exact xc_q _ _ _ _ _ _ _ _ j hj3)
      have fj2 := (H4.out.gw.x.set j (Value.pointer (some ⟨b1, 0, none⟩))).frozen (3 + j)
      have ob2 := (X4.out.other hxo j (Value.pointer (some ⟨b1, 0, none⟩))).cell 2 _ rfl
      have ob3 := ((X4.out.other hxo j (Value.pointer (some ⟨b1, 0, none⟩))).other hxo (3 + j) (Value.pointer (some ⟨b2, 0, none⟩))).cell 2 _ rfl
      rw [show ptr b1 (some y) = (Value.pointer (some ⟨b1, 0, none⟩)) from rfl, show ptr b2 (some y) = (Value.pointer (some ⟨b2, 0, none⟩)) from rfl]
      go_wp2_with fail
      go_region_held3 (fun W' => W'.cell? ⟨ob, 2, none⟩ = some (.int .i64 to)) (go_keep) (first | (go_at_call 20; go_must (refine (HPK.out _).mono ?_; rintro e wz ⟨rfl, rfl⟩)))
      go_wp2_with fail
      go_region_held3 (fun W' => W'.cell? ⟨ob, 2, none⟩ = some (.int .i64 to)) (go_keep) (first | (go_at_call 20; go_must (refine (HPK.out _).mono ?_; rintro e wz ⟨rfl, rfl⟩)))
      go_wp2
      go_ret
      rw [HJ.out]
      refine ⟨by simp, k, b1, b2, hk3, ?_⟩
      rw [HXX.out]
      exact H4.out.entry (x := some y) hj3 P4.out Q4.out F0.out.1 F2.out.1 F0.out.2 F2.out.2 (((Kp.setCell xb j (Value.pointer (some ⟨b1, 0, none⟩))).trans (Kp.setCell xb (3 + j) (Value.pointer (some ⟨b2, 0, none⟩))) (fun _ _ e => e)).trans (Kp.of_below _ (below_drewN _ 2)) (fun _ _ e => e)) (((H4.out.gw.x.set j (Value.pointer (some ⟨b1, 0, none⟩))).set (3 + j) (Value.pointer (some ⟨b2, 0, none⟩))).drewN 2)
  | false =>
    subst hs
    have o2 := HX1.out.cell 2 _ rfl
    go_wp2_with fail
    refine (G0.out.cloneP hk3).mono ?_
    rintro e w2 ⟨b1, hc1, rfl, hp2, hb2⟩
    have H2 := hid (PW.below ⟨G0.out, R0.out⟩ hb2)
    have X2 := hid (HX1.out.below hb2)
    have P2 := hid hp2
    have F0 := hid (show B ≤ b1 ∧ ∀ i, i < 3 → K i ≠ none → pb i ≠ b1 from ⟨Nat.le_trans G0.out.hB hc1, fun i hi hn => by have := PW.freshP ⟨G0.out, R0.out⟩ i hi hn; omega⟩)
    clear hp2 hb2 hc1
    go_wp2_with fail
    refine (H2.out.gw.cloneQ hk3).mono ?_
    rintro e w4 ⟨b2, hc2, rfl, hq4, hb4⟩
    have H4 := hid (H2.out.below hb4)
    have X4 := hid (X2.out.below hb4)
    have P4 := hid (P2.out.below hb4)
    have Q4 := hid hq4
    have F2 := hid (show B ≤ b2 ∧ ∀ i, i < 3 → K i ≠ none → qb i ≠ b2 from ⟨Nat.le_trans H2.out.gw.hB hc2, fun i hi hn => by have := H2.out.freshQ i hi hn; omega⟩)
    clear hq4 hb4 hc2
    clear P2 H2 X2
    obtain ⟨x, hx⟩ : ∃ x, cnK (K k) = x := ⟨_, rfl⟩
    have HXX := hid hx
    rw [hx] at P4 Q4
    rw [hx]
    clear hx
    have hxo : ob ≠ xb := Blk.ne X4.out H4.out.gw.x (by decide)
    have ob1 := X4.out.cell 2 _ rfl
    have cj := H4.out.gw.x.cell j _ (xc_p _ _ _ _ _ _ _ _ j hj3)
    have fj := H4.out.gw.x.frozen j
    cases x with
    | none =>
      have cj2 := (H4.out.gw.x.set j (Value.pointer none)).cell (3 + j) _ (by rw [List.getElem?_set, if_neg (by omega)]; exact xc_q _ _ _ _ _ _ _ _ j hj3)
      have fj2 := (H4.out.gw.x.set j (Value.pointer none)).frozen (3 + j)
      have ob2 := (X4.out.other hxo j (Value.pointer none)).cell 2 _ rfl
      have ob3 := ((X4.out.other hxo j (Value.pointer none)).other hxo (3 + j) (Value.pointer none)).cell 2 _ rfl
      rw [show ptr b1 (none) = (Value.pointer none) from rfl, show ptr b2 (none) = (Value.pointer none) from rfl]
      go_wp2_with fail
      go_region_held3 (fun W' => W'.cell? ⟨ob, 2, none⟩ = some (.int .i64 to)) (go_keep) (first | (go_at_call 20; go_must (refine (HPK.out _).mono ?_; rintro e wz ⟨rfl, rfl⟩)))
      go_wp2_with fail
      go_region_held3 (fun W' => W'.cell? ⟨ob, 2, none⟩ = some (.int .i64 to)) (go_keep) (first | (go_at_call 20; go_must (refine (HPK.out _).mono ?_; rintro e wz ⟨rfl, rfl⟩)))
      go_wp2
      go_ret
      rw [HJ.out]
      refine ⟨by simp, k, b1, b2, hk3, ?_⟩
      rw [HXX.out]
      exact H4.out.entry (x := none) hj3 P4.out Q4.out F0.out.1 F2.out.1 F0.out.2 F2.out.2 (((Kp.setCell xb j (Value.pointer none)).trans (Kp.setCell xb (3 + j) (Value.pointer none)) (fun _ _ e => e)).trans (Kp.of_below _ (below_drewN _ 2)) (fun _ _ e => e)) (((H4.out.gw.x.set j (Value.pointer none)).set (3 + j) (Value.pointer none)).drewN 2)
    | some y =>
      have cj2 := (H4.out.gw.x.set j (Value.pointer (some ⟨b1, 0, none⟩))).cell (3 + j) _ (by rw [List.getElem?_set, if_neg (by omega)]; exact xc_q _ _ _ _ _ _ _ _ j hj3)
      have fj2 := (H4.out.gw.x.set j (Value.pointer (some ⟨b1, 0, none⟩))).frozen (3 + j)
      have ob2 := (X4.out.other hxo j (Value.pointer (some ⟨b1, 0, none⟩))).cell 2 _ rfl
      have ob3 := ((X4.out.other hxo j (Value.pointer (some ⟨b1, 0, none⟩))).other hxo (3 + j) (Value.pointer (some ⟨b2, 0, none⟩))).cell 2 _ rfl
      rw [show ptr b1 (some y) = (Value.pointer (some ⟨b1, 0, none⟩)) from rfl, show ptr b2 (some y) = (Value.pointer (some ⟨b2, 0, none⟩)) from rfl]
      go_wp2_with fail
      go_region_held3 (fun W' => W'.cell? ⟨ob, 2, none⟩ = some (.int .i64 to)) (go_keep) (first | (go_at_call 20; go_must (refine (HPK.out _).mono ?_; rintro e wz ⟨rfl, rfl⟩)))
      go_wp2_with fail
      go_region_held3 (fun W' => W'.cell? ⟨ob, 2, none⟩ = some (.int .i64 to)) (go_keep) (first | (go_at_call 20; go_must (refine (HPK.out _).mono ?_; rintro e wz ⟨rfl, rfl⟩)))
      go_wp2
      go_ret
      rw [HJ.out]
      refine ⟨by simp, k, b1, b2, hk3, ?_⟩
      rw [HXX.out]
      exact H4.out.entry (x := some y) hj3 P4.out Q4.out F0.out.1 F2.out.1 F0.out.2 F2.out.2 (((Kp.setCell xb j (Value.pointer (some ⟨b1, 0, none⟩))).trans (Kp.setCell xb (3 + j) (Value.pointer (some ⟨b2, 0, none⟩))) (fun _ _ e => e)).trans (Kp.of_below _ (below_drewN _ 2)) (fun _ _ e => e)) (((H4.out.gw.x.set j (Value.pointer (some ⟨b1, 0, none⟩))).set (3 + j) (Value.pointer (some ⟨b2, 0, none⟩))).drewN 2)

end
end Go.Proofs.YtbjccfnaadmofaaDoor.Sh
