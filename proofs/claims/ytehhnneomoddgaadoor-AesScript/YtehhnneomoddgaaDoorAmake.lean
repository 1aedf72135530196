/- The helper make: a cipher of a key, of both sides. -/
import Derived.Test.YtehhnneomoddgaaDoorArw
import Derived.Test.YtehhnneomoddgaaDoorYs
namespace Go.Proofs.YtehhnneomoddgaaDoor.Ae
open Go.ChangeShapes Go.WideShapes Go.ChangeAt Go.RowKit
open Go.Proofs.YtehhnneomoddgaaDoor.By Go.Proofs.YtehhnneomoddgaaDoor.Gf
open Go.Proofs.YtehhnneomoddgaaDoor.Kc (own_kept own_mono own8_type)
section
variable {X : World → Prop} {w0 W W' : World} {xb lb mb : Nat} {lv mv tv wv : Value} {cv rv : Nat → Value} {D E : Nat → KD} {L M : List Rn}
/-- A block of bytes is written over. -/
theorem PS.over (h : PS X w0 xb lb mb lv mv tv wv cv rv D E L M W) {g : Nat} {cs : List Value} (hg : Blk W g cs 5) (hB : w0.heap.size ≤ g) (hk : Kp (fun j => j = g) W W') (hX : X W') : PS X w0 xb lb mb lv mv tv wv cv rv D E L M W' := by
  have ne : ∀ {x c t}, Blk W x c t → t ≠ 5 → ¬ (x = g) := fun hx ht e => by subst e; exact ht (blk_ty hx hg)
  have keep : ∀ x c t, Blk W x c t → t ≠ 5 → Blk W' x c t := fun x c t hx ht => hx.kept hk (ne hx ht)
  exact ⟨h.bel.trans (hk.below h.size (fun j hj e => by have e' : j = g := e; omega)), keep _ _ _ h.here (by decide), h.xB, h.lB, h.mB,
    h.led.kept hk (ne (show Blk W _ _ 47 from h.led.here) (by decide)) (fun g hg => by obtain ⟨cs, hc⟩ := own_blk h.led.own hg; exact ne hc (by decide)),
    h.rled.kept hk (ne (show Blk W _ _ 49 from h.rled.here) (by decide)) (fun g hg => by obtain ⟨cs, hc⟩ := own_blk h.rled.own hg; exact ne hc (by decide)),
    h.lvB, h.mvB, h.dis, fun j hj => (h.pc j hj).blks (fun g cs _ hg => keep g cs _ hg (by decide)), fun j hj => (h.qc j hj).blks (fun g cs _ hg => keep g cs _ hg (by decide)) (fun g cs hg => keep g cs _ hg (by decide)) (fun g cs hg => keep g cs _ hg (by decide)), h.pB, h.qB, h.pne, h.qne, h.km, h.ku, h.exk, hX⟩
/-- What was told lies in elder blocks: a younger one may turn. -/
def Yg (X : World → Prop) (N : Nat) : Prop := ∀ V V' g, N ≤ g → Kp (fun j => j = g) V V' → X V → X V'
theorem PS.yg {ts ws : List Value} {tl : List TE} (h : PS (RX w0 tv wv ts ws tl) w0 xb lb mb lv mv tv wv cv rv D E L M W) : Yg (RX w0 tv wv ts ws tl) W.heap.size := fun V V' g hN hk hX => by
  have old : ∀ q ∈ tl, (∀ x, q.a.ownBlock = some x → x < W.heap.size) ∧ ∀ x, q.b.ownBlock = some x → x < W.heap.size := fun q hq =>
    ⟨fun g hg => by obtain ⟨c, hc⟩ := own8_type (h.ex.tl.own q hq).1 hg; exact (Array.getElem?_eq_some_iff.1 hc).1, fun g hg => by obtain ⟨c, hc⟩ := own8_type (h.ex.tl.own q hq).2 hg; exact (Array.getElem?_eq_some_iff.1 hc).1⟩
  refine ⟨rowG_kept hX.r3 hk (fun x hx e => ?_), rowG_kept hX.r4 hk (fun x hx e => ?_), hX.dis, ⟨fun q hq => ⟨own_kept (hX.tl.own q hq).1 hk (fun x hx e => ?_), own_kept (hX.tl.own q hq).2 hk (fun x hx e => ?_)⟩, hX.tl.ap, hX.tl.sz⟩⟩
  · have e' : x = g := e
    have := (h.ex.r3.lt x hx).2; omega
  · have e' : x = g := e
    have := (h.ex.r4.lt x hx).2; omega
  · have e' : x = g := e
    have := (old q hq).1 x hx; omega
  · have e' : x = g := e
    have := (old q hq).2 x hx; omega
theorem PS.newP (h : PS X w0 xb lb mb lv mv tv wv cv rv D E L M W) (mute : Bool) (n : Nat) (f : Nat → Int) (gf cf : Nat) (hf : ∀ i, 0 ≤ f i ∧ f i < 256) (hn : n ≤ cf) (ho : By.RB W (.slice (some ⟨gf, 0, none⟩) n cf) n f) (hbk : ∃ cs, Blk W gf cs 5) (hr : Room L) :
    Calls Tryd.prog 14 #[lpv (lo lb mute), .slice (some ⟨gf, 0, none⟩) n cf] W fun e w' => (∃ lv', PS X w0 xb lb mb lv' mv tv wv cv rv D E (sel mute L (evN L (newK n (kf f)))) M w') ∧ Kt W w' ∧ match newK n (kf f) with
      | none => e = .returned (.tuple #[.pointer none, .int .i64 7])
      | some (k, key) => ∃ g, e = .returned (.tuple #[.pointer (some ⟨g, 0, none⟩), .int .i64 0]) ∧ Ci w' g k (rk k key) ∧ W.heap.size ≤ g := by
  refine (new_pc (SP lb lv mute) W W (lo lb mute) L n (kf f) (kf_lt hf) (some ⟨gf, 0, none⟩) cf hn (h.lg mute) (Kp.refl _ _) hr (fun h0 => ⟨gf, 0, rfl, fun V _ hkt i hi => ?_⟩)).mono ?_
  · obtain ⟨g', off, cap, e, _, hcell⟩ := rb_at ho h0
    simp only [Value.slice.injEq, Option.some.injEq, Addr.mk.injEq, and_true, true_and] at e
    obtain ⟨⟨rfl, rfl⟩, rfl⟩ := e
    obtain ⟨cs, hb⟩ := hbk
    have hb' := hkt.2 _ _ _ hb (by decide) (by decide)
    have e1 : V.heap[gf]? = W.heap[gf]? := by rw [show V.heap[gf]? = _ from hb', show W.heap[gf]? = _ from hb]
    have := hcell i hi
    simp only [World.cell?] at this ⊢
    rw [e1]; exact this
  · rintro e w' ⟨⟨h1, h2, h3⟩, h4⟩
    exact ⟨h.turnP mute h1 h2 h3, h3, h4⟩
theorem PS.newQ (h : PS X w0 xb lb mb lv mv tv wv cv rv D E L M W) (mute : Bool) (n : Nat) (f : Nat → Int) (a : Option Addr) (cap : Nat) (hf : ∀ i, 0 ≤ f i ∧ f i < 256) (hv : ∀ V, Below w0.heap.size w0 V → By.RB V (.slice a n cap) n f) (hr : Room M) :
    Calls Tryd.prog 15 #[lpv (lo mb mute), .slice a n cap] W fun e w' => (∃ mv', PS X w0 xb lb mb lv mv' tv wv cv rv D E L (sel mute M (evN M (newK n (kf f)))) w') ∧ Ku W w' ∧ match newK n (kf f) with
      | none => e = .returned (.tuple #[.pointer none, .int .i64 7])
      | some (k, key) => ∃ g, e = .returned (.tuple #[.pointer (some ⟨g, 0, none⟩), .int .i64 0]) ∧ RC w' g k key ∧ W.heap.size ≤ g := by
  refine (new_qc (SP mb mv mute) W W (lo mb mute) M n (kf f) (kf_lt hf) a cap (h.rlg mute) (Kp.refl _ _) hr (fun V hk _ => ?_)).mono ?_
  · have := hv V (h.bel.trans (hk.below h.size (fun k hk' e => by have := h.sq e; omega)))
    rw [show cb (kf f) = f from funext (fun i => kf_eq hf i)]
    exact this
  · rintro e w' ⟨⟨h1, h2, h3⟩, h4⟩
    exact ⟨h.turnQ mute h1 h2 h3, h3, h4⟩
set_option maxRecDepth 4000 in
set_option maxHeartbeats 8000000 in
theorem PS.make (h : PS X w0 xb lb mb lv mv tv wv cv rv D D L L W) (k : Nat) (hk2 : k < 2) (pa : Option Addr) (pn pc : Nat) (f : Nat → Int) (hf : ∀ i, 0 ≤ f i ∧ f i < 256) (hp : ∀ V, Below w0.heap.size w0 V → By.RB V (.slice pa pn pc) pn f) (hpn : pn ≤ 140737488351232) (mute : Bool) (hr : Room L) (hX : Yg X W.heap.size) :
    Calls Tryd.prog 6 #[.pointer (some ⟨xb, 0, none⟩), .int .i64 k, .slice pa pn pc, lpv (lo lb mute), lpv (lo mb mute)] W fun e w' => e = .returned (.bool true) ∧ ∃ lv' mv' cv' rv' D', PS X w0 xb lb mb lv' mv' tv wv cv' rv' D' D' (sel mute L (evN L (newK pn (kf f)))) (sel mute L (evN L (newK pn (kf f)))) w' := by
  have H0 := hid h
  have HP := hid hp
  have HF := hid hf
  have HR := hid hr
  have HXo := hid hX
  have hk2' : (k : Int) < 2 := by omega
  clear h hp hf hr hX
  go_enter Tryd.func6, Tryd.ntmps6
  go_wp2_with fail
  refine (lent14 _ pn f _ (HP.out _ H0.out.bel) (by omega)).mono ?_
  rintro e w2 ⟨fu, rfl, ho, hb⟩
  rcases ho.shape with ⟨_, h0⟩ | ⟨gf, cf, rfl, hgb, hgl, hnc, hcm, _, _⟩
  · omega
  have G2 := hid (H0.out.below hb)
  have O2 := hid ho
  have HGB := hid hgb
  have BK2 : Hid (∃ cs, Blk w2 gf cs 5) := by
    obtain ⟨c, hc⟩ := own8_type ho (show (Value.slice (some ⟨gf, 0, none⟩) (pn + 6) cf).ownBlock = some gf from rfl)
    exact ⟨c.toList, by show w2.heap[gf]? = _; rw [hc]⟩
  have l1 : (pn : Int) ≤ cf := by omega
  clear hb ho hgb
  go_wp2_with fail
  refine (G2.out.newP mute pn f gf cf HF.out (by omega) ((O2.out.reads.first pn (by omega)).congr HF.out (fun i hi => by unfold lent; rw [if_pos hi])) BK2.out HR.out).mono ?_
  rintro e w3 ⟨⟨lv', hG3⟩, hk3, he3⟩
  have G3 := hid hG3
  have O3 := hid (hk3.ky.kz.own O2.out)
  clear hG3
  rcases hnk : newK pn (kf f) with _ | ⟨kk, key⟩
  · rw [hnk] at he3
    subst he3
    clear hk3
    go_wp2_with fail
    refine (G3.out.newQ mute pn f pa pc HF.out HP.out HR.out).mono ?_
    rintro e w4 ⟨⟨mv', hG4⟩, hk4, he4⟩
    rw [hnk] at he4
    subst he4
    have G4 := hid hG4
    have O4 := hid (hk4.ky.kz.own O3.out)
    have HNK := hid hnk
    clear hG4 hk4 hnk
    go_wp2_with fail
    refine (kept17 _ _ pn f w4 O4.out.reads (HP.out _ G4.out.bel) (by omega)).mono ?_
    rintro e w5 ⟨rfl, hb5⟩
    have G5 := hid (G4.out.below hb5)
    have O5 := hid (own_below O4.out hb5)
    clear hb5
    go_wp2_with fail
    refine (over18 gf cf (pn + 6) _ _ w5 O5.out (by omega)).mono ?_
    rintro e w6 ⟨rfl, -, hg6⟩
    obtain ⟨c, hc⟩ := own8_type O5.out (show (Value.slice (some ⟨gf, 0, none⟩) (pn + 6) cf).ownBlock = some gf from rfl)
    have hbk : Blk w5 gf c.toList 5 := by show w5.heap[gf]? = _; rw [hc]
    have hk6 : Kp (fun j => j = gf) w5 w6 := (Kp.of_grown hg6).mono (fun j _ e => (Option.some.inj e).symm)
    have G6 := hid (G5.out.over hbk (Nat.le_trans H0.out.size HGB.out) hk6 (HXo.out _ _ gf HGB.out hk6 G5.out.ex))
    clear hbk hk6 hg6 hc
    go_wp2
    go_ret
    exact ⟨by simp, lv', mv', cv, rv, D, G6.out⟩
  · rw [hnk] at he3
    obtain ⟨g1, rfl, hc3, hg1⟩ := he3
    have P3 := hid (show PC w3 (.pointer (some ⟨g1, 0, none⟩)) (some (kk, key)) from ⟨g1, rfl, hc3⟩)
    have F1 := hid (show w0.heap.size ≤ g1 ∧ cv (1 - k) ≠ .pointer (some ⟨g1, 0, none⟩) from ⟨Nat.le_trans G2.out.size hg1, fun e' => by
      obtain ⟨cs, hc⟩ := (G2.out.pc (1 - k) (by omega)).blk e'
      have := hc.lt
      omega⟩)
    clear hk3 hc3 hg1
    go_wp2_with fail
    refine (G3.out.newQ mute pn f pa pc HF.out HP.out HR.out).mono ?_
    rintro e w4 ⟨⟨mv', hG4⟩, hk4, he4⟩
    rw [hnk] at he4
    obtain ⟨g2, rfl, hc4, hg2⟩ := he4
    have G4 := hid hG4
    have O4 := hid (hk4.ky.kz.own O3.out)
    have P4 := hid (P3.out.ky hk4.ky)
    have Q4 := hid (show QC w4 (.pointer (some ⟨g2, 0, none⟩)) (some (kk, key)) from ⟨g2, rfl, hc4⟩)
    have F2 := hid (show w0.heap.size ≤ g2 ∧ rv (1 - k) ≠ .pointer (some ⟨g2, 0, none⟩) from ⟨Nat.le_trans G3.out.size hg2, fun e' => by
      obtain ⟨cs, hc⟩ := (G3.out.qc (1 - k) (by omega)).blk e'
      have := hc.lt
      omega⟩)
    have HNK := hid hnk
    clear hG4 hk4 hc4 hg2 hnk
    go_wp2_with fail
    refine (kept17 _ _ pn f w4 O4.out.reads (HP.out _ G4.out.bel) (by omega)).mono ?_
    rintro e w5 ⟨rfl, hb5⟩
    have G5 := hid (G4.out.below hb5)
    have O5 := hid (own_below O4.out hb5)
    have P5 := hid (P4.out.ky (Ky.of_below hb5))
    have Q5 := hid (Q4.out.ky (Ky.of_below hb5))
    clear hb5
    go_wp2_with fail
    refine (over18 gf cf (pn + 6) _ _ w5 O5.out (by omega)).mono ?_
    rintro e w6 ⟨rfl, -, hg6⟩
    obtain ⟨c, hc⟩ := own8_type O5.out (show (Value.slice (some ⟨gf, 0, none⟩) (pn + 6) cf).ownBlock = some gf from rfl)
    have hbk : Blk w5 gf c.toList 5 := by show w5.heap[gf]? = _; rw [hc]
    have hk6 : Kp (fun j => j = gf) w5 w6 := (Kp.of_grown hg6).mono (fun j _ e => (Option.some.inj e).symm)
    have G6 := hid (G5.out.over hbk (Nat.le_trans H0.out.size HGB.out) hk6 (HXo.out _ _ gf HGB.out hk6 G5.out.ex))
    have P6 := hid (P5.out.blks (W' := w6) (fun g cs _ hg => hg.kept hk6 (fun e => by have e' : g = gf := e; subst e'; exact absurd (blk_ty hg hbk) (by decide))))
    have Q6 := hid (Q5.out.blks (W' := w6) (fun g cs _ hg => hg.kept hk6 (fun e => by have e' : g = gf := e; subst e'; exact absurd (blk_ty hg hbk) (by decide))) (fun g cs hg => hg.kept hk6 (fun e => by have e' : g = gf := e; subst e'; exact absurd (blk_ty hg hbk) (by decide))) (fun g cs hg => hg.kept hk6 (fun e => by have e' : g = gf := e; subst e'; exact absurd (blk_ty hg hbk) (by decide))))
    clear hbk hk6 hg6 hc
    have f1 := G6.out.here.frozen k
    have f2 := G6.out.here.frozen (2 + k)
    have x1 := G6.out.here.cell k _ (pair_c _ _ _ _ _ _ k hk2)
    have x2 := G6.out.here.cell (2 + k) _ (pair_r _ _ _ _ _ _ k hk2)
    go_wp2
    go_ret
    exact ⟨by simp, lv', mv', _, _, _, G6.out.slot k hk2 (.pointer (some ⟨g1, 0, none⟩)) (.pointer (some ⟨g2, 0, none⟩)) (some (kk, key)) P6.out Q6.out (fun g e => by simp at e; subst e; exact F1.out) (fun g e => by simp at e; subst e; exact F2.out)⟩
end
end Go.Proofs.YtehhnneomoddgaaDoor.Ae
