/- The three macs as one: what each call does. A session: its cells, and the function values in them. A session's deeds: how they are made, cloned, and what their Sum tells. -/
import Derived.Test.YtpohogpkfdebdaaGreatDoorOa
import Derived.Test.YtpohogpkfdebdaaGreatDoorZme
import Derived.Test.YtpohogpkfdebdaaGreatDoorWe
import Derived.Test.YtpohogpkfdebdaaGreatDoorWd
namespace Go.Proofs.YtpohogpkfdebdaaGreatDoor.Oc
open Go.ChangeShapes Go.WideShapes Go.ChangeAt Go.RowKit
open Go.Proofs.YtpohogpkfdebdaaGreatDoor.By
open Go.Proofs.YtpohogpkfdebdaaGreatDoor.Sh (Blk size_alloc)
open Go.Proofs.YtpohogpkfdebdaaGreatDoor.Dg (BB LG lpv Lt Tl IsMk MB)
/-- The mac in block b, its other blocks in o. -/
def IsX (W : World) (b : Nat) (o : List Nat) : PX → Prop
  | .h a K m f => ∃ b0 b1 b2, o = [b0, b1, b2] ∧ IsMk W b ⟨a, K, m, f, b0, b1, b2⟩
  | .c k ws m f => ∃ gc, o = [gc] ∧ Vm.Mc W b gc k ws m f
  | .u st r z q _ => ∃ b', o = [b'] ∧ Kc.Mk W b b' st r z ∧ q ≤ 64
def FX (b : Nat) (o : List Nat) (j : Nat) : Prop := j = b ∨ j ∈ o
abbrev Xty (t : TypeId) : Prop := t = 192 ∨ t = 282 ∨ t = 286 ∨ t = 201 ∨ t = 231 ∨ t = 207 ∨ t = 241
theorem xty_l {t : TypeId} (h : Xty t) : ¬ Lt t := by
  rcases h with rfl | rfl | rfl | rfl | rfl | rfl | rfl <;> decide
theorem xty_8 {t : TypeId} (h : Xty t) : t ≠ 5 := by
  rcases h with rfl | rfl | rfl | rfl | rfl | rfl | rfl <;> decide
section
variable {W W' : World} {b : Nat} {o : List Nat} {p : PX}
theorem IsX.kind (h : IsX W b o p) {j : Nat} (hj : FX b o j) : ∃ cs t, Blk W j cs t ∧ Xty t := by
  cases p with
  | h a K m f =>
    obtain ⟨b0, b1, b2, rfl, h⟩ := h
    obtain ⟨c0, h0⟩ := h.s0.blk
    obtain ⟨c1, h1⟩ := h.s1.blk
    obtain ⟨c2, h2⟩ := h.s2.blk
    have t : Xty (Dg.tyS a) := by cases a <;> simp [Dg.tyS, Xty]
    rcases hj with rfl | hj
    · exact ⟨_, _, h.here, .inl rfl⟩
    · simp only [List.mem_cons, List.not_mem_nil, or_false] at hj
      rcases hj with rfl | rfl | rfl
      · exact ⟨_, _, h0, t⟩
      · exact ⟨_, _, h1, t⟩
      · exact ⟨_, _, h2, t⟩
  | c k ws m f =>
    obtain ⟨gc, rfl, h⟩ := h
    rcases hj with rfl | hj
    · exact ⟨_, _, h.here, by simp [Xty]⟩
    · simp only [List.mem_cons, List.not_mem_nil, or_false] at hj
      subst hj
      exact ⟨_, _, h.ci.here, by simp [Xty]⟩
  | u st r z q x =>
    obtain ⟨b', rfl, h, _⟩ := h
    rcases hj with rfl | hj
    · exact ⟨_, _, h.here, by simp [Xty]⟩
    · simp only [List.mem_cons, List.not_mem_nil, or_false] at hj
      subst hj
      exact ⟨_, _, h.sp.here, by simp [Xty]⟩
theorem IsX.lt (h : IsX W b o p) {j : Nat} (hj : FX b o j) : j < W.heap.size := by
  obtain ⟨cs, t, hb, _⟩ := h.kind hj; exact hb.lt
theorem IsX.kept {S : Nat → Prop} (h : IsX W b o p) (hk : Kp S W W') (hn : ∀ j, FX b o j → ¬ S j) : IsX W' b o p := by
  cases p with
  | h a K m f =>
    obtain ⟨b0, b1, b2, rfl, h⟩ := h
    exact ⟨b0, b1, b2, rfl, h.kept hk (hn _ (.inl rfl)) (hn _ (.inr (by simp))) (hn _ (.inr (by simp))) (hn _ (.inr (by simp)))⟩
  | c k ws m f =>
    obtain ⟨gc, rfl, h⟩ := h
    exact ⟨gc, rfl, Ae.Blk.kept h.here hk (hn _ (.inl rfl)), h.ci.kept hk (hn _ (.inr (by simp))), h.lt⟩
  | u st r z q x =>
    obtain ⟨b', rfl, h, hq⟩ := h
    exact ⟨b', rfl, h.kept hk (hn _ (.inl rfl)) (hn _ (.inr (by simp))), hq⟩
theorem IsX.below (h : IsX W b o p) (hb : Below W.heap.size W W') : IsX W' b o p := h.kept (Kp.of_below (fun _ => False) hb) (fun _ _ => id)
theorem IsX.fine (h : IsX W b o p) : p.Fine := by
  cases p with
  | h a K m f => obtain ⟨b0, b1, b2, rfl, h⟩ := h; exact h.fb
  | c k ws m f => obtain ⟨gc, rfl, h⟩ := h; exact ⟨h.ci.kk, h.ci.lt, h.lt⟩
  | u st r z q x => obtain ⟨b', rfl, h, hq⟩ := h; exact ⟨h.str, h.sp.ok, hq⟩
end
/-- The five tables. -/
structure KA (w : World) : Prop where
  d : Dg.KT w
  v : Ae.KM w
  u : Kc.KT w
theorem KA.kept {S : Nat → Prop} {w w' : World} (h : KA w) (hk : Kp S w w') (hn : ∀ j, j < 5 → ¬ S j) : KA w' := ⟨h.d.kept hk (hn _ (by decide)) (hn _ (by decide)), h.v.kept hk (hn _ (by decide)), h.u.kept hk (hn _ (by decide)) (hn _ (by decide))⟩
theorem KA.below {w w' : World} (h : KA w) (hb : Below w.heap.size w w') : KA w' := h.kept (Kp.of_below (fun _ => False) hb) (fun _ _ => id)
theorem KA.lt {w : World} (h : KA w) : 4 < w.heap.size := by have := h.d.lt; have := h.u.lt; omega
/-- The ledger alone, of what else a call turns. -/
theorem lg_cut {T U : Nat → Prop} {w w' : World} {lo : Option Nat} {L L0 : List Rn} (h : LG (fun j => T j ∨ U j) w w' lo L) (h0 : LG T w w lo L0) (hu : ∀ j, U j → ∃ cs t, Blk w' j cs t ∧ ¬ Lt t) : LG T w w' lo L := by
  cases lo with
  | none => trivial
  | some lb =>
    obtain ⟨_, rv, hl, ho⟩ := h
    refine ⟨h0.1, rv, hl, fun g hg hlt => ?_⟩
    rcases ho g hg hlt with e | e
    · exact e
    · obtain ⟨cs, t, hb, ht⟩ := hu g e
      obtain ⟨c, hc⟩ := Sg.own_type hl.own hg
      refine absurd ?_ ht
      have : Blk w' g c.toList 78 := by show w'.heap[g]? = _; rw [hc]
      have e2 := hb.symm.trans this
      injection e2 with e2
      injection e2 with _ e2
      exact .inr e2
theorem lg_wide {T U : Nat → Prop} {w : World} {lo : Option Nat} {L : List Rn} (h : LG T w w lo L) : LG (fun j => T j ∨ U j) w w lo L := by
  cases lo with
  | none => trivial
  | some lb =>
    obtain ⟨h1, rv, hl, ho⟩ := h
    exact ⟨.inl h1, rv, hl, fun g hg hlt => .inl (ho g hg hlt)⟩
theorem lpvA (lo : Option Nat) : lpv lo = Ae.lpv lo := by cases lo <;> rfl
theorem lpvK (lo : Option Nat) : lpv lo = Kc.lpv lo := by cases lo <;> rfl
theorem lgA {S : Nat → Prop} {w0 w : World} {lo : Option Nat} {L : List Rn} : LG S w0 w lo L ↔ Ae.LG S w0 w lo L := by cases lo <;> exact Iff.rfl
theorem lgK {S : Nat → Prop} {w0 w : World} {lo : Option Nat} {L : List Rn} : LG S w0 w lo L ↔ Kc.LG S w0 w lo L := by cases lo <;> exact Iff.rfl
/-- Whose Write, Wipe, Form it is. -/
def fW : PX → Nat
  | .h _ _ _ _ => 143
  | .c _ _ _ _ => 152
  | .u _ _ _ _ _ => 163
def fZ : PX → Nat
  | .h _ _ _ _ => 147
  | .c _ _ _ _ => 156
  | .u _ _ _ _ _ => 168
def fF : PX → Nat
  | .h _ _ _ _ => 148
  | .c _ _ _ _ => 157
  | .u _ _ _ _ _ => 169
theorem Fit.tq {n : Nat} {L : List Rn} (h : Fit n L) (hn : n ≤ 4000000) : tq L ≤ 800000000 := by
  have h1 := h.tot; have h2 := h.len
  unfold Go.Proofs.YtpohogpkfdebdaaGreatDoor.tq
  omega
theorem Fit.tiny {n : Nat} {L : List Rn} (h : Fit n L) (hn : n ≤ 4000000) : Kc.Tiny L := ⟨by have := h.tot; omega, by have := h.len; omega⟩
set_option maxHeartbeats 1000000 in
theorem wrX (p : PX) (b : Nat) (o : List Nat) (n k : Nat) (v : Value) (g : Nat → Int) (lo : Option Nat) (L : List Rn) (T : Nat → Prop) (w : World) (h : IsX w b o p) (hk : KA w) (hT : Tl w T) (hn : ∀ j, j < 5 → ¬ (T j ∨ FX b o j)) (hl : LG T w w lo L) (hf : Fit k L) (hk4 : k ≤ 4000000)
    (hr : ∀ w', Kp (fun j => T j ∨ FX b o j) w w' → By.RB w' v n g) (hm : p.ml + n ≤ 5000000) :
    Calls Tryz.prog (fW p) #[.pointer (some ⟨b, 0, none⟩), lpv lo, v] w fun e w' => e = .returned (.int .i64 0) ∧ IsX w' b o (p.add n g) ∧ LG T w w' lo (p.eW n L) ∧ Kp (fun j => T j ∨ FX b o j) w w' := by
  cases p with
  | h a K m f =>
    obtain ⟨b0, b1, b2, rfl, h⟩ := h
    obtain ⟨c0, h0⟩ := h.s0.blk
    obtain ⟨c1, h1⟩ := h.s1.blk
    obtain ⟨c2, h2⟩ := h.s2.blk
    have ty := Dg.tyS_l a
    have up : ∀ {w'}, Kp (fun j => T j ∨ j = b0) w w' → Kp (fun j => T j ∨ FX b [b0, b1, b2] j) w w' := fun hk => hk.mono (fun j _ e => e.elim .inl (fun e => .inr (.inr (by rw [show j = b0 from e]; simp))))
    have no : ∀ j, j < 5 → ¬ (T j ∨ j = b0) := fun j hj e => hn j hj (e.elim .inl (fun e => .inr (.inr (by rw [e]; simp))))
    have tt := hf.tq hk4
    refine (Dg.writeM b ⟨a, K, m, f, b0, b1, b2⟩ n v g lo L (fun j => T j ∨ j = b0) w h hk.d (no _ (by decide)) (no _ (by decide)) (.inr rfl) (fun e => e.elim (hT.no h.here (by decide)) (h.ne).1) (fun e => e.elim (hT.no h1 ty) (fun e => h.n01 e.symm)) (fun e => e.elim (hT.no h2 ty) (fun e => h.n02 e.symm)) (lg_wide hl) hf.pos (fun w' hk' => hr w' (up hk')) (by have : m + n ≤ 5000000 := hm; show m + n ≤ _; omega) (by first | exact tt | omega)).mono ?_
    rintro e w' ⟨rfl, h', hl', hk'⟩
    obtain ⟨d0, hd⟩ := h'.s0.blk
    exact ⟨rfl, ⟨b0, b1, b2, rfl, h'⟩, lg_cut hl' hl (fun j e => by cases (show j = b0 from e); exact ⟨_, _, hd, ty⟩), up hk'⟩
  | c kk ws m f =>
    obtain ⟨gc, rfl, h⟩ := h
    have hv := hr w (Kp.refl _ _)
    have hb : BB g := hv.1
    obtain ⟨-, va, vc, rfl, -⟩ := hv
    have up : ∀ {w'}, Kp (fun j => T j ∨ j = b) w w' → Kp (fun j => T j ∨ FX b [gc] j) w w' := fun hk => hk.mono (fun j _ e => e.elim .inl (fun e => .inr (.inl e)))
    have no : ¬ (T 0 ∨ 0 = b) := fun e => hn 0 (by decide) (e.elim .inl (fun e => .inr (.inl e)))
    have h1 := hf.tot
    have h2 := hf.len
    have hC := Vm.write_mc (fun j => T j ∨ j = b) w w lo L b gc kk m ws f h (lgA.1 (lg_wide hl)) (Kp.refl _ _) hf.pos ⟨by omega, by omega⟩ hk.v no (fun _ => .inr rfl) n (nt g) (nt_lt hb) (by have : m + n ≤ 5000000 := hm; omega) va vc (fun V hV _ => by rw [nt_cb hb]; exact hr V (up hV))
    rw [← lpvA] at hC
    refine hC.mono ?_
    rintro e w' ⟨rfl, h', hl', hk', -⟩
    exact ⟨rfl, ⟨gc, rfl, h'⟩, lg_cut (lgA.2 hl') hl (fun j e => by cases (show j = b from e); exact ⟨_, _, h'.here, by decide⟩), up hk'⟩
  | u st r z q x =>
    obtain ⟨b', rfl, h, hq⟩ := h
    have up : ∀ {w'}, Kp (fun j => T j ∨ j = b') w w' → Kp (fun j => T j ∨ FX b [b'] j) w w' := fun hk => hk.mono (fun j _ e => e.elim .inl (fun e => .inr (.inr (by rw [show j = b' from e]; simp))))
    have no : ∀ j, j < 5 → ¬ (T j ∨ j = b') := fun j hj e => hn j hj (e.elim .inl (fun e => .inr (.inr (by rw [e]; simp))))
    have t1 := hf.tot
    have t2 := hf.len
    have hn9 : n ≤ 9000000 := by have : 0 + n ≤ 5000000 := hm; omega
    have hC := h.write (Kc.lpv lo) v _ (Kc.write_sp b' r n 4 v z g lo L (fun j => T j ∨ j = b') w h.sp hk.u (no _ (by decide)) (no _ (by decide)) (.inr rfl) (lgK.1 (lg_wide hl)) hf.pos (fun w' hk' => hr w' (up hk')) hn9 ⟨by omega, by omega⟩)
    rw [← lpvK] at hC
    refine hC.mono ?_
    rintro e w' ⟨rfl, h', hl', hk'⟩
    have hbb : ¬ (T b ∨ b = b') := fun e => e.elim (hT.no h.here (by decide)) (Blk.ne h.here h.sp.here (by decide))
    rw [Kc.ins_c (h.sp.ok.o rfl)] at hl'
    exact ⟨rfl, ⟨b', rfl, ⟨Kc.Blk.kept h.here hk' hbb, h', h.str⟩, hq⟩, lg_cut (lgK.2 hl') hl (fun j e => by cases (show j = b' from e); exact ⟨_, _, h'.here, by decide⟩), up hk'⟩
theorem fmX (p : PX) (b : Nat) (o : List Nat) (w : World) (h : IsX w b o p) :
    Calls Tryz.prog (fF p) #[.pointer (some ⟨b, 0, none⟩)] w fun e w' => ∃ v, e = .returned v ∧ By.Own w' w.heap.size v p.fl p.ff ∧ Below w.heap.size w w' := by
  cases p with
  | h a K m f => obtain ⟨b0, b1, b2, rfl, h⟩ := h; exact Dg.formM b _ w h
  | c k ws m f => obtain ⟨gc, rfl, h⟩ := h; exact Vm.form_mc b gc k m ws f w h
  | u st r z q x =>
    obtain ⟨b', rfl, h, _⟩ := h
    refine h.form.mono ?_
    rintro e w' ⟨rfl, hb, hB⟩
    exact ⟨_, rfl, Kc.own_blk hb (Kc.fmf_b h.sp.ok.b _) (Nat.le_refl _) (by decide), hB⟩
theorem lg_mono {T S : Nat → Prop} {w w' : World} {lo : Option Nat} {L : List Rn} (h : LG T w w' lo L) (hs : ∀ j, T j → S j) : LG S w w' lo L := by
  cases lo with
  | none => trivial
  | some lb =>
    obtain ⟨h1, rv, hl, ho⟩ := h
    exact ⟨hs _ h1, rv, hl, fun g hg hlt => hs _ (ho g hg hlt)⟩
theorem wpX (p : PX) (b : Nat) (o : List Nat) (k : Nat) (lo : Option Nat) (L : List Rn) (T : Nat → Prop) (w : World) (h : IsX w b o p) (hl : LG T w w lo L) (hf : Fit k L) (hk4 : k ≤ 4000000) :
    Calls Tryz.prog (fZ p) #[.pointer (some ⟨b, 0, none⟩), lpv lo] w fun e w' => e = .returned (.int .i64 0) ∧ LG (fun j => T j ∨ FX b o j) w w' lo (putL L ⟨8, (p.fl : Int), 1⟩) ∧ Kp (fun j => T j ∨ FX b o j) w w' := by
  have t1 := hf.tot
  have t2 := hf.len
  cases p with
  | h a K m f =>
    obtain ⟨b0, b1, b2, rfl, h⟩ := h
    have tt := hf.tq hk4
    refine (Dg.wipeM b ⟨a, K, m, f, b0, b1, b2⟩ lo L (fun j => T j ∨ FX b [b0, b1, b2] j) T w (fun j e => .inl e) h (.inr (.inl rfl)) (fun j hj => .inr (.inr ?_)) hl hf.pos tt).mono ?_
    · have : j = 0 ∨ j = 1 ∨ j = 2 := by omega
      rcases this with rfl | rfl | rfl <;> simp [Dg.b3]
    · rintro e w' ⟨rfl, _, hl', hk'⟩
      exact ⟨rfl, lg_mono hl' (fun _ => .inl), hk'⟩
  | c kk ws m f =>
    obtain ⟨gc, rfl, h⟩ := h
    have hC := Vm.wipe_mc (fun j => T j ∨ FX b [gc] j) w w lo L b gc kk m ws f h (lgA.1 (lg_wide hl)) (Kp.refl _ _) ⟨by omega, by omega⟩ (fun _ => .inr (.inl rfl)) (fun _ => .inr (.inr (by simp)))
    rw [← lpvA] at hC
    refine hC.mono ?_
    rintro e w' ⟨rfl, h', hl', hk', -⟩
    exact ⟨rfl, lgA.2 hl', hk'⟩
  | u st r z q x =>
    obtain ⟨b', rfl, h, _⟩ := h
    have hC := h.wipe lo L (fun j => T j ∨ FX b [b'] j) (.inr (.inl rfl)) (.inr (.inr (by simp))) (lgK.1 (lg_wide hl)) ⟨by omega, by omega⟩
    rw [← lpvK] at hC
    refine hC.mono ?_
    rintro e w' ⟨rfl, _, _, hl', hk'⟩
    exact ⟨rfl, lgK.2 hl', hk'⟩
end Go.Proofs.YtpohogpkfdebdaaGreatDoor.Oc
namespace Go.Proofs.YtpohogpkfdebdaaGreatDoor.Oc
open Go.ChangeShapes Go.WideShapes Go.ChangeAt Go.RowKit
open Go.Proofs.YtpohogpkfdebdaaGreatDoor.By
open Go.Proofs.YtpohogpkfdebdaaGreatDoor.Sh (Blk size_alloc)
open Go.Proofs.YtpohogpkfdebdaaGreatDoor.Dg (BB LG lpv Lt Tl IsMk MB)
abbrev pt (b : Nat) : Value := .pointer (some ⟨b, 0, none⟩)
abbrev mv (f b : Nat) : Value := .func (.func f) #[pt b] #[]
def fS : PX → Nat
  | .h _ _ _ _ => 144
  | .c _ _ _ _ => 153
  | .u _ _ _ _ _ => 164
def fC : PX → Nat
  | .h _ _ _ _ => 145
  | .c _ _ _ _ => 154
  | .u _ _ _ _ _ => 166
def cv (cc : List Nat) : Array Value := (cc.map pt).toArray
def vS (b : Nat) (cc : List Nat) : PX → Value
  | .h _ _ _ _ => mv 144 b
  | .c _ _ _ _ => mv 153 b
  | .u _ _ _ _ _ => .func (.func 164) #[] (cv cc)
/-- The deeds of a mac. -/
def dd (b : Nat) (cc : List Nat) (p : PX) : List Value := [mv (fW p) b, vS b cc p, .func (.func (fC p)) #[] (cv cc), mv (fZ p) b, mv (fF p) b]
/-- The variables that the closures hold. -/
def IsC (W : World) (b : Nat) (cc : List Nat) : PX → Prop
  | .h _ _ _ _ => ∃ c0, cc = [c0] ∧ Blk W c0 [pt b] 153
  | .c _ _ _ _ => ∃ c0, cc = [c0] ∧ Blk W c0 [pt b] 157
  | .u _ _ _ q x => ∃ c0 c1 c2, cc = [c0, c1, c2] ∧ Blk W c0 [pt b] 161 ∧ Blk W c1 [.int .i64 (q : Int)] 3 ∧ Blk W c2 [.bool x] 4
abbrev Cty (t : TypeId) : Prop := t = 153 ∨ t = 157 ∨ t = 161 ∨ t = 3 ∨ t = 4
theorem cx_ne {s t : TypeId} (h : Cty s) (h' : Xty t) : s ≠ t := by
  rcases h with rfl | rfl | rfl | rfl | rfl <;> rcases h' with rfl | rfl | rfl | rfl | rfl | rfl | rfl <;> decide
theorem cty_l {t : TypeId} (h : Cty t) : ¬ Lt t := by
  rcases h with rfl | rfl | rfl | rfl | rfl <;> decide
section
variable {W W' : World} {b : Nat} {o cc : List Nat} {p : PX}
theorem IsC.kind (h : IsC W b cc p) {j : Nat} (hj : j ∈ cc) : ∃ cs t, Blk W j cs t ∧ Cty t := by
  cases p with
  | h a K m f =>
    obtain ⟨c0, rfl, h0⟩ := h
    rw [List.mem_singleton.1 hj]; exact ⟨_, _, h0, .inl rfl⟩
  | c k ws m f =>
    obtain ⟨c0, rfl, h0⟩ := h
    rw [List.mem_singleton.1 hj]; exact ⟨_, _, h0, .inr (.inl rfl)⟩
  | u st r z q x =>
    obtain ⟨c0, c1, c2, rfl, h0, h1, h2⟩ := h
    simp only [List.mem_cons, List.not_mem_nil, or_false] at hj
    rcases hj with rfl | rfl | rfl
    · exact ⟨_, _, h0, .inr (.inr (.inl rfl))⟩
    · exact ⟨_, _, h1, .inr (.inr (.inr (.inl rfl)))⟩
    · exact ⟨_, _, h2, .inr (.inr (.inr (.inr rfl)))⟩
theorem IsC.kept {S : Nat → Prop} (h : IsC W b cc p) (hk : Kp S W W') (hn : ∀ j, j ∈ cc → ¬ S j) : IsC W' b cc p := by
  cases p with
  | h a K m f => obtain ⟨c0, rfl, h0⟩ := h; exact ⟨c0, rfl, h0.kept hk (hn _ (by simp))⟩
  | c k ws m f => obtain ⟨c0, rfl, h0⟩ := h; exact ⟨c0, rfl, h0.kept hk (hn _ (by simp))⟩
  | u st r z q x => obtain ⟨c0, c1, c2, rfl, h0, h1, h2⟩ := h; exact ⟨c0, c1, c2, rfl, h0.kept hk (hn _ (by simp)), h1.kept hk (hn _ (by simp)), h2.kept hk (hn _ (by simp))⟩
theorem IsC.below (h : IsC W b cc p) (hb : Below W.heap.size W W') : IsC W' b cc p := h.kept (Kp.of_below (fun _ => False) hb) (fun _ _ => id)
theorem IsC.add (h : IsC W b cc p) (n : Nat) (g : Nat → Int) : IsC W b cc (p.add n g) := by cases p <;> exact h
theorem dd_add (b : Nat) (cc : List Nat) (p : PX) (n : Nat) (g : Nat → Int) : dd b cc (p.add n g) = dd b cc p := by cases p <;> rfl
end
/-- A session: its algorithm, its tag's bytes, its mac, and where they lie. -/
structure SX where
  al : Nat
  out : Nat
  p : PX
  s : Nat
  b : Nat
  o : List Nat
  cc : List Nat
structure IsS (W : World) (x : SX) : Prop where
  here : Blk W x.s (.int .u8 (x.al : Int) :: .int .i64 (x.out : Int) :: dd x.b x.cc x.p) 84
  mx : IsX W x.b x.o x.p
  cs : IsC W x.b x.cc x.p
  o1 : 1 ≤ x.out
  ot : x.out ≤ x.p.tl
def FS (x : SX) (j : Nat) : Prop := j = x.s ∨ FX x.b x.o j ∨ j ∈ x.cc
section
variable {W W' : World} {x : SX}
abbrev Sty (t : TypeId) : Prop := t = 84 ∨ Xty t ∨ Cty t
theorem IsS.kind (h : IsS W x) {j : Nat} (hj : FS x j) : ∃ cs t, Blk W j cs t ∧ Sty t := by
  rcases hj with rfl | hj | hj
  · exact ⟨_, _, h.here, .inl rfl⟩
  · obtain ⟨cs, t, hb, ht⟩ := h.mx.kind hj; exact ⟨cs, t, hb, .inr (.inl ht)⟩
  · obtain ⟨cs, t, hb, ht⟩ := h.cs.kind hj; exact ⟨cs, t, hb, .inr (.inr ht)⟩
theorem sty_l {t : TypeId} (h : Sty t) : ¬ Lt t := by
  rcases h with rfl | h | h
  · decide
  · exact xty_l h
  · exact cty_l h
theorem IsS.lt (h : IsS W x) {j : Nat} (hj : FS x j) : j < W.heap.size := by obtain ⟨cs, t, hb, _⟩ := h.kind hj; exact hb.lt
theorem IsS.kept {S : Nat → Prop} (h : IsS W x) (hk : Kp S W W') (hn : ∀ j, FS x j → ¬ S j) : IsS W' x :=
  ⟨h.here.kept hk (hn _ (.inl rfl)), h.mx.kept hk (fun j hj => hn j (.inr (.inl hj))), h.cs.kept hk (fun j hj => hn j (.inr (.inr hj))), h.o1, h.ot⟩
theorem IsS.below (h : IsS W x) (hb : Below W.heap.size W W') : IsS W' x := h.kept (Kp.of_below (fun _ => False) hb) (fun _ _ => id)
theorem IsS.apart (h : IsS W x) {j : Nat} (hj : FX x.b x.o j) : j ≠ x.s ∧ j ∉ x.cc := by
  obtain ⟨cs, t, hb, ht⟩ := h.mx.kind hj
  refine ⟨fun e => ?_, fun e => ?_⟩
  · subst e
    exact Blk.ne hb h.here (by rcases ht with rfl | rfl | rfl | rfl | rfl | rfl | rfl <;> decide) rfl
  · obtain ⟨c', t', hb', ht'⟩ := h.cs.kind e
    exact Blk.ne hb' hb (cx_ne ht' ht) rfl
end
end Go.Proofs.YtpohogpkfdebdaaGreatDoor.Oc
namespace Go.Proofs.YtpohogpkfdebdaaGreatDoor.Oc
open Go.ChangeShapes Go.WideShapes Go.ChangeAt Go.RowKit
open Go.Proofs.YtpohogpkfdebdaaGreatDoor.By
open Go.Proofs.YtpohogpkfdebdaaGreatDoor.Sh (Blk size_alloc)
open Go.Proofs.YtpohogpkfdebdaaGreatDoor.Dg (BB LG lpv Lt Tl IsMk MB)
/-- The deeds of a mac, new. -/
def Deeds (w : World) (b : Nat) (p : PX) (v : Value) (w' : World) : Prop := ∃ cc, v = .agg (dd b cc p).toArray ∧ IsC w' b cc p ∧ (∀ j, j ∈ cc → w.heap.size ≤ j) ∧ Below w.heap.size w w'
theorem of_h (b : Nat) (a : Bool) (K : Nat → Int) (m : Nat) (f : Nat → Int) (w : World) : Calls Tryz.prog 116 #[pt b] w fun e w' => ∃ v, e = .returned v ∧ Deeds w b (.h a K m f) v w' := by
  go_enter Tryz.func116, Tryz.ntmps116
  go_wp2
  refine bodyPost_ret (v := .agg (dd b [w.heap.size] (.h a K m f)).toArray) ?_ rfl ⟨_, rfl, [w.heap.size], rfl, ?_, fun j hj => ?_, ?_⟩
  · simp [results, go_sem]
    rfl
  · exact ⟨_, rfl, (Blk.new w [pt b] 153).alloc _⟩
  · rw [List.mem_singleton.1 hj]; exact Nat.le_refl _
  · exact below_next (below_alloc _ _) (below_alloc _ _)
theorem of_c (b : Nat) (k : Nat) (ws : Nat → Nat) (m : Nat) (f : Nat → Nat) (w : World) : Calls Tryz.prog 118 #[pt b] w fun e w' => ∃ v, e = .returned v ∧ Deeds w b (.c k ws m f) v w' := by
  go_enter Tryz.func118, Tryz.ntmps118
  go_wp2
  refine bodyPost_ret (v := .agg (dd b [w.heap.size] (.c k ws m f)).toArray) ?_ rfl ⟨_, rfl, [w.heap.size], rfl, ?_, fun j hj => ?_, ?_⟩
  · simp [results, go_sem]
    rfl
  · exact ⟨_, rfl, (Blk.new w [pt b] 157).alloc _⟩
  · rw [List.mem_singleton.1 hj]; exact Nat.le_refl _
  · exact below_next (below_alloc _ _) (below_alloc _ _)
theorem of_u (b : Nat) (st : Int) (r : Nat) (z : Kc.Z) (q : Nat) (x : Bool) (w : World) : Calls Tryz.prog 120 #[pt b, .int .i64 (q : Int), .bool x] w fun e w' => ∃ v, e = .returned v ∧ Deeds w b (.u st r z q x) v w' := by
  go_enter Tryz.func120, Tryz.ntmps120
  go_wp2
  refine bodyPost_ret (v := .agg (dd b [w.heap.size, w.heap.size + 1, w.heap.size + 1 + 1] (.u st r z q x)).toArray) ?_ rfl ⟨_, rfl, [w.heap.size, w.heap.size + 1, w.heap.size + 1 + 1], rfl, ?_, fun j hj => ?_, ?_⟩
  · simp [results, go_sem]
    rfl
  · refine ⟨_, _, _, rfl, (((Blk.new w [pt b] 161).alloc _).alloc _).alloc _, ((Blk.newAt (w.alloc _) _ [.int .i64 (q : Int)] 3 _ (size_alloc _ _).symm rfl).alloc _).alloc _, (Blk.newAt ((w.alloc _).alloc _) _ [.bool x] 4 _ (by rw [size_alloc, size_alloc]) rfl).alloc _⟩
  · simp only [List.mem_cons, List.not_mem_nil, or_false] at hj
    omega
  · exact below_next (below_next (below_next (below_alloc _ _) (below_alloc _ _)) (below_alloc _ _)) (below_alloc _ _)
def LDd (a : Addr) : Sem Value := loadVar 82 a
def SVd (a : Addr) (v : Value) : Sem Unit := storeVar 82 a v
@[go_sem ↓ high] theorem ldd (a : Addr) : loadVar 82 a = LDd a := rfl
@[go_sem ↓ high] theorem svd (a : Addr) (v : Value) : storeVar 82 a v = SVd a v := rfl
theorem infod : (Tryz.prog.info? 82).map (·.size) = some 5 := by kernel_rfl
theorem LDd_run {w : World} {g o : Nat} {cs : List Value} (h : w.rangeAt g o cs) (hl : cs.length = 5) : (LDd ⟨g, o, none⟩).run Tryz.prog w = .ok (.agg cs.toArray) w :=
  run_loadVar_mid w g o _ cs _ h Tryz.underlying82 rfl (by rw [hl]; exact infod)
theorem SVd_run {w : World} {g o : Nat} {cs : List Value} (h : w.there g o 5) (hl : cs.length = 5) (h1 : ∀ u ∈ cs, u.oneCell' = true) : (SVd ⟨g, o, none⟩ (.agg cs.toArray)).run Tryz.prog w = .ok () (w.setCells g o cs) :=
  run_storeVar_mid w g o _ cs.toArray (by simpa [hl] using h) (by simpa [hl] using infod) (all_oneCell_toArray h1)
theorem dd_one (b : Nat) (cc : List Nat) (p : PX) : ∀ u ∈ dd b cc p, u.oneCell' = true := fun u hu => by
  simp only [dd, List.mem_cons, List.not_mem_nil, or_false] at hu
  rcases hu with rfl | rfl | rfl | rfl | rfl
  · rfl
  · cases p <;> rfl
  · rfl
  · rfl
  · rfl
set_option maxHeartbeats 1000000 in
theorem cl_h (b : Nat) (o cc : List Nat) (a : Bool) (K : Nat → Int) (m : Nat) (f : Nat → Int) (w : World) (h : IsX w b o (.h a K m f)) (hc : IsC w b cc (.h a K m f)) :
    Calls Tryz.prog 145 (cv cc) w fun e w' => ∃ b' o' v, e = .returned (.tuple #[v, .int .i64 0]) ∧ IsX w' b' o' (.h a K m f) ∧ (∀ j, FX b' o' j → w.heap.size ≤ j) ∧ Deeds w b' (.h a K m f) v w' := by
  obtain ⟨b0, b1, b2, rfl, h⟩ := h
  obtain ⟨c0, rfl, k0⟩ := hc
  have m0 := (k0.alloc (.cells #[.nilFunc, .nilFunc, .nilFunc, .nilFunc, .nilFunc] 82)).cell 0 _ rfl
  have HC := hid (fun (W : World) (hb : Below w.heap.size w W) => Dg.cloneM b ⟨a, K, m, f, b0, b1, b2⟩ W (h.below hb))
  clear k0 h
  show Calls Tryz.prog 145 #[pt c0] w _
  go_enter Tryz.func145, Tryz.ntmps145
  go_wp2_with fail
  have D0 := Blk.new w [.nilFunc, .nilFunc, .nilFunc, .nilFunc, .nilFunc] 82
  have b0' := below_alloc w (.cells #[.nilFunc, .nilFunc, .nilFunc, .nilFunc, .nilFunc] 82)
  obtain ⟨W, hW⟩ : ∃ W, w.alloc (.cells #[.nilFunc, .nilFunc, .nilFunc, .nilFunc, .nilFunc] 82) = W := ⟨_, rfl⟩
  rw [show ([.nilFunc, .nilFunc, .nilFunc, .nilFunc, .nilFunc] : List Value).toArray = #[.nilFunc, .nilFunc, .nilFunc, .nilFunc, .nilFunc] from rfl, hW] at D0
  rw [hW] at b0' ⊢
  have D1 := hid D0
  have B1 := hid b0'
  clear D0 b0' hW m0
  refine (HC.out W B1.out).mono ?_
  rintro e w1 ⟨c, d0, d1, d2, rfl, hx, ⟨z1, z2, z3, z4⟩, hb⟩
  have X1 := hid hx
  have D2 := hid (D1.out.below hb)
  have B2 := hid (below_next B1.out hb)
  clear hx hb HC D1
  go_wp2_with fail
  refine (of_h c a K m f w1).mono ?_
  rintro e w2 ⟨v, rfl, cc', rfl, hc', hn, hb⟩
  have C3 := hid hc'
  have N3 := hid hn
  have D3 := hid (D2.out.below hb)
  have X3 := hid (X1.out.below hb)
  have B3 := hid (below_next B2.out hb)
  have Z3 := hid hb.size
  have hth := D3.out.there 0 5 (by decide)
  have s1 := SVd_run hth (cs := dd c cc' (.h a K m f)) rfl (dd_one _ _ _)
  clear hc' hn hb D2 X1 hth
  go_wp2_with fail
  have bs := Sh.below_cells B3.out w.heap.size 0 (dd c cc' (.h a K m f)) (Nat.le_refl _) B3.out.size
  have ks : Kp (fun j => j = w.heap.size) w2 (w2.setCells w.heap.size 0 (dd c cc' (.h a K m f))) := Sh.Kp.setCells _ _ _
  have X4 : IsX w2 c [d0, d1, d2] (.h a K m f) := ⟨d0, d1, d2, rfl, X3.out⟩
  have y1 := B1.out.size
  have y2 := B2.out.size
  refine bodyPost_ret ?_ rfl ⟨c, [d0, d1, d2], _, rfl, X4.kept ks (fun j hj e => ?_), fun j hj => ?_, cc', rfl, C3.out.kept ks (fun j hj e => ?_), fun j hj => Nat.le_trans y2 (N3.out j hj), bs⟩
  · exact Ae.results_cell2 Tryz.results145 rfl rfl (LDd_run (World.rangeAt_setCells_same _ _ _ _ (D3.out.there 0 5 (by decide))) rfl)
  · obtain ⟨cs, t, hb, ht⟩ := X4.kind hj
    exact Blk.ne hb D3.out (by rcases ht with rfl | rfl | rfl | rfl | rfl | rfl | rfl <;> decide) e
  · rcases hj with rfl | hj
    · omega
    · simp only [List.mem_cons, List.not_mem_nil, or_false] at hj
      omega
  · obtain ⟨cs, t, hb, ht⟩ := C3.out.kind hj
    exact Blk.ne hb D3.out (by rcases ht with rfl | rfl | rfl | rfl | rfl <;> decide) e
set_option maxHeartbeats 1000000 in
theorem cl_c (b : Nat) (o cc : List Nat) (k : Nat) (ws : Nat → Nat) (m : Nat) (f : Nat → Nat) (w : World) (h : IsX w b o (.c k ws m f)) (hc : IsC w b cc (.c k ws m f)) :
    Calls Tryz.prog 154 (cv cc) w fun e w' => ∃ b' o' v, e = .returned (.tuple #[v, .int .i64 0]) ∧ IsX w' b' o' (.c k ws m f) ∧ (∀ j, FX b' o' j → w.heap.size ≤ j) ∧ Deeds w b' (.c k ws m f) v w' := by
  obtain ⟨gc, rfl, h⟩ := h
  obtain ⟨c0, rfl, k0⟩ := hc
  have m0 := (k0.alloc (.cells #[.nilFunc, .nilFunc, .nilFunc, .nilFunc, .nilFunc] 82)).cell 0 _ rfl
  have HC := hid (fun (W : World) (hb : Below w.heap.size w W) => Vm.clone_mc b gc k m ws f W (h.below hb))
  clear k0 h
  show Calls Tryz.prog 154 #[pt c0] w _
  go_enter Tryz.func154, Tryz.ntmps154
  go_wp2_with fail
  have D0 := Blk.new w [.nilFunc, .nilFunc, .nilFunc, .nilFunc, .nilFunc] 82
  have b0' := below_alloc w (.cells #[.nilFunc, .nilFunc, .nilFunc, .nilFunc, .nilFunc] 82)
  obtain ⟨W, hW⟩ : ∃ W, w.alloc (.cells #[.nilFunc, .nilFunc, .nilFunc, .nilFunc, .nilFunc] 82) = W := ⟨_, rfl⟩
  rw [show ([.nilFunc, .nilFunc, .nilFunc, .nilFunc, .nilFunc] : List Value).toArray = #[.nilFunc, .nilFunc, .nilFunc, .nilFunc, .nilFunc] from rfl, hW] at D0
  rw [hW] at b0' ⊢
  have D1 := hid D0
  have B1 := hid b0'
  clear D0 b0' hW m0
  refine (HC.out W B1.out).mono ?_
  rintro e w1 ⟨c, d0, rfl, hx, z1, z2, hb⟩
  have X1 := hid hx
  have D2 := hid (D1.out.below hb)
  have B2 := hid (below_next B1.out hb)
  clear hx hb HC D1
  go_wp2_with fail
  refine (of_c c k ws m f w1).mono ?_
  rintro e w2 ⟨v, rfl, cc', rfl, hc', hn, hb⟩
  have C3 := hid hc'
  have N3 := hid hn
  have D3 := hid (D2.out.below hb)
  have X3 := hid (X1.out.below hb)
  have B3 := hid (below_next B2.out hb)
  have Z3 := hid hb.size
  have hth := D3.out.there 0 5 (by decide)
  have s1 := SVd_run hth (cs := dd c cc' (.c k ws m f)) rfl (dd_one _ _ _)
  clear hc' hn hb D2 X1 hth
  go_wp2_with fail
  have bs := Sh.below_cells B3.out w.heap.size 0 (dd c cc' (.c k ws m f)) (Nat.le_refl _) B3.out.size
  have ks : Kp (fun j => j = w.heap.size) w2 (w2.setCells w.heap.size 0 (dd c cc' (.c k ws m f))) := Sh.Kp.setCells _ _ _
  have X4 : IsX w2 c [d0] (.c k ws m f) := ⟨d0, rfl, X3.out⟩
  have y1 := B1.out.size
  have y2 := B2.out.size
  refine bodyPost_ret ?_ rfl ⟨c, [d0], _, rfl, X4.kept ks (fun j hj e => ?_), fun j hj => ?_, cc', rfl, C3.out.kept ks (fun j hj e => ?_), fun j hj => Nat.le_trans y2 (N3.out j hj), bs⟩
  · exact Ae.results_cell2 Tryz.results154 rfl rfl (LDd_run (World.rangeAt_setCells_same _ _ _ _ (D3.out.there 0 5 (by decide))) rfl)
  · obtain ⟨cs, t, hb, ht⟩ := X4.kind hj
    exact Blk.ne hb D3.out (by rcases ht with rfl | rfl | rfl | rfl | rfl | rfl | rfl <;> decide) e
  · rcases hj with rfl | hj
    · omega
    · simp only [List.mem_cons, List.not_mem_nil, or_false] at hj
      omega
  · obtain ⟨cs, t, hb, ht⟩ := C3.out.kind hj
    exact Blk.ne hb D3.out (by rcases ht with rfl | rfl | rfl | rfl | rfl <;> decide) e
set_option maxHeartbeats 1000000 in
theorem cl_u (b : Nat) (o cc : List Nat) (st : Int) (r : Nat) (z : Kc.Z) (q : Nat) (x : Bool) (w : World) (h : IsX w b o (.u st r z q x)) (hc : IsC w b cc (.u st r z q x)) :
    Calls Tryz.prog 166 (cv cc) w fun e w' => ∃ b' o' v, e = .returned (.tuple #[v, .int .i64 0]) ∧ IsX w' b' o' (.u st r z q x) ∧ (∀ j, FX b' o' j → w.heap.size ≤ j) ∧ Deeds w b' (.u st r z q x) v w' := by
  obtain ⟨b', rfl, h, hq⟩ := h
  obtain ⟨c0, c1, c2, rfl, k0, k1, k2⟩ := hc
  have m0 := (k0.alloc (.cells #[.nilFunc, .nilFunc, .nilFunc, .nilFunc, .nilFunc] 82)).cell 0 _ rfl
  have HC := hid (fun (W : World) (hb : Below w.heap.size w W) => (h.below hb).clone)
  have K1 := hid k1
  have K2 := hid k2
  clear k0 k1 k2 h
  show Calls Tryz.prog 166 #[pt c0, pt c1, pt c2] w _
  go_enter Tryz.func166, Tryz.ntmps166
  go_wp2_with fail
  have D0 := Blk.new w [.nilFunc, .nilFunc, .nilFunc, .nilFunc, .nilFunc] 82
  have b0' := below_alloc w (.cells #[.nilFunc, .nilFunc, .nilFunc, .nilFunc, .nilFunc] 82)
  obtain ⟨W, hW⟩ : ∃ W, w.alloc (.cells #[.nilFunc, .nilFunc, .nilFunc, .nilFunc, .nilFunc] 82) = W := ⟨_, rfl⟩
  rw [show ([.nilFunc, .nilFunc, .nilFunc, .nilFunc, .nilFunc] : List Value).toArray = #[.nilFunc, .nilFunc, .nilFunc, .nilFunc, .nilFunc] from rfl, hW] at D0
  rw [hW] at b0' ⊢
  have D1 := hid D0
  have B1 := hid b0'
  clear D0 b0' hW m0
  refine (HC.out W B1.out).mono ?_
  rintro e w1 ⟨c, rfl, z1, hx, hb⟩
  have X1 := hid hx
  have m1 := (K1.out.below (below_next B1.out hb)).cell 0 _ rfl
  have m2 := (K2.out.below (below_next B1.out hb)).cell 0 _ rfl
  clear K1 K2
  have D2 := hid (D1.out.below hb)
  have B2 := hid (below_next B1.out hb)
  clear hx hb HC D1
  go_wp2_with fail
  refine (of_u c st r z q x w1).mono ?_
  rintro e w2 ⟨v, rfl, cc', rfl, hc', hn, hb⟩
  have C3 := hid hc'
  have N3 := hid hn
  have D3 := hid (D2.out.below hb)
  have X3 := hid (X1.out.below hb)
  have B3 := hid (below_next B2.out hb)
  have Z3 := hid hb.size
  have hth := D3.out.there 0 5 (by decide)
  have s1 := SVd_run hth (cs := dd c cc' (.u st r z q x)) rfl (dd_one _ _ _)
  clear hc' hn hb D2 X1 hth
  go_wp2_with fail
  have bs := Sh.below_cells B3.out w.heap.size 0 (dd c cc' (.u st r z q x)) (Nat.le_refl _) B3.out.size
  have ks : Kp (fun j => j = w.heap.size) w2 (w2.setCells w.heap.size 0 (dd c cc' (.u st r z q x))) := Sh.Kp.setCells _ _ _
  have X4 : IsX w2 c [W.heap.size] (.u st r z q x) := ⟨_, rfl, X3.out, hq⟩
  have y1 := B1.out.size
  have y2 := B2.out.size
  refine bodyPost_ret ?_ rfl ⟨c, [W.heap.size], _, rfl, X4.kept ks (fun j hj e => ?_), fun j hj => ?_, cc', rfl, C3.out.kept ks (fun j hj e => ?_), fun j hj => Nat.le_trans y2 (N3.out j hj), bs⟩
  · exact Ae.results_cell2 Tryz.results166 rfl rfl (LDd_run (World.rangeAt_setCells_same _ _ _ _ (D3.out.there 0 5 (by decide))) rfl)
  · obtain ⟨cs, t, hb, ht⟩ := X4.kind hj
    exact Blk.ne hb D3.out (by rcases ht with rfl | rfl | rfl | rfl | rfl | rfl | rfl <;> decide) e
  · rcases hj with rfl | hj
    · omega
    · simp only [List.mem_cons, List.not_mem_nil, or_false] at hj
      omega
  · obtain ⟨cs, t, hb, ht⟩ := C3.out.kind hj
    exact Blk.ne hb D3.out (by rcases ht with rfl | rfl | rfl | rfl | rfl <;> decide) e
/-- Clone, of any of them. -/
theorem clX (p : PX) (b : Nat) (o cc : List Nat) (w : World) (h : IsX w b o p) (hc : IsC w b cc p) :
    Calls Tryz.prog (fC p) (cv cc) w fun e w' => ∃ b' o' v, e = .returned (.tuple #[v, .int .i64 0]) ∧ IsX w' b' o' p ∧ (∀ j, FX b' o' j → w.heap.size ≤ j) ∧ Deeds w b' p v w' := by
  cases p with
  | h a K m f => exact cl_h b o cc a K m f w h hc
  | c k ws m f => exact cl_c b o cc k ws m f w h hc
  | u st r z q x => exact cl_u b o cc st r z q x w h hc
/-- The arguments of a call of the deed that tells the tag. -/
def aS (lo : Option Nat) (b : Nat) (cc : List Nat) : PX → Array Value
  | .h _ _ _ _ => #[pt b, lpv lo]
  | .c _ _ _ _ => #[pt b, lpv lo]
  | .u _ _ _ _ _ => #[lpv lo] ++ cv cc
set_option maxHeartbeats 1000000 in
theorem smX (p : PX) (b : Nat) (o cc : List Nat) (k : Nat) (lo : Option Nat) (L : List Rn) (T : Nat → Prop) (w : World) (h : IsX w b o p) (hc : IsC w b cc p) (hk : KA w) (hn : ∀ j, j < 5 → ¬ T j) (hl : LG T w w lo L) (hf : Fit k L) (hk4 : k ≤ 4000000) (hm : p.ml ≤ 4900000) :
    Calls Tryz.prog (fS p) (aS lo b cc p) w fun e w' => ∃ v, e = .returned (.tuple #[v, .int .i64 0]) ∧ By.RB w' v p.tl p.tf ∧ LG T w w' lo (p.eS L) ∧ Kp T w w' := by
  have t1 := hf.tot
  have t2 := hf.len
  cases p with
  | h a K m f =>
    obtain ⟨b0, b1, b2, rfl, h⟩ := h
    refine (Dg.sumM b ⟨a, K, m, f, b0, b1, b2⟩ lo L T w h hk.d (hn _ (by decide)) (hn _ (by decide)) hl hf.pos hm (hf.tq hk4)).mono ?_
    rintro e w' ⟨v, rfl, ho, hl', hk', -⟩
    exact ⟨v, rfl, ho.reads, hl', hk'⟩
  | c kk ws m f =>
    obtain ⟨gc, rfl, h⟩ := h
    have hC := Vm.sum_mc T w w lo L b gc kk m ws f h (lgA.1 hl) (Kp.refl _ _) ⟨by omega, by omega⟩ hk.v (hn _ (by decide))
    rw [← lpvA] at hC
    refine hC.mono ?_
    rintro e w' ⟨q, rfl, hq, -, hl', hk', -⟩
    refine ⟨_, rfl, ⟨PX.tf_b (p := .c kk ws m f) ⟨h.ci.kk, h.ci.lt, h.lt⟩, _, _, rfl, Nat.le_refl _, by decide, .inr ⟨q, 0, rfl, fun i hi => ?_⟩⟩, lgA.2 hl', hk'⟩
    have hi : i < 16 := hi
    have e := Ae.Blk.cell hq i _ (bl_get 16 _ i hi)
    rw [Nat.zero_add]
    show w'.cell? ⟨q, i, none⟩ = some (.int .u8 (if i < 16 then ((Vm.tgn ws (kk + 6) f m i : Nat) : Int) else 0))
    rw [if_pos hi]
    exact e
  | u st r z q x =>
    obtain ⟨b', rfl, h, hq⟩ := h
    obtain ⟨c0, c1, c2, rfl, k0, k1, k2⟩ := hc
    have hC := h.sum lo L T q x hk.u (hn _ (by decide)) (hn _ (by decide)) (lgK.1 hl) hf.pos (hf.tiny hk4) (by omega)
    rw [← lpvK] at hC
    have HC := hid hC
    have m0 := k0.cell 0 _ rfl
    have m1 := k1.cell 0 _ rfl
    have m2 := k2.cell 0 _ rfl
    obtain ⟨lp, hlp⟩ : ∃ lp, lpv lo = .pointer lp := by cases lo; exact ⟨_, rfl⟩; exact ⟨_, rfl⟩
    rw [hlp] at HC
    show Calls Tryz.prog 164 #[lpv lo, pt c0, pt c1, pt c2] w _
    rw [hlp]
    clear hC hl hf k0 k1 k2 h hn hk
    go_enter Tryz.func164, Tryz.ntmps164
    go_wp2_with fail
    refine HC.out.mono ?_
    rintro e w' ⟨v, rfl, ho, hl', hk'⟩
    have O1 := hid ho.reads
    have L1 := hid (lgK.2 hl')
    have K1 := hid hk'
    clear ho hl' hk' HC m0 m1 m2
    go_wp2
    go_ret2
    exact ⟨v, rfl, O1.out, L1.out, K1.out⟩
end Go.Proofs.YtpohogpkfdebdaaGreatDoor.Oc
