/- Three sponges on either side: the calls, at nil, at none, at a sponge, with a ledger and without one. -/
import Derived.Test.YtnbmnpfpjhpifaaDoorSgw
import Derived.Test.YtnbmnpfpjhpifaaDoorSlnone
namespace Go.Proofs.YtnbmnpfpjhpifaaDoor.Kc
open Go.ChangeShapes Go.WideShapes Go.ChangeAt Go.RowKit
open Go.Proofs.YtnbmnpfpjhpifaaDoor.By Go.Proofs.YtnbmnpfpjhpifaaDoor.Wd
theorem upd_self {α : Type} (f : Nat → α) (k : Nat) : upd f k (f k) = f := by
  funext i; unfold upd; split
  · rename_i e; rw [e]
  · rfl
/-- The ledger, or none. -/
def lo (lb : Nat) (sil : Bool) : Option Nat := match sil with | true => none | false => some lb
/-- The blocks that a call may turn. -/
def SP (b lb : Nat) (lv : Value) (sil : Bool) (j : Nat) : Prop := j = b ∨ (sil = false ∧ (j = lb ∨ lv.ownBlock = some j))
def sel (sil : Bool) (L L' : List Rn) : List Rn := match sil with | true => L | false => L'
/-- Blocks of other kinds stay. -/
def Kx (W W' : World) : Prop := ∀ g cs t, Blk W g cs t → t ≠ 80 → t ≠ 84 → t ≠ 55 → t ≠ 57 → t ≠ 75 → Blk W' g cs t
theorem Kx.refl (W : World) : Kx W W := fun _ _ _ h _ _ _ _ _ => h
theorem Kx.below {W W' : World} (hb : Below W.heap.size W W') : Kx W W' := fun _ _ _ h _ _ _ _ _ => h.below hb
theorem Kx.trans {a b c : World} (h : Kx a b) (k : Kx b c) : Kx a c := fun g cs t hg h1 h2 h3 h4 h5 => k g cs t (h g cs t hg h1 h2 h3 h4 h5) h1 h2 h3 h4 h5
theorem Kx.own {W W' : World} (h : Kx W W') {base n : Nat} {v : Value} {f : Nat → Int} (ho : By.Own W base v n f) : By.Own W' base v n f := by
  obtain ⟨hf, hl, h' | ⟨g, cap, cur, rfl, hb, hc, h1, h2, h3, h4⟩⟩ := ho
  · exact ⟨hf, hl, .inl h'⟩
  · refine ⟨hf, hl, .inr ⟨g, cap, cur, rfl, hb, ?_, h1, h2, h3, h4⟩⟩
    exact h g cur.toList 5 (by show W.heap[g]? = _; rw [hc]) (by decide) (by decide) (by decide) (by decide) (by decide)
theorem Kx.row {W W' : World} (h : Kx W W') {base n : Nat} {v : Value} {xs : List Value} (ho : W.ownsRow base 39 1 v n xs) : W'.ownsRow base 39 1 v n xs := by
  obtain ⟨hl, h' | ⟨g, cap, cur, rfl, hb, hc, h1, h2, h3, h4⟩⟩ := ho
  · exact ⟨hl, .inl h'⟩
  · refine ⟨hl, .inr ⟨g, cap, cur, rfl, hb, ?_, h1, h2, h3, h4⟩⟩
    exact h g cur.toList 39 (by show W.heap[g]? = _; rw [hc]) (by decide) (by decide) (by decide) (by decide) (by decide)
/-- What Write answers, what it makes of an entry, how often it records. -/
def wrC : KD → Int
  | some (some (_, _, _, true)) => 180
  | some (some (_, _, _, false)) => 0
  | _ => 1
def wrK (g : Nat → Int) (n : Nat) : KD → KD
  | some (some (r, sf, z, false)) => some (some (r, sf, Z.ins r z g n, false))
  | k => k
def wrN (g : Nat → Int) (n : Nat) : KD → Nat
  | some (some (r, _, z, false)) => (Z.ins r z g n).c - z.c
  | _ => 0
/-- Close. -/
def clK : KD → KD
  | some (some (r, sf, z, false)) => some (some (r, sf, Z.fin r sf z, true))
  | k => k
def clN : KD → Nat
  | some (some (_, _, _, false)) => 1
  | _ => 0
/-- Wipe. -/
def wiC : KD → Int
  | some (some _) => 0
  | _ => 1
def wiK : KD → KD
  | some (some _) => some none
  | k => k
def wiL (L : List Rn) : KD → List Rn
  | some (some _) => putL L ⟨8, 203, 1⟩
  | _ => L
theorem sel_same (sil : Bool) (L : List Rn) : sel sil L L = L := by cases sil <;> rfl
section
variable {w0 W W' : World} {B : Nat} {KP KQ : Nat → KD} {pb qb : Nat → Nat} {lb mb xb : Nat} {lv mv tv wv : Value} {L M L' : List Rn} {k : Nat} {x' : KD} {sil : Bool}
theorem GW.lgP (h : GW w0 B KP KQ pb qb lb lv L mb mv M xb tv wv W) (b : Nat) (sil : Bool) : LG (SP b lb lv sil) W W (lo lb sil) L := by
  cases sil with
  | true => exact trivial
  | false => exact ⟨.inr ⟨rfl, .inl rfl⟩, lv, h.l, fun g hg _ => .inr ⟨rfl, .inr hg⟩⟩
theorem GW.rgQ (h : GW w0 B KP KQ pb qb lb lv L mb mv M xb tv wv W) (b : Nat) (sil : Bool) : RG (SP b mb mv sil) W W (lo mb sil) M := by
  cases sil with
  | true => exact trivial
  | false => exact ⟨.inr ⟨rfl, .inl rfl⟩, mv, h.m, fun g hg _ => .inr ⟨rfl, .inr hg⟩⟩
theorem GW.noP (h : GW w0 B KP KQ pb qb lb lv L mb mv M xb tv wv W) (hk3 : k < 3) (hn : KP k ≠ none) (j : Nat) (hj : j < B) : ¬ SP (pb k) lb lv sil j := by
  rintro (e | ⟨_, e | e⟩)
  · have := (h.sp k hk3).2 hn; omega
  · have := h.lB; omega
  · have := h.lg j e; omega
theorem GW.noQ (h : GW w0 B KP KQ pb qb lb lv L mb mv M xb tv wv W) (hk3 : k < 3) (hn : KQ k ≠ none) (j : Nat) (hj : j < B) : ¬ SP (qb k) mb mv sil j := by
  rintro (e | ⟨_, e | e⟩)
  · have := (h.sq k hk3).2 hn; omega
  · have := h.mB; omega
  · have := h.mg j e; omega
/-- Behind a call on the program's sponge k. -/
theorem GW.afterP (h : GW w0 B KP KQ pb qb lb lv L mb mv M xb tv wv W) (hk3 : k < 3) (hn : KP k ≠ none) (hx : x' ≠ none) (hk : Kp (SP (pb k) lb lv sil) W W') (hs : IsP W' (pb k) x') (hl : LG (SP (pb k) lb lv sil) W W' (lo lb sil) L') :
    ∃ lv', GW w0 B (upd KP k x') KQ pb qb lb lv' (sel sil L L') mb mv M xb tv wv W' ∧ Kx W W' := by
  have hS : ∀ j, SP (pb k) lb lv sil j → j = pb k ∨ j = lb ∨ lv.ownBlock = some j := fun j hj => hj.imp id (fun e => e.2)
  cases sil with
  | true =>
    obtain ⟨cb, hcb⟩ := (h.sp k hk3).1.blk hn
    have hl' : Led W' lb lv L := h.l.kept hk (fun e => by
      rcases e with e | ⟨e, _⟩
      · exact Blk.ne h.l.blk hcb (by decide) e
      · cases e) (fun g hg e => by
      rcases e with e | ⟨e, _⟩
      · obtain ⟨c, hc⟩ := run_blk h.l.own hg; exact Blk.ne hc hcb (by decide) e
      · cases e)
    obtain ⟨hG, hK⟩ := h.turnP hk3 hn hx hS hk hs hl' (fun g hg _ => .inr hg)
    exact ⟨lv, hG, fun g cs t hb h1 _ h3 _ h5 => hK g cs t hb h1 h3 h5⟩
  | false =>
    obtain ⟨_, lv', hl', ho'⟩ := hl
    obtain ⟨hG, hK⟩ := h.turnP hk3 hn hx hS hk hs hl' (fun g hg hlt => .inl (ho' g hg hlt))
    exact ⟨lv', hG, fun g cs t hb h1 _ h3 _ h5 => hK g cs t hb h1 h3 h5⟩
theorem GW.afterQ (h : GW w0 B KP KQ pb qb lb lv L mb mv M xb tv wv W) (hk3 : k < 3) (hn : KQ k ≠ none) (hx : x' ≠ none) (hk : Kp (SP (qb k) mb mv sil) W W') (hs : IsQ W' (qb k) x') (hl : RG (SP (qb k) mb mv sil) W W' (lo mb sil) L') :
    ∃ mv', GW w0 B KP (upd KQ k x') pb qb lb lv L mb mv' (sel sil M L') xb tv wv W' ∧ Kx W W' := by
  have hS : ∀ j, SP (qb k) mb mv sil j → j = qb k ∨ j = mb ∨ mv.ownBlock = some j := fun j hj => hj.imp id (fun e => e.2)
  cases sil with
  | true =>
    obtain ⟨cb, hcb⟩ := (h.sq k hk3).1.blk hn
    have hl' : RLed W' mb mv M := h.m.kept hk (fun e => by
      rcases e with e | ⟨e, _⟩
      · exact Blk.ne h.m.blk hcb (by decide) e
      · cases e) (fun g hg e => by
      rcases e with e | ⟨e, _⟩
      · obtain ⟨c, hc⟩ := run_blk h.m.own hg; exact Blk.ne hc hcb (by decide) e
      · cases e)
    obtain ⟨hG, hK⟩ := h.turnQ hk3 hn hx hS hk hs hl' (fun g hg _ => .inr hg)
    exact ⟨mv, hG, fun g cs t hb _ h2 _ h4 h5 => hK g cs t hb h2 h4 h5⟩
  | false =>
    obtain ⟨_, mv', hl', ho'⟩ := hl
    obtain ⟨hG, hK⟩ := h.turnQ hk3 hn hx hS hk hs hl' (fun g hg hlt => .inl (ho' g hg hlt))
    exact ⟨mv', hG, fun g cs t hb _ h2 _ h4 h5 => hK g cs t hb h2 h4 h5⟩
/-- No sponge at an entry. -/
theorem GW.noneP (h : GW w0 B KP KQ pb qb lb lv L mb mv M xb tv wv W) (hk3 : k < 3) (hn : KP k = none ∨ KP k = some none) : NoP W (ptr (pb k) (KP k)) := by
  have h1 := (h.sp k hk3).1
  rcases hn with e | e
  · rw [e]; exact .inl rfl
  · rw [e] at h1 ⊢; exact .inr ⟨_, rfl, h1⟩
theorem GW.noneQ (h : GW w0 B KP KQ pb qb lb lv L mb mv M xb tv wv W) (hk3 : k < 3) (hn : KQ k = none ∨ KQ k = some none) : NoR W (ptr (qb k) (KQ k)) := by
  have h1 := (h.sq k hk3).1
  rcases hn with e | e
  · rw [e]; exact .inl rfl
  · rw [e] at h1 ⊢; exact .inr ⟨_, rfl, h1⟩
theorem GW.writeP (h : GW w0 B KP KQ pb qb lb lv L mb mv M xb tv wv W) (hk3 : k < 3) (sil : Bool) (n : Nat) (v : Value) (g : Nat → Int) (hr : ∀ w', Below B w0 w' → Kx W w' → By.RB w' v n g) (hmn : n ≤ 9000000) (hroom : Big L) :
    Calls Tryd.prog 22 #[ptr (pb k) (KP k), lpv (lo lb sil), v] W fun e w' => ∃ lv', e = .returned (.int .i64 (wrC (KP k))) ∧ GW w0 B (upd KP k (wrK g n (KP k))) KQ pb qb lb lv' (sel sil L (evk L (wrN g n (KP k)))) mb mv M xb tv wv w' ∧ Kx W w' := by
  have same : wrK g n (KP k) = KP k → wrN g n (KP k) = 0 → ∃ lv', GW w0 B (upd KP k (wrK g n (KP k))) KQ pb qb lb lv' (sel sil L (evk L (wrN g n (KP k)))) mb mv M xb tv wv W ∧ Kx W W := fun e1 e2 => by
    rw [e1, e2, upd_self, show evk L 0 = L from rfl, sel_same]; exact ⟨lv, h, Kx.refl _⟩
  match e : KP k with
  | none =>
    rw [e] at same
    refine ((e ▸ h.noneP hk3 (.inl e) : NoP W (ptr (pb k) none)).write v _).mono ?_
    rintro e' w' ⟨rfl, rfl⟩
    obtain ⟨lv', hG, hK⟩ := same rfl rfl
    exact ⟨lv', rfl, hG, hK⟩
  | some none =>
    rw [e] at same
    refine ((e ▸ h.noneP hk3 (.inr e) : NoP W (ptr (pb k) (some none))).write v _).mono ?_
    rintro e' w' ⟨rfl, rfl⟩
    obtain ⟨lv', hG, hK⟩ := same rfl rfl
    exact ⟨lv', rfl, hG, hK⟩
  | some (some (r, sf, z, true)) =>
    rw [e] at same
    have hs : Sp W (pb k) r sf z true := by have := (h.sp k hk3).1; rw [e] at this; exact this
    refine (write_shut (pb k) r sf z v _ W hs).mono ?_
    rintro e' w' ⟨rfl, rfl⟩
    obtain ⟨lv', hG, hK⟩ := same rfl rfl
    exact ⟨lv', rfl, hG, hK⟩
  | some (some (r, sf, z, false)) =>
    have hn : KP k ≠ none := by rw [e]; simp
    have hs : Sp W (pb k) r sf z false := by have := (h.sp k hk3).1; rw [e] at this; exact this
    have hB := h.h0
    refine (write_sp (pb k) r n sf v z g (lo lb sil) L (SP (pb k) lb lv sil) W hs h.kt (h.noP hk3 hn 0 (by omega)) (h.noP hk3 hn 1 (by omega)) (.inl rfl) (h.lgP _ sil) h.l.pos (fun w' hk => hr w' (h.bel.trans (hk.below h.hB (fun j hj => h.noP hk3 hn j hj))) ?_) hmn hroom).mono ?_
    · obtain ⟨cb, hcb⟩ := (h.sp k hk3).1.blk hn
      intro g' cs t hb h1 h2 h3 h4 h5
      refine hb.kept hk (fun e1 => ?_)
      rcases e1 with e1 | ⟨_, e1 | e1⟩
      · exact Blk.ne hb hcb h1 e1
      · exact Blk.ne hb h.l.blk h3 e1
      · obtain ⟨c, hc⟩ := run_blk h.l.own e1; exact Blk.ne hb hc h5 rfl
    · rintro e' w' ⟨rfl, hs', hl', hk'⟩
      obtain ⟨lv', hG, hK⟩ := h.afterP (x' := some (some (r, sf, Z.ins r z g n, false))) hk3 hn (by simp) hk' hs' hl'
      exact ⟨lv', rfl, hG, hK⟩
end
end Go.Proofs.YtnbmnpfpjhpifaaDoor.Kc
