/- Three states on either side: the calls, at none and at a state. Three states on either side: the document's calls, at none and at a state. The record's two lists of what was told, gone on with; the helper keep. The helper act: what both sides hold between two calls. A state is put into the record in place of another one. -/
import Derived.Test.YtojldjckpjokcaaGreatDoorZgc
import Derived.Deep.RegionHeld3
namespace Go.Proofs.YtojldjckpjokcaaGreatDoor.Dg
open Go.ChangeShapes Go.WideShapes Go.ChangeAt Go.RowKit
open Go.Proofs.YtojldjckpjokcaaGreatDoor.By
open Go.Proofs.YtojldjckpjokcaaGreatDoor.Sh (Blk size_alloc)
/-- What a call answers, what it makes of a state, how often it records. -/
def wrC : SK → Int | some _ => 0 | none => 1
def wrK (g : Nat → Int) (n : Nat) : SK → SK | some (m, f) => some (m + n, cat m f g) | none => none
def wrN (a : Bool) (n : Nat) : SK → Nat | some (m, _) => (m + n) / bk a - m / bk a | none => 0
def suN (a : Bool) : SK → Nat | some (m, _) => last a m | none => 0
def suM (a : Bool) : SK → Nat | some _ => sz a | none => 0
def suF (a : Bool) : SK → Nat → Int | some (m, f) => dig a m f | none => fun _ => 0
def wiL (a : Bool) (L : List Rn) : SK → List Rn | some _ => putL L ⟨8, fmn a, 1⟩ | none => L
def fmM (a : Bool) : SK → Nat | some _ => fmn a | none => 0
def fmF (a : Bool) : SK → Nat → Int | some (m, f) => formf a m f | none => fun _ => 0
def cnK (a : Bool) : SK → KD | some x => some (a, some x) | none => none
def ml : SK → Nat | some (m, _) => m | none => 0
theorem evs0 (a : Bool) (L : List Rn) : evs a L 0 = L := by cases a <;> rfl
/-- The document's states stay. -/
def Kr (W W' : World) : Prop := ∀ g cs a, Blk W g cs (tyR a) → Blk W' g cs (tyR a)
theorem Kr.refl (W : World) : Kr W W := fun _ _ _ h => h
/-- No message of the document's lies in a block. -/
def Av (W : World) (K : Nat → KD) (qb : Nat → Nat) (g : Nat) : Prop := ∀ i, i < 3 → ∀ a m f, K i = some (a, some (m, f)) → ∀ v cs, Blk W (qb i) (v :: cs) (tyR a) → v.ownBlock ≠ some g
theorem blk_same {W : World} {g : Nat} {c d : List Value} {t : TypeId} (h : Blk W g c t) (k : Blk W g d t) : c = d := by
  have h1 : W.heap[g]? = some (.cells c.toArray t (0, 0)) := h
  have h2 : W.heap[g]? = some (.cells d.toArray t (0, 0)) := k
  rw [h1] at h2
  simpa using h2
section
variable {w0 W W' : World} {B : Nat} {KP KQ : Nat → KD} {pb rb qb : Nat → Nat} {lb mb xb : Nat} {lv mv tv wv : Value} {L M L' : List Rn} {k : Nat} {a : Bool} {sk sk' : SK}
theorem own0 (W : World) (b : Nat) : By.Own W b (.slice none 0 0) 0 (fun _ => 0) := own_nil _ _ _ (fun _ => (by show (0 : Int) ≤ 0 ∧ (0 : Int) < 256; decide))
theorem GW.at (h : GW w0 B KP KQ pb rb qb lb lv L mb mv M xb tv wv W) (hk3 : k < 3) (e : KP k = some (a, sk)) : IsD W (pb k) a sk := by have := (h.sp k hk3).1; rw [e] at this; exact this
theorem GW.atQ (h : GW w0 B KP KQ pb rb qb lb lv L mb mv M xb tv wv W) (hk3 : k < 3) (e : KQ k = some (a, sk)) : Blk W (rb k) (rcell (qb k) a) 92 ∧ IsE W (qb k) a sk := by have := (h.sq k hk3).1; rw [e] at this; exact this
theorem GW.noP (h : GW w0 B KP KQ pb rb qb lb lv L mb mv M xb tv wv W) (hk3 : k < 3) (hn : KP k ≠ none) (j : Nat) (hj : j < B) : ¬ SD (pb k) lb lv j := by
  rintro (e | e | e)
  · have := (h.sp k hk3).2 hn; omega
  · have := h.lB; omega
  · have := h.lg j e; omega
theorem GW.afterP (h : GW w0 B KP KQ pb rb qb lb lv L mb mv M xb tv wv W) (hk3 : k < 3) (e : KP k = some (a, sk)) (hk : Kp (SD (pb k) lb lv) W W') (hs : IsD W' (pb k) a sk') (hl : LG (SD (pb k) lb lv) W W' (some lb) L') :
    ∃ lv', GW w0 B (upd KP k (some (a, sk'))) KQ pb rb qb lb lv' L' mb mv M xb tv wv W' ∧ Kx W W' ∧ Kr W W' := by
  obtain ⟨_, lv', hl', ho'⟩ := hl
  have hn : KP k ≠ none := by rw [e]; simp
  obtain ⟨hG, hK, hR⟩ := h.turnP (x' := some (a, sk')) hk3 hn (by rw [e]; rfl) (fun j hj => hj) hk hs hl' (fun g hg hlt => .inl (ho' g hg hlt))
  exact ⟨lv', hG, hK, hR⟩
theorem GW.kxP (h : GW w0 B KP KQ pb rb qb lb lv L mb mv M xb tv wv W) (hk3 : k < 3) (hn : KP k ≠ none) (hk : Kp (SD (pb k) lb lv) W W') : Kx W W' := by
  obtain ⟨a0, cb, hcb⟩ := (h.sp k hk3).1.blk hn
  intro g' cs t hb ht
  refine hb.kept hk (fun e1 => ?_)
  rcases e1 with e1 | e1 | e1
  · exact Sh.Blk.ne hb hcb (tyS_ne a0 t (.inl ht)) e1
  · exact Sh.Blk.ne hb (led_blk h.l) ht.2.2.2.2.1 e1
  · obtain ⟨c, hc⟩ := run_blk h.l.own e1; exact Sh.Blk.ne hb hc ht.2.2.2.2.2.2 rfl
theorem GW.writeP (h : GW w0 B KP KQ pb rb qb lb lv L mb mv M xb tv wv W) (hk3 : k < 3) (e : KP k = some (a, sk)) (n : Nat) (v : Value) (g : Nat → Int) (hr : ∀ w', Below B w0 w' → Kx W w' → By.RB w' v n g) (hmn : ml sk + n ≤ 900000) (hroom : tot L ≤ 100000) :
    Calls Tryz.prog (fWrite a) #[.pointer (some ⟨pb k, 0, none⟩), .pointer (some ⟨lb, 0, none⟩), v] W fun e w' => ∃ lv', e = .returned (.int .i64 (wrC sk)) ∧ GW w0 B (upd KP k (some (a, wrK g n sk))) KQ pb rb qb lb lv' (evs a L (wrN a n sk)) mb mv M xb tv wv w' ∧ Kx W w' ∧ Kr W w' := by
  have hn : KP k ≠ none := by rw [e]; simp
  match sk, e, hmn with
  | none, e, _ =>
    refine (dwriteN a (pb k) v _ W (h.at hk3 e)).mono ?_
    rintro e' w' ⟨rfl, rfl⟩
    refine ⟨lv, rfl, ?_, Kx.refl _, Kr.refl _⟩
    show GW w0 B (upd KP k (some (a, none))) KQ pb rb qb lb lv (evs a L 0) mb mv M xb tv wv w'
    rw [← e, upd_self, evs0]; exact h
  | some (m, f), e, hmn =>
    refine (dwrite a (pb k) m n v f g (some lb) L (SD (pb k) lb lv) W (h.at hk3 e) h.kt (h.noP hk3 hn 0 (by have := h.h0; omega)) (h.noP hk3 hn 1 h.h0) (.inl rfl) ⟨.inr (.inl rfl), lv, h.l, fun g hg _ => .inr (.inr hg)⟩ h.l.pos (fun w' hk => hr w' (h.bel.trans (hk.below h.hB (fun j hj => h.noP hk3 hn j hj))) (h.kxP hk3 hn hk)) (by have : m + n ≤ 900000 := hmn; omega) hroom).mono ?_
    rintro e' w' ⟨rfl, hs', hl', hk'⟩
    obtain ⟨lv', hG, hK⟩ := h.afterP hk3 e hk' hs' hl'
    exact ⟨lv', rfl, hG, hK⟩
theorem GW.wipeP (h : GW w0 B KP KQ pb rb qb lb lv L mb mv M xb tv wv W) (hk3 : k < 3) (e : KP k = some (a, sk)) (hroom : tot L ≤ 100000) :
    Calls Tryz.prog (fWipe a) #[.pointer (some ⟨pb k, 0, none⟩), .pointer (some ⟨lb, 0, none⟩)] W fun e w' => ∃ lv', e = .returned (.int .i64 (wrC sk)) ∧ GW w0 B (upd KP k (some (a, none))) KQ pb rb qb lb lv' (wiL a L sk) mb mv M xb tv wv w' ∧ Kx W w' ∧ Kr W w' := by
  match sk, e with
  | none, e =>
    refine (dwipeN a (pb k) _ W (h.at hk3 e)).mono ?_
    rintro e' w' ⟨rfl, rfl⟩
    refine ⟨lv, rfl, ?_, Kx.refl _, Kr.refl _⟩
    rw [← e, upd_self]; exact h
  | some (m, f), e =>
    refine (dwipe a (pb k) m f (some lb) L (SD (pb k) lb lv) W (h.at hk3 e) (.inl rfl) ⟨.inr (.inl rfl), lv, h.l, fun g hg _ => .inr (.inr hg)⟩ h.l.pos hroom).mono ?_
    rintro e' w' ⟨rfl, hs', hl', hk'⟩
    obtain ⟨lv', hG, hK⟩ := h.afterP hk3 e hk' hs' hl'
    exact ⟨lv', rfl, hG, hK⟩
theorem GW.sumP (h : GW w0 B KP KQ pb rb qb lb lv L mb mv M xb tv wv W) (hk3 : k < 3) (e : KP k = some (a, sk)) (hm : ml sk ≤ 900000) (hroom : tot L ≤ 100000) :
    Calls Tryz.prog (fSumS a) #[.pointer (some ⟨pb k, 0, none⟩), .pointer (some ⟨lb, 0, none⟩)] W fun e w' => ∃ v lv', e = .returned (.tuple #[v, .int .i64 (wrC sk)]) ∧ By.Own w' W.heap.size v (suM a sk) (suF a sk) ∧ GW w0 B KP KQ pb rb qb lb lv' (evs a L (suN a sk)) mb mv M xb tv wv w' ∧ Kx W w' ∧ Kr W w' := by
  have hn : KP k ≠ none := by rw [e]; simp
  match sk, e, hm with
  | none, e, _ =>
    refine (dsumN a (pb k) _ W (h.at hk3 e)).mono ?_
    rintro e' w' ⟨rfl, rfl⟩
    refine ⟨_, lv, rfl, own0 _ _, ?_, Kx.refl _, Kr.refl _⟩
    show GW w0 B KP KQ pb rb qb lb lv (evs a L 0) mb mv M xb tv wv w'
    rw [evs0]; exact h
  | some (m, f), e, hm =>
    refine (dsum a (pb k) m f (some lb) L (fun j => j = lb ∨ lv.ownBlock = some j) W (h.at hk3 e) h.kt (fun e1 => h.noP hk3 hn 0 (by have := h.h0; omega) (.inr e1)) (fun e1 => h.noP hk3 hn 1 h.h0 (.inr e1)) ⟨.inl rfl, lv, h.l, fun g hg _ => .inr hg⟩ h.l.pos hm hroom).mono ?_
    rintro e' w' ⟨v, rfl, ho, ⟨_, rv', hl', ho'⟩, hk'⟩
    have hs' : IsD w' (pb k) a (some (m, f)) := (h.at hk3 e).kept hk' (by
      obtain ⟨cb, hcb⟩ := (h.at hk3 e).blk
      rintro (e1 | e1)
      · exact Sh.Blk.ne hcb (led_blk h.l) (tyS_led a).1 e1
      · obtain ⟨c, hc⟩ := run_blk h.l.own e1; exact Sh.Blk.ne hcb hc (tyS_led a).2.1 rfl)
    obtain ⟨lv', hG, hK⟩ := h.afterP (sk' := some (m, f)) hk3 e (hk'.mono (fun j _ e => .inr e)) hs' ⟨.inr (.inl rfl), rv', hl', fun g hg hlt => .inr (ho' g hg hlt)⟩
    rw [← e, upd_self] at hG
    exact ⟨v, lv', rfl, ho, hG, hK⟩
theorem GW.formP (h : GW w0 B KP KQ pb rb qb lb lv L mb mv M xb tv wv W) (hk3 : k < 3) (e : KP k = some (a, sk)) :
    Calls Tryz.prog (fForm a) #[.pointer (some ⟨pb k, 0, none⟩)] W fun e w' => ∃ v, e = .returned v ∧ By.Own w' W.heap.size v (fmM a sk) (fmF a sk) ∧ Below W.heap.size W w' := by
  match sk, e with
  | none, e =>
    refine (dformN a (pb k) W (h.at hk3 e)).mono ?_
    rintro e' w' ⟨rfl, rfl⟩
    exact ⟨_, rfl, own0 _ _, Below.refl _ _⟩
  | some (m, f), e => exact dform a (pb k) m f W (h.at hk3 e)
theorem GW.copyP (h : GW w0 B KP KQ pb rb qb lb lv L mb mv M xb tv wv W) (hk3 : k < 3) (e : KP k = some (a, sk)) :
    Calls Tryz.prog (fCopy a) #[.agg #[.pointer (some ⟨pb k, 0, none⟩)]] W fun e w' => ∃ c, W.heap.size ≤ c ∧ e = .returned (pvl c (cnK a sk)) ∧ IsP w' c (cnK a sk) ∧ Below W.heap.size W w' := by
  match sk, e with
  | none, e =>
    refine (dcopyN a (pb k) W (h.at hk3 e)).mono ?_
    rintro e' w' ⟨rfl, hb⟩
    exact ⟨W.heap.size, Nat.le_refl _, rfl, trivial, hb⟩
  | some (m, f), e => exact dcopy a (pb k) m f W (h.at hk3 e)
/-- Behind a call on the document's state k. -/
theorem GW.afterQ (h : GW w0 B KP KQ pb rb qb lb lv L mb mv M xb tv wv W) (hk3 : k < 3) (e : KQ k = some (a, sk)) (hk : Kp (SD (qb k) mb mv) W W') (hs : IsE W' (qb k) a sk') (hl : ∃ rv', RLed W' mb rv' L' ∧ SameOrNew W mv rv') :
    ∃ mv', GW w0 B KP (upd KQ k (some (a, sk'))) pb rb qb lb lv L mb mv' L' xb tv wv W' ∧ Kx W W' := by
  obtain ⟨mv', hl', ho'⟩ := hl
  have hn : KQ k ≠ none := by rw [e]; simp
  have hr : Blk W' (rb k) (rcell (qb k) a) 92 := (h.atQ hk3 e).1.kept hk (by
    obtain ⟨cb, hcb⟩ := (h.atQ hk3 e).2.blk
    rintro (e1 | e1 | e1)
    · exact Sh.Blk.ne (h.atQ hk3 e).1 hcb (tyR_ne a _ (.inl (by decide))) e1
    · exact Sh.Blk.ne (h.atQ hk3 e).1 (rled_blk h.m) (by decide) e1
    · obtain ⟨c, hc⟩ := run_blk h.m.own e1; exact Sh.Blk.ne (h.atQ hk3 e).1 hc (by decide) rfl)
  obtain ⟨hG, hK⟩ := h.turnQ (x' := some (a, sk')) hk3 hn (by rw [e]; rfl) (fun j hj => hj) hk ⟨hr, hs⟩ hl' (fun g hg hlt => by
    rcases ho' with e1 | e1
    · rw [e1] at hg; exact .inr hg
    · have := e1 g hg; omega)
  exact ⟨mv', hG, hK⟩
end
end Go.Proofs.YtojldjckpjokcaaGreatDoor.Dg
namespace Go.Proofs.YtojldjckpjokcaaGreatDoor.Dg
open Go.ChangeShapes Go.WideShapes Go.ChangeAt Go.RowKit
open Go.Proofs.YtojldjckpjokcaaGreatDoor.By
open Go.Proofs.YtojldjckpjokcaaGreatDoor.Sh (Blk size_alloc)
section
variable {w0 W W' : World} {B : Nat} {KP KQ : Nat → KD} {pb rb qb : Nat → Nat} {lb mb xb : Nat} {lv mv tv wv : Value} {L M L' : List Rn} {k : Nat} {a : Bool} {sk sk' : SK}
theorem Av.kr {K : Nat → KD} {g : Nat} (h : Av W K qb g) (hq : ∀ i, i < 3 → IsQ W (rb i) (qb i) (K i)) (hk : Kr W W') : Av W' K qb g := fun i hi a m f e v cs hb => by
  have := hq i hi
  rw [e] at this
  obtain ⟨c, hc⟩ := this.2.blk
  have e1 := blk_same hb (hk _ _ _ hc)
  rw [← e1] at hc
  exact h i hi a m f e v cs hc
theorem GW.noQ (h : GW w0 B KP KQ pb rb qb lb lv L mb mv M xb tv wv W) {i : Nat} (hi : i < 3) (hin : KQ i ≠ none) (hk3 : k < 3) (hn : KQ k ≠ none) (ei : i ≠ k) : ¬ SD (qb k) mb mv (qb i) := by
  obtain ⟨ai, ci, hci⟩ := (h.sq i hi).1.blk hin
  rintro (e4 | e4 | e4)
  · exact (h.qn i k hi hk3 ei hin hn).1 e4
  · exact Sh.Blk.ne hci (rled_blk h.m) (tyR_led ai).2.2 e4
  · obtain ⟨c, hc⟩ := run_blk h.m.own e4; exact Sh.Blk.ne hci hc (tyR_led ai).2.1 rfl
theorem GW.writeQ (h : GW w0 B KP KQ pb rb qb lb lv L mb mv M xb tv wv W) (hk3 : k < 3) (e : KQ k = some (a, sk)) (n : Nat) (v : Value) (g : Nat → Int) (hr : ∀ w', Below B w0 w' → Kx W w' → By.RB w' v n g) (hmn : ml sk + n ≤ 900000) (hroom : tot M ≤ 100000) :
    Calls Tryz.prog 26 #[.pointer (some ⟨rb k, 0, none⟩), .pointer (some ⟨mb, 0, none⟩), v] W fun e w' => ∃ mv', e = .returned (.int .i64 (wrC sk)) ∧ GW w0 B KP (upd KQ k (some (a, wrK g n sk))) pb rb qb lb lv L mb mv' (evs a M (wrN a n sk)) xb tv wv w' ∧ Kx W w' ∧ ∀ c, c < W.heap.size → Av W KQ qb c → Av w' (upd KQ k (some (a, wrK g n sk))) qb c := by
  have hn : KQ k ≠ none := by rw [e]; simp
  match sk, e, hmn with
  | none, e, _ =>
    have hc : Calls Tryz.prog 26 #[.pointer (some ⟨rb k, 0, none⟩), .pointer (some ⟨mb, 0, none⟩), v] W fun e w' => e = .returned (.int .i64 1) ∧ w' = W := by
      obtain ⟨h1, h2⟩ := h.atQ hk3 e
      cases a
      · exact wwriteN256 _ _ _ _ W h1 h2
      · exact wwriteN512 _ _ _ _ W h1 h2
    refine hc.mono ?_
    rintro e' w' ⟨rfl, rfl⟩
    have eu : upd KQ k (some (a, wrK g n none)) = KQ := by show upd KQ k (some (a, none)) = KQ; rw [← e, upd_self]
    rw [eu]
    refine ⟨mv, rfl, ?_, Kx.refl _, fun c _ hc => hc⟩
    show GW w0 B KP KQ pb rb qb lb lv L mb mv (evs a M 0) xb tv wv w'
    rw [evs0]; exact h
  | some (m, f), e, hmn =>
    have hc : Calls Tryz.prog 26 #[.pointer (some ⟨rb k, 0, none⟩), .pointer (some ⟨mb, 0, none⟩), v] W fun e w' => e = .returned (.int .i64 0) ∧ IsE w' (qb k) a (some (m + n, cat m f g)) ∧ (∃ rv', RLed w' mb rv' (evs a M ((m + n) / bk a - m / bk a)) ∧ SameOrNew W mv rv') ∧ Kp (SD (qb k) mb mv) W w' ∧ Frs W w' (qb k) a := by
      obtain ⟨h1, h2⟩ := h.atQ hk3 e
      have hr' : ∀ w', Below W.heap.size W w' → By.RB w' v n g := fun w' hb => hr w' (h.bel.trans (hb.mono h.hB)) (Kx.below hb)
      cases a
      · exact wwrite256 _ _ m n mb f g v mv M W h1 h2 h.m hroom hr' hmn
      · exact wwrite512 _ _ m n mb f g v mv M W h1 h2 h.m hroom hr' hmn
    refine hc.mono ?_
    rintro e' w' ⟨rfl, hs', hl', hk', hf⟩
    obtain ⟨mv', hG, hK⟩ := h.afterQ hk3 e hk' hs' hl'
    refine ⟨mv', rfl, hG, hK, fun c hc hav i hi a' m' f' e1 v' cs hb hv => ?_⟩
    by_cases ei : i = k
    · subst ei
      have e1' : some (a, wrK g n (some (m, f))) = some (a', some (m', f')) := by rw [upd_at] at e1; exact e1
      have ea : a = a' := Option.some.inj (show some a = some a' from congrArg alg e1')
      subst ea
      have := hf v' cs hb c hv
      omega
    · rw [upd_ne _ _ _ _ ei] at e1
      have hin : KQ i ≠ none := by rw [e1]; simp
      obtain ⟨_, h2⟩ := h.atQ hi e1
      obtain ⟨ci, hci⟩ := h2.blk
      have hck : Blk w' (qb i) ci (tyR a') := hci.kept hk' (h.noQ hi hin hk3 hn ei)
      rw [← blk_same hb hck] at hci
      exact hav i hi a' m' f' e1 v' cs hci hv
theorem GW.wipeQ (h : GW w0 B KP KQ pb rb qb lb lv L mb mv M xb tv wv W) (hk3 : k < 3) (e : KQ k = some (a, sk)) (hroom : tot M ≤ 100000) :
    Calls Tryz.prog 31 #[.pointer (some ⟨rb k, 0, none⟩), .pointer (some ⟨mb, 0, none⟩)] W fun e w' => ∃ mv', e = .returned (.int .i64 (wrC sk)) ∧ GW w0 B KP (upd KQ k (some (a, none))) pb rb qb lb lv L mb mv' (wiL a M sk) xb tv wv w' ∧ Kx W w' := by
  match sk, e with
  | none, e =>
    have hc : Calls Tryz.prog 31 #[.pointer (some ⟨rb k, 0, none⟩), .pointer (some ⟨mb, 0, none⟩)] W fun e w' => e = .returned (.int .i64 1) ∧ w' = W := by
      obtain ⟨h1, h2⟩ := h.atQ hk3 e
      cases a
      · exact wwipeN256 _ _ _ W h1 h2
      · exact wwipeN512 _ _ _ W h1 h2
    refine hc.mono ?_
    rintro e' w' ⟨rfl, rfl⟩
    refine ⟨mv, rfl, ?_, Kx.refl _⟩
    rw [← e, upd_self]; exact h
  | some (m, f), e =>
    have hc : Calls Tryz.prog 31 #[.pointer (some ⟨rb k, 0, none⟩), .pointer (some ⟨mb, 0, none⟩)] W fun e w' => e = .returned (.int .i64 0) ∧ IsE w' (qb k) a none ∧ (∃ rv', RLed w' mb rv' (putL M ⟨8, fmn a, 1⟩) ∧ SameOrNew W mv rv') ∧ Kp (SD (qb k) mb mv) W w' := by
      obtain ⟨h1, h2⟩ := h.atQ hk3 e
      cases a
      · exact wwipe256 _ _ m mb f mv M W h1 h2 h.m hroom
      · exact wwipe512 _ _ m mb f mv M W h1 h2 h.m hroom
    refine hc.mono ?_
    rintro e' w' ⟨rfl, hs', hl', hk'⟩
    obtain ⟨mv', hG, hK⟩ := h.afterQ hk3 e hk' hs' hl'
    exact ⟨mv', rfl, hG, hK⟩
theorem GW.sumQ (h : GW w0 B KP KQ pb rb qb lb lv L mb mv M xb tv wv W) (hk3 : k < 3) (e : KQ k = some (a, sk)) (hroom : tot M ≤ 100000) :
    Calls Tryz.prog 28 #[.pointer (some ⟨rb k, 0, none⟩), .pointer (some ⟨mb, 0, none⟩)] W fun e w' => ∃ v mv', e = .returned (.tuple #[v, .int .i64 (wrC sk)]) ∧ By.Own w' W.heap.size v (suM a sk) (suF a sk) ∧ GW w0 B KP KQ pb rb qb lb lv L mb mv' (evs a M (suN a sk)) xb tv wv w' ∧ Kx W w' := by
  match sk, e with
  | none, e =>
    have hc : Calls Tryz.prog 28 #[.pointer (some ⟨rb k, 0, none⟩), .pointer (some ⟨mb, 0, none⟩)] W fun e w' => e = .returned (.tuple #[.slice none 0 0, .int .i64 1]) ∧ w' = W := by
      obtain ⟨h1, h2⟩ := h.atQ hk3 e
      cases a
      · exact wsumN256 _ _ _ W h1 h2
      · exact wsumN512 _ _ _ W h1 h2
    refine hc.mono ?_
    rintro e' w' ⟨rfl, rfl⟩
    refine ⟨_, mv, rfl, own0 _ _, ?_, Kx.refl _⟩
    show GW w0 B KP KQ pb rb qb lb lv L mb mv (evs a M 0) xb tv wv w'
    rw [evs0]; exact h
  | some (m, f), e =>
    have hc : Calls Tryz.prog 28 #[.pointer (some ⟨rb k, 0, none⟩), .pointer (some ⟨mb, 0, none⟩)] W fun e w' => ∃ v, e = .returned (.tuple #[v, .int .i64 0]) ∧ By.Own w' W.heap.size v (sz a) (dig a m f) ∧ (∃ rv', RLed w' mb rv' (evs a M (last a m)) ∧ SameOrNew W mv rv') ∧ Kp (fun j => j = mb ∨ mv.ownBlock = some j) W w' := by
      obtain ⟨h1, h2⟩ := h.atQ hk3 e
      cases a
      · exact wsum256 _ _ m mb f mv M W h1 h2 h.m hroom
      · exact wsum512 _ _ m mb f mv M W h1 h2 h.m hroom
    refine hc.mono ?_
    rintro e' w' ⟨v, rfl, ho, hl', hk'⟩
    have hs' : IsE w' (qb k) a (some (m, f)) := (h.atQ hk3 e).2.kept hk' (by
      obtain ⟨cb, hcb⟩ := (h.atQ hk3 e).2.blk
      rintro (e1 | e1)
      · exact Sh.Blk.ne hcb (rled_blk h.m) (tyR_led a).2.2 e1
      · obtain ⟨c, hc⟩ := run_blk h.m.own e1; exact Sh.Blk.ne hcb hc (tyR_led a).2.1 rfl) (fun g cs hg e1 => by
      rcases e1 with e1 | e1
      · exact Sh.Blk.ne hg (rled_blk h.m) (by decide) e1
      · obtain ⟨c, hc⟩ := run_blk h.m.own e1; exact Sh.Blk.ne hg hc (by decide) rfl)
    obtain ⟨mv', hG, hK⟩ := h.afterQ (sk' := some (m, f)) hk3 e (hk'.mono (fun j _ e => .inr e)) hs' hl'
    rw [← e, upd_self] at hG
    exact ⟨v, mv', rfl, ho, hG, hK⟩
theorem GW.formQ (h : GW w0 B KP KQ pb rb qb lb lv L mb mv M xb tv wv W) (hk3 : k < 3) (e : KQ k = some (a, sk)) :
    Calls Tryz.prog 32 #[.pointer (some ⟨rb k, 0, none⟩)] W fun e w' => ∃ v, e = .returned v ∧ By.Own w' W.heap.size v (fmM a sk) (fmF a sk) ∧ Below W.heap.size W w' := by
  obtain ⟨h1, h2⟩ := h.atQ hk3 e
  match sk, h2 with
  | none, h2 =>
    have hc : Calls Tryz.prog 32 #[.pointer (some ⟨rb k, 0, none⟩)] W fun e w' => e = .returned (.slice none 0 0) ∧ w' = W := by
      cases a
      · exact wformN256 _ _ W h1 h2
      · exact wformN512 _ _ W h1 h2
    refine hc.mono ?_
    rintro e' w' ⟨rfl, rfl⟩
    exact ⟨_, rfl, own0 _ _, Below.refl _ _⟩
  | some (m, f), h2 =>
    cases a
    · exact wform256 _ _ m f W h1 h2
    · exact wform512 _ _ m f W h1 h2
theorem GW.copyQ (h : GW w0 B KP KQ pb rb qb lb lv L mb mv M xb tv wv W) (hk3 : k < 3) (e : KQ k = some (a, sk)) :
    Calls Tryz.prog 30 #[.pointer (some ⟨rb k, 0, none⟩)] W fun e w' => ∃ r' q', W.heap.size ≤ r' ∧ W.heap.size ≤ q' ∧ e = .returned (qvl r' (cnK a sk)) ∧ IsQ w' r' q' (cnK a sk) ∧ Below W.heap.size W w' := by
  obtain ⟨h1, h2⟩ := h.atQ hk3 e
  match sk, h2 with
  | none, h2 =>
    have hc : Calls Tryz.prog 30 #[.pointer (some ⟨rb k, 0, none⟩)] W fun e w' => e = .returned (.pointer none) ∧ w' = W := by
      cases a
      · exact wcopyN256 _ _ W h1 h2
      · exact wcopyN512 _ _ W h1 h2
    refine hc.mono ?_
    rintro e' w' ⟨rfl, rfl⟩
    exact ⟨w'.heap.size, w'.heap.size, Nat.le_refl _, Nat.le_refl _, rfl, trivial, Below.refl _ _⟩
  | some (m, f), h2 =>
    cases a
    · exact wcopy256 _ _ m f W h1 h2
    · exact wcopy512 _ _ m f W h1 h2
end
end Go.Proofs.YtojldjckpjokcaaGreatDoor.Dg
namespace Go.Proofs.YtojldjckpjokcaaGreatDoor.Dg
open Go.ChangeShapes Go.WideShapes Go.ChangeAt Go.RowKit
open Go.Proofs.YtojldjckpjokcaaGreatDoor.By
open Go.Proofs.YtojldjckpjokcaaGreatDoor.Sh (Blk size_alloc)
theorem wpList_pushG {w : World} {ops : Array Oper} {rest : List Oper} {o : Oper} {a : Act} {Q : Exit → Act → World → Prop} (t el : TypeId) (z : Value) (bytes : Nat) (hut : Tryz.prog.underlying t = some (.slice el)) (hinfo : (Tryz.prog.info? el).map (fun i => (i.zero, i.size, i.bytes)) = some (some z, 1, bytes)) (hz : z.cells.size = 1) (hby : bytes ≤ 24) (hgd : o.guard = none) (s x : Operand)
    (ho : o.op = .call { callee := .builtin .append, args := #[s, x], argTypes := #[t, t] })
    (base : Nat) (u : Value) (n : Nat) (T : List Value) (v : Value) (hu : w.ownsRow base el 1 u n T) (hv : v.oneCell' = true) (hb0 : base ≤ w.heap.size) (hN : n ≤ 10000000) (ad : Addr)
    (hs : a.eval s = u) (hx : a.eval x = .slice (some ad) 1 1) (hc : ∀ j u, [v][j]? = some u → w.cell? (ad.add j) = some u)
    (h : ∀ u' w', w'.ownsRow base el 1 u' (n + 1) (T ++ [v]) → Kp (fun k => u.ownBlock = some k) w w' → SameOrNew w u u' → wpList Tryz.prog ops Q rest (a.put o.dst u') w') : wpList Tryz.prog ops Q (o :: rest) a w := by
  obtain ⟨i0, hi, hz0, hz1, hz2⟩ := info_parts hinfo
  have h1 : ∀ u ∈ [v], u.oneCell' = true := fun u hu => by simp at hu; subst hu; exact hv
  have hNb : (n + 1) * bytes ≤ 140737488355328 := by have := Nat.mul_le_mul (show n + 1 ≤ 10000001 by omega) hby; omega
  have grows : ∀ (ao : Option Addr) (cap : Nat), u = .slice ao n cap → (ao = none → n = 0 ∧ cap = 0) → (∀ b, ao = some b → ∀ j v, T[j]? = some v → w.cell? (b.add j) = some v) → cap < n + 1 →
      wpList Tryz.prog ops Q (o :: rest) a w := by
    intro ao cap hu' hnone hcells hcap
    refine wpList_append_grows _ hgd s x t ho el i0 z 1 bytes hut hi hz0 hz1 hz2 hz (by decide) ao n cap T (hs.trans hu') hnone hu.1 hcells ad 1 1 [v] hx rfl hc h1 hcap (by simp [maxLen]; omega) hNb ?_
    intro u' w' hown hgr
    refine h u' w' ⟨hown.1, ?_⟩ ((Kp.of_grown hgr).mono fun k _ e => by cases e) (.inr fun g hg => (hown.lt g hg).1)
    rcases hown.2 with h' | ⟨g, c, cur, e1, e2, e3⟩
    · exact .inl h'
    · exact .inr ⟨g, c, cur, e1, by omega, e3⟩
  rcases hu.2 with ⟨hun, hn0⟩ | ⟨g, cap, cur, hun, hgb, hg, hnc, hcm, hcs, ht⟩
  · subst hn0
    exact grows none 0 hun (fun _ => ⟨rfl, rfl⟩) (fun b hb => by cases hb) (by simp)
  · by_cases hcap : n + 1 ≤ cap
    · subst hun
      refine wpList_append_fits _ hgd s x t ho base el i0 1 hut hi hz1 g n cap T hs hu ad 1 1 [v] hx rfl hc h1 hcap ?_
      intro w' hown hgr
      exact h _ w' hown (Kp.of_grown hgr) (.inl rfl)
    · subst hun
      refine grows (some ⟨g, 0, none⟩) cap rfl (fun h => by cases h) (fun b hb => ?_) (by omega)
      cases hb
      exact hu.cells rfl
theorem cell_newG (w : World) (v : Value) (t : TypeId) (g : Nat) (hg : g = w.heap.size) : ∀ j u, [v][j]? = some u → (w.alloc (.cells #[v] t)).cell? ((⟨g, 0, none⟩ : Addr).add j) = some u := by
  subst hg
  have h := World.ownsRow_lit (base := 0) (e := t) (size := 1) w #[v] 1 (Nat.zero_le _) (by simp [maxLen]) rfl
  exact h.cells rfl
theorem infoY : (Tryz.prog.info? 41).map (fun i => (i.zero, i.size, i.bytes)) = some (some (.slice none 0 0), 1, 24) := by kernel_rfl
theorem rowG_type {w : World} {base n g : Nat} {v : Value} {e : TypeId} {xs : List Value} (h : w.ownsRow base e 1 v n xs) (hg : v.ownBlock = some g) : ∃ cs, Blk w g cs e ∧ base ≤ g := by
  obtain ⟨_, h' | ⟨g', cap, cur, e', hb, hc, _⟩⟩ := h
  · rw [h'.1] at hg; simp [Value.ownBlock] at hg
  · rw [e'] at hg; simp [Value.ownBlock] at hg
    subst hg
    exact ⟨cur.toList, by show w.heap[g']? = _; rw [hc], hb⟩
theorem rowG_kept {w w' : World} {base n : Nat} {v : Value} {e : TypeId} {xs : List Value} {S : Nat → Prop} (h : w.ownsRow base e 1 v n xs) (hk : Kp S w w') (hne : ∀ g, v.ownBlock = some g → ¬ S g) : w'.ownsRow base e 1 v n xs := by
  obtain ⟨hl, h | ⟨g, cap, cur, rfl, hb, hc, h1, h2, h3, h4⟩⟩ := h
  · exact ⟨hl, .inl h⟩
  · refine ⟨hl, .inr ⟨g, cap, cur, rfl, hb, ?_, h1, h2, h3, h4⟩⟩
    rw [hk.block g (Array.getElem?_eq_some_iff.1 hc).1 (hne g rfl)]; exact hc
theorem rowG_ne {w : World} {B B' n n' : Nat} {v v' : Value} {e e' : TypeId} {xs xs' : List Value} (h : w.ownsRow B e 1 v n xs) (h' : w.ownsRow B' e' 1 v' n' xs') (hne : e ≠ e') : ∀ g, v.ownBlock = some g → v'.ownBlock ≠ some g := fun g hg hg' => by
  obtain ⟨c, hc, _⟩ := rowG_type h hg
  obtain ⟨c', hc', _⟩ := rowG_type h' hg'
  exact Sh.Blk.ne hc hc' hne rfl
theorem rowG_blk {w : World} {B n b : Nat} {v : Value} {e e' : TypeId} {xs cs : List Value} (h : w.ownsRow B e 1 v n xs) (hb : Blk w b cs e') (hne : e ≠ e') : ∀ g, v.ownBlock = some g → g ≠ b := fun g hg => by
  obtain ⟨c, hc, _⟩ := rowG_type h hg
  exact Sh.Blk.ne hc hb hne
theorem rowG_slice {w : World} {B n : Nat} {v : Value} {e : TypeId} {xs : List Value} (h : w.ownsRow B e 1 v n xs) : ∃ a c, v = .slice a n c := by
  obtain ⟨_, ⟨rfl, rfl⟩ | ⟨g, cap, cur, rfl, _⟩⟩ := h
  · exact ⟨_, _, rfl⟩
  · exact ⟨_, _, rfl⟩
/-- The record: eight cells, and the two lists of what was told. -/
structure Two (W : World) (B xb : Nat) (c8 : List Value) (tv wv : Value) (ts ws : List Value) : Prop where
  here : Blk W xb (c8 ++ [tv, wv]) 37
  l8 : c8.length = 8
  r3 : W.ownsRow B 41 1 tv ts.length ts
  r4 : W.ownsRow B 41 1 wv ws.length ws
  dis : ∀ g, tv.ownBlock = some g → wv.ownBlock ≠ some g
  hB : B ≤ xb
/-- The blocks that keep may turn. -/
def SF (xb : Nat) (tv wv : Value) (j : Nat) : Prop := j = xb ∨ tv.ownBlock = some j ∨ wv.ownBlock = some j
theorem c8_8 (c8 : List Value) (tv wv : Value) (h : c8.length = 8) : (c8 ++ [tv, wv])[8]? = some tv := by
  rw [List.getElem?_append_right (by omega), h]; rfl
theorem c8_9 (c8 : List Value) (tv wv : Value) (h : c8.length = 8) : (c8 ++ [tv, wv])[9]? = some wv := by
  rw [List.getElem?_append_right (by omega), h]; rfl
theorem c8_s8 (c8 : List Value) (tv wv u : Value) (h : c8.length = 8) : (c8 ++ [tv, wv]).set 8 u = c8 ++ [u, wv] := by
  rw [List.set_append_right _ _ (by omega), h]; rfl
theorem c8_s9 (c8 : List Value) (tv wv u : Value) (h : c8.length = 8) : (c8 ++ [tv, wv]).set 9 u = c8 ++ [tv, u] := by
  rw [List.set_append_right _ _ (by omega), h]; rfl
section
variable {W W1 W2 : World} {B xb : Nat} {c8 : List Value} {tv wv u x : Value} {ts ws : List Value}
theorem Two.below (h : Two W B xb c8 tv wv ts ws) (hb : Below W.heap.size W W1) : Two W1 B xb c8 tv wv ts ws :=
  ⟨h.here.below hb, h.l8, rowG_kept h.r3 (Kp.of_below (fun _ => False) hb) (fun _ _ => id), rowG_kept h.r4 (Kp.of_below (fun _ => False) hb) (fun _ _ => id), h.dis, h.hB⟩
theorem Two.pushT (h : Two W B xb c8 tv wv ts ws) (hw : Below W.heap.size W W1) (ho : W2.ownsRow B 41 1 u (ts.length + 1) (ts ++ [x])) (hk : Kp (fun j => tv.ownBlock = some j) W1 W2) (hs : SameOrNew W1 tv u) :
    Blk W2 xb (c8 ++ [tv, wv]) 37 ∧ Two (W2.setCell ⟨xb, 8, none⟩ u) B xb c8 u wv (ts ++ [x]) ws ∧ Kp (fun j => j = xb ∨ tv.ownBlock = some j) W (W2.setCell ⟨xb, 8, none⟩ u) ∧ SameOrNew W tv u := by
  have h0 := h.below hw
  have hsz := hw.size
  have b2 : Blk W2 xb _ 37 := h0.here.kept hk (fun e => rowG_blk h0.r3 h0.here (by decide) _ e rfl)
  have k1 : Kp (fun j => j = xb) W2 (W2.setCell ⟨xb, 8, none⟩ u) := Kp.setCell _ _ _
  have qw := rowG_kept h0.r4 hk (fun g hg e => h.dis g e hg)
  refine ⟨b2, ⟨(by rw [← c8_s8 c8 tv wv u h.l8]; exact b2.set 8 u), h.l8, (by rw [show (ts ++ [x]).length = ts.length + 1 by simp]; exact rowG_kept ho k1 (rowG_blk ho b2 (by decide))), rowG_kept qw k1 (rowG_blk qw b2 (by decide)), ?_, h.hB⟩, ?_, hs.imp id (fun h g hg => by have := h g hg; omega)⟩
  · intro g hg e
    rcases hs with hs | hs
    · rw [hs] at hg; exact h.dis g hg e
    · have := hs g hg; have := (h0.r4.lt g e).2; omega
  · exact ((Kp.of_below _ hw).trans (hk.mono (fun k _ e => .inr e)) (fun _ _ e => e)).trans k1 (fun k _ e => .inl e)
theorem Two.pushW (h : Two W B xb c8 tv wv ts ws) (hw : Below W.heap.size W W1) (ho : W2.ownsRow B 41 1 u (ws.length + 1) (ws ++ [x])) (hk : Kp (fun j => wv.ownBlock = some j) W1 W2) (hs : SameOrNew W1 wv u) :
    Blk W2 xb (c8 ++ [tv, wv]) 37 ∧ Two (W2.setCell ⟨xb, 9, none⟩ u) B xb c8 tv u ts (ws ++ [x]) ∧ Kp (fun j => j = xb ∨ wv.ownBlock = some j) W (W2.setCell ⟨xb, 9, none⟩ u) ∧ SameOrNew W wv u := by
  have h0 := h.below hw
  have hsz := hw.size
  have b2 : Blk W2 xb _ 37 := h0.here.kept hk (fun e => rowG_blk h0.r4 h0.here (by decide) _ e rfl)
  have k1 : Kp (fun j => j = xb) W2 (W2.setCell ⟨xb, 9, none⟩ u) := Kp.setCell _ _ _
  have qt := rowG_kept h0.r3 hk (fun g hg e => h.dis g hg e)
  refine ⟨b2, ⟨(by rw [← c8_s9 c8 tv wv u h.l8]; exact b2.set 9 u), h.l8, rowG_kept qt k1 (rowG_blk qt b2 (by decide)), (by rw [show (ws ++ [x]).length = ws.length + 1 by simp]; exact rowG_kept ho k1 (rowG_blk ho b2 (by decide))), ?_, h.hB⟩, ?_, hs.imp id (fun h g hg => by have := h g hg; omega)⟩
  · intro g hg e
    rcases hs with hs | hs
    · rw [hs] at e; exact h.dis g hg e
    · have := hs g e; have := (h0.r3.lt g hg).2; omega
  · exact ((Kp.of_below _ hw).trans (hk.mono (fun k _ e => .inr e)) (fun _ _ e => e)).trans k1 (fun k _ e => .inl e)
end
set_option maxHeartbeats 2000000 in
theorem keep1 (B xb n : Nat) (c8 : List Value) (tv wv b c : Value) (ts ws : List Value) (f : Nat → Int) (w : World) (h : Two w B xb c8 tv wv ts ws) (hb : ∀ w', Kp (SF xb tv wv) w w' → By.RB w' b n f) (hc : ∀ w', Kp (SF xb tv wv) w w' → By.RB w' c n f) (hn : n ≤ 140737488355328) (hB : B ≤ w.heap.size) (ht : ts.length ≤ 1000000) (hwl : ws.length ≤ 1000000) :
    Calls Tryz.prog 29 #[.pointer (some ⟨xb, 0, none⟩), b, c] w fun e w' => e = .returned (.bool true) ∧ ∃ tv' wv', Two w' B xb c8 tv' wv' (ts ++ [b]) (ws ++ [c]) ∧ Kp (SF xb tv wv) w w' ∧ SameOrNew w tv tv' ∧ SameOrNew w wv wv' := by
  obtain ⟨xa, xc, rfl⟩ : ∃ a cap, b = .slice a n cap := by obtain ⟨_, a, cap, e, _⟩ := hb w (Kp.refl _ _); exact ⟨a, cap, e⟩
  obtain ⟨ya, yc, rfl⟩ : ∃ a cap, c = .slice a n cap := by obtain ⟨_, a, cap, e, _⟩ := hc w (Kp.refl _ _); exact ⟨a, cap, e⟩
  have HX := hid hb
  have HY := hid hc
  have H := hid h
  have c4 := h.here.cell 8 _ (c8_8 _ _ _ h.l8)
  have f4 := h.here.frozen 8
  have L8 := hid h.l8
  have hlt := h.here.lt
  obtain ⟨tn, htn⟩ : ∃ m, ts.length = m := ⟨_, rfl⟩
  obtain ⟨wn, hwn⟩ : ∃ m, ws.length = m := ⟨_, rfl⟩
  have TN := hid htn
  have WN := hid hwn
  have R3 : Hid (w.ownsRow B 41 1 tv tn ts) := by have := h.r3; rw [htn] at this; exact this
  have R4 : Hid (w.ownsRow B 41 1 wv wn ws) := by have := h.r4; rw [hwn] at this; exact this
  rw [htn] at ht
  rw [hwn] at hwl
  obtain ⟨ta, tc, rfl⟩ := rowG_slice R3.out
  obtain ⟨wa, wc, rfl⟩ := rowG_slice R4.out
  clear hb hc h htn hwn
  go_enter Tryz.func29, Tryz.ntmps29
  go_wp2_with (at_builtin; go_must (refine wpList_pushG 35 41 (.slice none 0 0) 24 Tryz.underlying35 infoY rfl (by decide) rfl _ _ rfl B _ tn ts _ (rowG_kept R3.out (Kp.of_below (fun _ => False) (below_alloc _ _)) (fun _ _ => id)) rfl ?c1 ?c2 ⟨_, 0, none⟩ rfl rfl (cell_newG _ _ _ _ rfl) ?_))
  case c1 => simp; omega
  case c2 => omega
  intro u1 w1 hown hkp hson
  obtain ⟨b1, t1, k1, s1⟩ := H.out.pushT (below_alloc w _) (by rw [TN.out]; exact hown) hkp hson
  obtain ⟨ua, uc, rfl⟩ := rowG_slice hown
  have hsz1 := hkp.size
  have hz1 : w.heap.size ≤ w1.heap.size := by simp at hsz1; omega
  have d4 := b1.cell 8 _ (c8_8 _ _ _ L8.out)
  have d5 := b1.cell 9 _ (c8_9 _ _ _ L8.out)
  have g4 := b1.frozen 8
  have hlt1 := b1.lt
  have T1 := hid t1
  have K1 := hid k1
  have S1 := hid s1
  have e5 := t1.here.cell 9 _ (c8_9 _ _ _ L8.out)
  have hset : (w1.setCell ⟨xb, 8, none⟩ (.slice ua (tn + 1) uc)).heap.size = w1.heap.size := by simp [World.setCell]
  have R4' : Hid ((w1.setCell ⟨xb, 8, none⟩ (.slice ua (tn + 1) uc)).ownsRow B 41 1 (.slice wa wn wc) wn ws) := by have := t1.r4; rw [WN.out] at this; exact this
  clear hown hkp hson b1 t1 k1 s1 hsz1
  go_wp2_with (at_builtin; go_must (refine wpList_pushG 35 41 (.slice none 0 0) 24 Tryz.underlying35 infoY rfl (by decide) rfl _ _ rfl B _ wn ws _ (rowG_kept R4'.out (Kp.of_below (fun _ => False) (below_alloc _ _)) (fun _ _ => id)) rfl ?c1 ?c2 ⟨_, 0, none⟩ rfl rfl (cell_newG _ _ _ _ (by simp)) ?_))
  case c1 => simp; omega
  case c2 => omega
  intro u2 w2 hown hkp hson
  obtain ⟨b2, t2, k2, s2⟩ := T1.out.pushW (below_alloc _ _) (by rw [WN.out]; exact hown) hkp hson
  obtain ⟨ub, ud, rfl⟩ := rowG_slice hown
  have e4 := b2.cell 8 _ (c8_8 _ _ _ L8.out)
  have e6 := b2.cell 9 _ (c8_9 _ _ _ L8.out)
  have i5 := b2.frozen 9
  have T2 := hid t2
  have KK : Hid (Kp (SF xb (.slice ta tn tc) (.slice wa wn wc)) w (w2.setCell ⟨xb, 9, none⟩ (.slice ub (wn + 1) ud))) := by
    refine (K1.out.mono (fun j _ e => ?_)).trans k2 (fun j _ e => ?_)
    · exact e.elim .inl (fun e => .inr (.inl e))
    · exact e.elim .inl (fun e => .inr (.inr e))
  have S2 : Hid (SameOrNew w (.slice wa wn wc) (.slice ub (wn + 1) ud)) := s2.imp id (fun h g hg => by have := h g hg; omega)
  clear hown hkp hson b2 t2 k2 s2
  go_wp2_with fail
  have RX := hid (HX.out _ KK.out)
  have RY := hid (HY.out _ KK.out)
  refine (same_true _ _ n f f _ RX.out RY.out (by omega) (fun _ _ => rfl)).mono ?_
  rintro e w3 ⟨rfl, d, rfl⟩
  go_wp2
  go_ret
  exact ⟨by simp, _, _, T2.out.below (below_drewN _ _), KK.out.trans (Kp.of_below _ (below_drewN _ _)) (fun _ _ e => e), S1.out, S2.out⟩
end Go.Proofs.YtojldjckpjokcaaGreatDoor.Dg
namespace Go.Proofs.YtojldjckpjokcaaGreatDoor.Dg
open Go.ChangeShapes Go.WideShapes Go.ChangeAt Go.RowKit
open Go.Proofs.YtojldjckpjokcaaGreatDoor.By
open Go.Proofs.YtojldjckpjokcaaGreatDoor.Sh (Blk size_alloc)
/-- What was told: both answers, how many bytes, which. -/
structure TE where
  a : Value
  b : Value
  n : Nat
  f : Nat → Int
structure TL (W : World) (B : Nat) (tl : List TE) : Prop where
  own : ∀ q ∈ tl, By.Own W B q.a q.n q.f ∧ By.Own W B q.b q.n q.f
  ap : tl.Pairwise (fun p q => p.a.ownBlock = none ∨ p.a.ownBlock ≠ q.a.ownBlock)
  sz : ∀ q ∈ tl, q.n ≤ 65536
/-- The record's first eight cells. -/
def x8 (KP KQ : Nat → KD) (pb rb : Nat → Nat) (lb mb : Nat) : List Value :=
  [pvl (pb 0) (KP 0), pvl (pb 1) (KP 1), pvl (pb 2) (KP 2), qvl (rb 0) (KQ 0), qvl (rb 1) (KQ 1), qvl (rb 2) (KQ 2), .pointer (some ⟨lb, 0, none⟩), .pointer (some ⟨mb, 0, none⟩)]
/-- The rows of what was told. -/
structure RW (W : World) (B : Nat) (tv wv : Value) (tl : List TE) : Prop where
  r3 : W.ownsRow B 41 1 tv (tl.map (·.a)).length (tl.map (·.a))
  r4 : W.ownsRow B 41 1 wv (tl.map (·.b)).length (tl.map (·.b))
  dis : ∀ g, tv.ownBlock = some g → wv.ownBlock ≠ some g
  tl : TL W B tl
theorem TL.kx {W W' : World} {B : Nat} {tl : List TE} (h : TL W B tl) (hk : Kx W W') : TL W' B tl := ⟨fun q hq => ⟨hk.own (h.own q hq).1, hk.own (h.own q hq).2⟩, h.ap, h.sz⟩
theorem RW.kx {W W' : World} {B : Nat} {tv wv : Value} {tl : List TE} (h : RW W B tv wv tl) (hk : Kx W W') : RW W' B tv wv tl := ⟨hk.row h.r3, hk.row h.r4, h.dis, h.tl.kx hk⟩
/-- All that both sides hold, between two calls. -/
structure PW (w0 : World) (B : Nat) (K : Nat → KD) (pb rb qb : Nat → Nat) (lb : Nat) (lv : Value) (mb : Nat) (mv : Value) (L : List Rn) (xb : Nat) (tv wv : Value) (tl : List TE) (W : World) : Prop where
  gw : GW w0 B K K pb rb qb lb lv L mb mv L xb tv wv W
  rw : RW W B tv wv tl
theorem xc_p (KP KQ : Nat → KD) (pb rb : Nat → Nat) (lb mb : Nat) (tv wv : Value) (k : Nat) (h : k < 3) : (xc KP KQ pb rb lb mb tv wv)[k]? = some (pvl (pb k) (KP k)) := by
  match k, h with
  | 0, _ | 1, _ | 2, _ => rfl
theorem xc_q (KP KQ : Nat → KD) (pb rb : Nat → Nat) (lb mb : Nat) (tv wv : Value) (k : Nat) (h : k < 3) : (xc KP KQ pb rb lb mb tv wv)[3 + k]? = some (qvl (rb k) (KQ k)) := by
  match k, h with
  | 0, _ | 1, _ | 2, _ => rfl
/-- A number counted round into 0, 1, 2. -/
def pk (i : Int) : Nat := (if i.tmod 3 < 0 then i.tmod 3 + 3 else i.tmod 3).toNat
theorem pk_lt (i : Int) : pk i < 3 := by
  have a1 := Int.tmod_lt_of_pos i (show (0 : Int) < 3 by omega)
  have a2 := Int.lt_tmod_of_pos i (show (0 : Int) < 3 by omega)
  unfold pk; split <;> omega
theorem pick3 (i : Int) (w : World) : Calls Tryz.prog 25 #[.int .i64 i, .int .i64 3] w fun e w' => e = .returned (.int .i64 (pk i)) ∧ w' = w := by
  have a1 := Int.tmod_lt_of_pos i (show (0 : Int) < 3 by omega)
  have a2 := Int.lt_tmod_of_pos i (show (0 : Int) < 3 by omega)
  have e0 : ((pk i : Nat) : Int) = if i.tmod 3 < 0 then i.tmod 3 + 3 else i.tmod 3 := by unfold pk; split <;> omega
  rw [e0]
  obtain ⟨q, hq⟩ : ∃ q, i.tmod 3 = q := ⟨_, rfl⟩
  rw [hq] at a1 a2 e0 ⊢
  clear e0
  by_cases hlt : q < 0
  · rw [if_pos hlt]
    go_enter Tryz.func25, Tryz.ntmps25
    go_wp2
    go_ret
    exact ⟨rfl, rfl⟩
  · rw [if_neg hlt]
    go_enter Tryz.func25, Tryz.ntmps25
    go_wp2
    go_ret
    exact ⟨rfl, rfl⟩
section
variable {w0 W W' : World} {B : Nat} {K KP KQ : Nat → KD} {pb rb qb : Nat → Nat} {lb mb xb : Nat} {lv mv tv wv tv' wv' : Value} {L M : List Rn} {tl : List TE}
/-- The blocks that keep turns are of two kinds. -/
theorem sf_ty (hx : ∃ cs, Blk W xb cs 37) (hr : RW W B tv wv tl) {g : Nat} {cs : List Value} {t : TypeId} (hg : Blk W g cs t) (h1 : t ≠ 37) (h2 : t ≠ 41) : ¬ SF xb tv wv g := by
  obtain ⟨cx, hx⟩ := hx
  rintro (e | e | e)
  · exact Sh.Blk.ne hg hx h1 e
  · obtain ⟨c, hc, _⟩ := rowG_type hr.r3 e; exact Sh.Blk.ne hg hc h2 rfl
  · obtain ⟨c, hc, _⟩ := rowG_type hr.r4 e; exact Sh.Blk.ne hg hc h2 rfl
theorem sf_B (h : GW w0 B KP KQ pb rb qb lb lv L mb mv M xb tv wv W) (hr : RW W B tv wv tl) (g : Nat) (hg : SF xb tv wv g) : B ≤ g := by
  rcases hg with e | e | e
  · rw [e]; exact h.xB
  · exact (rowG_type hr.r3 e).choose_spec.2
  · exact (rowG_type hr.r4 e).choose_spec.2
theorem sf_own (hx : ∃ cs, Blk W xb cs 37) (hr : RW W B tv wv tl) (hk : Kp (SF xb tv wv) W W') {base n : Nat} {v : Value} {f : Nat → Int} (ho : By.Own W base v n f) : By.Own W' base v n f := by
  refine Sg.own_kept ho hk (fun g hg => ?_)
  obtain ⟨c, hc⟩ := Sg.own8_type ho hg
  exact sf_ty hx hr (cs := c.toList) (t := 5) (by show W.heap[g]? = _; rw [hc]) (by decide) (by decide)
theorem tyS_w (a : Bool) : tyS a ≠ 37 ∧ tyS a ≠ 41 ∧ tyS a ≠ 5 := by cases a <;> decide
theorem tyR_w (a : Bool) : tyR a ≠ 37 ∧ tyR a ≠ 41 ∧ tyR a ≠ 5 := by cases a <;> decide
theorem GW.turnX (h : GW w0 B KP KQ pb rb qb lb lv L mb mv M xb tv wv W) (hr : RW W B tv wv tl) (hk : Kp (SF xb tv wv) W W') (hx : Blk W' xb (xc KP KQ pb rb lb mb tv' wv') 37) : GW w0 B KP KQ pb rb qb lb lv L mb mv M xb tv' wv' W' := by
  have n1 := fun {g : Nat} {cs : List Value} {t : TypeId} (hg : Blk W g cs t) h1 h2 => sf_ty ⟨_, h.x⟩ hr hg h1 h2
  refine ⟨fun i hi => ⟨(h.sp i hi).1.kept hk (fun hi2 => ?_), (h.sp i hi).2⟩, fun i hi => ⟨(h.sq i hi).1.kept hk (fun hi2 => ?_) (fun hi2 => ?_) (fun g cs hg => n1 hg (by decide) (by decide)), (h.sq i hi).2⟩, h.pn, h.qn, h.l.kept hk (n1 (led_blk h.l) (by decide) (by decide)) (fun g hg => ?_), h.lB, h.lg, h.m.kept hk (n1 (rled_blk h.m) (by decide) (by decide)) (fun g hg => ?_), h.mB, h.mg, h.ap, hx, h.xB, h.bel.trans (hk.below h.hB (fun j hj hs => by have := sf_B h hr j hs; omega)), h.kt.kept hk (fun hs => by have := sf_B h hr 0 hs; have := h.h0; omega) (fun hs => by have := sf_B h hr 1 hs; have := h.h0; omega), h.h0, Nat.le_trans h.hB hk.size⟩
  · obtain ⟨a, c, hc⟩ := (h.sp i hi).1.blk hi2; exact n1 hc (tyS_w a).1 (tyS_w a).2.1
  · obtain ⟨c, hc⟩ := (h.sq i hi).1.rec hi2; exact n1 hc (by decide) (by decide)
  · obtain ⟨a, c, hc⟩ := (h.sq i hi).1.blk hi2; exact n1 hc (tyR_w a).1 (tyR_w a).2.1
  · obtain ⟨c, hc⟩ := run_blk h.l.own hg; exact n1 hc (by decide) (by decide)
  · obtain ⟨c, hc⟩ := run_blk h.m.own hg; exact n1 hc (by decide) (by decide)
/-- Bytes that both sides told are kept. -/
theorem GW.keep (h : GW w0 B KP KQ pb rb qb lb lv L mb mv M xb tv wv W) (hr : RW W B tv wv tl) (a b : Value) (n N : Nat) (f : Nat → Int) (ha : By.Own W N a n f) (hb : By.Own W B b n f) (hN : B ≤ N) (hold : ∀ q ∈ tl, ∀ g, q.a.ownBlock = some g → g < N) (hn : n ≤ 65536) (htl : tl.length ≤ 1000) :
    Calls Tryz.prog 29 #[.pointer (some ⟨xb, 0, none⟩), a, b] W fun e w' => e = .returned (.bool true) ∧ ∃ tv' wv', GW w0 B KP KQ pb rb qb lb lv L mb mv M xb tv' wv' w' ∧ RW w' B tv' wv' (tl ++ [⟨a, b, n, f⟩]) ∧ W.heap.size ≤ w'.heap.size := by
  refine (keep1 B xb n (x8 KP KQ pb rb lb mb) tv wv a b (tl.map (·.a)) (tl.map (·.b)) f W ⟨h.x, rfl, hr.r3, hr.r4, hr.dis, h.xB⟩ (fun w' hk => (sf_own ⟨_, h.x⟩ hr hk ha).reads) (fun w' hk => (sf_own ⟨_, h.x⟩ hr hk hb).reads) (by omega) h.hB (by simp; omega) (by simp; omega)).mono ?_
  rintro e w' ⟨rfl, tv', wv', ht, hk, -, -⟩
  refine ⟨rfl, tv', wv', h.turnX hr hk ht.here, ⟨by simpa using ht.r3, by simpa using ht.r4, ht.dis, ⟨fun q hq => ?_, ?_, fun q hq => ?_⟩⟩, hk.size⟩
  · rcases List.mem_append.1 hq with hq | hq
    · exact ⟨sf_own ⟨_, h.x⟩ hr hk (hr.tl.own q hq).1, sf_own ⟨_, h.x⟩ hr hk (hr.tl.own q hq).2⟩
    · rw [List.mem_singleton.1 hq]
      exact ⟨Sg.own_mono (sf_own ⟨_, h.x⟩ hr hk ha) hN, sf_own ⟨_, h.x⟩ hr hk hb⟩
  · refine List.pairwise_append.2 ⟨hr.tl.ap, List.pairwise_singleton _ _, fun p hp q hq => ?_⟩
    rw [List.mem_singleton.1 hq]
    cases e1 : p.a.ownBlock with
    | none => exact .inl rfl
    | some g =>
      refine .inr (fun e2 => ?_)
      have h1 := hold p hp g e1
      have h2 := own_row ha g e2.symm
      omega
  · rcases List.mem_append.1 hq with hq | hq
    · exact hr.tl.sz q hq
    · rw [List.mem_singleton.1 hq]; exact hn
theorem TL.old (h : TL W B tl) : ∀ q ∈ tl, ∀ g, q.a.ownBlock = some g → g < W.heap.size := fun q hq g hg => by
  obtain ⟨c, hc⟩ := Sg.own8_type (h.own q hq).1 hg
  exact (Array.getElem?_eq_some_iff.1 hc).1
theorem fmM_le (a : Bool) (k : SK) : fmM a k ≤ 200 := by
  match k with
  | none => exact Nat.zero_le _
  | some _ => cases a <;> simp [fmM, fmn]
theorem suM_le (a : Bool) (k : SK) : suM a k ≤ 64 := by
  match k with
  | none => exact Nat.zero_le _
  | some _ => cases a <;> simp [suM, sz]
theorem PW.below (h : PW w0 B K pb rb qb lb lv mb mv L xb tv wv tl W) (hb : Below W.heap.size W W') : PW w0 B K pb rb qb lb lv mb mv L xb tv wv tl W' := ⟨h.gw.below hb, h.rw.kx (Kx.below hb)⟩
end
end Go.Proofs.YtojldjckpjokcaaGreatDoor.Dg
namespace Go.Proofs.YtojldjckpjokcaaGreatDoor.Dg
open Go.ChangeShapes Go.WideShapes Go.ChangeAt Go.RowKit
open Go.Proofs.YtojldjckpjokcaaGreatDoor.By
open Go.Proofs.YtojldjckpjokcaaGreatDoor.Sh (Blk size_alloc)
theorem xc_setP (KP KQ : Nat → KD) (pb rb : Nat → Nat) (lb mb : Nat) (tv wv : Value) (k b : Nat) (x : KD) (h : k < 3) : (xc KP KQ pb rb lb mb tv wv).set k (pvl b x) = xc (upd KP k x) KQ (upd pb k b) rb lb mb tv wv := by
  match k, h with
  | 0, _ => simp [xc, upd]
  | 1, _ => simp [xc, upd]
  | 2, _ => simp [xc, upd]
theorem xc_setQ (KP KQ : Nat → KD) (pb rb : Nat → Nat) (lb mb : Nat) (tv wv : Value) (k r : Nat) (x : KD) (h : k < 3) : (xc KP KQ pb rb lb mb tv wv).set (3 + k) (qvl r x) = xc KP (upd KQ k x) pb (upd rb k r) lb mb tv wv := by
  match k, h with
  | 0, _ => simp [xc, upd]
  | 1, _ => simp [xc, upd]
  | 2, _ => simp [xc, upd]
section
variable {w0 W W' : World} {B : Nat} {K KP KQ : Nat → KD} {pb rb qb : Nat → Nat} {lb mb xb : Nat} {lv mv tv wv tv' wv' : Value} {L M : List Rn} {tl : List TE}
theorem GW.ltP (h : GW w0 B KP KQ pb rb qb lb lv L mb mv M xb tv wv W) (i : Nat) (hi : i < 3) (hn : KP i ≠ none) : pb i < W.heap.size := by
  obtain ⟨a, c, hc⟩ := (h.sp i hi).1.blk hn; exact hc.lt
theorem GW.ltQ (h : GW w0 B KP KQ pb rb qb lb lv L mb mv M xb tv wv W) (i : Nat) (hi : i < 3) (hn : KQ i ≠ none) : qb i < W.heap.size ∧ rb i < W.heap.size := by
  obtain ⟨a, c, hc⟩ := (h.sq i hi).1.blk hn
  obtain ⟨d, hd⟩ := (h.sq i hi).1.rec hn
  exact ⟨hc.lt, hd.lt⟩
theorem IsP.below {b : Nat} {x : KD} (h : IsP W b x) (hb : Below W.heap.size W W') : IsP W' b x := h.kept (Kp.of_below (fun _ => False) hb) (fun _ => id)
theorem IsQ.below {r q : Nat} {x : KD} (h : IsQ W r q x) (hb : Below W.heap.size W W') : IsQ W' r q x := h.kept (Kp.of_below (fun _ => False) hb) (fun _ => id) (fun _ => id) (fun _ _ _ => id)
theorem setX_P {b : Nat} {x : KD} {cx : List Value} (hx : Blk W xb cx 37) (hp : IsP W b x) (hk : Kp (fun j => j = xb) W W') : IsP W' b x :=
  hp.kept hk (fun hn => by obtain ⟨a, c, hc⟩ := hp.blk hn; exact fun e => Sh.Blk.ne hc hx (tyS_w a).1 e)
theorem setX_Q {r q : Nat} {x : KD} {cx : List Value} (hx : Blk W xb cx 37) (hp : IsQ W r q x) (hk : Kp (fun j => j = xb) W W') : IsQ W' r q x :=
  hp.kept hk (fun hn => by obtain ⟨c, hc⟩ := hp.rec hn; exact fun e => Sh.Blk.ne hc hx (by decide) e) (fun hn => by obtain ⟨a, c, hc⟩ := hp.blk hn; exact fun e => Sh.Blk.ne hc hx (tyR_w a).1 e) (fun _ _ hg e => Sh.Blk.ne hg hx (by decide) e)
theorem GW.setP (h : GW w0 B KP KQ pb rb qb lb lv L mb mv M xb tv wv W) {k b : Nat} {x : KD} (hk3 : k < 3) (hp : IsP W b x) (hB1 : B ≤ b) (hf : ∀ i, i < 3 → KP i ≠ none → pb i ≠ b) : GW w0 B (upd KP k x) KQ (upd pb k b) rb qb lb lv L mb mv M xb tv wv (W.setCell ⟨xb, k, none⟩ (pvl b x)) := by
  have hk : Kp (fun j => j = xb) W (W.setCell ⟨xb, k, none⟩ (pvl b x)) := Kp.setCell _ _ _
  have n1 : ∀ {y : Nat} {c : List Value} {t : TypeId}, Blk W y c t → t ≠ 37 → ¬ (y = xb) := fun hy ht e => Sh.Blk.ne hy h.x ht e
  have f : ∀ i, i ≠ k → upd KP k x i ≠ none → KP i ≠ none := fun i e hi => by rwa [upd_ne _ _ _ _ e] at hi
  refine ⟨fun i hi => ?_, fun i hi => ⟨setX_Q h.x (h.sq i hi).1 hk, (h.sq i hi).2⟩, fun i j hi hj hij h1 h2 => ?_, h.qn, h.l.kept hk (n1 (led_blk h.l) (by decide)) (fun y hy => ?_), h.lB, h.lg, h.m.kept hk (n1 (rled_blk h.m) (by decide)) (fun y hy => ?_), h.mB, h.mg, h.ap, (by rw [← xc_setP KP KQ pb rb lb mb tv wv k b x hk3]; exact h.x.set k _), h.xB, h.bel.trans (hk.below h.hB (fun j hj e => by have := h.xB; have e' : j = xb := e; omega)), h.kt.kept hk (fun e => by have := h.h0; have := h.xB; have e' : 0 = xb := e; omega) (fun e => by have := h.h0; have := h.xB; have e' : 1 = xb := e; omega), h.h0, Nat.le_trans h.hB hk.size⟩
  · by_cases e : i = k
    · subst e
      rw [upd_at, upd_at]
      exact ⟨setX_P h.x hp hk, fun _ => hB1⟩
    · rw [upd_ne _ _ _ _ e, upd_ne _ _ _ _ e]
      exact ⟨setX_P h.x (h.sp i hi).1 hk, (h.sp i hi).2⟩
  · by_cases e : i = k
    · subst e
      rw [upd_at, upd_ne _ _ _ _ (fun e => hij e.symm)]
      exact fun e2 => hf j hj (f j (fun e => hij e.symm) h2) e2.symm
    · rw [upd_ne _ _ _ _ e]
      by_cases e2 : j = k
      · subst e2; rw [upd_at]; exact hf i hi (f i e h1)
      · rw [upd_ne _ _ _ _ e2]; exact h.pn i j hi hj hij (f i e h1) (f j e2 h2)
  · obtain ⟨c, hc⟩ := run_blk h.l.own hy; exact n1 hc (by decide)
  · obtain ⟨c, hc⟩ := run_blk h.m.own hy; exact n1 hc (by decide)
theorem GW.setQ (h : GW w0 B KP KQ pb rb qb lb lv L mb mv M xb tv wv W) {k r q : Nat} {x : KD} (hk3 : k < 3) (hp : IsQ W r q x) (hB1 : B ≤ r) (hB2 : B ≤ q) (hf : ∀ i, i < 3 → KQ i ≠ none → qb i ≠ q ∧ rb i ≠ r) : GW w0 B KP (upd KQ k x) pb (upd rb k r) (upd qb k q) lb lv L mb mv M xb tv wv (W.setCell ⟨xb, 3 + k, none⟩ (qvl r x)) := by
  have hk : Kp (fun j => j = xb) W (W.setCell ⟨xb, 3 + k, none⟩ (qvl r x)) := Kp.setCell _ _ _
  have n1 : ∀ {y : Nat} {c : List Value} {t : TypeId}, Blk W y c t → t ≠ 37 → ¬ (y = xb) := fun hy ht e => Sh.Blk.ne hy h.x ht e
  have f : ∀ i, i ≠ k → upd KQ k x i ≠ none → KQ i ≠ none := fun i e hi => by rwa [upd_ne _ _ _ _ e] at hi
  refine ⟨fun i hi => ⟨setX_P h.x (h.sp i hi).1 hk, (h.sp i hi).2⟩, fun i hi => ?_, h.pn, fun i j hi hj hij h1 h2 => ?_, h.l.kept hk (n1 (led_blk h.l) (by decide)) (fun y hy => ?_), h.lB, h.lg, h.m.kept hk (n1 (rled_blk h.m) (by decide)) (fun y hy => ?_), h.mB, h.mg, h.ap, (by rw [← xc_setQ KP KQ pb rb lb mb tv wv k r x hk3]; exact h.x.set (3 + k) _), h.xB, h.bel.trans (hk.below h.hB (fun j hj e => by have := h.xB; have e' : j = xb := e; omega)), h.kt.kept hk (fun e => by have := h.h0; have := h.xB; have e' : 0 = xb := e; omega) (fun e => by have := h.h0; have := h.xB; have e' : 1 = xb := e; omega), h.h0, Nat.le_trans h.hB hk.size⟩
  · by_cases e : i = k
    · subst e
      rw [upd_at, upd_at, upd_at]
      exact ⟨setX_Q h.x hp hk, fun _ => ⟨hB1, hB2⟩⟩
    · rw [upd_ne _ _ _ _ e, upd_ne _ _ _ _ e, upd_ne _ _ _ _ e]
      exact ⟨setX_Q h.x (h.sq i hi).1 hk, (h.sq i hi).2⟩
  · by_cases e : i = k
    · subst e
      rw [upd_at, upd_at, upd_ne _ _ _ _ (fun e => hij e.symm), upd_ne _ _ _ _ (fun e => hij e.symm)]
      have := hf j hj (f j (fun e => hij e.symm) h2)
      exact ⟨fun e2 => this.1 e2.symm, fun e2 => this.2 e2.symm⟩
    · rw [upd_ne _ _ _ _ e, upd_ne _ _ _ _ e]
      by_cases e2 : j = k
      · subst e2; rw [upd_at, upd_at]; exact hf i hi (f i e h1)
      · rw [upd_ne _ _ _ _ e2, upd_ne _ _ _ _ e2]; exact h.qn i j hi hj hij (f i e h1) (f j e2 h2)
  · obtain ⟨c, hc⟩ := run_blk h.l.own hy; exact n1 hc (by decide)
  · obtain ⟨c, hc⟩ := run_blk h.m.own hy; exact n1 hc (by decide)
theorem RW.setX (h : RW W B tv wv tl) {cx : List Value} (hx : Blk W xb cx 37) (hk : Kp (fun j => j = xb) W W') : RW W' B tv wv tl := by
  have n1 : ∀ {y : Nat} {c : List Value} {t : TypeId}, Blk W y c t → t ≠ 37 → ¬ (y = xb) := fun hy ht e => Sh.Blk.ne hy hx ht e
  refine ⟨rowG_kept h.r3 hk (fun y hy => ?_), rowG_kept h.r4 hk (fun y hy => ?_), h.dis, ⟨fun q hq => ⟨Sg.own_kept (h.tl.own q hq).1 hk (fun y hy => ?_), Sg.own_kept (h.tl.own q hq).2 hk (fun y hy => ?_)⟩, h.tl.ap, h.tl.sz⟩⟩
  · obtain ⟨c, hc, _⟩ := rowG_type h.r3 hy; exact n1 hc (by decide)
  · obtain ⟨c, hc, _⟩ := rowG_type h.r4 hy; exact n1 hc (by decide)
  · obtain ⟨c, hc⟩ := Sg.own8_type (h.tl.own q hq).1 hy; exact n1 (c := c.toList) (t := 5) (by show W.heap[y]? = _; rw [hc]) (by decide)
  · obtain ⟨c, hc⟩ := Sg.own8_type (h.tl.own q hq).2 hy; exact n1 (c := c.toList) (t := 5) (by show W.heap[y]? = _; rw [hc]) (by decide)
end
end Go.Proofs.YtojldjckpjokcaaGreatDoor.Dg
