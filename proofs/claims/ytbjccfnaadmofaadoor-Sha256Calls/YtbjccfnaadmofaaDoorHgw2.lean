/- Three states on either side: the calls, at nil, at none, at a state, with a ledger and without one. -/
import Derived.Test.YtbjccfnaadmofaaDoorHgw
import Derived.Test.YtbjccfnaadmofaaDoorHref4
namespace Go.Proofs.YtbjccfnaadmofaaDoor.Sh
open Go.ChangeShapes Go.WideShapes Go.ChangeAt Go.RowKit
open Go.Proofs.YtbjccfnaadmofaaDoor.By Go.Proofs.YtbjccfnaadmofaaDoor.Wd
theorem upd_self {α : Type} (f : Nat → α) (k : Nat) : upd f k (f k) = f := by
  funext i; unfold upd; split
  · rename_i e; rw [e]
  · rfl
/-- The ledger, or none. -/
def lo (lb : Nat) (sil : Bool) : Option Nat := match sil with | true => none | false => some lb
/-- The blocks that a call may turn. -/
def SP (b lb : Nat) (lv : Value) (sil : Bool) (j : Nat) : Prop := j = b ∨ (sil = false ∧ (j = lb ∨ lv.ownBlock = some j))
def sel (sil : Bool) (L L' : List Rn) : List Rn := match sil with | true => L | false => L'
/-- Blocks of other kinds stay. -/
def Kx (W W' : World) : Prop := ∀ g cs t, Blk W g cs t → t ≠ 60 → t ≠ 62 → t ≠ 54 → t ≠ 56 → t ≠ 84 → Blk W' g cs t
theorem Kx.refl (W : World) : Kx W W := fun _ _ _ h _ _ _ _ _ => h
theorem Kx.below {W W' : World} (hb : Below W.heap.size W W') : Kx W W' := fun _ _ _ h _ _ _ _ _ => h.below hb
theorem Kx.trans {a b c : World} (h : Kx a b) (k : Kx b c) : Kx a c := fun g cs t hg h1 h2 h3 h4 h5 => k g cs t (h g cs t hg h1 h2 h3 h4 h5) h1 h2 h3 h4 h5
theorem Kx.own {W W' : World} (h : Kx W W') {base n : Nat} {v : Value} {f : Nat → Int} (ho : By.Own W base v n f) : By.Own W' base v n f := by
  obtain ⟨hf, hl, h' | ⟨g, cap, cur, rfl, hb, hc, h1, h2, h3, h4⟩⟩ := ho
  · exact ⟨hf, hl, .inl h'⟩
  · refine ⟨hf, hl, .inr ⟨g, cap, cur, rfl, hb, ?_, h1, h2, h3, h4⟩⟩
    exact h g cur.toList 5 (by show W.heap[g]? = _; rw [hc]) (by decide) (by decide) (by decide) (by decide) (by decide)
theorem Kx.row {W W' : World} (h : Kx W W') {base n : Nat} {v : Value} {xs : List Value} (ho : W.ownsRow base 40 1 v n xs) : W'.ownsRow base 40 1 v n xs := by
  obtain ⟨hl, h' | ⟨g, cap, cur, rfl, hb, hc, h1, h2, h3, h4⟩⟩ := ho
  · exact ⟨hl, .inl h'⟩
  · refine ⟨hl, .inr ⟨g, cap, cur, rfl, hb, ?_, h1, h2, h3, h4⟩⟩
    exact h g cur.toList 40 (by show W.heap[g]? = _; rw [hc]) (by decide) (by decide) (by decide) (by decide) (by decide)
/-- The document's ledger, or none. -/
def lr (mb : Nat) (mv : Value) (sil : Bool) : Option (Nat × Value) := match sil with | true => none | false => some (mb, mv)
/-- What a call answers, what it makes of an entry, how often it records. -/
def wrC : KD → Int
  | some (some _) => 0
  | _ => 1
def wrK (g : Nat → Int) (n : Nat) : KD → KD
  | some (some (m, f)) => some (some (m + n, cat m f g))
  | k => k
def wrN (n : Nat) : KD → Nat
  | some (some (m, _)) => (m + n) / 64 - m / 64
  | _ => 0
def suN : KD → Nat
  | some (some (m, _)) => last m
  | _ => 0
def suM : KD → Nat
  | some (some _) => 32
  | _ => 0
def suF : KD → Nat → Int
  | some (some (m, f)) => dig m f
  | _ => fun _ => 0
def reK : KD → KD
  | some (some _) => some (some (0, fun _ => 0))
  | k => k
def wiK : KD → KD
  | some (some _) => some none
  | k => k
def wiL (L : List Rn) : KD → List Rn
  | some (some _) => putL L ⟨8, 104, 1⟩
  | _ => L
def fmM : KD → Nat
  | some (some _) => 104
  | _ => 0
def fmF : KD → Nat → Int
  | some (some (m, f)) => formf m f
  | _ => fun _ => 0
def cnK : KD → KD
  | some (some x) => some (some x)
  | _ => none
/-- The length. -/
def ml : KD → Nat
  | some (some (m, _)) => m
  | _ => 0
/-- No message of the document's lies in a block. -/
def Av (W : World) (K : Nat → KD) (qb : Nat → Nat) (g : Nat) : Prop := ∀ i, i < 3 → ∀ m f, K i = some (some (m, f)) → ∀ v cs, Blk W (qb i) (v :: cs) 62 → v.ownBlock ≠ some g
/-- The document's states stay. -/
def Kq (W W' : World) : Prop := ∀ g cs, Blk W g cs 62 → Blk W' g cs 62
theorem sel_same (sil : Bool) (L : List Rn) : sel sil L L = L := by cases sil <;> rfl
theorem Blk.same {W : World} {g : Nat} {c d : List Value} {t : TypeId} (h : Blk W g c t) (k : Blk W g d t) : c = d := by
  have h1 : W.heap[g]? = some (.cells c.toArray t (0, 0)) := h
  have h2 : W.heap[g]? = some (.cells d.toArray t (0, 0)) := k
  rw [h1] at h2
  simpa using h2
theorem Av.kq {W W' : World} {K : Nat → KD} {qb : Nat → Nat} {g : Nat} (h : Av W K qb g) (hq : ∀ i, i < 3 → IsQ W (qb i) (K i)) (hk : Kq W W') : Av W' K qb g := fun i hi m f e v cs hb => by
  obtain ⟨c, hc⟩ := (hq i hi).blk (by rw [e]; simp)
  have := Blk.same hb (hk _ _ hc)
  rw [← this] at hc
  exact h i hi m f e v cs hc
section
variable {w0 W W' : World} {B : Nat} {KP KQ : Nat → KD} {pb qb : Nat → Nat} {lb mb xb : Nat} {lv mv tv wv : Value} {L M L' : List Rn} {k : Nat} {x' : KD} {sil : Bool}
theorem GW.lgP (h : GW w0 B KP KQ pb qb lb lv L mb mv M xb tv wv W) (b : Nat) (sil : Bool) : LG (SP b lb lv sil) W W (lo lb sil) L := by
  cases sil with
  | true => exact trivial
  | false => exact ⟨.inr ⟨rfl, .inl rfl⟩, lv, h.l, fun g hg _ => .inr ⟨rfl, .inr hg⟩⟩
theorem GW.rgQ (h : GW w0 B KP KQ pb qb lb lv L mb mv M xb tv wv W) (hr : tot M ≤ 1000000) (sil : Bool) : RG W M (lr mb mv sil) := by
  cases sil with
  | true => exact trivial
  | false => exact ⟨h.m, hr⟩
theorem sr_sp {b mb : Nat} {mv : Value} {sil : Bool} {j : Nat} (h : j = b ∨ SR (lr mb mv sil) j) : SP b mb mv sil j := by
  rcases h with h | h
  · exact .inl h
  · cases sil with
    | true => exact h.elim
    | false => exact .inr ⟨rfl, h⟩
theorem GW.noP (h : GW w0 B KP KQ pb qb lb lv L mb mv M xb tv wv W) (hk3 : k < 3) (hn : KP k ≠ none) (j : Nat) (hj : j < B) : ¬ SP (pb k) lb lv sil j := by
  rintro (e | ⟨_, e | e⟩)
  · have := (h.sp k hk3).2 hn; omega
  · have := h.lB; omega
  · have := h.lg j e; omega
/-- Behind a call on the program's state k. -/
theorem GW.afterP (h : GW w0 B KP KQ pb qb lb lv L mb mv M xb tv wv W) (hk3 : k < 3) (hn : KP k ≠ none) (hx : x' ≠ none) (hk : Kp (SP (pb k) lb lv sil) W W') (hs : IsP W' (pb k) x') (hl : LG (SP (pb k) lb lv sil) W W' (lo lb sil) L') :
    ∃ lv', GW w0 B (upd KP k x') KQ pb qb lb lv' (sel sil L L') mb mv M xb tv wv W' ∧ Kx W W' ∧ Kq W W' := by
  have hS : ∀ j, SP (pb k) lb lv sil j → j = pb k ∨ j = lb ∨ lv.ownBlock = some j := fun j hj => hj.imp id (fun e => e.2)
  cases sil with
  | true =>
    obtain ⟨cb, hcb⟩ := (h.sp k hk3).1.blk hn
    have hl' : Led W' lb lv L := h.l.kept hk (fun e => by
      rcases e with e | ⟨e, _⟩
      · exact Blk.ne h.l.blk hcb (by decide) e
      · cases e) (fun g hg e => by
      rcases e with e | ⟨e, _⟩
      · obtain ⟨c, hc⟩ := run_blk h.l.own hg; exact Blk.ne hc hcb (by decide) e
      · cases e)
    obtain ⟨hG, hK⟩ := h.turnP hk3 hn hx hS hk hs hl' (fun g hg _ => .inr hg)
    exact ⟨lv, hG, fun g cs t hb h1 _ h3 _ h5 => hK g cs t hb h1 h3 h5, fun g cs hb => hK g cs _ hb (by decide) (by decide) (by decide)⟩
  | false =>
    obtain ⟨_, lv', hl', ho'⟩ := hl
    obtain ⟨hG, hK⟩ := h.turnP hk3 hn hx hS hk hs hl' (fun g hg hlt => .inl (ho' g hg hlt))
    exact ⟨lv', hG, fun g cs t hb h1 _ h3 _ h5 => hK g cs t hb h1 h3 h5, fun g cs hb => hK g cs _ hb (by decide) (by decide) (by decide)⟩
theorem GW.afterQ (h : GW w0 B KP KQ pb qb lb lv L mb mv M xb tv wv W) (hk3 : k < 3) (hn : KQ k ≠ none) (hx : x' ≠ none) (hk : Kp (fun j => j = qb k ∨ SR (lr mb mv sil) j) W W') (hs : IsQ W' (qb k) x') (hl : RP W W' L' (lr mb mv sil)) :
    ∃ mv', GW w0 B KP (upd KQ k x') pb qb lb lv L mb mv' (sel sil M L') xb tv wv W' ∧ Kx W W' := by
  have hS : ∀ j, (j = qb k ∨ SR (lr mb mv sil) j) → j = qb k ∨ j = mb ∨ mv.ownBlock = some j := fun j hj => (sr_sp hj).imp id (fun e => e.2)
  cases sil with
  | true =>
    obtain ⟨cb, hcb⟩ := (h.sq k hk3).1.blk hn
    have hl' : RLed W' mb mv M := h.m.kept hk (fun e => by
      rcases e with e | e
      · exact Blk.ne h.m.blk hcb (by decide) e
      · exact e) (fun g hg e => by
      rcases e with e | e
      · obtain ⟨c, hc⟩ := run_blk h.m.own hg; exact Blk.ne hc hcb (by decide) e
      · exact e)
    obtain ⟨hG, hK⟩ := h.turnQ hk3 hn hx hS hk hs hl' (fun g hg _ => .inr hg)
    exact ⟨mv, hG, fun g cs t hb _ h2 _ h4 h5 => hK g cs t hb h2 h4 h5⟩
  | false =>
    obtain ⟨mv', hl', ho'⟩ := hl
    obtain ⟨hG, hK⟩ := h.turnQ hk3 hn hx hS hk hs hl' (fun g hg hlt => by
      rcases ho' with e | e
      · rw [e] at hg; exact .inr hg
      · have := e g hg; omega)
    exact ⟨mv', hG, fun g cs t hb _ h2 _ h4 h5 => hK g cs t hb h2 h4 h5⟩
theorem GW.writeP (h : GW w0 B KP KQ pb qb lb lv L mb mv M xb tv wv W) (hk3 : k < 3) (sil : Bool) (n : Nat) (v : Value) (g : Nat → Int) (hr : ∀ w', Below B w0 w' → Kx W w' → By.RB w' v n g) (hmn : ml (KP k) + n ≤ 900000) (hroom : tot L ≤ 100000) :
    Calls Tryd.prog 22 #[ptr (pb k) (KP k), lpv (lo lb sil), v] W fun e w' => ∃ lv', e = .returned (.int .i64 (wrC (KP k))) ∧ GW w0 B (upd KP k (wrK g n (KP k))) KQ pb qb lb lv' (sel sil L (evs256 L (wrN n (KP k)))) mb mv M xb tv wv w' ∧ Kx W w' ∧ Kq W w' := by
  have same : ∀ x L', x = KP k → L' = L → ∃ lv', GW w0 B (upd KP k x) KQ pb qb lb lv' (sel sil L L') mb mv M xb tv wv W ∧ Kx W W ∧ Kq W W := fun x L' e1 e2 => by
    rw [e1, e2, upd_self, sel_same]; exact ⟨lv, h, Kx.refl _, fun _ _ h => h⟩
  match e : KP k with
  | none =>
    rw [e] at same
    refine (write26z v _ W).mono ?_
    rintro e' w' ⟨rfl, rfl⟩
    obtain ⟨lv', hG, hK⟩ := same _ _ rfl rfl
    exact ⟨lv', rfl, hG, hK⟩
  | some none =>
    rw [e] at same
    have hs : NoSt W (pb k) := by have := (h.sp k hk3).1; rw [e] at this; exact this
    refine (write26n (pb k) v _ W hs).mono ?_
    rintro e' w' ⟨rfl, rfl⟩
    obtain ⟨lv', hG, hK⟩ := same _ _ rfl rfl
    exact ⟨lv', rfl, hG, hK⟩
  | some (some (m, f)) =>
    have hn : KP k ≠ none := by rw [e]; simp
    have hs : St W (pb k) m f := by have := (h.sp k hk3).1; rw [e] at this; exact this
    have hm : m + n ≤ 900000 := by rw [e] at hmn; exact hmn
    refine (write26 (pb k) m n v f g (lo lb sil) L (SP (pb k) lb lv sil) W hs h.kt (h.noP hk3 hn 0 h.h0) (.inl rfl) (h.lgP _ sil) h.l.pos (fun w' hk => hr w' (h.bel.trans (hk.below h.hB (fun j hj => h.noP hk3 hn j hj))) ?_) (by omega) hroom).mono ?_
    · obtain ⟨cb, hcb⟩ := (h.sp k hk3).1.blk hn
      intro g' cs t hb h1 h2 h3 h4 h5
      refine hb.kept hk (fun e1 => ?_)
      rcases e1 with e1 | ⟨_, e1 | e1⟩
      · exact Blk.ne hb hcb h1 e1
      · exact Blk.ne hb h.l.blk h3 e1
      · obtain ⟨c, hc⟩ := run_blk h.l.own e1; exact Blk.ne hb hc h5 rfl
    · rintro e' w' ⟨rfl, hs', hl', hk'⟩
      obtain ⟨lv', hG, hK⟩ := h.afterP (x' := some (some (m + n, cat m f g))) hk3 hn (by simp) hk' hs' hl'
      exact ⟨lv', rfl, hG, hK⟩
theorem GW.wipeP (h : GW w0 B KP KQ pb qb lb lv L mb mv M xb tv wv W) (hk3 : k < 3) (sil : Bool) (hroom : tot L ≤ 100000) :
    Calls Tryd.prog 33 #[ptr (pb k) (KP k), lpv (lo lb sil)] W fun e w' => ∃ lv', e = .returned (.int .i64 (wrC (KP k))) ∧ GW w0 B (upd KP k (wiK (KP k))) KQ pb qb lb lv' (sel sil L (wiL L (KP k))) mb mv M xb tv wv w' ∧ Kx W w' ∧ Kq W w' := by
  have same : ∀ x L', x = KP k → L' = L → ∃ lv', GW w0 B (upd KP k x) KQ pb qb lb lv' (sel sil L L') mb mv M xb tv wv W ∧ Kx W W ∧ Kq W W := fun x L' e1 e2 => by
    rw [e1, e2, upd_self, sel_same]; exact ⟨lv, h, Kx.refl _, fun _ _ h => h⟩
  match e : KP k with
  | none =>
    rw [e] at same
    refine (wipe29z _ W).mono ?_
    rintro e' w' ⟨rfl, rfl⟩
    obtain ⟨lv', hG, hK⟩ := same _ _ rfl rfl
    exact ⟨lv', rfl, hG, hK⟩
  | some none =>
    rw [e] at same
    have hs : NoSt W (pb k) := by have := (h.sp k hk3).1; rw [e] at this; exact this
    refine (wipe29n (pb k) _ W hs).mono ?_
    rintro e' w' ⟨rfl, rfl⟩
    obtain ⟨lv', hG, hK⟩ := same _ _ rfl rfl
    exact ⟨lv', rfl, hG, hK⟩
  | some (some (m, f)) =>
    have hn : KP k ≠ none := by rw [e]; simp
    have hs : St W (pb k) m f := by have := (h.sp k hk3).1; rw [e] at this; exact this
    refine (wipe29 (pb k) m f (lo lb sil) L (SP (pb k) lb lv sil) W hs (.inl rfl) (h.lgP _ sil) hroom).mono ?_
    rintro e' w' ⟨rfl, hs', hl', hk'⟩
    obtain ⟨lv', hG, hK⟩ := h.afterP (x' := some none) hk3 hn (by simp) hk' hs' hl'
    exact ⟨lv', rfl, hG, hK⟩
theorem GW.sumP (h : GW w0 B KP KQ pb qb lb lv L mb mv M xb tv wv W) (hk3 : k < 3) (sil : Bool) (hm : ml (KP k) ≤ 900000) (hroom : tot L ≤ 100000) :
    Calls Tryd.prog 26 #[ptr (pb k) (KP k), lpv (lo lb sil)] W fun e w' => ∃ v lv', e = .returned (.tuple #[v, .int .i64 (wrC (KP k))]) ∧ By.Own w' W.heap.size v (suM (KP k)) (suF (KP k)) ∧ GW w0 B KP KQ pb qb lb lv' (sel sil L (evs256 L (suN (KP k)))) mb mv M xb tv wv w' ∧ Kx W w' ∧ Kq W w' := by
  have same : ∀ L', L' = L → ∃ lv', GW w0 B KP KQ pb qb lb lv' (sel sil L L') mb mv M xb tv wv W ∧ Kx W W ∧ Kq W W := fun L' e2 => by
    rw [e2, sel_same]; exact ⟨lv, h, Kx.refl _, fun _ _ h => h⟩
  match e : KP k with
  | none =>
    refine (sum32z _ W).mono ?_
    rintro e' w' ⟨rfl, rfl⟩
    obtain ⟨lv', hG, hK⟩ := same _ rfl
    exact ⟨_, lv', rfl, own_nil _ _ _ (fun _ => (by show (0 : Int) ≤ 0 ∧ (0 : Int) < 256; decide)), hG, hK⟩
  | some none =>
    have hs : NoSt W (pb k) := by have := (h.sp k hk3).1; rw [e] at this; exact this
    refine (sum32n (pb k) _ W hs).mono ?_
    rintro e' w' ⟨rfl, rfl⟩
    obtain ⟨lv', hG, hK⟩ := same _ rfl
    exact ⟨_, lv', rfl, own_nil _ _ _ (fun _ => (by show (0 : Int) ≤ 0 ∧ (0 : Int) < 256; decide)), hG, hK⟩
  | some (some (m, f)) =>
    have hn : KP k ≠ none := by rw [e]; simp
    have hs : St W (pb k) m f := by have := (h.sp k hk3).1; rw [e] at this; exact this
    have hm' : m ≤ 900000 := by rw [e] at hm; exact hm
    have hS0 : ¬ (sil = false ∧ ((0 : Nat) = lb ∨ lv.ownBlock = some 0)) := by
      rintro ⟨_, e1 | e1⟩
      · have := h.lB; have := h.h0; omega
      · have := h.lg 0 e1; have := h.h0; omega
    have hlg : LG (fun j => sil = false ∧ (j = lb ∨ lv.ownBlock = some j)) W W (lo lb sil) L := by
      cases sil with
      | true => exact trivial
      | false => exact ⟨⟨rfl, .inl rfl⟩, lv, h.l, fun g hg _ => ⟨rfl, .inr hg⟩⟩
    refine (sum32 (pb k) m f (lo lb sil) L (fun j => sil = false ∧ (j = lb ∨ lv.ownBlock = some j)) W hs h.kt hS0 hlg h.l.pos hm' hroom).mono ?_
    rintro e' w' ⟨v, rfl, ho, hl', hk'⟩
    have hs' : IsP w' (pb k) (KP k) := (h.sp k hk3).1.kept hk' (fun _ => by
      obtain ⟨cb, hcb⟩ := (h.sp k hk3).1.blk hn
      rintro ⟨_, e1 | e1⟩
      · exact Blk.ne hcb h.l.blk (by decide) e1
      · obtain ⟨c, hc⟩ := run_blk h.l.own e1; exact Blk.ne hcb hc (by decide) rfl)
    have hl2 : LG (SP (pb k) lb lv sil) W w' (lo lb sil) (evs256 L (last m)) := by
      cases sil with
      | true => exact trivial
      | false => obtain ⟨_, rv, h1, h2⟩ := hl'; exact ⟨.inr ⟨rfl, .inl rfl⟩, rv, h1, fun g hg hlt => .inr (h2 g hg hlt)⟩
    obtain ⟨lv', hG, hK⟩ := h.afterP (x' := KP k) hk3 hn hn (hk'.mono (fun j _ e => .inr e)) hs' hl2
    rw [upd_self] at hG
    exact ⟨v, lv', rfl, ho, hG, hK⟩
theorem GW.resetP (h : GW w0 B KP KQ pb qb lb lv L mb mv M xb tv wv W) (hk3 : k < 3) :
    Calls Tryd.prog 31 #[ptr (pb k) (KP k)] W fun e w' => ∃ lv', e = .returned (.int .i64 (wrC (KP k))) ∧ GW w0 B (upd KP k (reK (KP k))) KQ pb qb lb lv' L mb mv M xb tv wv w' ∧ Kx W w' ∧ Kq W w' := by
  have same : ∀ x, x = KP k → ∃ lv', GW w0 B (upd KP k x) KQ pb qb lb lv' L mb mv M xb tv wv W ∧ Kx W W ∧ Kq W W := fun x e1 => by
    rw [e1, upd_self]; exact ⟨lv, h, Kx.refl _, fun _ _ h => h⟩
  match e : KP k with
  | none =>
    rw [e] at same
    refine (reset33z W).mono ?_
    rintro e' w' ⟨rfl, rfl⟩
    obtain ⟨lv', hG, hK⟩ := same _ rfl
    exact ⟨lv', rfl, hG, hK⟩
  | some none =>
    rw [e] at same
    have hs : NoSt W (pb k) := by have := (h.sp k hk3).1; rw [e] at this; exact this
    refine (reset33n (pb k) W hs).mono ?_
    rintro e' w' ⟨rfl, rfl⟩
    obtain ⟨lv', hG, hK⟩ := same _ rfl
    exact ⟨lv', rfl, hG, hK⟩
  | some (some (m, f)) =>
    have hn : KP k ≠ none := by rw [e]; simp
    have hs : St W (pb k) m f := by have := (h.sp k hk3).1; rw [e] at this; exact this
    refine (reset33 (pb k) m f W hs).mono ?_
    rintro e' w' ⟨rfl, hs', hk'⟩
    obtain ⟨lv', hG, hK⟩ := h.afterP (sil := true) (L' := L) (x' := some (some (0, fun _ => 0))) hk3 hn (by simp) (hk'.mono (fun j _ e => .inl e)) hs' trivial
    exact ⟨lv', rfl, hG, hK⟩
theorem GW.formP (h : GW w0 B KP KQ pb qb lb lv L mb mv M xb tv wv W) (hk3 : k < 3) :
    Calls Tryd.prog 35 #[ptr (pb k) (KP k)] W fun e w' => ∃ v, e = .returned v ∧ By.Own w' W.heap.size v (fmM (KP k)) (fmF (KP k)) ∧ Below W.heap.size W w' := by
  match e : KP k with
  | none =>
    refine (form30z W).mono ?_
    rintro e' w' ⟨rfl, rfl⟩
    exact ⟨_, rfl, own_nil _ _ _ (fun _ => (by show (0 : Int) ≤ 0 ∧ (0 : Int) < 256; decide)), Below.refl _ _⟩
  | some none =>
    have hs : NoSt W (pb k) := by have := (h.sp k hk3).1; rw [e] at this; exact this
    refine (form30n (pb k) W hs).mono ?_
    rintro e' w' ⟨rfl, rfl⟩
    exact ⟨_, rfl, own_nil _ _ _ (fun _ => (by show (0 : Int) ≤ 0 ∧ (0 : Int) < 256; decide)), Below.refl _ _⟩
  | some (some (m, f)) =>
    have hs : St W (pb k) m f := by have := (h.sp k hk3).1; rw [e] at this; exact this
    exact form30 (pb k) m f W hs
theorem GW.cloneP (h : GW w0 B KP KQ pb qb lb lv L mb mv M xb tv wv W) (hk3 : k < 3) :
    Calls Tryd.prog 29 #[ptr (pb k) (KP k)] W fun e w' => ∃ c, W.heap.size ≤ c ∧ e = .returned (.tuple #[ptr c (cnK (KP k)), .int .i64 (wrC (KP k))]) ∧ IsP w' c (cnK (KP k)) ∧ Below W.heap.size W w' := by
  match e : KP k with
  | none =>
    refine (clone28z W).mono ?_
    rintro e' w' ⟨rfl, rfl⟩
    exact ⟨w'.heap.size, Nat.le_refl _, rfl, trivial, Below.refl _ _⟩
  | some none =>
    have hs : NoSt W (pb k) := by have := (h.sp k hk3).1; rw [e] at this; exact this
    refine (clone28n (pb k) W hs).mono ?_
    rintro e' w' ⟨rfl, rfl⟩
    exact ⟨w'.heap.size, Nat.le_refl _, rfl, trivial, Below.refl _ _⟩
  | some (some (m, f)) =>
    have hs : St W (pb k) m f := by have := (h.sp k hk3).1; rw [e] at this; exact this
    refine (clone28 (pb k) m f W hs).mono ?_
    rintro e' w' ⟨rfl, hs', hb⟩
    exact ⟨W.heap.size, Nat.le_refl _, rfl, hs', hb⟩
theorem GW.lenP (h : GW w0 B KP KQ pb qb lb lv L mb mv M xb tv wv W) (hk3 : k < 3) :
    Calls Tryd.prog 37 #[ptr (pb k) (KP k)] W fun e w' => e = .returned (.int .i64 (ml (KP k))) ∧ w' = W := by
  match e : KP k with
  | none => exact len31z W
  | some none =>
    have hs : NoSt W (pb k) := by have := (h.sp k hk3).1; rw [e] at this; exact this
    exact len31n (pb k) W hs
  | some (some (m, f)) =>
    have hs : St W (pb k) m f := by have := (h.sp k hk3).1; rw [e] at this; exact this
    exact len31 (pb k) m f W hs
theorem GW.writeQ (h : GW w0 B KP KQ pb qb lb lv L mb mv M xb tv wv W) (hk3 : k < 3) (sil : Bool) (n : Nat) (v : Value) (g : Nat → Int) (hr : ∀ w', Below B w0 w' → Kx W w' → By.RB w' v n g) (hmn : ml (KQ k) + n ≤ 900000) (hroom : tot M ≤ 100000) :
    Calls Tryd.prog 23 #[ptr (qb k) (KQ k), lptr (lr mb mv sil), v] W fun e w' => ∃ mv', e = .returned (.int .i64 (wrC (KQ k))) ∧ GW w0 B KP (upd KQ k (wrK g n (KQ k))) pb qb lb lv L mb mv' (sel sil M (evs256 M (wrN n (KQ k)))) xb tv wv w' ∧ Kx W w' ∧ ∀ c, c < W.heap.size → Av W KQ qb c → Av w' (upd KQ k (wrK g n (KQ k))) qb c := by
  have same : ∀ x L', x = KQ k → L' = M → ∃ mv', GW w0 B KP (upd KQ k x) pb qb lb lv L mb mv' (sel sil M L') xb tv wv W ∧ Kx W W := fun x L' e1 e2 => by
    rw [e1, e2, upd_self, sel_same]; exact ⟨mv, h, Kx.refl _⟩
  have av0 : ∀ x, x = KQ k → ∀ c, c < W.heap.size → Av W KQ qb c → Av W (upd KQ k x) qb c := fun x e1 c _ hc => by rw [e1, upd_self]; exact hc
  match e : KQ k with
  | none =>
    rw [e] at same
    rw [e] at av0
    refine (rwrite35z _ v W).mono ?_
    rintro e' w' ⟨rfl, rfl⟩
    obtain ⟨mv', hG, hK⟩ := same _ _ rfl rfl
    exact ⟨mv', rfl, hG, hK, av0 _ rfl⟩
  | some none =>
    rw [e] at same
    rw [e] at av0
    have hs : IsR W (qb k) none := by have := (h.sq k hk3).1; rw [e] at this; exact this
    refine (rwrite35n (qb k) _ v W hs).mono ?_
    rintro e' w' ⟨rfl, rfl⟩
    obtain ⟨mv', hG, hK⟩ := same _ _ rfl rfl
    exact ⟨mv', rfl, hG, hK, av0 _ rfl⟩
  | some (some (m, f)) =>
    have hn : KQ k ≠ none := by rw [e]; simp
    have hs : IsR W (qb k) (some (m, f)) := by have := (h.sq k hk3).1; rw [e] at this; exact this
    have hm : m + n ≤ 900000 := by rw [e] at hmn; exact hmn
    refine (rwrite35 (qb k) m n (lr mb mv sil) f g v M W hs (h.rgQ (by omega) sil) (fun w' hb => hr w' (h.bel.trans (hb.mono h.hB)) (Kx.below hb)) hm).mono ?_
    rintro e' w' ⟨rfl, hs', hl', hk', u, hu, ho⟩
    obtain ⟨mv', hG, hK⟩ := h.afterQ (x' := some (some (m + n, cat m f g))) hk3 hn (by simp) hk' hs' hl'
    refine ⟨mv', rfl, hG, hK, fun c hc hav i hi m' f' e1 v' cs hb hv => ?_⟩
    by_cases ei : i = k
    · subst ei
      have e2 := Blk.same hb hu
      have e3 : v' = u := (List.cons.inj e2).1
      subst e3
      have := By.own_row ho c hv
      omega
    · rw [upd_ne _ _ _ _ ei] at e1
      have hin : KQ i ≠ none := by rw [e1]; simp
      obtain ⟨ci, hci⟩ := (h.sq i hi).1.blk hin
      have hck : Blk w' (qb i) ci 62 := hci.kept hk' (fun e4 => by
        rcases e4 with e4 | e4
        · exact h.qn i k hi hk3 ei hin hn e4
        · exact (h.rgQ (by omega) sil).apart hci (by decide) (by decide) e4)
      rw [← Blk.same hb hck] at hci
      exact hav i hi m' f' e1 v' cs hci hv
theorem GW.wipeQ (h : GW w0 B KP KQ pb qb lb lv L mb mv M xb tv wv W) (hk3 : k < 3) (sil : Bool) (hroom : tot M ≤ 100000) :
    Calls Tryd.prog 34 #[ptr (qb k) (KQ k), lptr (lr mb mv sil)] W fun e w' => ∃ mv', e = .returned (.int .i64 (wrC (KQ k))) ∧ GW w0 B KP (upd KQ k (wiK (KQ k))) pb qb lb lv L mb mv' (sel sil M (wiL M (KQ k))) xb tv wv w' ∧ Kx W w' := by
  have same : ∀ x L', x = KQ k → L' = M → ∃ mv', GW w0 B KP (upd KQ k x) pb qb lb lv L mb mv' (sel sil M L') xb tv wv W ∧ Kx W W := fun x L' e1 e2 => by
    rw [e1, e2, upd_self, sel_same]; exact ⟨mv, h, Kx.refl _⟩
  match e : KQ k with
  | none =>
    rw [e] at same
    refine (rwipe39z _ W).mono ?_
    rintro e' w' ⟨rfl, rfl⟩
    obtain ⟨mv', hG, hK⟩ := same _ _ rfl rfl
    exact ⟨mv', rfl, hG, hK⟩
  | some none =>
    rw [e] at same
    have hs : IsR W (qb k) none := by have := (h.sq k hk3).1; rw [e] at this; exact this
    refine (rwipe39n (qb k) _ W hs).mono ?_
    rintro e' w' ⟨rfl, rfl⟩
    obtain ⟨mv', hG, hK⟩ := same _ _ rfl rfl
    exact ⟨mv', rfl, hG, hK⟩
  | some (some (m, f)) =>
    have hn : KQ k ≠ none := by rw [e]; simp
    have hs : IsR W (qb k) (some (m, f)) := by have := (h.sq k hk3).1; rw [e] at this; exact this
    refine (rwipe39 (qb k) m (lr mb mv sil) f M W hs (h.rgQ (by omega) sil)).mono ?_
    rintro e' w' ⟨rfl, hs', hl', hk'⟩
    obtain ⟨mv', hG, hK⟩ := h.afterQ (x' := some none) hk3 hn (by simp) hk' hs' hl'
    exact ⟨mv', rfl, hG, hK⟩
theorem GW.sumQ (h : GW w0 B KP KQ pb qb lb lv L mb mv M xb tv wv W) (hk3 : k < 3) (sil : Bool) (hroom : tot M ≤ 100000) :
    Calls Tryd.prog 27 #[ptr (qb k) (KQ k), lptr (lr mb mv sil)] W fun e w' => ∃ v mv', e = .returned (.tuple #[v, .int .i64 (wrC (KQ k))]) ∧ By.Own w' W.heap.size v (suM (KQ k)) (suF (KQ k)) ∧ GW w0 B KP KQ pb qb lb lv L mb mv' (sel sil M (evs256 M (suN (KQ k)))) xb tv wv w' ∧ Kx W w' := by
  have same : ∀ L', L' = M → ∃ mv', GW w0 B KP KQ pb qb lb lv L mb mv' (sel sil M L') xb tv wv W ∧ Kx W W := fun L' e2 => by
    rw [e2, sel_same]; exact ⟨mv, h, Kx.refl _⟩
  match e : KQ k with
  | none =>
    refine (rsum36z _ W).mono ?_
    rintro e' w' ⟨rfl, rfl⟩
    obtain ⟨mv', hG, hK⟩ := same _ rfl
    exact ⟨_, mv', rfl, own_nil _ _ _ (fun _ => (by show (0 : Int) ≤ 0 ∧ (0 : Int) < 256; decide)), hG, hK⟩
  | some none =>
    have hs : IsR W (qb k) none := by have := (h.sq k hk3).1; rw [e] at this; exact this
    refine (rsum36n (qb k) _ W hs).mono ?_
    rintro e' w' ⟨rfl, rfl⟩
    obtain ⟨mv', hG, hK⟩ := same _ rfl
    exact ⟨_, mv', rfl, own_nil _ _ _ (fun _ => (by show (0 : Int) ≤ 0 ∧ (0 : Int) < 256; decide)), hG, hK⟩
  | some (some (m, f)) =>
    have hn : KQ k ≠ none := by rw [e]; simp
    have hs : IsR W (qb k) (some (m, f)) := by have := (h.sq k hk3).1; rw [e] at this; exact this
    refine (rsum36 (qb k) m (lr mb mv sil) f M W hs (h.rgQ (by omega) sil)).mono ?_
    rintro e' w' ⟨v, rfl, ho, hl', hk'⟩
    have hs' : IsQ w' (qb k) (KQ k) := (h.sq k hk3).1.kept hk' (fun _ e4 => by
      obtain ⟨c, hc⟩ := (h.sq k hk3).1.blk hn
      exact (h.rgQ (by omega) sil).apart hc (by decide) (by decide) e4) (fun g cs hg e4 => (h.rgQ (by omega) sil).apart hg (by decide) (by decide) e4)
    obtain ⟨mv', hG, hK⟩ := h.afterQ (x' := KQ k) hk3 hn hn (hk'.mono (fun j _ e => .inr e)) hs' hl'
    rw [upd_self] at hG
    exact ⟨v, mv', rfl, ho, hG, hK⟩
theorem GW.resetQ (h : GW w0 B KP KQ pb qb lb lv L mb mv M xb tv wv W) (hk3 : k < 3) :
    Calls Tryd.prog 32 #[ptr (qb k) (KQ k)] W fun e w' => ∃ mv', e = .returned (.int .i64 (wrC (KQ k))) ∧ GW w0 B KP (upd KQ k (reK (KQ k))) pb qb lb lv L mb mv' M xb tv wv w' ∧ Kx W w' := by
  have same : ∀ x, x = KQ k → ∃ mv', GW w0 B KP (upd KQ k x) pb qb lb lv L mb mv' M xb tv wv W ∧ Kx W W := fun x e1 => by
    rw [e1, upd_self]; exact ⟨mv, h, Kx.refl _⟩
  match e : KQ k with
  | none =>
    rw [e] at same
    refine (rreset38z W).mono ?_
    rintro e' w' ⟨rfl, rfl⟩
    obtain ⟨mv', hG, hK⟩ := same _ rfl
    exact ⟨mv', rfl, hG, hK⟩
  | some none =>
    rw [e] at same
    have hs : IsR W (qb k) none := by have := (h.sq k hk3).1; rw [e] at this; exact this
    refine (rreset38n (qb k) W hs).mono ?_
    rintro e' w' ⟨rfl, rfl⟩
    obtain ⟨mv', hG, hK⟩ := same _ rfl
    exact ⟨mv', rfl, hG, hK⟩
  | some (some (m, f)) =>
    have hn : KQ k ≠ none := by rw [e]; simp
    have hs : IsR W (qb k) (some (m, f)) := by have := (h.sq k hk3).1; rw [e] at this; exact this
    refine (rreset38 (qb k) m f W hs).mono ?_
    rintro e' w' ⟨rfl, hs', hk'⟩
    obtain ⟨mv', hG, hK⟩ := h.afterQ (sil := true) (L' := M) (x' := some (some (0, fun _ => 0))) hk3 hn (by simp) (hk'.mono (fun j _ e => .inl e)) hs' trivial
    exact ⟨mv', rfl, hG, hK⟩
theorem GW.formQ (h : GW w0 B KP KQ pb qb lb lv L mb mv M xb tv wv W) (hk3 : k < 3) :
    Calls Tryd.prog 36 #[ptr (qb k) (KQ k)] W fun e w' => ∃ v, e = .returned v ∧ By.Own w' W.heap.size v (fmM (KQ k)) (fmF (KQ k)) ∧ Below W.heap.size W w' := by
  match e : KQ k with
  | none =>
    refine (rform18z W).mono ?_
    rintro e' w' ⟨rfl, rfl⟩
    exact ⟨_, rfl, own_nil _ _ _ (fun _ => (by show (0 : Int) ≤ 0 ∧ (0 : Int) < 256; decide)), Below.refl _ _⟩
  | some none =>
    have hs : IsR W (qb k) none := by have := (h.sq k hk3).1; rw [e] at this; exact this
    refine (rform18n (qb k) W hs).mono ?_
    rintro e' w' ⟨rfl, rfl⟩
    exact ⟨_, rfl, own_nil _ _ _ (fun _ => (by show (0 : Int) ≤ 0 ∧ (0 : Int) < 256; decide)), Below.refl _ _⟩
  | some (some (m, f)) =>
    have hs : IsR W (qb k) (some (m, f)) := by have := (h.sq k hk3).1; rw [e] at this; exact this
    exact rform18 (qb k) m f W hs
theorem GW.cloneQ (h : GW w0 B KP KQ pb qb lb lv L mb mv M xb tv wv W) (hk3 : k < 3) :
    Calls Tryd.prog 30 #[ptr (qb k) (KQ k)] W fun e w' => ∃ c, W.heap.size ≤ c ∧ e = .returned (.tuple #[ptr c (cnK (KQ k)), .int .i64 (wrC (KQ k))]) ∧ IsQ w' c (cnK (KQ k)) ∧ Below W.heap.size W w' := by
  match e : KQ k with
  | none =>
    refine (rclone37z W).mono ?_
    rintro e' w' ⟨rfl, rfl⟩
    exact ⟨w'.heap.size, Nat.le_refl _, rfl, trivial, Below.refl _ _⟩
  | some none =>
    have hs : IsR W (qb k) none := by have := (h.sq k hk3).1; rw [e] at this; exact this
    refine (rclone37n (qb k) W hs).mono ?_
    rintro e' w' ⟨rfl, rfl⟩
    exact ⟨w'.heap.size, Nat.le_refl _, rfl, trivial, Below.refl _ _⟩
  | some (some (m, f)) =>
    have hs : IsR W (qb k) (some (m, f)) := by have := (h.sq k hk3).1; rw [e] at this; exact this
    refine (rclone37 (qb k) m f W hs).mono ?_
    rintro e' w' ⟨c, hc, rfl, hs', hb⟩
    exact ⟨c, hc, rfl, hs', hb⟩
theorem GW.lenQ (h : GW w0 B KP KQ pb qb lb lv L mb mv M xb tv wv W) (hk3 : k < 3) :
    Calls Tryd.prog 38 #[ptr (qb k) (KQ k)] W fun e w' => e = .returned (.int .i64 (ml (KQ k))) ∧ w' = W := by
  match e : KQ k with
  | none => exact rlen40z W
  | some none =>
    have hs : IsR W (qb k) none := by have := (h.sq k hk3).1; rw [e] at this; exact this
    exact rlen40n (qb k) W hs
  | some (some (m, f)) =>
    have hs : IsR W (qb k) (some (m, f)) := by have := (h.sq k hk3).1; rw [e] at this; exact this
    exact rlen40 (qb k) m f W hs
end
end Go.Proofs.YtbjccfnaadmofaaDoor.Sh
