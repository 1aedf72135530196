/- The law Sha512Plays: all that the two sides hold, as one. -/
import Derived.Test.YtdhbkekpjojlnaaDoorJpl2
namespace Go.Proofs.YtdhbkekpjojlnaaDoor.Sg
open Go.ChangeShapes Go.WideShapes Go.ChangeAt Go.RowKit
open Go.Proofs.YtdhbkekpjojlnaaDoor.By Go.Proofs.YtdhbkekpjojlnaaDoor.Wd

/-- A state of a list: nil, or its block and what it is. -/
abbrev EN := Option (Nat × SK)
def sp : EN → Value
  | none => .pointer none
  | some (b, _) => .pointer (some ⟨b, 0, none⟩)
def kd : EN → SK
  | none => none
  | some (_, k) => k
def up (e : EN) (k : SK) : EN := e.map (fun p => (p.1, k))
theorem sp_up (e : EN) (k : SK) : sp (up e k) = sp e := by cases e <;> rfl
theorem kd_up (e : EN) (F : SK → SK) (hF : F none = none) : kd (up e (F (kd e))) = F (kd e) := by
  cases e with
  | none => exact hF.symm
  | some p => rfl
theorem split_at {α : Type} (l : List α) (k : Nat) (e : α) (h : l[k]? = some e) : l = l.take k ++ e :: l.drop (k + 1) := by
  obtain ⟨hk, rfl⟩ := List.getElem?_eq_some_iff.1 h
  simp
theorem set_at {α : Type} (l : List α) (k : Nat) (e x : α) (h : l[k]? = some e) : l.set k x = l.take k ++ x :: l.drop (k + 1) := by
  obtain ⟨hk, rfl⟩ := List.getElem?_eq_some_iff.1 h
  rw [List.set_eq_take_append_cons_drop, if_pos hk]
theorem map_sp_set (l : List EN) (i : Nat) (e : EN) (k : SK) (h : l[i]? = some e) : (l.set i (up e k)).map sp = l.map sp := by
  apply List.ext_getElem?
  intro j
  rw [List.getElem?_map, List.getElem?_map, List.getElem?_set]
  by_cases hj : i = j
  · subst hj
    have := (List.getElem?_eq_some_iff.1 h).1
    rw [if_pos rfl, if_pos this, h]
    simp [sp_up]
  · rw [if_neg hj]
theorem map_kd_set (l : List EN) (i : Nat) (x : EN) : (l.set i x).map kd = (l.map kd).set i (kd x) := by rw [List.map_set]

/-- The document's states. -/
structure DS (W : World) (B : Nat) (rts : List (Nat × SK)) : Prop where
  st : ∀ p ∈ rts, IsR W p.1 p.2 ∧ B ≤ p.1
  stn : rts.Pairwise (fun p q => p.1 ≠ q.1)
theorem IsR.blk {W : World} {b : Nat} {k : SK} (h : IsR W b k) : ∃ cs, Blk W b cs 43 := by
  match k, h with
  | none, ⟨v, h⟩ => exact ⟨_, h⟩
  | some (m, f), ⟨_, v, h, _⟩ => exact ⟨_, h⟩
theorem IsR.ko {W W' : World} {b : Nat} {k : SK} (h : IsR W b k) (hk : Ko W W') : IsR W' b k := by
  match k, h with
  | none, ⟨v, h⟩ => exact ⟨v, hk _ _ _ h (by decide) (by decide) (by decide) (by decide)⟩
  | some (m, f), ⟨hm, v, h, ho⟩ => exact ⟨hm, v, hk _ _ _ h (by decide) (by decide) (by decide) (by decide), hk.own ho⟩
/-- What was told: the program's list, the document's, and what both hold. -/
structure TE where
  t : Value
  w : Value
  n : Nat
  f : Nat → Int
structure TL (W : World) (B : Nat) (tl : List TE) : Prop where
  own : ∀ q ∈ tl, By.Own W B q.t q.n q.f ∧ By.Own W B q.w q.n q.f ∧ q.n ≤ 200
  ap : tl.Pairwise (fun p q => ∀ g, p.t.ownBlock = some g → q.t.ownBlock ≠ some g)
/-- All. -/
structure PL (w0 : World) (B xb lb mb : Nat) (sts rts : List EN) (tl : List TE) (L M : List Rn) (sv rv tv wv lv mv : Value) (W : World) : Prop where
  gs : GS w0 B (sts.filterMap id) [⟨true, lb, lv, L⟩, ⟨false, mb, mv, M⟩] W
  ds : DS W B (rts.filterMap id)
  four : Four W B xb lb mb sv rv tv wv (sts.map sp) (rts.map sp) (tl.map TE.t) (tl.map TE.w)
  told : TL W B tl
section
variable {w0 W W' : World} {B xb lb mb : Nat} {sts sts' rts rts' : List EN} {tl : List TE} {L L' M M' : List Rn} {sv rv tv wv lv mv lv' mv' : Value} {rl : List (Nat × SK)}
theorem DS.ko (h : DS W B rl) (hk : Ko W W') : DS W' B rl := ⟨fun p hp => ⟨(h.st p hp).1.ko hk, (h.st p hp).2⟩, h.stn⟩
theorem TL.ko (h : TL W B tl) (hk : Ko W W') : TL W' B tl := ⟨fun q hq => ⟨hk.own (h.own q hq).1, hk.own (h.own q hq).2.1, (h.own q hq).2.2⟩, h.ap⟩
theorem ko_below (hb : Below W.heap.size W W') : Ko W W' := fun _ _ _ hg _ _ _ _ => hg.below hb
/-- A call of the program. -/
theorem PL.prog (h : PL w0 B xb lb mb sts rts tl L M sv rv tv wv lv mv W) (hs : sts'.map sp = sts.map sp) (hg : GS w0 B (sts'.filterMap id) [⟨true, lb, lv', L'⟩, ⟨false, mb, mv, M⟩] W') (hk : Ko W W') : PL w0 B xb lb mb sts' rts tl L' M sv rv tv wv lv' mv W' :=
  ⟨hg, h.ds.ko hk, by rw [hs]; exact h.four.ko hk, h.told.ko hk⟩
theorem PL.below (h : PL w0 B xb lb mb sts rts tl L M sv rv tv wv lv mv W) (hb : Below W.heap.size W W') : PL w0 B xb lb mb sts rts tl L M sv rv tv wv lv mv W' :=
  h.prog rfl (h.gs.below hb) (ko_below hb)
/-- A call of the document on one of its states. -/
theorem PL.doc (h : PL w0 B xb lb mb sts rts tl L M sv rv tv wv lv mv W) {i b : Nat} {k k' : SK} (he : rts[i]? = some (some (b, k))) {S : Nat → Prop} (hS : ∀ j, S j → j = b ∨ j = mb ∨ mv.ownBlock = some j) (hk : Kp S W W') (hr : IsR W' b k') (hl : RLed W' mb mv' M') (hn : SameOrNew W mv mv') :
    PL w0 B xb lb mb sts (rts.set i (some (b, k'))) tl L M' sv rv tv wv lv mv' W' := by
  have e1 := split_at rts i _ he
  have e2 := set_at rts i _ (some (b, k')) he
  have f1 : rts.filterMap id = (rts.take i).filterMap id ++ (b, k) :: (rts.drop (i + 1)).filterMap id := by
    have := congrArg (List.filterMap id) e1
    rw [this, List.filterMap_append, List.filterMap_cons]; rfl
  have f2 : (rts.set i (some (b, k'))).filterMap id = (rts.take i).filterMap id ++ (b, k') :: (rts.drop (i + 1)).filterMap id := by
    rw [e2, List.filterMap_append, List.filterMap_cons]; rfl
  have hd := h.ds
  rw [f1] at hd
  obtain ⟨hb0, hbB⟩ := hd.st (b, k) (by simp)
  obtain ⟨cb, hcb⟩ := hb0.blk
  have hL := h.gs.midL (leds1 := [⟨true, lb, lv, L⟩]) (e := ⟨false, mb, mv, M⟩) (leds2 := [])
  have hlw : RLed W mb mv M := hL.1
  have ne : ∀ g cs t, Blk W g cs t → t ≠ 43 → t ≠ 58 → t ≠ 79 → ¬ S g := fun g cs t hg h1 h2 h3 hs => by
    rcases hS g hs with e | e
    · exact Blk.ne hg hcb h1 e
    · exact rled_apart hlw hg h2 h3 e
  have u8 : ∀ g cs, Blk W g cs 5 → ¬ S g := fun g cs hg => ne g cs _ hg (by decide) (by decide) (by decide)
  refine ⟨?_, ?_, ?_, ?_⟩
  · refine h.gs.turnLO (leds1 := [⟨true, lb, lv, L⟩]) (e := ⟨false, mb, mv, M⟩) (e' := ⟨false, mb, mv', M'⟩) (leds2 := []) (S := S) (fun j hj => ?_) hk hl rfl (fun g hg hlt => ?_)
    · rcases hS j hj with e | e
      · subst e; exact .inr ⟨hbB, cb, _, hcb, by decide, by decide, by decide, by decide⟩
      · exact .inl e
    · rcases hn with e | e
      · exact e ▸ hg
      · have := e g hg; omega
  · rw [f2]
    have hp := List.pairwise_append.1 hd.stn
    have hp2 := List.pairwise_cons.1 hp.2.1
    refine ⟨fun p hp' => ?_, List.pairwise_append.2 ⟨hp.1, List.pairwise_cons.2 ⟨hp2.1, hp2.2⟩, fun a ha c hc => ?_⟩⟩
    · have old : ∀ p, p ∈ (rts.take i).filterMap id ∨ p ∈ (rts.drop (i + 1)).filterMap id → IsR W' p.1 p.2 ∧ B ≤ p.1 := fun p hp'' => by
        have q := hd.st p (by rcases hp'' with h | h <;> simp only [List.mem_append, List.mem_cons, h, true_or, or_true])
        refine ⟨q.1.kept hk (fun hs => ?_) u8, q.2⟩
        have nb : p.1 ≠ b := by
          rcases hp'' with h | h
          · exact hp.2.2 p h (b, k) List.mem_cons_self
          · exact fun e => hp2.1 p h e.symm
        obtain ⟨cp, hcp⟩ := q.1.blk
        rcases hS _ hs with e | e
        · exact nb e
        · exact rled_apart hlw hcp (by decide) (by decide) e
      rcases List.mem_append.1 hp' with hp' | hp'
      · exact old p (.inl hp')
      · rcases List.mem_cons.1 hp' with rfl | hp'
        · exact ⟨hr, hbB⟩
        · exact old p (.inr hp')
    · rcases List.mem_cons.1 hc with rfl | hc
      · exact hp.2.2 a ha (b, k) List.mem_cons_self
      · exact hp.2.2 a ha c (List.mem_cons_of_mem _ hc)
  · have := map_sp_set rts i _ k' he
    have e3 : up (some (b, k)) k' = some (b, k') := rfl
    rw [e3] at this
    rw [this]
    refine h.four.kept hk (fun j hj hs => ?_)
    obtain ⟨_, c, t, hc, e⟩ := h.four.kind hj
    refine ne j c t hc ?_ ?_ ?_ hs <;> (rcases e with rfl | rfl | rfl | rfl <;> decide)
  · refine ⟨fun q hq => ?_, h.told.ap⟩
    obtain ⟨o1, o2, o3⟩ := h.told.own q hq
    refine ⟨own_kept o1 hk (fun g hg => ?_), own_kept o2 hk (fun g hg => ?_), o3⟩
    · obtain ⟨c, hc⟩ := own8_type o1 hg; exact u8 g c.toList (by show W.heap[g]? = _; rw [hc])
    · obtain ⟨c, hc⟩ := own8_type o2 hg; exact u8 g c.toList (by show W.heap[g]? = _; rw [hc])
/-- Something is told. -/
theorem PL.tell (h : PL w0 B xb lb mb sts rts tl L M sv rv tv wv lv mv W) (b c : Value) (n : Nat) (f : Nat → Int) (hb : By.Own W B b n f) (hc : By.Own W B c n f) (hn : n ≤ 200) (hl : tl.length ≤ 1000000) (hap : ∀ q ∈ tl, ∀ g, q.t.ownBlock = some g → b.ownBlock ≠ some g) :
    Calls Tryd.prog 12 #[.pointer (some ⟨xb, 0, none⟩), b, c] W fun e w' => e = .returned (.bool true) ∧ ∃ tv' wv', PL w0 B xb lb mb sts rts (tl ++ [⟨b, c, n, f⟩]) L M sv rv tv' wv' lv mv w' := by
  have own8 : ∀ {v : Value} {n : Nat} {f : Nat → Int} {w' : World}, By.Own W B v n f → Kp (SF xb sv rv tv wv) W w' → By.Own w' B v n f := fun ho hk => own_kept ho hk (fun g hg => by
    obtain ⟨c, hc⟩ := own8_type ho hg
    exact h.four.apart (show Blk W g c.toList 5 from by show W.heap[g]? = _; rw [hc]) (by decide) (by decide) (by decide) (by decide))
  refine (tell16 B xb lb mb n sv rv tv wv b c _ _ _ _ f W h.four (fun w' hk => (own8 hb hk).reads) (fun w' hk => (own8 hc hk).reads) (by omega) h.gs.hB (by simpa using hl) (by simpa using hl)).mono ?_
  rintro e w' ⟨rfl, tv', wv', hf, hk, _, _⟩
  refine ⟨rfl, tv', wv', h.gs.turnO (fun j hj => h.four.ot hj) hk, ⟨fun p hp => ⟨(h.ds.st p hp).1.kept hk ?_ ?_, (h.ds.st p hp).2⟩, h.ds.stn⟩, by simpa using hf, fun q hq => ?_, ?_⟩
  · obtain ⟨cp, hcp⟩ := (h.ds.st p hp).1.blk
    exact h.four.apart hcp (by decide) (by decide) (by decide) (by decide)
  · exact fun g cs hg => h.four.apart hg (by decide) (by decide) (by decide) (by decide)
  · rcases List.mem_append.1 hq with hq | hq
    · obtain ⟨o1, o2, o3⟩ := h.told.own q hq
      exact ⟨own8 o1 hk, own8 o2 hk, o3⟩
    · rw [List.mem_singleton.1 hq]
      exact ⟨own8 hb hk, own8 hc hk, hn⟩
  · exact List.pairwise_append.2 ⟨h.told.ap, List.pairwise_singleton _ _, fun a ha q hq => by rw [List.mem_singleton.1 hq]; exact hap a ha⟩
end
end Go.Proofs.YtdhbkekpjojlnaaDoor.Sg
