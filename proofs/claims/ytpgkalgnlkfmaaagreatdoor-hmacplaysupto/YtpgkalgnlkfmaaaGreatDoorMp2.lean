/- The law HmacPlays: all that the two sides hold, as one. -/
import Derived.Test.YtpgkalgnlkfmaaaGreatDoorMp1
namespace Go.Proofs.YtpgkalgnlkfmaaaGreatDoor.Dg
open Go.ChangeShapes Go.WideShapes Go.ChangeAt Go.RowKit
open Go.Proofs.YtpgkalgnlkfmaaaGreatDoor.By
open Go.Proofs.YtpgkalgnlkfmaaaGreatDoor.Sh (Blk size_alloc)
/-- A mac of the program's: what it is in the document's words, and its states' blocks. -/
structure PX where
  y : DK
  b0 : Nat
  b1 : Nat
  b2 : Nat
def PX.mb (x : PX) : MB := ⟨x.y.a, kb x.y.a x.y.nk x.y.kf, x.y.m, x.y.f, x.b0, x.b1, x.b2⟩
/-- An entry of a list: nil, or its block and what it is. -/
abbrev EP := Option (Nat × Option PX)
abbrev EQ := Option (Nat × Option DK)
def spP : EP → Value
  | none => .pointer none
  | some (b, _) => .pointer (some ⟨b, 0, none⟩)
def spQ : EQ → Value
  | none => .pointer none
  | some (b, _) => .pointer (some ⟨b, 0, none⟩)
def kdP : EP → Option DK
  | none => none
  | some (_, k) => k.map PX.y
def kdQ : EQ → Option DK
  | none => none
  | some (_, k) => k
def emP (e : Nat × Option PX) : EM := (e.1, e.2.map PX.mb)
theorem split_at {α : Type} (l : List α) (k : Nat) (e : α) (h : l[k]? = some e) : l = l.take k ++ e :: l.drop (k + 1) := by
  obtain ⟨hk, rfl⟩ := List.getElem?_eq_some_iff.1 h
  simp
theorem set_at {α : Type} (l : List α) (k : Nat) (e x : α) (h : l[k]? = some e) : l.set k x = l.take k ++ x :: l.drop (k + 1) := by
  obtain ⟨hk, rfl⟩ := List.getElem?_eq_some_iff.1 h
  rw [List.set_eq_take_append_cons_drop, if_pos hk]
theorem set_same {α : Type} {l : List α} {i : Nat} {e : α} (h : l[i]? = some e) : l.set i e = l := by
  obtain ⟨hk, rfl⟩ := List.getElem?_eq_some_iff.1 h
  simp
theorem map_set_same {α β : Type} (f : α → β) (l : List α) (i : Nat) (e e' : α) (h : l[i]? = some e) (hf : f e' = f e) : (l.set i e').map f = l.map f := by
  rw [List.map_set, hf]
  exact set_same (by rw [List.getElem?_map, h]; rfl)
theorem fm_at {α : Type} {l : List (Option α)} {i : Nat} {x : α} (he : l[i]? = some (some x)) : l.filterMap id = (l.take i).filterMap id ++ x :: (l.drop (i + 1)).filterMap id := by
  have := congrArg (List.filterMap id) (split_at l i _ he)
  rw [this, List.filterMap_append, List.filterMap_cons]; rfl
theorem fm_set {α : Type} {l : List (Option α)} {i : Nat} {x x' : α} (he : l[i]? = some (some x)) : (l.set i (some x')).filterMap id = (l.take i).filterMap id ++ x' :: (l.drop (i + 1)).filterMap id := by
  rw [set_at l i _ (some x') he, List.filterMap_append, List.filterMap_cons]; rfl
theorem mid_pair {α : Type} {l1 l2 : List (Nat × α)} {x y : Nat × α} (h : (l1 ++ x :: l2).Pairwise (fun p q => p.1 ≠ q.1)) (e : y.1 = x.1) : (l1 ++ y :: l2).Pairwise (fun p q => p.1 ≠ q.1) :=
  mid_new h (fun _ _ h e => h e.symm) (fun q hq => by rw [e]; exact mid_ne h (fun _ _ h e => h e.symm) q hq)
theorem em_at {l : List EP} {i : Nat} {x : Nat × Option PX} (he : l[i]? = some (some x)) : (l.filterMap id).map emP = ((l.take i).filterMap id).map emP ++ emP x :: ((l.drop (i + 1)).filterMap id).map emP := by
  rw [fm_at he, List.map_append, List.map_cons]
theorem em_set {l : List EP} {i : Nat} {x x' : Nat × Option PX} (he : l[i]? = some (some x)) : ((l.set i (some x')).filterMap id).map emP = ((l.take i).filterMap id).map emP ++ emP x' :: ((l.drop (i + 1)).filterMap id).map emP := by
  rw [fm_set he, List.map_append, List.map_cons]
/-- A mac of the document's none of whose lists lies in a block of 'av'. -/
def IsA (av : Nat → Prop) (W : World) (c : Nat) : Option DK → Prop
  | none => IsQ W c none
  | some y => ∃ kv mv, IsQk W c y kv mv ∧ (∀ g, kv.ownBlock = some g → ¬ av g) ∧ ∀ g, mv.ownBlock = some g → ¬ av g
theorem IsA.q {av : Nat → Prop} {W : World} {c : Nat} {k : Option DK} (h : IsA av W c k) : IsQ W c k := by
  match k, h with
  | none, h => exact h
  | some y, ⟨kv, mv, h, _⟩ => exact ⟨kv, mv, h⟩
theorem IsA.blk {av : Nat → Prop} {W : World} {c : Nat} {k : Option DK} (h : IsA av W c k) : ∃ cs, Blk W c cs 43 := h.q.blk
theorem own_keptB {W W' : World} {S : Nat → Prop} (hk : Kp S W W') (h2 : ∀ g cs, Blk W g cs 5 → ¬ S g) {base n : Nat} {v : Value} {f : Nat → Int} (ho : By.Own W base v n f) : By.Own W' base v n f := Sg.own_kept ho hk (fun g hg => by
  obtain ⟨cc, hc⟩ := Sg.own8_type ho hg
  exact h2 g cc.toList (by show W.heap[g]? = _; rw [hc]))
theorem IsA.kept {av : Nat → Prop} {W W' : World} {c : Nat} {k : Option DK} {S : Nat → Prop} (h : IsA av W c k) (hk : Kp S W W') (h1 : ¬ S c) (h2 : ∀ g cs, Blk W g cs 5 → ¬ S g) : IsA av W' c k := by
  match k, h with
  | none, h => exact IsQ.kept (k := none) h hk h1 h2
  | some y, ⟨kv, mv, h, h3, h4⟩ => exact ⟨kv, mv, ⟨h.here.kept hk h1, own_keptB hk h2 h.k, own_keptB hk h2 h.m⟩, h3, h4⟩
/-- What is written over lies in blocks of 'av'. -/
theorem IsA.over {av av' : Nat → Prop} {W W' : World} {c : Nat} {k : Option DK} {S : Nat → Prop} (h : IsA av W c k) (hk : Kp S W W') (hS : ∀ j, S j → j < W.heap.size → av j ∧ ∃ cs, Blk W j cs 5) (ha : ∀ j, ¬ av' j) : IsA av' W' c k := by
  obtain ⟨cc, hcc⟩ := h.blk
  have h1 : ¬ S c := fun hs => by
    obtain ⟨_, cs, hb⟩ := hS c hs hcc.lt
    exact Blk.ne hcc hb (by decide) rfl
  have ow : ∀ {n : Nat} {v : Value} {f : Nat → Int}, By.Own W 0 v n f → (∀ g, v.ownBlock = some g → ¬ av g) → By.Own W' 0 v n f := fun ho hn => Sg.own_kept ho hk (fun g hg hs => hn g hg (hS g hs (own_lt ho g hg)).1)
  match k, h with
  | none, ⟨u, k, v, h⟩ => exact ⟨u, k, v, h.kept hk h1⟩
  | some y, ⟨kv, mv, h, h3, h4⟩ => exact ⟨kv, mv, ⟨h.here.kept hk h1, ow h.k h3, ow h.m h4⟩, fun g _ => ha g, fun g _ => ha g⟩
theorem IsA.ko {av : Nat → Prop} {W W' : World} {c : Nat} {k : Option DK} (h : IsA av W c k) (hk : Ko W W') : IsA av W' c k := by
  match k, h with
  | none, h => exact IsQ.ko (k := none) h hk
  | some y, ⟨kv, mv, h, h3, h4⟩ => exact ⟨kv, mv, ⟨hk _ _ _ h.here (by decide), hk.own h.k, hk.own h.m⟩, h3, h4⟩
/-- Nothing that is there lies in blocks to come. -/
theorem IsA.enter {av av' : Nat → Prop} {W : World} {c : Nat} {k : Option DK} (h : IsA av W c k) (ha : ∀ j, av' j → W.heap.size ≤ j) : IsA av' W c k := by
  match k, h with
  | none, h => exact h
  | some y, ⟨kv, mv, h, _, _⟩ => exact ⟨kv, mv, h, fun g hg hv => by have := own_lt h.k g hg; have := ha g hv; omega, fun g hg hv => by have := own_lt h.m g hg; have := ha g hv; omega⟩
/-- The document's macs. -/
structure DQ (W : World) (B : Nat) (av : Nat → Prop) (rts : List (Nat × Option DK)) : Prop where
  st : ∀ p ∈ rts, IsA av W p.1 p.2 ∧ B ≤ p.1
  stn : rts.Pairwise (fun p q => p.1 ≠ q.1)
/-- What was told: the program's list, the document's, and what both hold. -/
structure TE where
  t : Value
  w : Value
  n : Nat
  f : Nat → Int
structure TL (W : World) (B : Nat) (tl : List TE) : Prop where
  own : ∀ q ∈ tl, By.Own W B q.t q.n q.f ∧ By.Own W B q.w q.n q.f ∧ q.n ≤ 600
  ap : tl.Pairwise (fun p q => ∀ g, p.t.ownBlock = some g → q.t.ownBlock ≠ some g)
/-- All, over any macs of either side. -/
structure PLg (w0 : World) (B xb lb mb : Nat) (av : Nat → Prop) (gs : List EM) (qs : List (Nat × Option DK)) (ss rs : List Value) (tl : List TE) (L M : List Rn) (sv rv tv wv lv mv : Value) (W : World) : Prop where
  gm : GM w0 B gs [⟨true, lb, lv, L⟩, ⟨false, mb, mv, M⟩] W
  ds : DQ W B av qs
  four : Four W B xb lb mb sv rv tv wv ss rs (tl.map TE.t) (tl.map TE.w)
  told : TL W B tl
/-- All. -/
abbrev PL (w0 : World) (B xb lb mb : Nat) (av : Nat → Prop) (sts : List EP) (rts : List EQ) (tl : List TE) (L M : List Rn) (sv rv tv wv lv mv : Value) (W : World) : Prop :=
  PLg w0 B xb lb mb av ((sts.filterMap id).map emP) (rts.filterMap id) (sts.map spP) (rts.map spQ) tl L M sv rv tv wv lv mv W
section
variable {w0 W W' : World} {B xb lb mb : Nat} {sts sts' : List EP} {rts : List EQ} {tl : List TE} {L L' M M' : List Rn} {sv rv tv wv lv mv lv' mv' : Value} {rl : List (Nat × Option DK)} {gs gs' : List EM} {qs : List (Nat × Option DK)} {ss rs : List Value} {av av' : Nat → Prop}
theorem DQ.ko (h : DQ W B av rl) (hk : Ko W W') : DQ W' B av rl := ⟨fun p hp => ⟨(h.st p hp).1.ko hk, (h.st p hp).2⟩, h.stn⟩
theorem TL.ko (h : TL W B tl) (hk : Ko W W') : TL W' B tl := ⟨fun q hq => ⟨hk.own (h.own q hq).1, hk.own (h.own q hq).2.1, (h.own q hq).2.2⟩, h.ap⟩
/-- A call of the program. -/
theorem PL.prog (h : PL w0 B xb lb mb av sts rts tl L M sv rv tv wv lv mv W) (hs : sts'.map spP = sts.map spP) (hg : GM w0 B ((sts'.filterMap id).map emP) [⟨true, lb, lv', L'⟩, ⟨false, mb, mv, M⟩] W') (hk : Ko W W') : PL w0 B xb lb mb av sts' rts tl L' M sv rv tv wv lv' mv W' :=
  ⟨hg, h.ds.ko hk, by rw [hs]; exact h.four.ko hk, h.told.ko hk⟩
theorem PLg.prog (h : PLg w0 B xb lb mb av gs qs ss rs tl L M sv rv tv wv lv mv W) (hg : GM w0 B gs' [⟨true, lb, lv', L'⟩, ⟨false, mb, mv, M⟩] W') (hk : Ko W W') : PLg w0 B xb lb mb av gs' qs ss rs tl L' M sv rv tv wv lv' mv W' :=
  ⟨hg, h.ds.ko hk, h.four.ko hk, h.told.ko hk⟩
theorem PLg.below (h : PLg w0 B xb lb mb av gs qs ss rs tl L M sv rv tv wv lv mv W) (hb : Below W.heap.size W W') : PLg w0 B xb lb mb av gs qs ss rs tl L M sv rv tv wv lv mv W' :=
  h.prog (h.gm.below hb) (Ko.below hb)
/-- A mac of the document's more. -/
theorem PLg.addQ (h : PLg w0 B xb lb mb av gs qs ss rs tl L M sv rv tv wv lv mv W) {V : World} {c : Nat} {k : Option DK} (hV : ∀ p ∈ qs, IsQ V p.1 p.2) (hBV : B ≤ V.heap.size) (hq : IsA av W c k) (hc : V.heap.size ≤ c) : PLg w0 B xb lb mb av gs (qs ++ [(c, k)]) ss rs tl L M sv rv tv wv lv mv W := by
  refine ⟨h.gm, ⟨fun p hp => ?_, List.pairwise_append.2 ⟨h.ds.stn, List.pairwise_singleton _ _, fun a ha q hq' e => ?_⟩⟩, h.four, h.told⟩
  · rcases List.mem_append.1 hp with hp | hp
    · exact h.ds.st p hp
    · rw [List.mem_singleton.1 hp]; exact ⟨hq, by show B ≤ c; omega⟩
  · rw [List.mem_singleton.1 hq'] at e
    obtain ⟨cp, hcp⟩ := (hV a ha).blk
    have := hcp.lt
    have e' : a.1 = c := e
    omega
/-- The record's lists of macs are gone on with. -/
theorem PLg.grow (h : PLg w0 B xb lb mb av gs qs ss rs tl L M sv rv tv wv lv mv W) {sv' rv' : Value} {ss' rs' : List Value} (hf : Four W' B xb lb mb sv' rv' tv wv ss' rs' (tl.map TE.t) (tl.map TE.w)) (hk : Kp (SF xb sv rv tv wv) W W') : PLg w0 B xb lb mb av gs qs ss' rs' tl L M sv' rv' tv wv lv mv W' := by
  have own8 : ∀ {v : Value} {n : Nat} {f : Nat → Int}, By.Own W B v n f → By.Own W' B v n f := fun ho => Sg.own_kept ho hk (fun g hg => by
    obtain ⟨c, hc⟩ := Sg.own8_type ho hg
    exact h.four.apart (show Blk W g c.toList 5 from by show W.heap[g]? = _; rw [hc]) (by decide) (by decide) (by decide) (by decide))
  refine ⟨h.gm.turnO hk (fun j hj _ => h.four.ot hj), ⟨fun p hp => ⟨(h.ds.st p hp).1.kept hk ?_ ?_, (h.ds.st p hp).2⟩, h.ds.stn⟩, hf, fun q hq => ⟨own8 (h.told.own q hq).1, own8 (h.told.own q hq).2.1, (h.told.own q hq).2.2⟩, h.told.ap⟩
  · obtain ⟨cp, hcp⟩ := (h.ds.st p hp).1.blk
    exact h.four.apart hcp (by decide) (by decide) (by decide) (by decide)
  · exact fun g cs hg => h.four.apart hg (by decide) (by decide) (by decide) (by decide)
theorem PLg.enter (h : PLg w0 B xb lb mb av gs qs ss rs tl L M sv rv tv wv lv mv W) (ha : ∀ j, av' j → W.heap.size ≤ j) : PLg w0 B xb lb mb av' gs qs ss rs tl L M sv rv tv wv lv mv W :=
  ⟨h.gm, ⟨fun p hp => ⟨(h.ds.st p hp).1.enter ha, (h.ds.st p hp).2⟩, h.ds.stn⟩, h.four, h.told⟩
/-- Lists of bytes in blocks of 'av' are written over. -/
theorem PLg.over (h : PLg w0 B xb lb mb av gs qs ss rs tl L M sv rv tv wv lv mv W) {S : Nat → Prop} (hk : Kp S W W') (hS : ∀ j, S j → j < W.heap.size → av j ∧ ∃ cs, Blk W j cs 5) (hB : ∀ j, av j → B ≤ j) (ha : ∀ j, ¬ av' j) (ht : ∀ q ∈ tl, ∀ g, (q.t.ownBlock = some g → ¬ av g) ∧ (q.w.ownBlock = some g → ¬ av g)) : PLg w0 B xb lb mb av' gs qs ss rs tl L M sv rv tv wv lv mv W' := by
  refine ⟨h.gm.turnO hk (fun j hj hlt => ?_), ⟨fun p hp => ⟨(h.ds.st p hp).1.over hk hS ha, (h.ds.st p hp).2⟩, h.ds.stn⟩, h.four.kept hk (fun j hj hs => ?_), fun q hq => ⟨Sg.own_kept (h.told.own q hq).1 hk (fun g hg hs => (ht q hq g).1 hg (hS g hs (own_lt (h.told.own q hq).1 g hg)).1), Sg.own_kept (h.told.own q hq).2.1 hk (fun g hg hs => (ht q hq g).2 hg (hS g hs (own_lt (h.told.own q hq).2.1 g hg)).1), (h.told.own q hq).2.2⟩, h.told.ap⟩
  · obtain ⟨h1, cs, h2⟩ := hS j hj hlt
    exact ⟨hB j h1, cs, _, h2, by decide⟩
  · obtain ⟨_, c', t, hc, e⟩ := h.four.kind hj
    obtain ⟨_, cs, h2⟩ := hS j hs hc.lt
    exact Blk.ne hc h2 (by rcases e with rfl | rfl | rfl | rfl <;> decide) rfl
theorem PLg.mled (h : PLg w0 B xb lb mb av gs qs ss rs tl L M sv rv tv wv lv mv W) : RLed W mb mv M := (h.gm.led ⟨false, mb, mv, M⟩ (by simp)).1
theorem PLg.lled (h : PLg w0 B xb lb mb av gs qs ss rs tl L M sv rv tv wv lv mv W) : Led W lb lv L := (h.gm.led ⟨true, lb, lv, L⟩ (by simp)).1
theorem PL.dsAt (h : PL w0 B xb lb mb av sts rts tl L M sv rv tv wv lv mv W) {i c : Nat} {k : Option DK} (he : rts[i]? = some (some (c, k))) : IsA av W c k ∧ B ≤ c := h.ds.st (c, k) (by rw [fm_at he]; simp)
theorem PL.gmAt (h : PL w0 B xb lb mb av sts rts tl L M sv rv tv wv lv mv W) {i b : Nat} {k : Option PX} (he : sts[i]? = some (some (b, k))) : GM w0 B (((sts.take i).filterMap id).map emP ++ (b, k.map PX.mb) :: ((sts.drop (i + 1)).filterMap id).map emP) ([] ++ ⟨true, lb, lv, L⟩ :: [⟨false, mb, mv, M⟩]) W := by
  have := h.gm
  rw [em_at he] at this
  exact this
/-- A call of the document: its ledger may go on, and one of its macs may be turned. -/
theorem PL.doc (h : PL w0 B xb lb mb av sts rts tl L M sv rv tv wv lv mv W) {i c : Nat} {k k' : Option DK} (he : rts[i]? = some (some (c, k))) {S : Nat → Prop} (hS : ∀ j, S j → j < W.heap.size → j = c ∨ SM mb mv j) (hk : Kp S W W') (hr : IsA av W' c k') (hl : RLed W' mb mv' M') (hn : SameOrNew W mv mv') :
    PL w0 B xb lb mb av sts (rts.set i (some (c, k'))) tl L M' sv rv tv wv lv mv' W' := by
  obtain ⟨hb0, hbB⟩ := h.dsAt he
  obtain ⟨cb, hcb⟩ := hb0.blk
  have hlw := h.mled
  have ne : ∀ g cs t, Blk W g cs t → t ≠ 43 → t ≠ 62 → t ≠ 84 → ¬ S g := fun g cs t hg h1 h2 h3 hs => by
    rcases hS g hs hg.lt with e | e
    · exact Blk.ne hg hcb h1 e
    · exact rled_no hlw hg h2 h3 e
  have u8 : ∀ g cs, Blk W g cs 5 → ¬ S g := fun g cs hg => ne g cs _ hg (by decide) (by decide) (by decide)
  have own8 : ∀ {base n : Nat} {v : Value} {f : Nat → Int}, By.Own W base v n f → By.Own W' base v n f := fun ho => Sg.own_kept ho hk (fun g hg => by
    obtain ⟨cc, hc⟩ := Sg.own8_type ho hg
    exact u8 g cc.toList (by show W.heap[g]? = _; rw [hc]))
  refine ⟨?_, ?_, ?_, fun q hq => ⟨own8 (h.told.own q hq).1, own8 (h.told.own q hq).2.1, (h.told.own q hq).2.2⟩, h.told.ap⟩
  · refine GM.turnL (l1 := [⟨true, lb, lv, L⟩]) (e := ⟨false, mb, mv, M⟩) (e' := ⟨false, mb, mv', M'⟩) (l2 := []) h.gm hk (fun j hj hlt => ?_) hl (fun j hj => ?_)
    · rcases hS j hj hlt with e | e
      · subst e; exact .inr ⟨hbB, cb, _, hcb, by decide⟩
      · exact .inl e
    · rcases hj with e | e
      · exact .inl (.inl e)
      · rcases hn with e2 | e2
        · exact .inl (.inr (show mv.ownBlock = some j from e2 ▸ e))
        · exact .inr (e2 j e)
  · have hd := h.ds
    rw [fm_at he] at hd
    rw [fm_set he]
    refine ⟨fun p hp' => ?_, mid_pair hd.stn rfl⟩
    have old : ∀ p, p ∈ (rts.take i).filterMap id ∨ p ∈ (rts.drop (i + 1)).filterMap id → IsA av W' p.1 p.2 ∧ B ≤ p.1 := fun p hp'' => by
      have q := hd.st p (by rcases hp'' with h | h <;> simp only [List.mem_append, List.mem_cons, h, true_or, or_true])
      refine ⟨q.1.kept hk (fun hs => ?_) u8, q.2⟩
      obtain ⟨cp, hcp⟩ := q.1.blk
      rcases hS _ hs hcp.lt with e | e
      · exact mid_ne hd.stn (fun _ _ h e => h e.symm) p hp'' e
      · exact rled_no hlw hcp (by decide) (by decide) e
    rcases List.mem_append.1 hp' with hp' | hp'
    · exact old p (.inl hp')
    · rcases List.mem_cons.1 hp' with rfl | hp'
      · exact ⟨hr, hbB⟩
      · exact old p (.inr hp')
  · rw [map_set_same spQ rts i _ (some (c, k')) he rfl]
    refine h.four.kept hk (fun j hj hs => ?_)
    obtain ⟨_, c', t, hc, e⟩ := h.four.kind hj
    refine ne j c' t hc ?_ ?_ ?_ hs <;> (rcases e with rfl | rfl | rfl | rfl <;> decide)
/-- A call of the document on its ledger alone. -/
theorem PLg.docL (h : PLg w0 B xb lb mb av gs qs ss rs tl L M sv rv tv wv lv mv W) (hr : RW W W' mb mv M') : ∃ mv', PLg w0 B xb lb mb av gs qs ss rs tl L M' sv rv tv wv lv mv' W' := by
  obtain ⟨⟨mv', hl, hn⟩, hk⟩ := hr
  have hlw := h.mled
  have ne : ∀ g cs t, Blk W g cs t → t ≠ 62 → t ≠ 84 → ¬ SM mb mv g := fun g cs t hg h2 h3 => rled_no hlw hg h2 h3
  refine ⟨mv', ?_, ⟨fun p hp => ⟨(h.ds.st p hp).1.kept hk ?_ (fun g cs hg => ne g cs _ hg (by decide) (by decide)), (h.ds.st p hp).2⟩, h.ds.stn⟩, h.four.kept hk (fun j hj => ?_), fun q hq => ⟨rled_own hlw hk (h.told.own q hq).1, rled_own hlw hk (h.told.own q hq).2.1, (h.told.own q hq).2.2⟩, h.told.ap⟩
  · refine GM.turnL (l1 := [⟨true, lb, lv, L⟩]) (e := ⟨false, mb, mv, M⟩) (e' := ⟨false, mb, mv', M'⟩) (l2 := []) h.gm hk (fun j hj _ => .inl hj) hl (fun j hj => ?_)
    rcases hj with e | e
    · exact .inl (.inl e)
    · rcases hn with e2 | e2
      · exact .inl (.inr (show mv.ownBlock = some j from e2 ▸ e))
      · exact .inr (e2 j e)
  · obtain ⟨cp, hcp⟩ := (h.ds.st p hp).1.blk
    exact ne _ _ _ hcp (by decide) (by decide)
  · obtain ⟨_, c', t, hc, e⟩ := h.four.kind hj
    refine ne j c' t hc ?_ ?_ <;> (rcases e with rfl | rfl | rfl | rfl <;> decide)
/-- Something is told. -/
theorem PLg.tell (h : PLg w0 B xb lb mb av gs qs ss rs tl L M sv rv tv wv lv mv W) (b c : Value) (n : Nat) (f : Nat → Int) (hb : By.Own W B b n f) (hc : By.Own W B c n f) (hn : n ≤ 600) (hl : tl.length ≤ 1000000) (hap : ∀ q ∈ tl, ∀ g, q.t.ownBlock = some g → b.ownBlock ≠ some g) :
    Calls Tryz.prog 11 #[.pointer (some ⟨xb, 0, none⟩), b, c] W fun e w' => e = .returned (.bool true) ∧ ∃ tv' wv', PLg w0 B xb lb mb av gs qs ss rs (tl ++ [⟨b, c, n, f⟩]) L M sv rv tv' wv' lv mv w' ∧ Kp (SF xb sv rv tv wv) W w' := by
  have own8 : ∀ {v : Value} {n : Nat} {f : Nat → Int} {w' : World}, By.Own W B v n f → Kp (SF xb sv rv tv wv) W w' → By.Own w' B v n f := fun ho hk => Sg.own_kept ho hk (fun g hg => by
    obtain ⟨c, hc⟩ := Sg.own8_type ho hg
    exact h.four.apart (show Blk W g c.toList 5 from by show W.heap[g]? = _; rw [hc]) (by decide) (by decide) (by decide) (by decide))
  refine (tell16 B xb lb mb n sv rv tv wv b c _ _ _ _ f W h.four (fun w' hk => (own8 hb hk).reads) (fun w' hk => (own8 hc hk).reads) (by omega) h.gm.hB (by simpa using hl) (by simpa using hl)).mono ?_
  rintro e w' ⟨rfl, tv', wv', hf, hk, _, _⟩
  refine ⟨rfl, tv', wv', ⟨h.gm.turnO hk (fun j hj _ => h.four.ot hj), ⟨fun p hp => ⟨(h.ds.st p hp).1.kept hk ?_ ?_, (h.ds.st p hp).2⟩, h.ds.stn⟩, by simpa using hf, fun q hq => ?_, ?_⟩, hk⟩
  · obtain ⟨cp, hcp⟩ := (h.ds.st p hp).1.blk
    exact h.four.apart hcp (by decide) (by decide) (by decide) (by decide)
  · exact fun g cs hg => h.four.apart hg (by decide) (by decide) (by decide) (by decide)
  · rcases List.mem_append.1 hq with hq | hq
    · obtain ⟨o1, o2, o3⟩ := h.told.own q hq
      exact ⟨own8 o1 hk, own8 o2 hk, o3⟩
    · rw [List.mem_singleton.1 hq]
      exact ⟨own8 hb hk, own8 hc hk, hn⟩
  · exact List.pairwise_append.2 ⟨h.told.ap, List.pairwise_singleton _ _, fun a ha q hq => by rw [List.mem_singleton.1 hq]; exact hap a ha⟩
end
end Go.Proofs.YtpgkalgnlkfmaaaGreatDoor.Dg
