/- The law HmacPlays: between two steps, and within one. -/
import Derived.Test.YtpgkalgnlkfmaaaGreatDoorMp4
namespace Go.Proofs.YtpgkalgnlkfmaaaGreatDoor.Dg
open Go.ChangeShapes Go.WideShapes Go.ChangeAt Go.RowKit
open Go.Proofs.YtpgkalgnlkfmaaaGreatDoor.By
open Go.Proofs.YtpgkalgnlkfmaaaGreatDoor.Sh (Blk size_alloc)
section
variable {w0 W W' V : World} {B xb lb mb : Nat} {av : Nat → Prop} {sts : List EP} {rts : List EQ} {tl : List TE} {L M : List Rn} {sv rv tv wv lv mv : Value} {gs : List EM} {qs : List (Nat × Option DK)} {ss rs : List Value}
theorem rowG_view {w : World} {B n : Nat} {v : Value} {e : TypeId} {xs : List Value} (h : w.ownsRow B e 1 v n xs) (hn : 0 < n) : ∃ g c, v = .slice (some ⟨g, 0, none⟩) n c ∧ ∀ k x, xs[k]? = some x → w.cell? ⟨g, k, none⟩ = some x := by
  obtain ⟨_, ⟨_, h0⟩ | ⟨g, cap, cur, rfl, _⟩⟩ := id h
  · omega
  · refine ⟨g, cap, rfl, fun k x hx => ?_⟩
    have := h.cells rfl k x hx
    rw [add_plain, Nat.zero_add] at this
    exact this
theorem PL.viewS (h : PL w0 B xb lb mb av sts rts tl L M sv rv tv wv lv mv W) {n : Nat} (hl : sts.length = n) (hn : 0 < n) : ∃ g c, sv = .slice (some ⟨g, 0, none⟩) n c ∧ ∀ k x, sts[k]? = some x → W.cell? ⟨g, k, none⟩ = some (spP x) := by
  have := h.four.r1
  rw [List.length_map, hl] at this
  obtain ⟨g, c, e, hc⟩ := rowG_view this hn
  exact ⟨g, c, e, fun k x hx => hc k _ (by rw [List.getElem?_map, hx]; rfl)⟩
theorem PL.viewR (h : PL w0 B xb lb mb av sts rts tl L M sv rv tv wv lv mv W) {n : Nat} (hl : rts.length = n) (hn : 0 < n) : ∃ g c, rv = .slice (some ⟨g, 0, none⟩) n c ∧ ∀ k x, rts[k]? = some x → W.cell? ⟨g, k, none⟩ = some (spQ x) := by
  have := h.four.r2
  rw [List.length_map, hl] at this
  obtain ⟨g, c, e, hc⟩ := rowG_view this hn
  exact ⟨g, c, e, fun k x hx => hc k _ (by rw [List.getElem?_map, hx]; rfl)⟩
theorem PLg.fresh (h : PLg w0 B xb lb mb av gs qs ss rs tl L M sv rv tv wv lv mv V) {b : Value} {n : Nat} {f : Nat → Int} (hb : By.Own W' V.heap.size b n f) : ∀ q ∈ tl, ∀ g, q.t.ownBlock = some g → b.ownBlock ≠ some g := fun q hq g hg hg' => by
  have h1 := By.own_lt (h.told.own q hq).1 g hg
  rcases hb.shape with ⟨rfl, _⟩ | ⟨g', cap, rfl, hgb, _⟩
  · simp [Value.ownBlock] at hg'
  · simp [Value.ownBlock] at hg'; omega
end
theorem sn_le (k : Option DK) : sn k ≤ 600 := by
  match k with
  | none => exact Nat.zero_le _
  | some y => show sz y.a ≤ 600; cases y.a <;> decide
theorem fn_le (k : Option DK) : fn k ≤ 600 := by
  match k with
  | none => exact Nat.zero_le _
  | some y => show fm3n y.a ≤ 600; cases y.a <;> decide
/-- What was told lies in no block of 'av'. -/
def Far (av : Nat → Prop) (tl : List TE) : Prop := ∀ q ∈ tl, ∀ g, (q.t.ownBlock = some g → ¬ av g) ∧ (q.w.ownBlock = some g → ¬ av g)
/-- Between two calls. -/
def PG (w0 : World) (B xb lb mb T tn : Nat) (tt : Int) (av : Nat → Prop) (W : World) : Prop := ∃ sts rts tl L sv rv tv wv lv mv, PL w0 B xb lb mb av sts rts tl L L sv rv tv wv lv mv W ∧ sts.map kdP = rts.map kdQ ∧ 2 ≤ sts.length ∧ sts.length ≤ 10 ∧ tl.length ≤ tn ∧ (∀ k ∈ sts.map kdP, Mx T k) ∧ tot L ≤ tt ∧ Far av tl
section
variable {w0 W W' : World} {B xb lb mb T T' tn tn' : Nat} {tt tt' : Int} {av av' : Nat → Prop}
theorem PG.mono (h : PG w0 B xb lb mb T tn tt av W) (h1 : T ≤ T') (h2 : tn ≤ tn') (h3 : tt ≤ tt') : PG w0 B xb lb mb T' tn' tt' av W := by
  obtain ⟨sts, rts, tl, L, sv, rv, tv, wv, lv, mv, hP, hev, q3, q12, htl, hT, hL1, hf⟩ := h
  exact ⟨sts, rts, tl, L, sv, rv, tv, wv, lv, mv, hP, hev, q3, q12, by omega, fun k hk y hy => ⟨Nat.le_trans (hT k hk y hy).1 h1, Nat.le_trans (hT k hk y hy).2 h1⟩, by omega, hf⟩
/-- Lists of bytes in blocks of 'av' are written over. -/
theorem PG.over (h : PG w0 B xb lb mb T tn tt av W) {S : Nat → Prop} (hk : Kp S W W') (hS : ∀ j, S j → j < W.heap.size → av j ∧ ∃ cs, Blk W j cs 5) (hB : ∀ j, av j → B ≤ j) : PG w0 B xb lb mb T tn tt (fun _ => False) W' := by
  obtain ⟨sts, rts, tl, L, sv, rv, tv, wv, lv, mv, hP, hev, q3, q12, htl, hT, hL1, hf⟩ := h
  exact ⟨sts, rts, tl, L, sv, rv, tv, wv, lv, mv, PLg.over hP hk hS hB (fun _ e => e) hf, hev, q3, q12, htl, hT, hL1, fun _ _ _ => ⟨fun _ e => e, fun _ e => e⟩⟩
theorem PG.below (h : PG w0 B xb lb mb T tn tt av W) (hb : Below W.heap.size W W') : PG w0 B xb lb mb T tn tt av W' := by
  obtain ⟨sts, rts, tl, L, sv, rv, tv, wv, lv, mv, hP, r⟩ := h
  exact ⟨sts, rts, tl, L, sv, rv, tv, wv, lv, mv, PLg.below hP hb, r⟩
theorem PG.bel (h : PG w0 B xb lb mb T tn tt av W) : Below B w0 W ∧ B ≤ W.heap.size := by
  obtain ⟨sts, rts, tl, L, sv, rv, tv, wv, lv, mv, hP, _⟩ := h
  exact ⟨hP.gm.bel, hP.gm.hB⟩
end
theorem far_enter {W : World} {B : Nat} {av : Nat → Prop} {tl : List TE} (h : TL W B tl) (ha : ∀ j, av j → W.heap.size ≤ j) : Far av tl := fun q hq g => ⟨fun hg hv => by have := By.own_lt (h.own q hq).1 g hg; have := ha g hv; omega, fun hg hv => by have := By.own_lt (h.own q hq).2.1 g hg; have := ha g hv; omega⟩
theorem far_more {W W2 : World} {base base2 n : Nat} {av : Nat → Prop} {tl : List TE} {b c : Value} {f : Nat → Int} (h : Far av tl) (hb : By.Own W base b n f) (hc : By.Own W2 base2 c n f) (ha : ∀ j, av j → j < base) (ha2 : ∀ j, av j → j < base2) : Far av (tl ++ [⟨b, c, n, f⟩]) := fun q hq g => by
  rcases List.mem_append.1 hq with hq | hq
  · exact h q hq g
  · rw [List.mem_singleton.1 hq]
    have far : ∀ (W : World) base v, By.Own W base v n f → (∀ j, av j → j < base) → v.ownBlock = some g → ¬ av g := fun W base v ho ha hg hv => by
      have := ha g hv
      rcases ho.shape with ⟨rfl, _⟩ | ⟨g', cap, rfl, hgb, _⟩
      · simp [Value.ownBlock] at hg
      · simp [Value.ownBlock] at hg; omega
    exact ⟨far W base b hb ha, far W2 base2 c hc ha2⟩
theorem lens_mono {sts : List EP} {T T' : Nat} (h : ∀ k ∈ sts.map kdP, Mx T k) (hT : T ≤ T') : ∀ k ∈ sts.map kdP, Mx T' k := fun k hk y hy => ⟨Nat.le_trans (h k hk y hy).1 hT, Nat.le_trans (h k hk y hy).2 hT⟩
theorem lens_push {sts : List EP} {T T' : Nat} (h : ∀ k ∈ sts.map kdP, Mx T k) (hT : T ≤ T') {x : EP} (hk : Mx T' (kdP x)) : ∀ k ∈ (sts ++ [x]).map kdP, Mx T' k := by
  intro k hk'
  rw [List.map_append] at hk'
  rcases List.mem_append.1 hk' with hk' | hk'
  · exact lens_mono h hT k hk'
  · rw [List.mem_singleton.1 hk']; exact hk
section
variable {w0 W : World} {B xb lb mb : Nat} {av : Nat → Prop} {sts : List EP} {rts : List EQ} {tl : List TE} {L M : List Rn} {sv rv tv wv lv mv : Value} {gs gs' : List EM} {qs qs' : List (Nat × Option DK)} {ss rs : List Value}
theorem pl_push {p : Nat × Option PX} {r : Nat × Option DK} (h : PLg w0 B xb lb mb av ((sts.filterMap id).map emP ++ [emP p]) (rts.filterMap id ++ [r]) (sts.map spP ++ [.pointer (some ⟨p.1, 0, none⟩)]) (rts.map spQ ++ [.pointer (some ⟨r.1, 0, none⟩)]) tl L M sv rv tv wv lv mv W) : PL w0 B xb lb mb av (sts ++ [some p]) (rts ++ [some r]) tl L M sv rv tv wv lv mv W := by
  show PLg w0 B xb lb mb av (((sts ++ [some p]).filterMap id).map emP) ((rts ++ [some r]).filterMap id) ((sts ++ [some p]).map spP) ((rts ++ [some r]).map spQ) tl L M sv rv tv wv lv mv W
  rw [List.filterMap_append, List.map_append, List.filterMap_append, List.map_append, List.map_append]
  exact h
theorem PLg.drop (h : PLg w0 B xb lb mb av (gs ++ gs') (qs ++ qs') ss rs tl L M sv rv tv wv lv mv W) : PLg w0 B xb lb mb av gs qs ss rs tl L M sv rv tv wv lv mv W :=
  ⟨⟨fun p hp => h.gm.st p (List.mem_append_left _ hp), (List.pairwise_append.1 h.gm.stn).1, h.gm.led, h.gm.ledn, h.gm.bel, h.gm.kt, h.gm.h1, h.gm.hB⟩, ⟨fun p hp => h.ds.st p (List.mem_append_left _ hp), (List.pairwise_append.1 h.ds.stn).1⟩, h.four, h.told⟩
end
theorem kinds_at {sts : List EP} {rts : List EQ} (h : sts.map kdP = rts.map kdQ) {i : Nat} (hi : i < sts.length) : rts.length = sts.length ∧ ∃ e e', sts[i]? = some e ∧ rts[i]? = some e' ∧ kdQ e' = kdP e := by
  have hl : rts.length = sts.length := by have := congrArg List.length h; simpa using this.symm
  refine ⟨hl, sts[i], rts[i], List.getElem?_eq_getElem hi, List.getElem?_eq_getElem (by omega), ?_⟩
  have := congrArg (fun l => l[i]?) h
  simp only [List.getElem?_map, List.getElem?_eq_getElem hi, List.getElem?_eq_getElem (show i < rts.length by omega), Option.map_some, Option.some.injEq] at this
  exact this.symm
theorem kinds_set {sts : List EP} {rts : List EQ} (h : sts.map kdP = rts.map kdQ) {i : Nat} {x : EP} {x' : EQ} (hk : kdQ x' = kdP x) : (sts.set i x).map kdP = (rts.set i x').map kdQ := by
  rw [List.map_set, List.map_set, hk, h]
theorem lens_set {sts : List EP} {T T' : Nat} (h : ∀ k ∈ sts.map kdP, Mx T k) (hT : T ≤ T') {i : Nat} {x : EP} (hk : Mx T' (kdP x)) : ∀ k ∈ (sts.set i x).map kdP, Mx T' k := by
  intro k hk'
  rw [List.map_set] at hk'
  rcases List.mem_or_eq_of_mem_set hk' with hk' | rfl
  · exact fun y hy => ⟨Nat.le_trans (h k hk' y hy).1 hT, Nat.le_trans (h k hk' y hy).2 hT⟩
  · exact hk
theorem lens_at {sts : List EP} {T : Nat} (h : ∀ k ∈ sts.map kdP, Mx T k) {i : Nat} {e : EP} (he : sts[i]? = some e) : Mx T (kdP e) := h _ (List.mem_map_of_mem (List.mem_of_getElem? he))
theorem mx_map {T T' : Nat} {k : Option DK} (F : DK → DK) (h : Mx T k) (hF : ∀ y, y.nk ≤ T → y.m ≤ T → (F y).nk ≤ T' ∧ (F y).m ≤ T') : Mx T' (k.map F) := by
  match k, h with
  | none, _ => exact fun y hy => by cases hy
  | some y, h => intro z hz; cases hz; exact hF y (h y rfl).1 (h y rfl).2
theorem mx_none (T : Nat) : Mx T none := fun y hy => by cases hy
/-- The total of a ledger's counts, behind what a call records. -/
theorem wL_tot {L : List Rn} (hp : Pos L) (n T : Nat) (k : Option DK) (hk : Mx T k) (hn : T + n ≤ 5000000) (hb : tot L ≤ 800000000) : tot (wL n L k) ≤ tot L + n := by
  match k, hk with
  | none, _ => show tot L ≤ tot L + n; omega
  | some y, hk =>
    have := hk y rfl
    have h1 : (y.m + n) / bk y.a - y.m / bk y.a ≤ n := by cases y.a <;> simp only [bk] <;> omega
    show tot (evs y.a L _) ≤ _
    rw [evsT y.a hp _ (by omega)]
    omega
theorem sL_tot {L : List Rn} (hp : Pos L) (k : Option DK) (hb : tot L ≤ 800000000) : tot (sL L k) ≤ tot L + 3 := by
  match k with
  | none => show tot L ≤ tot L + 3; omega
  | some y =>
    have h1 := (last_le y.a y.m).1
    show tot (evs y.a L _) ≤ _
    rw [evsT y.a hp _ (by omega)]
    omega
theorem pL_tot {L : List Rn} (hp : Pos L) (k : Option DK) (hb : tot L ≤ 800000000) : tot (pL L k) ≤ tot L + 1 := by
  match k with
  | none => show tot L ≤ tot L + 1; omega
  | some y =>
    show tot (putL L _) ≤ _
    rw [tot_put hp (by show (1 : Int) ≤ 1; omega) (by show tot L + 1 ≤ _; omega)]
    show tot L + 1 ≤ _; omega
theorem kev_tot {L : List Rn} (a : Bool) (hp : Pos L) (n : Nat) (hn : n ≤ 5000000) (hb : tot L ≤ 800000000) : tot (kev a L n) ≤ tot L + n + 4 ∧ Pos (kev a L n) := by
  have h1 := keT a hp n (by omega) (by omega)
  have h2 := keP a hp n
  refine ⟨?_, evsP a h2 2⟩
  show tot (evs a (ke a L n) 2) ≤ _
  rw [evsT a h2 2 (by omega)]
  omega
theorem tag_tot {L : List Rn} (a : Bool) (hp : Pos L) (n np : Nat) (hn : n ≤ 5000000) (hnp : np ≤ 5000000) (hb : tot L ≤ 800000000) : tot (sev a (evs a (kev a L n) (np / bk a)) np) ≤ tot L + n + np + 7 := by
  obtain ⟨h1, h2⟩ := kev_tot a hp n hn hb
  have h3 : np / bk a ≤ np := Nat.div_le_self _ _
  have h4 := (last_le a np).1
  show tot (evs a (evs a (kev a L n) (np / bk a)) (last a np + 1)) ≤ _
  rw [evsT a (evsP a h2 _) _ (by rw [evsT a h2 _ (by omega)]; omega), evsT a h2 _ (by omega)]
  omega
end Go.Proofs.YtpgkalgnlkfmaaaGreatDoor.Dg
