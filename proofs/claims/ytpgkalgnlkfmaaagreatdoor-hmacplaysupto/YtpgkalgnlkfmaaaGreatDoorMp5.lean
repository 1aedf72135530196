/- The law HmacPlays: New and Tag of either side; one mac more. -/
import Derived.Test.YtpgkalgnlkfmaaaGreatDoorMp3
namespace Go.Proofs.YtpgkalgnlkfmaaaGreatDoor.Dg
open Go.ChangeShapes Go.WideShapes Go.ChangeAt Go.RowKit
open Go.Proofs.YtpgkalgnlkfmaaaGreatDoor.By
open Go.Proofs.YtpgkalgnlkfmaaaGreatDoor.Sh (Blk size_alloc)
section
variable {w0 W W' : World} {B xb lb mb : Nat} {av : Nat → Prop} {gs : List EM} {qs : List (Nat × Option DK)} {ss rs : List Value} {tl : List TE} {L M : List Rn} {sv rv tv wv lv mv : Value}
theorem PLg.kuL (h : PLg w0 B xb lb mb av gs qs ss rs tl L M sv rv tv wv lv mv W) (hk : Kp (SE ⟨true, lb, lv, L⟩) W W') : Ku W W' := ku_type hk (fun j hj _ => by
  obtain ⟨c', t', hb', ht'⟩ := (h.gm.led ⟨true, lb, lv, L⟩ (by simp)).1.kind hj
  exact ⟨c', t', hb', lty8 ht'⟩)
theorem PLg.kuM (h : PLg w0 B xb lb mb av gs qs ss rs tl L M sv rv tv wv lv mv W) (hk : Kp (SM mb mv) W W') : Ku W W' := ku_type hk (fun j hj _ => by
  obtain ⟨c', t', hb', ht'⟩ := (h.gm.led ⟨false, mb, mv, M⟩ (by simp)).1.kind hj
  exact ⟨c', t', hb', lty8 ht'⟩)
theorem PLg.kuF (h : PLg w0 B xb lb mb av gs qs ss rs tl L M sv rv tv wv lv mv W) (hk : Kp (SF xb sv rv tv wv) W W') : Ku W W' := ku_type hk (fun j hj _ => by
  obtain ⟨_, c', t', hb', e⟩ := h.four.kind hj
  exact ⟨c', t', hb', by rcases e with rfl | rfl | rfl | rfl <;> decide⟩)
theorem PLg.bb (h : PLg w0 B xb lb mb av gs qs ss rs tl L M sv rv tv wv lv mv W) (hk : Kp (SM mb mv) W W') : Below B w0 W' := h.gm.bel.trans (hk.below h.gm.hB (fun j hj hs => by have := (h.gm.led ⟨false, mb, mv, M⟩ (by simp)).2 j hs; omega))
theorem PLg.newP (h : PLg w0 B xb lb mb av gs qs ss rs tl L M sv rv tv wv lv mv W) (a : Bool) (n : Nat) (v : Value) (g : Nat → Int) (hr : ∀ w', Ku W w' → By.RB w' v n g) (hn : n ≤ 4900000) (hroom : tot L ≤ 800000000) :
    Calls Tryz.prog 19 #[.pointer (some ⟨lb, 0, none⟩), .int .u8 (an a), v] W fun r w' => ∃ b b0 b1 b2 lv', r = .returned (.tuple #[.pointer (some ⟨b, 0, none⟩), .int .i64 0]) ∧ PLg w0 B xb lb mb av (gs ++ [emP (b, some ⟨⟨a, n, g, 0, nof⟩, b0, b1, b2⟩)]) qs ss rs tl (kev a L n) M sv rv tv wv lv' mv w' ∧ Ku W w' := by
  refine (GM.new (l1 := []) h.gm a n v g (fun w' hk => hr w' (h.kuL hk)) (by omega) hroom).mono ?_
  rintro r w' ⟨b, b0, b1, b2, lv', rfl, hg, hko, _⟩
  exact ⟨b, b0, b1, b2, lv', rfl, h.prog hg hko, hko.ku⟩
theorem PLg.newQ (h : PLg w0 B xb lb mb av gs qs ss rs tl L M sv rv tv wv lv mv W) (a : Bool) (n : Nat) (v : Value) (g : Nat → Int) (hr : ∀ w', Below B w0 w' → By.RB w' v n g) (hn : n ≤ 4900000) (hroom : tot M ≤ 800000000) (hav : ∀ j, av j → j < W.heap.size) :
    Calls Tryz.prog 20 #[.pointer (some ⟨mb, 0, none⟩), .int .u8 (an a), v] W fun r w' => ∃ d mv', r = .returned (.tuple #[.pointer (some ⟨d, 0, none⟩), .int .i64 0]) ∧ PLg w0 B xb lb mb av gs (qs ++ [(d, some ⟨a, n, g, 0, nof⟩)]) ss rs tl L (kev a M n) sv rv tv wv lv mv' w' ∧ Ku W w' := by
  refine (qnewM a mb n mv v g M W h.mled (fun w' hk => hr w' (h.bb hk)) (by omega) (by omega)).mono ?_
  rintro r w' ⟨d, kv, hd, rfl, hq, hkv, hrw⟩
  obtain ⟨mv', hP⟩ := h.docL hrw
  exact ⟨d, mv', rfl, hP.addQ (V := W) (fun p hp => (h.ds.st p hp).1.q) h.gm.hB ⟨kv, _, hq, fun p hp ha => by have := hkv p hp; have := hav p ha; omega, fun g hg => by simp [Value.ownBlock] at hg⟩ hd, h.kuM hrw.2⟩
theorem PLg.tagP (h : PLg w0 B xb lb mb av gs qs ss rs tl L M sv rv tv wv lv mv W) (a : Bool) (n np : Nat) (v v2 : Value) (g f : Nat → Int) (hr : ∀ w', Ku W w' → By.RB w' v n g) (hr2 : ∀ w', Ku W w' → By.RB w' v2 np f) (hn : n ≤ 4900000) (hnp : np ≤ 4900000) (hroom : tot L ≤ 800000000) :
    Calls Tryz.prog 16 #[.pointer (some ⟨lb, 0, none⟩), .int .u8 (an a), v, v2] W fun r w' => ∃ u lv', r = .returned (.tuple #[u, .int .i64 0]) ∧ By.Own w' W.heap.size u (sz a) (hm a (kb a n g) np f) ∧ PLg w0 B xb lb mb av gs qs ss rs tl (sev a (evs a (kev a L n) (np / bk a)) np) M sv rv tv wv lv' mv w' ∧ Ku W w' := by
  refine (GM.tag (l1 := []) h.gm a n np v v2 g f (fun w' hk => hr w' (h.kuL hk)) (fun w' hk => hr2 w' (h.kuL hk)) hn hnp hroom).mono ?_
  rintro r w' ⟨u, lv', rfl, ho, hg, hko⟩
  exact ⟨u, lv', rfl, ho, h.prog hg hko, hko.ku⟩
theorem PLg.tagQ (h : PLg w0 B xb lb mb av gs qs ss rs tl L M sv rv tv wv lv mv W) (a : Bool) (n np : Nat) (v v2 : Value) (g f : Nat → Int) (hr : ∀ w', Below B w0 w' → By.RB w' v n g) (hr2 : ∀ w', Below B w0 w' → By.RB w' v2 np f) (hn : n ≤ 4900000) (hnp : np ≤ 4900000) (hroom : tot M ≤ 800000000) :
    Calls Tryz.prog 17 #[.pointer (some ⟨mb, 0, none⟩), .int .u8 (an a), v, v2] W fun r w' => ∃ u mv', r = .returned (.tuple #[u, .int .i64 0]) ∧ By.Own w' W.heap.size u (sz a) (hm a (kb a n g) np f) ∧ PLg w0 B xb lb mb av gs qs ss rs tl L (sev a (evs a (kev a M n) (np / bk a)) np) sv rv tv wv lv mv' w' ∧ Ku W w' := by
  refine (rtagM a mb n np mv v v2 g f M W h.mled (fun w' hk => hr w' (h.bb hk)) (fun w' hk => hr2 w' (h.bb hk)) (by omega) (by omega) (by omega)).mono ?_
  rintro r w' ⟨u, rfl, ho, hrw⟩
  obtain ⟨mv', hP⟩ := h.docL hrw
  exact ⟨u, mv', rfl, ho, hP, h.kuM hrw.2⟩
end
/-- One mac more: neither. -/
theorem more0 (x : Value) (w : World) : Calls Tryz.prog 21 #[x, .pointer none, .pointer none] w fun r w' => r = .returned (.bool true) ∧ w' = w := by
  go_enter Tryz.func21, Tryz.ntmps21
  go_wp2
  go_ret
  exact ⟨rfl, rfl⟩
section
variable {w0 W W' : World} {B xb lb mb : Nat} {av : Nat → Prop} {gs : List EM} {qs : List (Nat × Option DK)} {ss rs : List Value} {tl : List TE} {L M : List Rn} {sv rv tv wv lv mv : Value}
theorem PLg.moreN (h : PLg w0 B xb lb mb av gs qs ss rs tl L M sv rv tv wv lv mv W) (b c : Nat) (hl : ¬ ss.length < 10) : Calls Tryz.prog 21 #[.pointer (some ⟨xb, 0, none⟩), .pointer (some ⟨b, 0, none⟩), .pointer (some ⟨c, 0, none⟩)] W fun r w' => r = .returned (.bool true) ∧ w' = W := by
  obtain ⟨sa, sc, rfl⟩ := rowG_slice h.four.r1
  have c2 := h.four.here.cell 2 _ rfl
  have l10 : ¬ (ss.length : Int) < 10 := by omega
  clear h
  go_enter Tryz.func21, Tryz.ntmps21
  go_wp2
  go_ret
  exact ⟨rfl, rfl⟩
set_option maxRecDepth 100000 in
set_option maxHeartbeats 1000000 in
theorem PLg.moreY (h : PLg w0 B xb lb mb av gs qs ss rs tl L M sv rv tv wv lv mv W) (b c ns : Nat) (hns : ss.length = ns) (hrl : rs.length = ns) (hl : ns < 10) : Calls Tryz.prog 21 #[.pointer (some ⟨xb, 0, none⟩), .pointer (some ⟨b, 0, none⟩), .pointer (some ⟨c, 0, none⟩)] W fun r w' => r = .returned (.bool true) ∧ ∃ sv' rv', PLg w0 B xb lb mb av gs qs (ss ++ [.pointer (some ⟨b, 0, none⟩)]) (rs ++ [.pointer (some ⟨c, 0, none⟩)]) tl L M sv' rv' tv wv lv mv w' ∧ Ku W w' := by
  have r1 := h.four.r1
  have r2 := h.four.r2
  rw [hns] at r1
  rw [hrl] at r2
  obtain ⟨sa, sc, rfl⟩ := rowG_slice r1
  obtain ⟨ra, rc, rfl⟩ := rowG_slice r2
  have H := hid h
  have R1 := hid r1
  have c2 := h.four.here.cell 2 _ rfl
  have c3 := h.four.here.cell 3 _ rfl
  have f2 := h.four.here.frozen 2
  have f3 := h.four.here.frozen 3
  have hltx := h.four.here.lt
  have hBw := h.gm.hB
  have l10 : (ns : Int) < 10 := by omega
  clear h r1 r2
  go_enter Tryz.func21, Tryz.ntmps21
  go_wp2_with (at_builtin; go_must (refine wpList_pushG 28 33 (.pointer none) 8 Tryz.underlying28 infoP rfl (by decide) rfl _ _ rfl B _ ns ss _ (rowG_kept R1.out (Kp.of_below (fun _ => False) (below_alloc _ _)) (fun _ _ => id)) rfl ?c1 ?c2 ⟨_, 0, none⟩ rfl rfl (cell_newG _ _ _ _ rfl) ?_))
  case c1 => simp; omega
  case c2 => omega
  intro u1 w3 hown hkp hson
  obtain ⟨b3, t3, k3, s3⟩ := H.out.four.pushS (below_alloc W _) (by rw [hns]; exact hown) hkp hson
  obtain ⟨ua, uc, rfl⟩ := rowG_slice hown
  have hsz3 := hkp.size
  have hz3 : W.heap.size ≤ w3.heap.size := by simp at hsz3; omega
  have g2 := b3.cell 2 _ rfl
  have g3 := b3.cell 3 _ rfl
  have i2 := b3.frozen 2
  have hlt3 := b3.lt
  have T3 := hid t3
  have K3 := hid k3
  have j3 := t3.here.cell 3 _ rfl
  have hset : (w3.setCell ⟨xb, 2, none⟩ (.slice ua (ns + 1) uc)).heap.size = w3.heap.size := by simp [World.setCell]
  have R2 : Hid ((w3.setCell ⟨xb, 2, none⟩ (.slice ua (ns + 1) uc)).ownsRow B 39 1 (.slice ra ns rc) ns rs) := by have := t3.r2; rw [hrl] at this; exact this
  clear hown hkp hson b3 t3 k3 s3 hsz3 R1
  go_wp2_with (at_builtin; go_must (refine wpList_pushG 29 39 (.pointer none) 8 Tryz.underlying29 infoQ rfl (by decide) rfl _ _ rfl B _ ns rs _ (rowG_kept R2.out (Kp.of_below (fun _ => False) (below_alloc _ _)) (fun _ _ => id)) rfl ?c1 ?c2 ⟨_, 0, none⟩ rfl rfl (cell_newG _ _ _ _ (by simp)) ?_))
  case c1 => simp; omega
  case c2 => omega
  intro u2 w4 hown hkp hson
  obtain ⟨b4, t4, k4, s4⟩ := T3.out.pushR (below_alloc _ _) (by rw [hrl]; exact hown) hkp hson
  obtain ⟨ub, ud, rfl⟩ := rowG_slice hown
  have o2 := b4.cell 2 _ rfl
  have o3 := b4.cell 3 _ rfl
  have p3 := b4.frozen 3
  have T4 := hid t4
  have K4 := hid (show Kp (SF xb (.slice sa ns sc) (.slice ra ns rc) tv wv) W _ from (K3.out.mono (fun j _ e => e.elim .inl (fun e => .inr (.inl e)))).trans k4 (fun j _ e => e.elim .inl (fun e => .inr (.inr (.inl e)))))
  clear hown hkp hson b4 t4 k4 s4 R2
  go_wp2
  go_ret
  exact ⟨rfl, _, _, H.out.grow T4.out K4.out, H.out.kuF K4.out⟩
end
end Go.Proofs.YtpgkalgnlkfmaaaGreatDoor.Dg
namespace Go.Proofs.YtpgkalgnlkfmaaaGreatDoor.Dg
open Go.ChangeShapes Go.WideShapes Go.ChangeAt Go.RowKit
open Go.Proofs.YtpgkalgnlkfmaaaGreatDoor.By
open Go.Proofs.YtpgkalgnlkfmaaaGreatDoor.Sh (Blk size_alloc)
section
variable {w0 W W' V : World} {B xb lb mb : Nat} {av : Nat → Prop} {sts : List EP} {rts : List EQ} {tl : List TE} {L M : List Rn} {sv rv tv wv lv mv : Value} {gs : List EM} {qs : List (Nat × Option DK)} {ss rs : List Value}
theorem rowG_view {w : World} {B n : Nat} {v : Value} {e : TypeId} {xs : List Value} (h : w.ownsRow B e 1 v n xs) (hn : 0 < n) : ∃ g c, v = .slice (some ⟨g, 0, none⟩) n c ∧ ∀ k x, xs[k]? = some x → w.cell? ⟨g, k, none⟩ = some x := by
  obtain ⟨_, ⟨_, h0⟩ | ⟨g, cap, cur, rfl, _⟩⟩ := id h
  · omega
  · refine ⟨g, cap, rfl, fun k x hx => ?_⟩
    have := h.cells rfl k x hx
    rw [add_plain, Nat.zero_add] at this
    exact this
theorem PL.viewS (h : PL w0 B xb lb mb av sts rts tl L M sv rv tv wv lv mv W) {n : Nat} (hl : sts.length = n) (hn : 0 < n) : ∃ g c, sv = .slice (some ⟨g, 0, none⟩) n c ∧ ∀ k x, sts[k]? = some x → W.cell? ⟨g, k, none⟩ = some (spP x) := by
  have := h.four.r1
  rw [List.length_map, hl] at this
  obtain ⟨g, c, e, hc⟩ := rowG_view this hn
  exact ⟨g, c, e, fun k x hx => hc k _ (by rw [List.getElem?_map, hx]; rfl)⟩
theorem PL.viewR (h : PL w0 B xb lb mb av sts rts tl L M sv rv tv wv lv mv W) {n : Nat} (hl : rts.length = n) (hn : 0 < n) : ∃ g c, rv = .slice (some ⟨g, 0, none⟩) n c ∧ ∀ k x, rts[k]? = some x → W.cell? ⟨g, k, none⟩ = some (spQ x) := by
  have := h.four.r2
  rw [List.length_map, hl] at this
  obtain ⟨g, c, e, hc⟩ := rowG_view this hn
  exact ⟨g, c, e, fun k x hx => hc k _ (by rw [List.getElem?_map, hx]; rfl)⟩
theorem PLg.fresh (h : PLg w0 B xb lb mb av gs qs ss rs tl L M sv rv tv wv lv mv V) {b : Value} {n : Nat} {f : Nat → Int} (hb : By.Own W' V.heap.size b n f) : ∀ q ∈ tl, ∀ g, q.t.ownBlock = some g → b.ownBlock ≠ some g := fun q hq g hg hg' => by
  have h1 := By.own_lt (h.told.own q hq).1 g hg
  rcases hb.shape with ⟨rfl, _⟩ | ⟨g', cap, rfl, hgb, _⟩
  · simp [Value.ownBlock] at hg'
  · simp [Value.ownBlock] at hg'; omega
end
theorem sn_le (k : Option DK) : sn k ≤ 600 := by
  match k with
  | none => exact Nat.zero_le _
  | some y => show sz y.a ≤ 600; cases y.a <;> decide
theorem fn_le (k : Option DK) : fn k ≤ 600 := by
  match k with
  | none => exact Nat.zero_le _
  | some y => show fm3n y.a ≤ 600; cases y.a <;> decide
/-- What was told lies in no block of 'av'. -/
def Far (av : Nat → Prop) (tl : List TE) : Prop := ∀ q ∈ tl, ∀ g, (q.t.ownBlock = some g → ¬ av g) ∧ (q.w.ownBlock = some g → ¬ av g)
/-- Between two calls. -/
def PG (w0 : World) (B xb lb mb T tn : Nat) (tt : Int) (av : Nat → Prop) (W : World) : Prop := ∃ sts rts tl L sv rv tv wv lv mv, PL w0 B xb lb mb av sts rts tl L L sv rv tv wv lv mv W ∧ sts.map kdP = rts.map kdQ ∧ 2 ≤ sts.length ∧ sts.length ≤ 10 ∧ tl.length ≤ tn ∧ (∀ k ∈ sts.map kdP, Mx T k) ∧ tot L ≤ tt ∧ Far av tl
section
variable {w0 W W' : World} {B xb lb mb T T' tn tn' : Nat} {tt tt' : Int} {av av' : Nat → Prop}
theorem PG.mono (h : PG w0 B xb lb mb T tn tt av W) (h1 : T ≤ T') (h2 : tn ≤ tn') (h3 : tt ≤ tt') : PG w0 B xb lb mb T' tn' tt' av W := by
  obtain ⟨sts, rts, tl, L, sv, rv, tv, wv, lv, mv, hP, hev, q3, q12, htl, hT, hL1, hf⟩ := h
  exact ⟨sts, rts, tl, L, sv, rv, tv, wv, lv, mv, hP, hev, q3, q12, by omega, fun k hk y hy => ⟨Nat.le_trans (hT k hk y hy).1 h1, Nat.le_trans (hT k hk y hy).2 h1⟩, by omega, hf⟩
/-- Lists of bytes in blocks of 'av' are written over. -/
theorem PG.over (h : PG w0 B xb lb mb T tn tt av W) {S : Nat → Prop} (hk : Kp S W W') (hS : ∀ j, S j → j < W.heap.size → av j ∧ ∃ cs, Blk W j cs 5) (hB : ∀ j, av j → B ≤ j) : PG w0 B xb lb mb T tn tt (fun _ => False) W' := by
  obtain ⟨sts, rts, tl, L, sv, rv, tv, wv, lv, mv, hP, hev, q3, q12, htl, hT, hL1, hf⟩ := h
  exact ⟨sts, rts, tl, L, sv, rv, tv, wv, lv, mv, PLg.over hP hk hS hB (fun _ e => e) hf, hev, q3, q12, htl, hT, hL1, fun _ _ _ => ⟨fun _ e => e, fun _ e => e⟩⟩
theorem PG.below (h : PG w0 B xb lb mb T tn tt av W) (hb : Below W.heap.size W W') : PG w0 B xb lb mb T tn tt av W' := by
  obtain ⟨sts, rts, tl, L, sv, rv, tv, wv, lv, mv, hP, r⟩ := h
  exact ⟨sts, rts, tl, L, sv, rv, tv, wv, lv, mv, PLg.below hP hb, r⟩
theorem PG.bel (h : PG w0 B xb lb mb T tn tt av W) : Below B w0 W ∧ B ≤ W.heap.size := by
  obtain ⟨sts, rts, tl, L, sv, rv, tv, wv, lv, mv, hP, _⟩ := h
  exact ⟨hP.gm.bel, hP.gm.hB⟩
end
theorem far_enter {W : World} {B : Nat} {av : Nat → Prop} {tl : List TE} (h : TL W B tl) (ha : ∀ j, av j → W.heap.size ≤ j) : Far av tl := fun q hq g => ⟨fun hg hv => by have := By.own_lt (h.own q hq).1 g hg; have := ha g hv; omega, fun hg hv => by have := By.own_lt (h.own q hq).2.1 g hg; have := ha g hv; omega⟩
theorem far_more {W W2 : World} {base base2 n : Nat} {av : Nat → Prop} {tl : List TE} {b c : Value} {f : Nat → Int} (h : Far av tl) (hb : By.Own W base b n f) (hc : By.Own W2 base2 c n f) (ha : ∀ j, av j → j < base) (ha2 : ∀ j, av j → j < base2) : Far av (tl ++ [⟨b, c, n, f⟩]) := fun q hq g => by
  rcases List.mem_append.1 hq with hq | hq
  · exact h q hq g
  · rw [List.mem_singleton.1 hq]
    have far : ∀ (W : World) base v, By.Own W base v n f → (∀ j, av j → j < base) → v.ownBlock = some g → ¬ av g := fun W base v ho ha hg hv => by
      have := ha g hv
      rcases ho.shape with ⟨rfl, _⟩ | ⟨g', cap, rfl, hgb, _⟩
      · simp [Value.ownBlock] at hg
      · simp [Value.ownBlock] at hg; omega
    exact ⟨far W base b hb ha, far W2 base2 c hc ha2⟩
theorem lens_mono {sts : List EP} {T T' : Nat} (h : ∀ k ∈ sts.map kdP, Mx T k) (hT : T ≤ T') : ∀ k ∈ sts.map kdP, Mx T' k := fun k hk y hy => ⟨Nat.le_trans (h k hk y hy).1 hT, Nat.le_trans (h k hk y hy).2 hT⟩
theorem lens_push {sts : List EP} {T T' : Nat} (h : ∀ k ∈ sts.map kdP, Mx T k) (hT : T ≤ T') {x : EP} (hk : Mx T' (kdP x)) : ∀ k ∈ (sts ++ [x]).map kdP, Mx T' k := by
  intro k hk'
  rw [List.map_append] at hk'
  rcases List.mem_append.1 hk' with hk' | hk'
  · exact lens_mono h hT k hk'
  · rw [List.mem_singleton.1 hk']; exact hk
section
variable {w0 W : World} {B xb lb mb : Nat} {av : Nat → Prop} {sts : List EP} {rts : List EQ} {tl : List TE} {L M : List Rn} {sv rv tv wv lv mv : Value} {gs gs' : List EM} {qs qs' : List (Nat × Option DK)} {ss rs : List Value}
theorem pl_push {p : Nat × Option PX} {r : Nat × Option DK} (h : PLg w0 B xb lb mb av ((sts.filterMap id).map emP ++ [emP p]) (rts.filterMap id ++ [r]) (sts.map spP ++ [.pointer (some ⟨p.1, 0, none⟩)]) (rts.map spQ ++ [.pointer (some ⟨r.1, 0, none⟩)]) tl L M sv rv tv wv lv mv W) : PL w0 B xb lb mb av (sts ++ [some p]) (rts ++ [some r]) tl L M sv rv tv wv lv mv W := by
  show PLg w0 B xb lb mb av (((sts ++ [some p]).filterMap id).map emP) ((rts ++ [some r]).filterMap id) ((sts ++ [some p]).map spP) ((rts ++ [some r]).map spQ) tl L M sv rv tv wv lv mv W
  rw [List.filterMap_append, List.map_append, List.filterMap_append, List.map_append, List.map_append]
  exact h
theorem PLg.drop (h : PLg w0 B xb lb mb av (gs ++ gs') (qs ++ qs') ss rs tl L M sv rv tv wv lv mv W) : PLg w0 B xb lb mb av gs qs ss rs tl L M sv rv tv wv lv mv W :=
  ⟨⟨fun p hp => h.gm.st p (List.mem_append_left _ hp), (List.pairwise_append.1 h.gm.stn).1, h.gm.led, h.gm.ledn, h.gm.bel, h.gm.kt, h.gm.h1, h.gm.hB⟩, ⟨fun p hp => h.ds.st p (List.mem_append_left _ hp), (List.pairwise_append.1 h.ds.stn).1⟩, h.four, h.told⟩
end
theorem kinds_at {sts : List EP} {rts : List EQ} (h : sts.map kdP = rts.map kdQ) {i : Nat} (hi : i < sts.length) : rts.length = sts.length ∧ ∃ e e', sts[i]? = some e ∧ rts[i]? = some e' ∧ kdQ e' = kdP e := by
  have hl : rts.length = sts.length := by have := congrArg List.length h; simpa using this.symm
  refine ⟨hl, sts[i], rts[i], List.getElem?_eq_getElem hi, List.getElem?_eq_getElem (by omega), ?_⟩
  have := congrArg (fun l => l[i]?) h
  simp only [List.getElem?_map, List.getElem?_eq_getElem hi, List.getElem?_eq_getElem (show i < rts.length by omega), Option.map_some, Option.some.injEq] at this
  exact this.symm
theorem kinds_set {sts : List EP} {rts : List EQ} (h : sts.map kdP = rts.map kdQ) {i : Nat} {x : EP} {x' : EQ} (hk : kdQ x' = kdP x) : (sts.set i x).map kdP = (rts.set i x').map kdQ := by
  rw [List.map_set, List.map_set, hk, h]
theorem lens_set {sts : List EP} {T T' : Nat} (h : ∀ k ∈ sts.map kdP, Mx T k) (hT : T ≤ T') {i : Nat} {x : EP} (hk : Mx T' (kdP x)) : ∀ k ∈ (sts.set i x).map kdP, Mx T' k := by
  intro k hk'
  rw [List.map_set] at hk'
  rcases List.mem_or_eq_of_mem_set hk' with hk' | rfl
  · exact fun y hy => ⟨Nat.le_trans (h k hk' y hy).1 hT, Nat.le_trans (h k hk' y hy).2 hT⟩
  · exact hk
theorem lens_at {sts : List EP} {T : Nat} (h : ∀ k ∈ sts.map kdP, Mx T k) {i : Nat} {e : EP} (he : sts[i]? = some e) : Mx T (kdP e) := h _ (List.mem_map_of_mem (List.mem_of_getElem? he))
theorem mx_map {T T' : Nat} {k : Option DK} (F : DK → DK) (h : Mx T k) (hF : ∀ y, y.nk ≤ T → y.m ≤ T → (F y).nk ≤ T' ∧ (F y).m ≤ T') : Mx T' (k.map F) := by
  match k, h with
  | none, _ => exact fun y hy => by cases hy
  | some y, h => intro z hz; cases hz; exact hF y (h y rfl).1 (h y rfl).2
theorem mx_none (T : Nat) : Mx T none := fun y hy => by cases hy
/-- The total of a ledger's counts, behind what a call records. -/
theorem wL_tot {L : List Rn} (hp : Pos L) (n T : Nat) (k : Option DK) (hk : Mx T k) (hn : T + n ≤ 5000000) (hb : tot L ≤ 800000000) : tot (wL n L k) ≤ tot L + n := by
  match k, hk with
  | none, _ => show tot L ≤ tot L + n; omega
  | some y, hk =>
    have := hk y rfl
    have h1 : (y.m + n) / bk y.a - y.m / bk y.a ≤ n := by cases y.a <;> simp only [bk] <;> omega
    show tot (evs y.a L _) ≤ _
    rw [evsT y.a hp _ (by omega)]
    omega
theorem sL_tot {L : List Rn} (hp : Pos L) (k : Option DK) (hb : tot L ≤ 800000000) : tot (sL L k) ≤ tot L + 3 := by
  match k with
  | none => show tot L ≤ tot L + 3; omega
  | some y =>
    have h1 := (last_le y.a y.m).1
    show tot (evs y.a L _) ≤ _
    rw [evsT y.a hp _ (by omega)]
    omega
theorem pL_tot {L : List Rn} (hp : Pos L) (k : Option DK) (hb : tot L ≤ 800000000) : tot (pL L k) ≤ tot L + 1 := by
  match k with
  | none => show tot L ≤ tot L + 1; omega
  | some y =>
    show tot (putL L _) ≤ _
    rw [tot_put hp (by show (1 : Int) ≤ 1; omega) (by show tot L + 1 ≤ _; omega)]
    show tot L + 1 ≤ _; omega
theorem kev_tot {L : List Rn} (a : Bool) (hp : Pos L) (n : Nat) (hn : n ≤ 5000000) (hb : tot L ≤ 800000000) : tot (kev a L n) ≤ tot L + n + 4 ∧ Pos (kev a L n) := by
  have h1 := keT a hp n (by omega) (by omega)
  have h2 := keP a hp n
  refine ⟨?_, evsP a h2 2⟩
  show tot (evs a (ke a L n) 2) ≤ _
  rw [evsT a h2 2 (by omega)]
  omega
theorem tag_tot {L : List Rn} (a : Bool) (hp : Pos L) (n np : Nat) (hn : n ≤ 5000000) (hnp : np ≤ 5000000) (hb : tot L ≤ 800000000) : tot (sev a (evs a (kev a L n) (np / bk a)) np) ≤ tot L + n + np + 7 := by
  obtain ⟨h1, h2⟩ := kev_tot a hp n hn hb
  have h3 : np / bk a ≤ np := Nat.div_le_self _ _
  have h4 := (last_le a np).1
  show tot (evs a (evs a (kev a L n) (np / bk a)) (last a np + 1)) ≤ _
  rw [evsT a (evsP a h2 _) _ (by rw [evsT a h2 _ (by omega)]; omega), evsT a h2 _ (by omega)]
  omega
end Go.Proofs.YtpgkalgnlkfmaaaGreatDoor.Dg
