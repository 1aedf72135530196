/- The law HmacPlays: New and Tag of either side; one mac more. -/
import Derived.Test.YtpgkalgnlkfmaaaGreatDoorMp3
namespace Go.Proofs.YtpgkalgnlkfmaaaGreatDoor.Dg
open Go.ChangeShapes Go.WideShapes Go.ChangeAt Go.RowKit
open Go.Proofs.YtpgkalgnlkfmaaaGreatDoor.By
open Go.Proofs.YtpgkalgnlkfmaaaGreatDoor.Sh (Blk size_alloc)
section
variable {w0 W W' : World} {B xb lb mb : Nat} {av : Nat → Prop} {gs : List EM} {qs : List (Nat × Option DK)} {ss rs : List Value} {tl : List TE} {L M : List Rn} {sv rv tv wv lv mv : Value}
theorem PLg.kuL (h : PLg w0 B xb lb mb av gs qs ss rs tl L M sv rv tv wv lv mv W) (hk : Kp (SE ⟨true, lb, lv, L⟩) W W') : Ku W W' := ku_type hk (fun j hj _ => by
  obtain ⟨c', t', hb', ht'⟩ := (h.gm.led ⟨true, lb, lv, L⟩ (by simp)).1.kind hj
  exact ⟨c', t', hb', lty8 ht'⟩)
theorem PLg.kuM (h : PLg w0 B xb lb mb av gs qs ss rs tl L M sv rv tv wv lv mv W) (hk : Kp (SM mb mv) W W') : Ku W W' := ku_type hk (fun j hj _ => by
  obtain ⟨c', t', hb', ht'⟩ := (h.gm.led ⟨false, mb, mv, M⟩ (by simp)).1.kind hj
  exact ⟨c', t', hb', lty8 ht'⟩)
theorem PLg.kuF (h : PLg w0 B xb lb mb av gs qs ss rs tl L M sv rv tv wv lv mv W) (hk : Kp (SF xb sv rv tv wv) W W') : Ku W W' := ku_type hk (fun j hj _ => by
  obtain ⟨_, c', t', hb', e⟩ := h.four.kind hj
  exact ⟨c', t', hb', by rcases e with rfl | rfl | rfl | rfl <;> decide⟩)
theorem PLg.bb (h : PLg w0 B xb lb mb av gs qs ss rs tl L M sv rv tv wv lv mv W) (hk : Kp (SM mb mv) W W') : Below B w0 W' := h.gm.bel.trans (hk.below h.gm.hB (fun j hj hs => by have := (h.gm.led ⟨false, mb, mv, M⟩ (by simp)).2 j hs; omega))
theorem PLg.newP (h : PLg w0 B xb lb mb av gs qs ss rs tl L M sv rv tv wv lv mv W) (a : Bool) (n : Nat) (v : Value) (g : Nat → Int) (hr : ∀ w', Ku W w' → By.RB w' v n g) (hn : n ≤ 4900000) (hroom : tot L ≤ 800000000) :
    Calls Tryz.prog 19 #[.pointer (some ⟨lb, 0, none⟩), .int .u8 (an a), v] W fun r w' => ∃ b b0 b1 b2 lv', r = .returned (.tuple #[.pointer (some ⟨b, 0, none⟩), .int .i64 0]) ∧ PLg w0 B xb lb mb av (gs ++ [emP (b, some ⟨⟨a, n, g, 0, nof⟩, b0, b1, b2⟩)]) qs ss rs tl (kev a L n) M sv rv tv wv lv' mv w' ∧ Ku W w' := by
  refine (GM.new (l1 := []) h.gm a n v g (fun w' hk => hr w' (h.kuL hk)) (by omega) hroom).mono ?_
  rintro r w' ⟨b, b0, b1, b2, lv', rfl, hg, hko, _⟩
  exact ⟨b, b0, b1, b2, lv', rfl, h.prog hg hko, hko.ku⟩
theorem PLg.newQ (h : PLg w0 B xb lb mb av gs qs ss rs tl L M sv rv tv wv lv mv W) (a : Bool) (n : Nat) (v : Value) (g : Nat → Int) (hr : ∀ w', Below B w0 w' → By.RB w' v n g) (hn : n ≤ 4900000) (hroom : tot M ≤ 800000000) (hav : ∀ j, av j → j < W.heap.size) :
    Calls Tryz.prog 20 #[.pointer (some ⟨mb, 0, none⟩), .int .u8 (an a), v] W fun r w' => ∃ d mv', r = .returned (.tuple #[.pointer (some ⟨d, 0, none⟩), .int .i64 0]) ∧ PLg w0 B xb lb mb av gs (qs ++ [(d, some ⟨a, n, g, 0, nof⟩)]) ss rs tl L (kev a M n) sv rv tv wv lv mv' w' ∧ Ku W w' := by
  refine (qnewM a mb n mv v g M W h.mled (fun w' hk => hr w' (h.bb hk)) (by omega) (by omega)).mono ?_
  rintro r w' ⟨d, kv, hd, rfl, hq, hkv, hrw⟩
  obtain ⟨mv', hP⟩ := h.docL hrw
  exact ⟨d, mv', rfl, hP.addQ (V := W) (fun p hp => (h.ds.st p hp).1.q) h.gm.hB ⟨kv, _, hq, fun p hp ha => by have := hkv p hp; have := hav p ha; omega, fun g hg => by simp [Value.ownBlock] at hg⟩ hd, h.kuM hrw.2⟩
theorem PLg.tagP (h : PLg w0 B xb lb mb av gs qs ss rs tl L M sv rv tv wv lv mv W) (a : Bool) (n np : Nat) (v v2 : Value) (g f : Nat → Int) (hr : ∀ w', Ku W w' → By.RB w' v n g) (hr2 : ∀ w', Ku W w' → By.RB w' v2 np f) (hn : n ≤ 4900000) (hnp : np ≤ 4900000) (hroom : tot L ≤ 800000000) :
    Calls Tryz.prog 16 #[.pointer (some ⟨lb, 0, none⟩), .int .u8 (an a), v, v2] W fun r w' => ∃ u lv', r = .returned (.tuple #[u, .int .i64 0]) ∧ By.Own w' W.heap.size u (sz a) (hm a (kb a n g) np f) ∧ PLg w0 B xb lb mb av gs qs ss rs tl (sev a (evs a (kev a L n) (np / bk a)) np) M sv rv tv wv lv' mv w' ∧ Ku W w' := by
  refine (GM.tag (l1 := []) h.gm a n np v v2 g f (fun w' hk => hr w' (h.kuL hk)) (fun w' hk => hr2 w' (h.kuL hk)) hn hnp hroom).mono ?_
  rintro r w' ⟨u, lv', rfl, ho, hg, hko⟩
  exact ⟨u, lv', rfl, ho, h.prog hg hko, hko.ku⟩
theorem PLg.tagQ (h : PLg w0 B xb lb mb av gs qs ss rs tl L M sv rv tv wv lv mv W) (a : Bool) (n np : Nat) (v v2 : Value) (g f : Nat → Int) (hr : ∀ w', Below B w0 w' → By.RB w' v n g) (hr2 : ∀ w', Below B w0 w' → By.RB w' v2 np f) (hn : n ≤ 4900000) (hnp : np ≤ 4900000) (hroom : tot M ≤ 800000000) :
    Calls Tryz.prog 17 #[.pointer (some ⟨mb, 0, none⟩), .int .u8 (an a), v, v2] W fun r w' => ∃ u mv', r = .returned (.tuple #[u, .int .i64 0]) ∧ By.Own w' W.heap.size u (sz a) (hm a (kb a n g) np f) ∧ PLg w0 B xb lb mb av gs qs ss rs tl L (sev a (evs a (kev a M n) (np / bk a)) np) sv rv tv wv lv mv' w' ∧ Ku W w' := by
  refine (rtagM a mb n np mv v v2 g f M W h.mled (fun w' hk => hr w' (h.bb hk)) (fun w' hk => hr2 w' (h.bb hk)) (by omega) (by omega) (by omega)).mono ?_
  rintro r w' ⟨u, rfl, ho, hrw⟩
  obtain ⟨mv', hP⟩ := h.docL hrw
  exact ⟨u, mv', rfl, ho, hP, h.kuM hrw.2⟩
end
/-- One mac more: neither. -/
theorem more0 (x : Value) (w : World) : Calls Tryz.prog 21 #[x, .pointer none, .pointer none] w fun r w' => r = .returned (.bool true) ∧ w' = w := by
  go_enter Tryz.func21, Tryz.ntmps21
  go_wp2
  go_ret
  exact ⟨rfl, rfl⟩
section
variable {w0 W W' : World} {B xb lb mb : Nat} {av : Nat → Prop} {gs : List EM} {qs : List (Nat × Option DK)} {ss rs : List Value} {tl : List TE} {L M : List Rn} {sv rv tv wv lv mv : Value}
theorem PLg.moreN (h : PLg w0 B xb lb mb av gs qs ss rs tl L M sv rv tv wv lv mv W) (b c : Nat) (hl : ¬ ss.length < 10) : Calls Tryz.prog 21 #[.pointer (some ⟨xb, 0, none⟩), .pointer (some ⟨b, 0, none⟩), .pointer (some ⟨c, 0, none⟩)] W fun r w' => r = .returned (.bool true) ∧ w' = W := by
  obtain ⟨sa, sc, rfl⟩ := rowG_slice h.four.r1
  have c2 := h.four.here.cell 2 _ rfl
  have l10 : ¬ (ss.length : Int) < 10 := by omega
  clear h
  go_enter Tryz.func21, Tryz.ntmps21
  go_wp2
  go_ret
  exact ⟨rfl, rfl⟩
set_option maxRecDepth 100000 in
set_option maxHeartbeats 1000000 in
theorem PLg.moreY (h : PLg w0 B xb lb mb av gs qs ss rs tl L M sv rv tv wv lv mv W) (b c ns : Nat) (hns : ss.length = ns) (hrl : rs.length = ns) (hl : ns < 10) : Calls Tryz.prog 21 #[.pointer (some ⟨xb, 0, none⟩), .pointer (some ⟨b, 0, none⟩), .pointer (some ⟨c, 0, none⟩)] W fun r w' => r = .returned (.bool true) ∧ ∃ sv' rv', PLg w0 B xb lb mb av gs qs (ss ++ [.pointer (some ⟨b, 0, none⟩)]) (rs ++ [.pointer (some ⟨c, 0, none⟩)]) tl L M sv' rv' tv wv lv mv w' ∧ Ku W w' := by
  have r1 := h.four.r1
  have r2 := h.four.r2
  rw [hns] at r1
  rw [hrl] at r2
  obtain ⟨sa, sc, rfl⟩ := rowG_slice r1
  obtain ⟨ra, rc, rfl⟩ := rowG_slice r2
  have H := hid h
  have R1 := hid r1
  have c2 := h.four.here.cell 2 _ rfl
  have c3 := h.four.here.cell 3 _ rfl
  have f2 := h.four.here.frozen 2
  have f3 := h.four.here.frozen 3
  have hltx := h.four.here.lt
  have hBw := h.gm.hB
  have l10 : (ns : Int) < 10 := by omega
  clear h r1 r2
  go_enter Tryz.func21, Tryz.ntmps21
  go_wp2_with (at_builtin; go_must (refine wpList_pushG 28 33 (.pointer none) 8 Tryz.underlying28 infoP rfl (by decide) rfl _ _ rfl B _ ns ss _ (rowG_kept R1.out (Kp.of_below (fun _ => False) (below_alloc _ _)) (fun _ _ => id)) rfl ?c1 ?c2 ⟨_, 0, none⟩ rfl rfl (cell_newG _ _ _ _ rfl) ?_))
  case c1 => simp; omega
  case c2 => omega
  intro u1 w3 hown hkp hson
  obtain ⟨b3, t3, k3, s3⟩ := H.out.four.pushS (below_alloc W _) (by rw [hns]; exact hown) hkp hson
  obtain ⟨ua, uc, rfl⟩ := rowG_slice hown
  have hsz3 := hkp.size
  have hz3 : W.heap.size ≤ w3.heap.size := by simp at hsz3; omega
  have g2 := b3.cell 2 _ rfl
  have g3 := b3.cell 3 _ rfl
  have i2 := b3.frozen 2
  have hlt3 := b3.lt
  have T3 := hid t3
  have K3 := hid k3
  have j3 := t3.here.cell 3 _ rfl
  have hset : (w3.setCell ⟨xb, 2, none⟩ (.slice ua (ns + 1) uc)).heap.size = w3.heap.size := by simp [World.setCell]
  have R2 : Hid ((w3.setCell ⟨xb, 2, none⟩ (.slice ua (ns + 1) uc)).ownsRow B 39 1 (.slice ra ns rc) ns rs) := by have := t3.r2; rw [hrl] at this; exact this
  clear hown hkp hson b3 t3 k3 s3 hsz3 R1
  go_wp2_with (at_builtin; go_must (refine wpList_pushG 29 39 (.pointer none) 8 Tryz.underlying29 infoQ rfl (by decide) rfl _ _ rfl B _ ns rs _ (rowG_kept R2.out (Kp.of_below (fun _ => False) (below_alloc _ _)) (fun _ _ => id)) rfl ?c1 ?c2 ⟨_, 0, none⟩ rfl rfl (cell_newG _ _ _ _ (by simp)) ?_))
  case c1 => simp; omega
  case c2 => omega
  intro u2 w4 hown hkp hson
  obtain ⟨b4, t4, k4, s4⟩ := T3.out.pushR (below_alloc _ _) (by rw [hrl]; exact hown) hkp hson
  obtain ⟨ub, ud, rfl⟩ := rowG_slice hown
  have o2 := b4.cell 2 _ rfl
  have o3 := b4.cell 3 _ rfl
  have p3 := b4.frozen 3
  have T4 := hid t4
  have K4 := hid (show Kp (SF xb (.slice sa ns sc) (.slice ra ns rc) tv wv) W _ from (K3.out.mono (fun j _ e => e.elim .inl (fun e => .inr (.inl e)))).trans k4 (fun j _ e => e.elim .inl (fun e => .inr (.inr (.inl e)))))
  clear hown hkp hson b4 t4 k4 s4 R2
  go_wp2
  go_ret
  exact ⟨rfl, _, _, H.out.grow T4.out K4.out, H.out.kuF K4.out⟩
end
end Go.Proofs.YtpgkalgnlkfmaaaGreatDoor.Dg
