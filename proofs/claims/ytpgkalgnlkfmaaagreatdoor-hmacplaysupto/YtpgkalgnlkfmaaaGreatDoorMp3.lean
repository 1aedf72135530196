/- The law HmacPlays: each call of either side, at nil, at none and at a mac. -/
import Derived.Test.YtpgkalgnlkfmaaaGreatDoorMp2
namespace Go.Proofs.YtpgkalgnlkfmaaaGreatDoor.Dg
open Go.ChangeShapes Go.WideShapes Go.ChangeAt Go.RowKit
open Go.Proofs.YtpgkalgnlkfmaaaGreatDoor.By
open Go.Proofs.YtpgkalgnlkfmaaaGreatDoor.Sh (Blk size_alloc)
/-- Lists of bytes that are owned stay, and the step's own block. -/
structure Ku (W W' : World) : Prop where
  own : ∀ base v n f, By.Own W base v n f → By.Own W' base v n f
  stp : ∀ g cs, Blk W g cs 46 → Blk W' g cs 46
theorem Ko.ku {W W' : World} (h : Ko W W') : Ku W W' := ⟨fun _ _ _ _ ho => h.own ho, fun g cs hb => h g cs _ hb (by decide)⟩
theorem Ku.trans {W W1 W2 : World} (h : Ku W W1) (k : Ku W1 W2) : Ku W W2 := ⟨fun _ _ _ _ ho => k.own _ _ _ _ (h.own _ _ _ _ ho), fun g cs hb => k.stp g cs (h.stp g cs hb)⟩
theorem ku_below {W W' : World} (h : Below W.heap.size W W') : Ku W W' := (Ko.below h).ku
theorem Ku.refl (W : World) : Ku W W := ⟨fun _ _ _ _ h => h, fun _ _ h => h⟩
theorem ku_type {W W' : World} {S : Nat → Prop} (hk : Kp S W W') (hS : ∀ j, S j → j < W.heap.size → ∃ cs t, Blk W j cs t ∧ t ≠ 5 ∧ t ≠ 46) : Ku W W' := by
  refine ⟨fun _ _ _ _ ho => Sg.own_kept ho hk (fun g hg hs => ?_), fun g cs hb => hb.kept hk (fun hs => ?_)⟩
  · obtain ⟨c, hc⟩ := Sg.own8_type ho hg
    have hu : Blk W g c.toList 5 := by show W.heap[g]? = _; rw [hc]
    obtain ⟨cs, t, hb, ht, _⟩ := hS g hs hu.lt
    exact Blk.ne hu hb (fun e => ht e.symm) rfl
  · obtain ⟨cs', t, hb', _, ht⟩ := hS g hs hb.lt
    exact Blk.ne hb hb' (fun e => ht e.symm) rfl
theorem mty8 {t : TypeId} (h : Mty t) : t ≠ 5 ∧ t ≠ 46 := by rcases h with rfl | rfl | rfl <;> decide
theorem lty8 {t : TypeId} (h : Lty t) : t ≠ 5 ∧ t ≠ 46 := by rcases h with rfl | rfl | rfl <;> decide
theorem own_nil0 (w : World) (base : Nat) : By.Own w base (.slice none 0 0) 0 nof := By.own_nil _ _ _ nof_b
def er : Option DK → Int
  | none => 1
  | some _ => 0
def wk (n : Nat) (g : Nat → Int) (y : DK) : DK := ⟨y.a, y.nk, y.kf, y.m + n, cat y.m y.f g⟩
def rk (y : DK) : DK := ⟨y.a, y.nk, y.kf, 0, nof⟩
def wL (n : Nat) (L : List Rn) : Option DK → List Rn
  | none => L
  | some y => evs y.a L ((y.m + n) / bk y.a - y.m / bk y.a)
def sL (L : List Rn) : Option DK → List Rn
  | none => L
  | some y => sev y.a L y.m
def pL (L : List Rn) : Option DK → List Rn
  | none => L
  | some y => putL L ⟨8, fm3n y.a, 1⟩
def sn : Option DK → Nat
  | none => 0
  | some y => sz y.a
def sf : Option DK → Nat → Int
  | none => nof
  | some y => hm y.a (kb y.a y.nk y.kf) y.m y.f
def fn : Option DK → Nat
  | none => 0
  | some y => fm3n y.a
def ff : Option DK → Nat → Int
  | none => nof
  | some y => mfm y.a (kb y.a y.nk y.kf) y.m y.f
/-- No key and no message is longer. -/
def Mx (T : Nat) (k : Option DK) : Prop := ∀ y, k = some y → y.nk ≤ T ∧ y.m ≤ T
section
variable {w0 W W' : World} {B xb lb mb : Nat} {av : Nat → Prop} {sts : List EP} {rts : List EQ} {tl : List TE} {L M : List Rn} {sv rv tv wv lv mv : Value} {i T : Nat}
theorem PL.noneP (h : PL w0 B xb lb mb av sts rts tl L M sv rv tv wv lv mv W) {b : Nat} (he : sts[i]? = some (some (b, none))) : Blk W b nm4 38 := ((h.gmAt he).st (b, none) (by simp)).1
theorem PL.turnP (h : PL w0 B xb lb mb av sts rts tl L M sv rv tv wv lv mv W) {b : Nat} {k k' : Option PX} {lv' : Value} {L' : List Rn} (he : sts[i]? = some (some (b, k))) (hg : GM w0 B (((sts.take i).filterMap id).map emP ++ (b, k'.map PX.mb) :: ((sts.drop (i + 1)).filterMap id).map emP) ([] ++ ⟨true, lb, lv', L'⟩ :: [⟨false, mb, mv, M⟩]) W') (hk : Ko W W') : PL w0 B xb lb mb av (sts.set i (some (b, k'))) rts tl L' M sv rv tv wv lv' mv W' :=
  h.prog (map_set_same spP sts i _ (some (b, k')) he rfl) (by rw [em_set he]; exact hg) hk
theorem PL.writeP (h : PL w0 B xb lb mb av sts rts tl L M sv rv tv wv lv mv W) (e : EP) (he : sts[i]? = some e) (n : Nat) (v : Value) (g : Nat → Int) (hr : ∀ w', Ku W w' → By.RB w' v n g) (hm : Mx T (kdP e)) (hT : T + n ≤ 4900000) (hroom : tot L ≤ 800000000) :
    Calls Tryz.prog 22 #[spP e, .pointer (some ⟨lb, 0, none⟩), v] W fun r w' => r = .returned (.int .i64 (er (kdP e))) ∧ ∃ e' lv', spP e' = spP e ∧ kdP e' = (kdP e).map (wk n g) ∧ PL w0 B xb lb mb av (sts.set i e') rts tl (wL n L (kdP e)) M sv rv tv wv lv' mv w' ∧ Ko W w' := by
  match e, he, hm with
  | none, he, _ =>
    refine (mWriteZ _ v W).mono ?_
    rintro r w' ⟨rfl, rfl⟩
    exact ⟨rfl, none, lv, rfl, rfl, by rw [set_same he]; exact h, fun _ _ _ hb _ => hb⟩
  | some (b, none), he, _ =>
    refine (mWriteN b _ v W (h.noneP he)).mono ?_
    rintro r w' ⟨rfl, rfl⟩
    exact ⟨rfl, some (b, none), lv, rfl, rfl, by rw [set_same he]; exact h, fun _ _ _ hb _ => hb⟩
  | some (b, some x), he, hm =>
    have hx := hm x.y rfl
    have G := h.gmAt he
    refine (GM.write (l1 := []) G n v g (fun w' hk => hr w' (ku_type hk (fun j hj hlt => ?_))) (by show x.y.m + n ≤ 5500000; omega) hroom).mono ?_
    · rcases hj with e1 | e1
      · obtain ⟨c', t', hb', ht'⟩ := (G.st (b, some x.mb) (by simp)).1.kind (j := j) (.inr ⟨x.mb, rfl, .inl e1⟩)
        exact ⟨c', t', hb', mty8 ht'⟩
      · obtain ⟨c', t', hb', ht'⟩ := (h.gm.led ⟨true, lb, lv, L⟩ (by simp)).1.kind e1
        exact ⟨c', t', hb', lty8 ht'⟩
    · rintro r w' ⟨rfl, lv', hg, hko⟩
      exact ⟨rfl, some (b, some ⟨wk n g x.y, x.b0, x.b1, x.b2⟩), lv', rfl, rfl, h.turnP (k' := some ⟨wk n g x.y, x.b0, x.b1, x.b2⟩) he hg hko, hko⟩
theorem PL.resetP (h : PL w0 B xb lb mb av sts rts tl L M sv rv tv wv lv mv W) (e : EP) (he : sts[i]? = some e) :
    Calls Tryz.prog 26 #[spP e] W fun r w' => r = .returned (.int .i64 (er (kdP e))) ∧ ∃ e', spP e' = spP e ∧ kdP e' = (kdP e).map rk ∧ PL w0 B xb lb mb av (sts.set i e') rts tl L M sv rv tv wv lv mv w' ∧ Ko W w' := by
  match e, he with
  | none, he =>
    refine (mResetZ W).mono ?_
    rintro r w' ⟨rfl, rfl⟩
    exact ⟨rfl, none, rfl, rfl, by rw [set_same he]; exact h, fun _ _ _ hb _ => hb⟩
  | some (b, none), he =>
    refine (mResetN b W (h.noneP he)).mono ?_
    rintro r w' ⟨rfl, rfl⟩
    exact ⟨rfl, some (b, none), rfl, rfl, by rw [set_same he]; exact h, fun _ _ _ hb _ => hb⟩
  | some (b, some x), he =>
    refine (GM.reset (h.gmAt he)).mono ?_
    rintro r w' ⟨rfl, c, hg, hko⟩
    exact ⟨rfl, some (b, some ⟨rk x.y, c, x.b1, x.b2⟩), rfl, rfl, h.turnP (k' := some ⟨rk x.y, c, x.b1, x.b2⟩) he hg hko, hko⟩
theorem PL.wipeP (h : PL w0 B xb lb mb av sts rts tl L M sv rv tv wv lv mv W) (e : EP) (he : sts[i]? = some e) (hroom : tot L ≤ 800000000) :
    Calls Tryz.prog 30 #[spP e, .pointer (some ⟨lb, 0, none⟩)] W fun r w' => r = .returned (.int .i64 (er (kdP e))) ∧ ∃ e' lv', spP e' = spP e ∧ kdP e' = none ∧ PL w0 B xb lb mb av (sts.set i e') rts tl (pL L (kdP e)) M sv rv tv wv lv' mv w' ∧ Ko W w' := by
  match e, he with
  | none, he =>
    refine (mWipeZ _ W).mono ?_
    rintro r w' ⟨rfl, rfl⟩
    exact ⟨rfl, none, lv, rfl, rfl, by rw [set_same he]; exact h, fun _ _ _ hb _ => hb⟩
  | some (b, none), he =>
    refine (mWipeN b _ W (h.noneP he)).mono ?_
    rintro r w' ⟨rfl, rfl⟩
    exact ⟨rfl, some (b, none), lv, rfl, rfl, by rw [set_same he]; exact h, fun _ _ _ hb _ => hb⟩
  | some (b, some x), he =>
    refine (GM.wipe (l1 := []) (x := x.mb) (h.gmAt he) hroom).mono ?_
    rintro r w' ⟨rfl, lv', hg, hko⟩
    exact ⟨rfl, some (b, none), lv', rfl, rfl, h.turnP (k' := none) he hg hko, hko⟩
theorem PL.sumP (h : PL w0 B xb lb mb av sts rts tl L M sv rv tv wv lv mv W) (e : EP) (he : sts[i]? = some e) (hm : Mx T (kdP e)) (hT : T ≤ 4900000) (hroom : tot L ≤ 800000000) :
    Calls Tryz.prog 24 #[spP e, .pointer (some ⟨lb, 0, none⟩)] W fun r w' => ∃ v lv', r = .returned (.tuple #[v, .int .i64 (er (kdP e))]) ∧ By.Own w' W.heap.size v (sn (kdP e)) (sf (kdP e)) ∧ PL w0 B xb lb mb av sts rts tl (sL L (kdP e)) M sv rv tv wv lv' mv w' ∧ Ko W w' := by
  match e, he, hm with
  | none, he, _ =>
    refine (mSumZ _ W).mono ?_
    rintro r w' ⟨rfl, rfl⟩
    exact ⟨_, lv, rfl, own_nil0 _ _, h, fun _ _ _ hb _ => hb⟩
  | some (b, none), he, _ =>
    refine (mSumN b _ W (h.noneP he)).mono ?_
    rintro r w' ⟨rfl, rfl⟩
    exact ⟨_, lv, rfl, own_nil0 _ _, h, fun _ _ _ hb _ => hb⟩
  | some (b, some x), he, hm =>
    have hx := hm x.y rfl
    refine (GM.sum (l1 := []) (x := x.mb) (h.gmAt he) (by show x.y.m ≤ 4900000; omega) hroom).mono ?_
    rintro r w' ⟨v, lv', rfl, ho, hg, hko⟩
    refine ⟨v, lv', rfl, ho, ?_, hko⟩
    have := h.turnP (k' := some x) he hg hko
    rwa [set_same he] at this
theorem PL.formP (h : PL w0 B xb lb mb av sts rts tl L M sv rv tv wv lv mv W) (e : EP) (he : sts[i]? = some e) :
    Calls Tryz.prog 12 #[spP e] W fun r w' => ∃ v, r = .returned v ∧ By.Own w' W.heap.size v (fn (kdP e)) (ff (kdP e)) ∧ Below W.heap.size W w' := by
  match e, he with
  | none, he =>
    refine (mFormZ W).mono ?_
    rintro r w' ⟨rfl, rfl⟩
    exact ⟨_, rfl, own_nil0 _ _, Below.refl _ _⟩
  | some (b, none), he =>
    refine (mFormN b W (h.noneP he)).mono ?_
    rintro r w' ⟨rfl, rfl⟩
    exact ⟨_, rfl, own_nil0 _ _, Below.refl _ _⟩
  | some (b, some x), he => exact formM b x.mb W (h.gmAt he).mid
theorem PL.sizeP (h : PL w0 B xb lb mb av sts rts tl L M sv rv tv wv lv mv W) (e : EP) (he : sts[i]? = some e) :
    Calls Tryz.prog 32 #[spP e] W fun r w' => r = .returned (.int .i64 (sn (kdP e))) ∧ w' = W := by
  match e, he with
  | none, he => exact mSizeZ W
  | some (b, none), he => exact mSizeN b W (h.noneP he)
  | some (b, some x), he => exact sizeM b x.mb W (h.gmAt he).mid
/-- A clone, or none. -/
theorem PL.cloneP (h : PL w0 B xb lb mb av sts rts tl L M sv rv tv wv lv mv W) (e : EP) (he : sts[i]? = some e) :
    Calls Tryz.prog 28 #[spP e] W fun r w' => (kdP e = none ∧ r = .returned (.tuple #[.pointer none, .int .i64 1]) ∧ w' = W) ∨ ∃ y b b0 b1 b2, kdP e = some y ∧ r = .returned (.tuple #[.pointer (some ⟨b, 0, none⟩), .int .i64 0]) ∧ PLg w0 B xb lb mb av ((sts.filterMap id).map emP ++ [emP (b, some ⟨y, b0, b1, b2⟩)]) (rts.filterMap id) (sts.map spP) (rts.map spQ) tl L M sv rv tv wv lv mv w' ∧ Ku W w' ∧ W.heap.size ≤ w'.heap.size := by
  match e, he with
  | none, he =>
    refine (mCloneZ W).mono ?_
    rintro r w' ⟨rfl, rfl⟩
    exact .inl ⟨rfl, rfl, rfl⟩
  | some (b, none), he =>
    refine (mCloneN b W (h.noneP he)).mono ?_
    rintro r w' ⟨rfl, rfl⟩
    exact .inl ⟨rfl, rfl, rfl⟩
  | some (b, some x), he =>
    refine (GM.clone (x := x.mb) (h.gmAt he)).mono ?_
    rintro r w' ⟨c, c0, c1, c2, rfl, hg, hb, _⟩
    refine .inr ⟨x.y, c, c0, c1, c2, rfl, rfl, PLg.prog h ?_ (Ko.below hb), ku_below hb, hb.size⟩
    rw [em_at he]
    exact hg
theorem PL.qAt (h : PL w0 B xb lb mb av sts rts tl L M sv rv tv wv lv mv W) {c : Nat} {y : DK} (he : rts[i]? = some (some (c, some y))) : ∃ kv mv, IsQk W c y kv mv ∧ (∀ g, kv.ownBlock = some g → ¬ av g) ∧ ∀ g, mv.ownBlock = some g → ¬ av g := (h.dsAt he).1
theorem PL.kuQ (h : PL w0 B xb lb mb av sts rts tl L M sv rv tv wv lv mv W) {c : Nat} {k : Option DK} (he : rts[i]? = some (some (c, k))) {S : Nat → Prop} (hS : ∀ j, S j → j < W.heap.size → j = c ∨ SM mb mv j) (hk : Kp S W W') : Ku W W' := ku_type hk (fun j hj hlt => by
  rcases hS j hj hlt with e | e
  · obtain ⟨cb, hcb⟩ := (h.dsAt he).1.blk
    exact ⟨cb, _, e ▸ hcb, by decide⟩
  · obtain ⟨c', t', hb', ht'⟩ := (h.gm.led ⟨false, mb, mv, M⟩ (by simp)).1.kind e
    exact ⟨c', t', hb', lty8 ht'⟩)
theorem PL.writeQ (h : PL w0 B xb lb mb av sts rts tl L M sv rv tv wv lv mv W) (e : EQ) (he : rts[i]? = some e) (n : Nat) (v : Value) (g : Nat → Int) (hr : By.RB W v n g) (hm : Mx T (kdQ e)) (hT : T + n ≤ 4900000) (hroom : tot M ≤ 800000000) (hav : ∀ j, av j → j < W.heap.size) :
    Calls Tryz.prog 23 #[spQ e, .pointer (some ⟨mb, 0, none⟩), v] W fun r w' => r = .returned (.int .i64 (er (kdQ e))) ∧ ∃ e' mv', spQ e' = spQ e ∧ kdQ e' = (kdQ e).map (wk n g) ∧ PL w0 B xb lb mb av sts (rts.set i e') tl L (wL n M (kdQ e)) sv rv tv wv lv mv' w' ∧ Ku W w' ∧ W.heap.size ≤ w'.heap.size := by
  match e, he, hm with
  | none, he, _ =>
    refine (qWriteZ _ v W).mono ?_
    rintro r w' ⟨rfl, rfl⟩
    exact ⟨rfl, none, mv, rfl, rfl, by rw [set_same he]; exact h, Ku.refl _, Nat.le_refl _⟩
  | some (c, none), he, _ =>
    refine (qWriteN c _ v W (h.dsAt he).1).mono ?_
    rintro r w' ⟨rfl, rfl⟩
    exact ⟨rfl, some (c, none), mv, rfl, rfl, by rw [set_same he]; exact h, Ku.refl _, Nat.le_refl _⟩
  | some (c, some y), he, hm =>
    have hx := hm y rfl
    obtain ⟨kv, qv, hq, a1, a2⟩ := h.qAt he
    refine (qwriteM y mb c n mv kv qv v g M W hq h.mled hr (by omega) (by omega)).mono ?_
    rintro r w' ⟨rfl, ⟨qv', hq', hnew⟩, ⟨mv', hl, hs⟩, hk⟩
    exact ⟨rfl, some (c, some (wk n g y)), mv', rfl, rfl, h.doc he (k' := some (wk n g y)) (fun j hj _ => hj) hk ⟨kv, qv', hq', a1, fun p hp ha => by have := hnew p hp; have := hav p ha; omega⟩ hl hs, h.kuQ he (fun j hj _ => hj) hk, hk.size⟩
theorem PL.resetQ (h : PL w0 B xb lb mb av sts rts tl L M sv rv tv wv lv mv W) (e : EQ) (he : rts[i]? = some e) :
    Calls Tryz.prog 27 #[spQ e] W fun r w' => r = .returned (.int .i64 (er (kdQ e))) ∧ ∃ e', spQ e' = spQ e ∧ kdQ e' = (kdQ e).map rk ∧ PL w0 B xb lb mb av sts (rts.set i e') tl L M sv rv tv wv lv mv w' ∧ Ku W w' ∧ W.heap.size ≤ w'.heap.size := by
  match e, he with
  | none, he =>
    refine (qResetZ W).mono ?_
    rintro r w' ⟨rfl, rfl⟩
    exact ⟨rfl, none, rfl, rfl, by rw [set_same he]; exact h, Ku.refl _, Nat.le_refl _⟩
  | some (c, none), he =>
    refine (qResetN c W (h.dsAt he).1).mono ?_
    rintro r w' ⟨rfl, rfl⟩
    exact ⟨rfl, some (c, none), rfl, rfl, by rw [set_same he]; exact h, Ku.refl _, Nat.le_refl _⟩
  | some (c, some y), he =>
    obtain ⟨kv, qv, hq, a1, a2⟩ := h.qAt he
    refine (qreset c y kv qv W hq).mono ?_
    rintro r w' ⟨rfl, hq', hk⟩
    have nc : ¬ SM mb mv c := rled_no h.mled hq.here (by decide) (by decide)
    exact ⟨rfl, some (c, some (rk y)), rfl, rfl, h.doc he (k' := some (rk y)) (fun j hj _ => .inl hj) hk ⟨kv, _, hq', a1, fun g hg => by simp [Value.ownBlock] at hg⟩ (h.mled.kept hk (fun e => nc (.inl (show mb = c from e).symm)) (fun g hg e => nc (.inr (by rw [← show g = c from e]; exact hg)))) (.inl rfl), h.kuQ he (fun j hj _ => .inl hj) hk, hk.size⟩
theorem PL.wipeQ (h : PL w0 B xb lb mb av sts rts tl L M sv rv tv wv lv mv W) (e : EQ) (he : rts[i]? = some e) (hm : Mx T (kdQ e)) (hT : T ≤ 4900000) (hroom : tot M ≤ 800000000) :
    Calls Tryz.prog 31 #[spQ e, .pointer (some ⟨mb, 0, none⟩)] W fun r w' => r = .returned (.int .i64 (er (kdQ e))) ∧ ∃ e' mv', spQ e' = spQ e ∧ kdQ e' = none ∧ PL w0 B xb lb mb av sts (rts.set i e') tl L (pL M (kdQ e)) sv rv tv wv lv mv' w' ∧ Ku W w' ∧ W.heap.size ≤ w'.heap.size := by
  match e, he, hm with
  | none, he, _ =>
    refine (qWipeZ _ W).mono ?_
    rintro r w' ⟨rfl, rfl⟩
    exact ⟨rfl, none, mv, rfl, rfl, by rw [set_same he]; exact h, Ku.refl _, Nat.le_refl _⟩
  | some (c, none), he, _ =>
    refine (qWipeN c _ W (h.dsAt he).1).mono ?_
    rintro r w' ⟨rfl, rfl⟩
    exact ⟨rfl, some (c, none), mv, rfl, rfl, by rw [set_same he]; exact h, Ku.refl _, Nat.le_refl _⟩
  | some (c, some y), he, hm =>
    have hx := hm y rfl
    obtain ⟨kv, qv, hq, a1, a2⟩ := h.qAt he
    refine (qwipeM y mb c mv kv qv M W hq h.mled (by omega) (by omega) (by omega)).mono ?_
    rintro r w' ⟨rfl, hq', ⟨mv', hl, hs⟩, hk⟩
    exact ⟨rfl, some (c, none), mv', rfl, rfl, h.doc he (k' := none) (fun j hj _ => hj) hk hq' hl hs, h.kuQ he (fun j hj _ => hj) hk, hk.size⟩
theorem PL.sumQ (h : PL w0 B xb lb mb av sts rts tl L M sv rv tv wv lv mv W) (e : EQ) (he : rts[i]? = some e) (hm : Mx T (kdQ e)) (hT : T ≤ 4900000) (hroom : tot M ≤ 800000000) :
    Calls Tryz.prog 25 #[spQ e, .pointer (some ⟨mb, 0, none⟩)] W fun r w' => ∃ v mv', r = .returned (.tuple #[v, .int .i64 (er (kdQ e))]) ∧ By.Own w' W.heap.size v (sn (kdQ e)) (sf (kdQ e)) ∧ PL w0 B xb lb mb av sts rts tl L (sL M (kdQ e)) sv rv tv wv lv mv' w' ∧ Ku W w' ∧ W.heap.size ≤ w'.heap.size := by
  match e, he, hm with
  | none, he, _ =>
    refine (qSumZ _ W).mono ?_
    rintro r w' ⟨rfl, rfl⟩
    exact ⟨_, mv, rfl, own_nil0 _ _, h, Ku.refl _, Nat.le_refl _⟩
  | some (c, none), he, _ =>
    refine (qSumN c _ W (h.dsAt he).1).mono ?_
    rintro r w' ⟨rfl, rfl⟩
    exact ⟨_, mv, rfl, own_nil0 _ _, h, Ku.refl _, Nat.le_refl _⟩
  | some (c, some y), he, hm =>
    have hx := hm y rfl
    obtain ⟨kv, qv, hq, a1, a2⟩ := h.qAt he
    refine (qsumM y mb c mv kv qv M W hq h.mled (by omega) (by omega) (by omega)).mono ?_
    rintro r w' ⟨v, rfl, ho, hr⟩
    obtain ⟨mv', hP⟩ := h.docL hr
    exact ⟨v, mv', rfl, ho, hP, h.kuQ he (S := SM mb mv) (fun j hj _ => .inr hj) hr.2, hr.2.size⟩
theorem PL.formQ (h : PL w0 B xb lb mb av sts rts tl L M sv rv tv wv lv mv W) (e : EQ) (he : rts[i]? = some e) (hm : Mx T (kdQ e)) (hT : T ≤ 4900000) :
    Calls Tryz.prog 13 #[spQ e] W fun r w' => ∃ v, r = .returned v ∧ By.Own w' W.heap.size v (fn (kdQ e)) (ff (kdQ e)) ∧ Below W.heap.size W w' := by
  match e, he, hm with
  | none, he, _ =>
    refine (qFormZ W).mono ?_
    rintro r w' ⟨rfl, rfl⟩
    exact ⟨_, rfl, own_nil0 _ _, Below.refl _ _⟩
  | some (c, none), he, _ =>
    refine (qFormN c W (h.dsAt he).1).mono ?_
    rintro r w' ⟨rfl, rfl⟩
    exact ⟨_, rfl, own_nil0 _ _, Below.refl _ _⟩
  | some (c, some y), he, hm =>
    have hx := hm y rfl
    obtain ⟨kv, qv, hq, a1, a2⟩ := h.qAt he
    exact qformM y c kv qv W hq (by omega) (by omega)
theorem PL.sizeQ (h : PL w0 B xb lb mb av sts rts tl L M sv rv tv wv lv mv W) (e : EQ) (he : rts[i]? = some e) :
    Calls Tryz.prog 33 #[spQ e] W fun r w' => r = .returned (.int .i64 (sn (kdQ e))) ∧ w' = W := by
  match e, he with
  | none, he => exact qSizeZ W
  | some (c, none), he => exact qSizeN c W (h.dsAt he).1
  | some (c, some y), he =>
    obtain ⟨kv, qv, hq, _⟩ := h.qAt he
    exact qsizeM y c kv qv W hq
/-- A clone of the document's beside one of the program's. -/
theorem cloneQ {gs : List EM} (h : PLg w0 B xb lb mb av gs (rts.filterMap id) (sts.map spP) (rts.map spQ) tl L M sv rv tv wv lv mv W) (c : Nat) (y : DK) (he : rts[i]? = some (some (c, some y))) :
    Calls Tryz.prog 29 #[.pointer (some ⟨c, 0, none⟩)] W fun r w' => ∃ d, r = .returned (.tuple #[.pointer (some ⟨d, 0, none⟩), .int .i64 0]) ∧ PLg w0 B xb lb mb av gs (rts.filterMap id ++ [(d, some y)]) (sts.map spP) (rts.map spQ) tl L M sv rv tv wv lv mv w' ∧ Ku W w' ∧ W.heap.size ≤ w'.heap.size := by
  obtain ⟨kv, qv, hq, a1, a2⟩ : IsA av W c (some y) := (h.ds.st (c, some y) (by rw [fm_at he]; simp)).1
  refine (qclone c y kv qv W hq).mono ?_
  rintro r w' ⟨d, hd, rfl, hq', hb⟩
  exact ⟨d, rfl, (h.below hb).addQ (V := W) (fun p hp => (h.ds.st p hp).1.q) h.gm.hB ⟨kv, qv, hq', a1, a2⟩ hd, ku_below hb, hb.size⟩
theorem cloneQ0 (h : PL w0 B xb lb mb av sts rts tl L M sv rv tv wv lv mv W) (e : EQ) (he : rts[i]? = some e) (hk : kdQ e = none) : Calls Tryz.prog 29 #[spQ e] W fun r w' => r = .returned (.tuple #[.pointer none, .int .i64 1]) ∧ w' = W := by
  match e, he, hk with
  | none, he, _ => exact qCloneZ W
  | some (c, none), he, _ => exact qCloneN c W (h.dsAt he).1
end
end Go.Proofs.YtpgkalgnlkfmaaaGreatDoor.Dg
