/- The law Sha512Plays: each call of the program and of the document, at nil, at none and at a state. -/
import Derived.Test.YtdhbkekpjojlnaaDoorJpl3
namespace Go.Proofs.YtdhbkekpjojlnaaDoor.Sg
open Go.ChangeShapes Go.WideShapes Go.ChangeAt Go.RowKit
open Go.Proofs.YtdhbkekpjojlnaaDoor.By Go.Proofs.YtdhbkekpjojlnaaDoor.Wd

/-- Lists of bytes that are owned stay. -/
def Ku (W W' : World) : Prop := ∀ base v n f, By.Own W base v n f → By.Own W' base v n f
theorem Ko.ku {W W' : World} (h : Ko W W') : Ku W W' := fun _ _ _ _ ho => h.own ho
theorem Ku.trans {W W1 W2 : World} (h : Ku W W1) (k : Ku W1 W2) : Ku W W2 := fun _ _ _ _ ho => k _ _ _ _ (h _ _ _ _ ho)
theorem ku_below {W W' : World} (h : Below W.heap.size W W') : Ku W W' := (ko_below h).ku
theorem ku_refl (W : World) : Ku W W := fun _ _ _ _ h => h
/-- Blocks of other kinds than the document's stay. -/
def Kr (W W' : World) : Prop := ∀ g cs t, Blk W g cs t → t ≠ 43 → t ≠ 58 → t ≠ 79 → Blk W' g cs t
theorem set_same {l : List EN} {i : Nat} {e : EN} (h : l[i]? = some e) : l.set i e = l := by
  obtain ⟨hk, rfl⟩ := List.getElem?_eq_some_iff.1 h
  simp
theorem own_nil0 (w : World) (base : Nat) : By.Own w base (.slice none 0 0) 0 (fun _ => 0) := By.own_nil _ _ _ (fun _ => by decide)
def er : SK → Int
  | none => 1
  | some _ => 0
def wk (n : Nat) (g : Nat → Int) : SK → SK
  | none => none
  | some (m, f) => some (m + n, cat m f g)
def wtl (n : Nat) (L : List Rn) : SK → List Rn
  | none => L
  | some (m, _) => evs512 L ((m + n) / 128 - m / 128)
def sn : SK → Nat
  | none => 0
  | some _ => 64
def sf : SK → Nat → Int
  | none => fun _ => 0
  | some (m, f) => dig m f
def sl (L : List Rn) : SK → List Rn
  | none => L
  | some (m, _) => evs512 L (last m)
def rk : SK → SK
  | none => none
  | some _ => some (0, fun _ => 0)
def pl (L : List Rn) : SK → List Rn
  | none => L
  | some _ => putL L ⟨8, 200, 1⟩
def fn : SK → Nat
  | none => 0
  | some _ => 200
def ff : SK → Nat → Int
  | none => fun _ => 0
  | some (m, f) => formf m f
def lk : SK → Nat
  | none => 0
  | some (m, _) => m
section
variable {w0 W W' : World} {B xb lb mb : Nat} {sts rts : List EN} {tl : List TE} {L M : List Rn} {sv rv tv wv lv mv : Value} {i : Nat} {e : EN}
theorem fm_at {l : List EN} {i b : Nat} {k : SK} (he : l[i]? = some (some (b, k))) : l.filterMap id = (l.take i).filterMap id ++ (b, k) :: (l.drop (i + 1)).filterMap id := by
  have := congrArg (List.filterMap id) (split_at l i _ he)
  rw [this, List.filterMap_append, List.filterMap_cons]; rfl
theorem fm_set {l : List EN} {i b : Nat} {k k' : SK} (he : l[i]? = some (some (b, k))) : (l.set i (some (b, k'))).filterMap id = (l.take i).filterMap id ++ (b, k') :: (l.drop (i + 1)).filterMap id := by
  rw [set_at l i _ (some (b, k')) he, List.filterMap_append, List.filterMap_cons]; rfl
theorem PL.gsAt (h : PL w0 B xb lb mb sts rts tl L M sv rv tv wv lv mv W) {b : Nat} {k : SK} (he : sts[i]? = some (some (b, k))) : GS w0 B ((sts.take i).filterMap id ++ (b, k) :: (sts.drop (i + 1)).filterMap id) ([] ++ ⟨true, lb, lv, L⟩ :: [⟨false, mb, mv, M⟩]) W := by
  have := h.gs
  rw [fm_at he] at this
  exact this
theorem PL.dsAt (h : PL w0 B xb lb mb sts rts tl L M sv rv tv wv lv mv W) {b : Nat} {k : SK} (he : rts[i]? = some (some (b, k))) : IsR W b k ∧ B ≤ b := h.ds.st (b, k) (by rw [fm_at he]; simp)
theorem PL.mled (h : PL w0 B xb lb mb sts rts tl L M sv rv tv wv lv mv W) : RLed W mb mv M := (h.gs.midL (leds1 := [⟨true, lb, lv, L⟩]) (e := ⟨false, mb, mv, M⟩) (leds2 := [])).1
theorem PL.lled (h : PL w0 B xb lb mb sts rts tl L M sv rv tv wv lv mv W) : Led W lb lv L := (h.gs.midL (leds1 := []) (e := ⟨true, lb, lv, L⟩) (leds2 := [⟨false, mb, mv, M⟩])).1
theorem PL.turnP (h : PL w0 B xb lb mb sts rts tl L M sv rv tv wv lv mv W) {b : Nat} {k k' : SK} {lv' : Value} {L' : List Rn} (he : sts[i]? = some (some (b, k))) (hg : GS w0 B ((sts.take i).filterMap id ++ (b, k') :: (sts.drop (i + 1)).filterMap id) ([] ++ ⟨true, lb, lv', L'⟩ :: [⟨false, mb, mv, M⟩]) W') (hk : Ko W W') : PL w0 B xb lb mb (sts.set i (some (b, k'))) rts tl L' M sv rv tv wv lv' mv W' :=
  h.prog (map_sp_set sts i _ k' he) (by rw [fm_set he]; exact hg) hk
theorem PL.ku (h : PL w0 B xb lb mb sts rts tl L M sv rv tv wv lv mv W) {b : Nat} {k : SK} (he : rts[i]? = some (some (b, k))) {S : Nat → Prop} (hS : ∀ j, S j → j = b ∨ j = mb ∨ mv.ownBlock = some j) (hk : Kp S W W') : Ku W W' := fun base v n f ho => own_kept ho hk (fun g hg hs => by
  obtain ⟨c, hc⟩ := own8_type ho hg
  have hu : Blk W g c.toList 5 := by show W.heap[g]? = _; rw [hc]
  obtain ⟨cb, hcb⟩ := (h.dsAt he).1.blk
  rcases hS g hs with e | e
  · exact Blk.ne hu hcb (by decide) e
  · exact rled_apart h.mled hu (by decide) (by decide) e)
theorem PL.kr (h : PL w0 B xb lb mb sts rts tl L M sv rv tv wv lv mv W) {b : Nat} {k : SK} (he : rts[i]? = some (some (b, k))) {S : Nat → Prop} (hS : ∀ j, S j → j = b ∨ j = mb ∨ mv.ownBlock = some j) (hk : Kp S W W') : Kr W W' := fun g cs t hg h1 h2 h3 => hg.kept hk (fun hs => by
  obtain ⟨cb, hcb⟩ := (h.dsAt he).1.blk
  rcases hS g hs with e | e
  · exact Blk.ne hg hcb h1 e
  · exact rled_apart h.mled hg h2 h3 e)
/-- Write of the program. -/
theorem PL.writeP (h : PL w0 B xb lb mb sts rts tl L M sv rv tv wv lv mv W) (he : sts[i]? = some e) (n : Nat) (v : Value) (g : Nat → Int) (hv : By.Own W 0 v n g) (hm : lk (kd e) + n ≤ 140737488355328) (hroom : Big L) :
    Calls Tryd.prog 18 #[sp e, .pointer (some ⟨lb, 0, none⟩), v] W fun r w' => r = .returned (.int .i64 (er (kd e))) ∧ ∃ lv', PL w0 B xb lb mb (sts.set i (up e (wk n g (kd e)))) rts tl (wtl n L (kd e)) M sv rv tv wv lv' mv w' ∧ Ko W w' := by
  match e, he, hm with
  | none, he, _ =>
    refine (write26z v _ W).mono ?_
    rintro r w' ⟨rfl, rfl⟩
    exact ⟨rfl, lv, by rw [show up none (wk n g (kd none)) = none from rfl, set_same he]; exact h, fun _ _ _ h _ _ _ _ => h⟩
  | some (b, none), he, _ =>
    refine (write26n b v _ W (h.gsAt he).mid.1).mono ?_
    rintro r w' ⟨rfl, rfl⟩
    exact ⟨rfl, lv, by rw [show up (some (b, none)) (wk n g (kd (some (b, none)))) = some (b, none) from rfl, set_same he]; exact h, fun _ _ _ h _ _ _ _ => h⟩
  | some (b, some (m, f)), he, hm =>
    have hg := h.gsAt he
    have hm' : m + n ≤ 140737488355328 := hm
    refine (hg.write n v g (fun w' hk => ((hg.koB hk).1.own hv).reads) (by omega) hroom).mono ?_
    rintro r w' ⟨rfl, lv', hg', ko⟩
    exact ⟨rfl, lv', h.turnP he hg' ko, ko⟩
/-- Write of the document. -/
theorem PL.writeR (h : PL w0 B xb lb mb sts rts tl L M sv rv tv wv lv mv W) (he : rts[i]? = some e) (n : Nat) (v : Value) (g : Nat → Int) (hv : By.RB W v n g) (hm : lk (kd e) + n ≤ 140737488351232) (hroom : Wide M) :
    Calls Tryd.prog 21 #[sp e, .pointer (some ⟨mb, 0, none⟩), v] W fun r w' => r = .returned (.int .i64 (er (kd e))) ∧ ∃ mv', PL w0 B xb lb mb sts (rts.set i (up e (wk n g (kd e)))) tl L (wtl n M (kd e)) sv rv tv wv lv mv' w' ∧ Kr W w' := by
  match e, he, hm with
  | none, he, _ =>
    refine (rwrite35z _ v W).mono ?_
    rintro r w' ⟨rfl, rfl⟩
    exact ⟨rfl, mv, by rw [show up none (wk n g (kd none)) = none from rfl, set_same he]; exact h, fun _ _ _ h _ _ _ => h⟩
  | some (b, none), he, _ =>
    refine (rwrite35n b _ v W (h.dsAt he).1).mono ?_
    rintro r w' ⟨rfl, rfl⟩
    exact ⟨rfl, mv, by rw [show up (some (b, none)) (wk n g (kd (some (b, none)))) = some (b, none) from rfl, set_same he]; exact h, fun _ _ _ h _ _ _ => h⟩
  | some (b, some (m, f)), he, hm =>
    refine (rwrite35 b m mb n f g v mv M W (h.dsAt he).1 h.mled hroom (fun w' hb => hv.below hb) hm).mono ?_
    rintro r w' ⟨rfl, hr, ⟨mv', hl, hs⟩, hk⟩
    exact ⟨rfl, mv', h.doc he (fun _ hj => hj) hk hr hl hs, h.kr he (fun _ hj => hj) hk⟩
/-- Sum of the program. -/
theorem PL.sumP (h : PL w0 B xb lb mb sts rts tl L M sv rv tv wv lv mv W) (he : sts[i]? = some e) (hm : lk (kd e) ≤ 140737488355328) (hroom : Big L) :
    Calls Tryd.prog 22 #[sp e, .pointer (some ⟨lb, 0, none⟩)] W fun r w' => ∃ v lv', r = .returned (.tuple #[v, .int .i64 (er (kd e))]) ∧ By.Own w' W.heap.size v (sn (kd e)) (sf (kd e)) ∧ PL w0 B xb lb mb sts rts tl (sl L (kd e)) M sv rv tv wv lv' mv w' ∧ Ku W w' ∧ W.heap.size ≤ w'.heap.size := by
  match e, he, hm with
  | none, he, _ =>
    refine (sum32z _ W).mono ?_
    rintro r w' ⟨rfl, rfl⟩
    exact ⟨_, lv, rfl, own_nil0 _ _, h, ku_refl _, Nat.le_refl _⟩
  | some (b, none), he, _ =>
    refine (sum32n b _ W (h.gsAt he).mid.1).mono ?_
    rintro r w' ⟨rfl, rfl⟩
    exact ⟨_, lv, rfl, own_nil0 _ _, h, ku_refl _, Nat.le_refl _⟩
  | some (b, some (m, f)), he, hm =>
    have hg := h.gsAt he
    have hz := hg.midL
    refine (hg.sum (leds1 := []) (leds2 := [⟨false, mb, mv, M⟩]) hm hroom).mono ?_
    rintro r w' ⟨v, lv', rfl, hv, hg', ko⟩
    have := h.turnP he hg' ko
    rw [set_same he] at this
    refine ⟨v, lv', rfl, hv, this, ko.ku, ?_⟩
    by_cases hz : W.heap.size ≤ w'.heap.size
    · exact hz
    · exfalso
      obtain ⟨_, ⟨rfl, h0⟩ | ⟨g, cap, cur, rfl, hb, hc, _⟩⟩ := hv.2
      · exact absurd h0 (by decide)
      · have := (Array.getElem?_eq_some_iff.1 hc).1
        omega
/-- Sum of the document. -/
theorem PL.sumR (h : PL w0 B xb lb mb sts rts tl L M sv rv tv wv lv mv W) (he : rts[i]? = some e) (hroom : Wide M) :
    Calls Tryd.prog 23 #[sp e, .pointer (some ⟨mb, 0, none⟩)] W fun r w' => ∃ v mv', r = .returned (.tuple #[v, .int .i64 (er (kd e))]) ∧ By.Own w' W.heap.size v (sn (kd e)) (sf (kd e)) ∧ PL w0 B xb lb mb sts rts tl L (sl M (kd e)) sv rv tv wv lv mv' w' ∧ Ku W w' := by
  match e, he with
  | none, he =>
    refine (rsum36z _ W).mono ?_
    rintro r w' ⟨rfl, rfl⟩
    exact ⟨_, mv, rfl, own_nil0 _ _, h, ku_refl _⟩
  | some (b, none), he =>
    refine (rsum36n b _ W (h.dsAt he).1).mono ?_
    rintro r w' ⟨rfl, rfl⟩
    exact ⟨_, mv, rfl, own_nil0 _ _, h, ku_refl _⟩
  | some (b, some (m, f)), he =>
    have hr := (h.dsAt he).1
    refine (rsum36 b m mb f mv M W hr h.mled hroom).mono ?_
    rintro r w' ⟨v, rfl, hv, ⟨mv', hl, hs⟩, hk⟩
    have hb' : IsR w' b (some (m, f)) := by
      obtain ⟨cb, hcb⟩ := hr.blk
      exact hr.kept hk (rled_apart h.mled hcb (by decide) (by decide)) (fun g cs hg => rled_apart h.mled hg (by decide) (by decide))
    have := h.doc he (fun _ hj => .inr hj) hk hb' hl hs
    rw [set_same he] at this
    exact ⟨v, mv', rfl, hv, this, h.ku he (fun _ hj => .inr hj) hk⟩
/-- Reset. -/
theorem PL.resetP (h : PL w0 B xb lb mb sts rts tl L M sv rv tv wv lv mv W) (he : sts[i]? = some e) :
    Calls Tryd.prog 26 #[sp e] W fun r w' => r = .returned (.int .i64 (er (kd e))) ∧ PL w0 B xb lb mb (sts.set i (up e (rk (kd e)))) rts tl L M sv rv tv wv lv mv w' := by
  match e, he with
  | none, he =>
    refine (reset33z W).mono ?_
    rintro r w' ⟨rfl, rfl⟩
    exact ⟨rfl, by rw [show up none (rk (kd none)) = none from rfl, set_same he]; exact h⟩
  | some (b, none), he =>
    refine (reset33n b W (h.gsAt he).mid.1).mono ?_
    rintro r w' ⟨rfl, rfl⟩
    exact ⟨rfl, by rw [show up (some (b, none)) (rk (kd (some (b, none)))) = some (b, none) from rfl, set_same he]; exact h⟩
  | some (b, some (m, f)), he =>
    refine ((h.gsAt he).reset).mono ?_
    rintro r w' ⟨rfl, hg', ko⟩
    exact ⟨rfl, h.turnP he hg' ko⟩
theorem PL.resetR (h : PL w0 B xb lb mb sts rts tl L M sv rv tv wv lv mv W) (he : rts[i]? = some e) :
    Calls Tryd.prog 27 #[sp e] W fun r w' => r = .returned (.int .i64 (er (kd e))) ∧ PL w0 B xb lb mb sts (rts.set i (up e (rk (kd e)))) tl L M sv rv tv wv lv mv w' := by
  match e, he with
  | none, he =>
    refine (rreset38z W).mono ?_
    rintro r w' ⟨rfl, rfl⟩
    exact ⟨rfl, by rw [show up none (rk (kd none)) = none from rfl, set_same he]; exact h⟩
  | some (b, none), he =>
    refine (rreset38n b W (h.dsAt he).1).mono ?_
    rintro r w' ⟨rfl, rfl⟩
    exact ⟨rfl, by rw [show up (some (b, none)) (rk (kd (some (b, none)))) = some (b, none) from rfl, set_same he]; exact h⟩
  | some (b, some (m, f)), he =>
    have hr := (h.dsAt he).1
    obtain ⟨cb, hcb⟩ := hr.blk
    have ne := rled_apart h.mled hcb (by decide) (by decide)
    refine (rreset38 b m f W hr).mono ?_
    rintro r w' ⟨rfl, hr', hk⟩
    exact ⟨rfl, h.doc he (fun _ hj => .inl hj) hk hr' (h.mled.kept hk (fun e => ne (.inl e.symm)) (fun g hg e => ne (.inr (by have e' : g = b := e; rw [← e']; exact hg)))) (.inl rfl)⟩
/-- Wipe. -/
theorem PL.wipeP (h : PL w0 B xb lb mb sts rts tl L M sv rv tv wv lv mv W) (he : sts[i]? = some e) (hroom : Room L) :
    Calls Tryd.prog 28 #[sp e, .pointer (some ⟨lb, 0, none⟩)] W fun r w' => r = .returned (.int .i64 (er (kd e))) ∧ ∃ lv', PL w0 B xb lb mb (sts.set i (up e none)) rts tl (pl L (kd e)) M sv rv tv wv lv' mv w' := by
  match e, he with
  | none, he =>
    refine (wipe29z _ W).mono ?_
    rintro r w' ⟨rfl, rfl⟩
    exact ⟨rfl, lv, by rw [show up none none = none from rfl, set_same he]; exact h⟩
  | some (b, none), he =>
    refine (wipe29n b _ W (h.gsAt he).mid.1).mono ?_
    rintro r w' ⟨rfl, rfl⟩
    exact ⟨rfl, lv, by rw [show up (some (b, none)) none = some (b, none) from rfl, set_same he]; exact h⟩
  | some (b, some (m, f)), he =>
    refine ((h.gsAt he).wipe hroom).mono ?_
    rintro r w' ⟨rfl, lv', hg', ko⟩
    exact ⟨rfl, lv', h.turnP he hg' ko⟩
theorem PL.wipeR (h : PL w0 B xb lb mb sts rts tl L M sv rv tv wv lv mv W) (he : rts[i]? = some e) (hroom : Room M) :
    Calls Tryd.prog 29 #[sp e, .pointer (some ⟨mb, 0, none⟩)] W fun r w' => r = .returned (.int .i64 (er (kd e))) ∧ ∃ mv', PL w0 B xb lb mb sts (rts.set i (up e none)) tl L (pl M (kd e)) sv rv tv wv lv mv' w' := by
  match e, he with
  | none, he =>
    refine (rwipe39z _ W).mono ?_
    rintro r w' ⟨rfl, rfl⟩
    exact ⟨rfl, mv, by rw [show up none none = none from rfl, set_same he]; exact h⟩
  | some (b, none), he =>
    refine (rwipe39n b _ W (h.dsAt he).1).mono ?_
    rintro r w' ⟨rfl, rfl⟩
    exact ⟨rfl, mv, by rw [show up (some (b, none)) none = some (b, none) from rfl, set_same he]; exact h⟩
  | some (b, some (m, f)), he =>
    refine (rwipe39 b m mb f mv M W (h.dsAt he).1 h.mled hroom).mono ?_
    rintro r w' ⟨rfl, hr, ⟨mv', hl, hs⟩, hk⟩
    exact ⟨rfl, mv', h.doc he (fun _ hj => hj) hk hr hl hs⟩
/-- Form. -/
theorem PL.formP (h : PL w0 B xb lb mb sts rts tl L M sv rv tv wv lv mv W) (he : sts[i]? = some e) :
    Calls Tryd.prog 13 #[sp e] W fun r w' => ∃ v, r = .returned v ∧ By.Own w' W.heap.size v (fn (kd e)) (ff (kd e)) ∧ Below W.heap.size W w' := by
  match e, he with
  | none, he =>
    refine (form30z W).mono ?_
    rintro r w' ⟨rfl, rfl⟩
    exact ⟨_, rfl, own_nil0 _ _, Below.refl _ _⟩
  | some (b, none), he =>
    refine (form30n b W (h.gsAt he).mid.1).mono ?_
    rintro r w' ⟨rfl, rfl⟩
    exact ⟨_, rfl, own_nil0 _ _, Below.refl _ _⟩
  | some (b, some (m, f)), he => exact form30 b m f W (h.gsAt he).mid.1
theorem PL.formR (h : PL w0 B xb lb mb sts rts tl L M sv rv tv wv lv mv W) (he : rts[i]? = some e) :
    Calls Tryd.prog 14 #[sp e] W fun r w' => ∃ v, r = .returned v ∧ By.Own w' W.heap.size v (fn (kd e)) (ff (kd e)) ∧ Below W.heap.size W w' := by
  match e, he with
  | none, he =>
    refine (rform18z W).mono ?_
    rintro r w' ⟨rfl, rfl⟩
    exact ⟨_, rfl, own_nil0 _ _, Below.refl _ _⟩
  | some (b, none), he =>
    refine (rform18n b W (h.dsAt he).1).mono ?_
    rintro r w' ⟨rfl, rfl⟩
    exact ⟨_, rfl, own_nil0 _ _, Below.refl _ _⟩
  | some (b, some (m, f)), he => exact rform18 b m f W (h.dsAt he).1
/-- Len. -/
theorem PL.lenP (h : PL w0 B xb lb mb sts rts tl L M sv rv tv wv lv mv W) (he : sts[i]? = some e) :
    Calls Tryd.prog 30 #[sp e] W fun r w' => r = .returned (.int .i64 (lk (kd e))) ∧ w' = W := by
  match e, he with
  | none, he => exact len31z W
  | some (b, none), he => exact len31n b W (h.gsAt he).mid.1
  | some (b, some (m, f)), he => exact len31 b m f W (h.gsAt he).mid.1
theorem PL.lenR (h : PL w0 B xb lb mb sts rts tl L M sv rv tv wv lv mv W) (he : rts[i]? = some e) :
    Calls Tryd.prog 31 #[sp e] W fun r w' => r = .returned (.int .i64 (lk (kd e))) ∧ w' = W := by
  match e, he with
  | none, he => exact rlen40z W
  | some (b, none), he => exact rlen40n b W (h.dsAt he).1
  | some (b, some (m, f)), he => exact rlen40 b m f W (h.dsAt he).1
/-- Clone: of none, and of a state. -/
theorem PL.cloneP0 (h : PL w0 B xb lb mb sts rts tl L M sv rv tv wv lv mv W) (he : sts[i]? = some e) (hk : kd e = none) :
    Calls Tryd.prog 24 #[sp e] W fun r w' => r = .returned (.tuple #[.pointer none, .int .i64 1]) ∧ w' = W := by
  match e, he, hk with
  | none, he, _ => exact clone28z W
  | some (b, none), he, _ => exact clone28n b W (h.gsAt he).mid.1
theorem PL.cloneR0 (h : PL w0 B xb lb mb sts rts tl L M sv rv tv wv lv mv W) (he : rts[i]? = some e) (hk : kd e = none) :
    Calls Tryd.prog 25 #[sp e] W fun r w' => r = .returned (.tuple #[.pointer none, .int .i64 1]) ∧ w' = W := by
  match e, he, hk with
  | none, he, _ => exact rclone37z W
  | some (b, none), he, _ => exact rclone37n b W (h.dsAt he).1
theorem PL.cloneP1 (h : PL w0 B xb lb mb sts rts tl L M sv rv tv wv lv mv W) (he : sts[i]? = some e) {m : Nat} {f : Nat → Int} (hk : kd e = some (m, f)) :
    Calls Tryd.prog 24 #[sp e] W fun r w' => r = .returned (.tuple #[.pointer (some ⟨W.heap.size, 0, none⟩), .int .i64 0]) ∧ IsSt w' W.heap.size (some (m, f)) ∧ Below W.heap.size W w' := by
  match e, he, hk with
  | some (b, some (m', f')), he, hk =>
    have e1 : (some (m', f') : SK) = some (m, f) := hk
    simp only [Option.some.injEq, Prod.mk.injEq] at e1
    obtain ⟨rfl, rfl⟩ := e1
    exact clone28 b _ _ W (h.gsAt he).mid.1
theorem PL.cloneR1 (h : PL w0 B xb lb mb sts rts tl L M sv rv tv wv lv mv W) (he : rts[i]? = some e) {m : Nat} {f : Nat → Int} (hk : kd e = some (m, f)) :
    Calls Tryd.prog 25 #[sp e] W fun r w' => r = .returned (.tuple #[.pointer (some ⟨W.heap.size, 0, none⟩), .int .i64 0]) ∧ IsR w' W.heap.size (some (m, f)) ∧ Below W.heap.size W w' := by
  match e, he, hk with
  | some (b, some (m', f')), he, hk =>
    have e1 : (some (m', f') : SK) = some (m, f) := hk
    simp only [Option.some.injEq, Prod.mk.injEq] at e1
    obtain ⟨rfl, rfl⟩ := e1
    exact rclone37 b _ _ W (h.dsAt he).1
/-- A list of bytes is written over that is younger than V. -/
theorem PL.over {V W2 W3 W4 : World} {sts' : List EN} {L' : List Rn} {lv' : Value} {g N cap : Nat} {f : Nat → Int} (h : PL w0 B xb lb mb sts rts tl L M sv rv tv wv lv mv V) (h2 : PL w0 B xb lb mb sts' rts tl L' M sv rv tv wv lv' mv W2) (ko : Ko V W2) (hs : sts'.map sp = sts.map sp) (hb : Below W2.heap.size W2 W3) (ho : By.Own W3 V.heap.size (.slice (some ⟨g, 0, none⟩) N cap) N f) (hgr : W3.grownBy W4 (some g)) : PL w0 B xb lb mb sts' rts tl L' M sv rv tv wv lv' mv W4 := by
  obtain ⟨_, ⟨e, _⟩ | ⟨g', cap', cur, e, hbg, hc, _⟩⟩ := ho.2
  · simp at e
  · simp only [Value.slice.injEq, Option.some.injEq, Addr.mk.injEq, and_true, true_and] at e
    obtain ⟨rfl, rfl⟩ := e
    have k4 := Kp.of_grown hgr
    have hu : Blk W3 g cur.toList 5 := by show W3.heap[g]? = _; rw [hc]
    refine h.prog hs ((h2.gs.below hb).turnO (S := fun j => some g = some j) (fun j hj => ?_) k4) (fun b cs t hbk q1 q2 q3 q4 => ?_)
    · cases hj
      have := h.gs.hB
      exact ⟨by omega, _, _, hu, by decide, by decide, by decide, by decide⟩
    · have b3 := (ko b cs t hbk q1 q2 q3 q4).below hb
      exact b3.kept k4 (fun e => by have := hbk.lt; cases e; omega)
/-- A state more on both sides: its blocks are new; then the record's lists are gone on with. -/
theorem PL.grow (h : PL w0 B xb lb mb sts rts tl L M sv rv tv wv lv mv W) {W1 W2 : World} {b c : Nat} {k : SK} {sv' rv' : Value} (hb1 : Below W.heap.size W W1) (hs : IsSt W1 b k) (hbs : W.heap.size ≤ b) (hr : IsR W1 c k) (hcs : W.heap.size ≤ c)
    (hf : Four W2 B xb lb mb sv' rv' tv wv (sts.map sp ++ [sp (some (b, k))]) (rts.map sp ++ [sp (some (c, k))]) (tl.map TE.t) (tl.map TE.w)) (hk : Kp (fun j => j = xb ∨ sv.ownBlock = some j ∨ rv.ownBlock = some j) W1 W2) :
    PL w0 B xb lb mb (sts ++ [some (b, k)]) (rts ++ [some (c, k)]) tl L M sv' rv' tv wv lv mv W2 := by
  have h1 := h.below hb1
  have hS : ∀ j, (j = xb ∨ sv.ownBlock = some j ∨ rv.ownBlock = some j) → SF xb sv rv tv wv j := fun j hj => by
    rcases hj with e | e | e
    · exact .inl e
    · exact .inr (.inl e)
    · exact .inr (.inr (.inl e))
  have g1 : GS w0 B (sts.filterMap id ++ [(b, k)]) [⟨true, lb, lv, L⟩, ⟨false, mb, mv, M⟩] W1 := h1.gs.add hs (by have := h.gs.hB; omega) (fun p hp e => by
    obtain ⟨c, hc⟩ := (h.gs.st p hp).1.blk
    have := hc.lt
    omega)
  have f1 : (sts ++ [some (b, k)]).filterMap id = sts.filterMap id ++ [(b, k)] := by rw [List.filterMap_append]; rfl
  have f2 : (rts ++ [some (c, k)]).filterMap id = rts.filterMap id ++ [(c, k)] := by rw [List.filterMap_append]; rfl
  have ap : ∀ g cs t, Blk W1 g cs t → t ≠ 32 → t ≠ 33 → t ≠ 40 → t ≠ 41 → ¬ (g = xb ∨ sv.ownBlock = some g ∨ rv.ownBlock = some g) := fun g cs t hg q1 q2 q3 q4 hs => h1.four.apart hg q1 q2 q3 q4 (hS g hs)
  have u8 : ∀ g cs, Blk W1 g cs 5 → ¬ (g = xb ∨ sv.ownBlock = some g ∨ rv.ownBlock = some g) := fun g cs hg => ap g cs _ hg (by decide) (by decide) (by decide) (by decide)
  refine ⟨by rw [f1]; exact g1.turnO (fun j hj => h1.four.ot (hS j hj)) hk, ?_, by simpa using hf, ?_⟩
  · rw [f2]
    refine ⟨fun p hp => ?_, List.pairwise_append.2 ⟨h.ds.stn, List.pairwise_singleton _ _, fun a ha q hq e => ?_⟩⟩
    · rcases List.mem_append.1 hp with hp | hp
      · obtain ⟨cp, hcp⟩ := (h1.ds.st p hp).1.blk
        exact ⟨(h1.ds.st p hp).1.kept hk (ap _ _ _ hcp (by decide) (by decide) (by decide) (by decide)) u8, (h1.ds.st p hp).2⟩
      · rw [List.mem_singleton.1 hp]
        obtain ⟨cp, hcp⟩ := hr.blk
        exact ⟨hr.kept hk (ap _ _ _ hcp (by decide) (by decide) (by decide) (by decide)) u8, by have := h.gs.hB; show B ≤ c; omega⟩
    · rw [List.mem_singleton.1 hq] at e
      obtain ⟨cp, hcp⟩ := (h.ds.st a ha).1.blk
      have := hcp.lt
      have e' : a.1 = c := e
      omega
  · refine ⟨fun q hq => ?_, h.told.ap⟩
    obtain ⟨o1, o2, o3⟩ := h1.told.own q hq
    refine ⟨own_kept o1 hk (fun g hg => ?_), own_kept o2 hk (fun g hg => ?_), o3⟩
    · obtain ⟨c, hc⟩ := own8_type o1 hg; exact u8 g c.toList (by show W1.heap[g]? = _; rw [hc])
    · obtain ⟨c, hc⟩ := own8_type o2 hg; exact u8 g c.toList (by show W1.heap[g]? = _; rw [hc])
/-- A state more on both sides: its blocks are new; then the record's lists are gone on with. -/
theorem PL.grow2 (h : PL w0 B xb lb mb sts rts tl L M sv rv tv wv lv mv W) {W1 W2 : World} {b c : Nat} {k : SK} {sv' rv' : Value} (hb1 : Below W.heap.size W W1) (hs : IsSt W1 b k) (hbs : W.heap.size ≤ b) (hr : IsR W2 c k) (hcs : W.heap.size ≤ c)
    (hf : Four W2 B xb lb mb sv' rv' tv wv (sts.map sp ++ [sp (some (b, k))]) (rts.map sp ++ [sp (some (c, k))]) (tl.map TE.t) (tl.map TE.w)) (hk : Kp (fun j => j = xb ∨ sv.ownBlock = some j ∨ rv.ownBlock = some j) W1 W2) :
    PL w0 B xb lb mb (sts ++ [some (b, k)]) (rts ++ [some (c, k)]) tl L M sv' rv' tv wv lv mv W2 := by
  have h1 := h.below hb1
  have hS : ∀ j, (j = xb ∨ sv.ownBlock = some j ∨ rv.ownBlock = some j) → SF xb sv rv tv wv j := fun j hj => by
    rcases hj with e | e | e
    · exact .inl e
    · exact .inr (.inl e)
    · exact .inr (.inr (.inl e))
  have g1 : GS w0 B (sts.filterMap id ++ [(b, k)]) [⟨true, lb, lv, L⟩, ⟨false, mb, mv, M⟩] W1 := h1.gs.add hs (by have := h.gs.hB; omega) (fun p hp e => by
    obtain ⟨c, hc⟩ := (h.gs.st p hp).1.blk
    have := hc.lt
    omega)
  have f1 : (sts ++ [some (b, k)]).filterMap id = sts.filterMap id ++ [(b, k)] := by rw [List.filterMap_append]; rfl
  have f2 : (rts ++ [some (c, k)]).filterMap id = rts.filterMap id ++ [(c, k)] := by rw [List.filterMap_append]; rfl
  have ap : ∀ g cs t, Blk W1 g cs t → t ≠ 32 → t ≠ 33 → t ≠ 40 → t ≠ 41 → ¬ (g = xb ∨ sv.ownBlock = some g ∨ rv.ownBlock = some g) := fun g cs t hg q1 q2 q3 q4 hs => h1.four.apart hg q1 q2 q3 q4 (hS g hs)
  have u8 : ∀ g cs, Blk W1 g cs 5 → ¬ (g = xb ∨ sv.ownBlock = some g ∨ rv.ownBlock = some g) := fun g cs hg => ap g cs _ hg (by decide) (by decide) (by decide) (by decide)
  refine ⟨by rw [f1]; exact g1.turnO (fun j hj => h1.four.ot (hS j hj)) hk, ?_, by simpa using hf, ?_⟩
  · rw [f2]
    refine ⟨fun p hp => ?_, List.pairwise_append.2 ⟨h.ds.stn, List.pairwise_singleton _ _, fun a ha q hq e => ?_⟩⟩
    · rcases List.mem_append.1 hp with hp | hp
      · obtain ⟨cp, hcp⟩ := (h1.ds.st p hp).1.blk
        exact ⟨(h1.ds.st p hp).1.kept hk (ap _ _ _ hcp (by decide) (by decide) (by decide) (by decide)) u8, (h1.ds.st p hp).2⟩
      · rw [List.mem_singleton.1 hp]
        exact ⟨hr, by have := h.gs.hB; show B ≤ c; omega⟩
    · rw [List.mem_singleton.1 hq] at e
      obtain ⟨cp, hcp⟩ := (h.ds.st a ha).1.blk
      have := hcp.lt
      have e' : a.1 = c := e
      omega
  · refine ⟨fun q hq => ?_, h.told.ap⟩
    obtain ⟨o1, o2, o3⟩ := h1.told.own q hq
    refine ⟨own_kept o1 hk (fun g hg => ?_), own_kept o2 hk (fun g hg => ?_), o3⟩
    · obtain ⟨c, hc⟩ := own8_type o1 hg; exact u8 g c.toList (by show W1.heap[g]? = _; rw [hc])
    · obtain ⟨c, hc⟩ := own8_type o2 hg; exact u8 g c.toList (by show W1.heap[g]? = _; rw [hc])
end
end Go.Proofs.YtdhbkekpjojlnaaDoor.Sg
