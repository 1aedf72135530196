/- Digests as eight words. The program's function Sum, of either algorithm and of none; lives. -/
import Derived.Test.YtpgkalgnlkfmaaaDoorZga
import Derived.Test.YtpgkalgnlkfmaaaDoorZhe
import Derived.Test.YtpgkalgnlkfmaaaDoorZje
namespace Go.Proofs.YtpgkalgnlkfmaaaDoor.Dg
open Go.ChangeShapes Go.WideShapes Go.ChangeAt Go.RowKit
open Go.Proofs.YtpgkalgnlkfmaaaDoor.By
/-- Eight words out of a list. -/
def wof (l : List Int) (i : Nat) : Int := l.getD i 0
theorem lf_l8256 (h h' : Nat → Int) (e : Sh.l8 h = Sh.l8 h') (i : Nat) (hi : i < 32) : Sh.lf h i = Sh.lf h' i := by
  simp only [Sh.l8, List.cons.injEq, and_true] at e
  obtain ⟨e0, e1, e2, e3, e4, e5, e6, e7⟩ := e
  unfold Sh.lf
  have : i / 4 < 8 := by omega
  have hh : h (i / 4) = h' (i / 4) := by
    generalize i / 4 = q at this
    match q, this with
    | 0, _ => exact e0
    | 1, _ => exact e1
    | 2, _ => exact e2
    | 3, _ => exact e3
    | 4, _ => exact e4
    | 5, _ => exact e5
    | 6, _ => exact e6
    | 7, _ => exact e7
  rw [hh]
theorem dig_abc256 (i : Nat) (hi : i < 32) : Sh.dig 3 Sh.abc i = Sh.lf (wof Sh.wabc) i := lf_l8256 _ _ (Sh.abc_words.trans (by rfl)) i hi
theorem first256 : ∀ i, i < 4 → Sh.lf (wof Sh.wabc) i = lst [186, 120, 22, 191] i := by decide +kernel
theorem lf_l8512 (h h' : Nat → Int) (e : Sg.l8 h = Sg.l8 h') (i : Nat) (hi : i < 64) : Sg.lf h i = Sg.lf h' i := by
  simp only [Sg.l8, List.cons.injEq, and_true] at e
  obtain ⟨e0, e1, e2, e3, e4, e5, e6, e7⟩ := e
  unfold Sg.lf
  have : i / 8 < 8 := by omega
  have hh : h (i / 8) = h' (i / 8) := by
    generalize i / 8 = q at this
    match q, this with
    | 0, _ => exact e0
    | 1, _ => exact e1
    | 2, _ => exact e2
    | 3, _ => exact e3
    | 4, _ => exact e4
    | 5, _ => exact e5
    | 6, _ => exact e6
    | 7, _ => exact e7
  rw [hh]
theorem dig_abc512 (i : Nat) (hi : i < 64) : Sg.dig 3 Sg.abc i = Sg.lf (wof Sg.wabc) i := lf_l8512 _ _ (Sg.abc_words.trans (by rfl)) i hi
theorem first512 : ∀ i, i < 4 → Sg.lf (wof Sg.wabc) i = lst [221, 175, 53, 161] i := by decide +kernel
theorem abc_bound (i : Nat) : 0 ≤ Sh.abc i ∧ Sh.abc i < 256 := lst_bound _ (by decide) i
theorem abcE : Sg.abc = Sh.abc := rfl
end Go.Proofs.YtpgkalgnlkfmaaaDoor.Dg
namespace Go.Proofs.YtpgkalgnlkfmaaaDoor.Dg
open Go.ChangeShapes Go.WideShapes Go.ChangeAt Go.RowKit
open Go.Proofs.YtpgkalgnlkfmaaaDoor.By
open Go.Proofs.YtpgkalgnlkfmaaaDoor.Sh (Blk size_alloc)
set_option maxRecDepth 4000 in
theorem sumf256 (n : Nat) (v : Value) (g : Nat → Int) (lo : Option Nat) (L : List Rn) (S : Nat → Prop) (w : World) (hk : KT w) (hS0 : ¬ S 0) (hS1 : ¬ S 1) (hl : LG S w w lo L) (hp : Pos L)
    (hr : ∀ w', Kp S w w' → By.RB w' v n g) (hn : n ≤ 140737488353328) (hroom : tot L ≤ 2200000000000) :
    Calls Tryd.prog 25 #[lpv lo, .int .u8 1, v] w fun e w' => ∃ u, e = .returned (.tuple #[u, .int .i64 0]) ∧ By.Own w' w.heap.size u 32 (Sh.dig n g) ∧ LG S w w' lo (Sh.evs256 L (n / 64 + Sh.last n)) ∧ Kp S w w' := by
  have HC := hid (fun w1 (hb : Below w.heap.size w w1) => show Calls Tryd.prog 33 #[lpv lo, v] w1 (fun e w' => ∃ u, e = .returned u ∧ By.Own w' w.heap.size u (sz false) (dig false n g) ∧ LG S w w' lo (evs false L (n / bk false + last false n)) ∧ Kp S w w') from by
    refine (dsumF false n v g lo L S w1 (hk.below hb) hS0 hS1 (hl.start hb (fun _ _ h => h)) hp (fun w' h' => hr w' ((Kp.of_below S hb).trans h' (fun _ _ e => e))) hn hroom).mono ?_
    rintro e w' ⟨u, rfl, h1, h2, h3⟩
    exact ⟨u, rfl, Sg.own_mono h1 hb.size, Sg.LG.back h2 hl hb.size (fun _ _ h => h), (Kp.of_below S hb).trans h3 (fun _ _ e => e)⟩)
  clear hk hS0 hS1 hl hp hr hn hroom
  show Calls Tryd.prog 25 #[lpv lo, .int .u8 1, v] w _
  go_enter Tryd.func25, Tryd.ntmps25
  go_wp2_with (first | (go_at_call 27; refine (of256 _).mono ?_; rintro e w1 ⟨rfl, hb1⟩; have B1 := hid hb1; clear hb1) | (go_at_call 33; refine (HC.out _ (below_next B1.out (below_alloc w1 _))).mono ?_; rintro e w2 ⟨u, rfl, h1, h2, h3⟩))
  go_ret2
  exact ⟨u, rfl, h1, h2, h3⟩
set_option maxRecDepth 4000 in
theorem sumf512 (n : Nat) (v : Value) (g : Nat → Int) (lo : Option Nat) (L : List Rn) (S : Nat → Prop) (w : World) (hk : KT w) (hS0 : ¬ S 0) (hS1 : ¬ S 1) (hl : LG S w w lo L) (hp : Pos L)
    (hr : ∀ w', Kp S w w' → By.RB w' v n g) (hn : n ≤ 140737488353328) (hroom : tot L ≤ 2200000000000) :
    Calls Tryd.prog 25 #[lpv lo, .int .u8 2, v] w fun e w' => ∃ u, e = .returned (.tuple #[u, .int .i64 0]) ∧ By.Own w' w.heap.size u 64 (Sg.dig n g) ∧ LG S w w' lo (Sg.evs512 L (n / 128 + Sg.last n)) ∧ Kp S w w' := by
  have HC := hid (fun w1 (hb : Below w.heap.size w w1) => show Calls Tryd.prog 35 #[lpv lo, v] w1 (fun e w' => ∃ u, e = .returned u ∧ By.Own w' w.heap.size u (sz true) (dig true n g) ∧ LG S w w' lo (evs true L (n / bk true + last true n)) ∧ Kp S w w') from by
    refine (dsumF true n v g lo L S w1 (hk.below hb) hS0 hS1 (hl.start hb (fun _ _ h => h)) hp (fun w' h' => hr w' ((Kp.of_below S hb).trans h' (fun _ _ e => e))) hn hroom).mono ?_
    rintro e w' ⟨u, rfl, h1, h2, h3⟩
    exact ⟨u, rfl, Sg.own_mono h1 hb.size, Sg.LG.back h2 hl hb.size (fun _ _ h => h), (Kp.of_below S hb).trans h3 (fun _ _ e => e)⟩)
  clear hk hS0 hS1 hl hp hr hn hroom
  show Calls Tryd.prog 25 #[lpv lo, .int .u8 2, v] w _
  go_enter Tryd.func25, Tryd.ntmps25
  go_wp2_with (first | (go_at_call 27; refine (of512 _).mono ?_; rintro e w1 ⟨rfl, hb1⟩; have B1 := hid hb1; clear hb1) | (go_at_call 35; refine (HC.out _ (below_next B1.out (below_alloc w1 _))).mono ?_; rintro e w2 ⟨u, rfl, h1, h2, h3⟩))
  go_ret2
  exact ⟨u, rfl, h1, h2, h3⟩
theorem rb_first {w : World} {base n cap g : Nat} {f : Nat → Int} (h : By.Own w base (.slice (some ⟨g, 0, none⟩) n cap) n f) (h4 : 4 ≤ n) : By.RB w (.slice (some ⟨g, 0, none⟩) 4 cap) 4 f := h.reads.first 4 h4
end Go.Proofs.YtpgkalgnlkfmaaaDoor.Dg
