/- Macs of either algorithm, side by side with ledgers: each call. -/
import Derived.Test.YtpgkalgnlkfmaaaGreatDoorMcln
import Derived.Test.YtpgkalgnlkfmaaaGreatDoorMfrm
namespace Go.Proofs.YtpgkalgnlkfmaaaGreatDoor.Dg
open Go.ChangeShapes Go.WideShapes Go.ChangeAt Go.RowKit
open Go.Proofs.YtpgkalgnlkfmaaaGreatDoor.By
open Go.Proofs.YtpgkalgnlkfmaaaGreatDoor.Sh (Blk size_alloc)
theorem newM (a : Bool) (n : Nat) (v : Value) (g : Nat → Int) (lo : Option Nat) (L : List Rn) (S : Nat → Prop) (w : World) (hk : KT w) (hS0 : ¬ S 0) (hS1 : ¬ S 1) (hl : LG S w w lo L) (hp : Pos L)
    (hr : ∀ w', Kp S w w' → By.RB w' v n g) (hn : n ≤ 5000000) (hroom : tot L ≤ 800000000) :
    Calls Tryz.prog 19 #[lpv lo, .int .u8 (an a), v] w fun e w' => ∃ b b0 b1 b2, e = .returned (.tuple #[.pointer (some ⟨b, 0, none⟩), .int .i64 0]) ∧ IsMk w' b ⟨a, kb a n g, 0, nof, b0, b1, b2⟩ ∧ (w.heap.size ≤ b ∧ w.heap.size ≤ b0 ∧ w.heap.size ≤ b1 ∧ w.heap.size ≤ b2) ∧ LG S w w' lo (kev a L n) ∧ Kp S w w' := by
  cases a
  · exact new256 n v g lo L S w hk hS0 hS1 hl hp hr (by omega) (by omega)
  · exact new512 n v g lo L S w hk hS0 hS1 hl hp hr (by omega) (by omega)
theorem writeM (b : Nat) (x : MB) (n : Nat) (v : Value) (g : Nat → Int) (lo : Option Nat) (L : List Rn) (S : Nat → Prop) (w : World) (h : IsMk w b x) (hk : KT w) (hS0 : ¬ S 0) (hS1 : ¬ S 1) (hSb : S x.b0) (hnb : ¬ S b) (hn1 : ¬ S x.b1) (hn2 : ¬ S x.b2) (hl : LG S w w lo L) (hp : Pos L)
    (hr : ∀ w', Kp S w w' → By.RB w' v n g) (hmn : x.m + n ≤ 5500000) (hroom : tot L ≤ 800000000) :
    Calls Tryz.prog 22 #[.pointer (some ⟨b, 0, none⟩), lpv lo, v] w fun e w' => e = .returned (.int .i64 0) ∧ IsMk w' b ⟨x.a, x.K, x.m + n, cat x.m x.f g, x.b0, x.b1, x.b2⟩ ∧ LG S w w' lo (evs x.a L ((x.m + n) / bk x.a - x.m / bk x.a)) ∧ Kp S w w' := by
  obtain ⟨a, K, m, f, b0, b1, b2⟩ := x
  cases a
  · exact write256 b K f g m n b0 b1 b2 v lo L S w h hk hS0 hS1 hSb hnb hn1 hn2 hl hp hr (by have h : m + n ≤ 5500000 := hmn; omega) (by have h : m + n ≤ 5500000 := hmn; omega)
  · exact write512 b K f g m n b0 b1 b2 v lo L S w h hk hS0 hS1 hSb hnb hn1 hn2 hl hp hr (by have h : m + n ≤ 5500000 := hmn; omega) (by have h : m + n ≤ 5500000 := hmn; omega)
theorem sumM (b : Nat) (x : MB) (lo : Option Nat) (L : List Rn) (S : Nat → Prop) (w : World) (h : IsMk w b x) (hk : KT w) (hS0 : ¬ S 0) (hS1 : ¬ S 1) (hl : LG S w w lo L) (hp : Pos L) (hmm : x.m ≤ 4900000) (hroom : tot L ≤ 800000000) :
    Calls Tryz.prog 24 #[.pointer (some ⟨b, 0, none⟩), lpv lo] w fun e w' => ∃ v, e = .returned (.tuple #[v, .int .i64 0]) ∧ By.Own w' w.heap.size v (sz x.a) (hm x.a x.K x.m x.f) ∧ LG S w w' lo (sev x.a L x.m) ∧ Kp S w w' ∧ Kl w w' := by
  obtain ⟨a, K, m, f, b0, b1, b2⟩ := x
  cases a
  · exact sum256 b K f m b0 b1 b2 lo L S w h hk hS0 hS1 hl hp (by have h : m ≤ 4900000 := hmm; omega) (by omega)
  · exact sum512 b K f m b0 b1 b2 lo L S w h hk hS0 hS1 hl hp (by have h : m ≤ 4900000 := hmm; omega) (by omega)
theorem resetM (b : Nat) (x : MB) (w : World) (h : IsMk w b x) :
    Calls Tryz.prog 26 #[.pointer (some ⟨b, 0, none⟩)] w fun e w' => e = .returned (.int .i64 0) ∧ (∃ c, w.heap.size ≤ c ∧ IsMk w' b ⟨x.a, x.K, 0, nof, c, x.b1, x.b2⟩) ∧ Kp (fun j => j = b) w w' := by
  obtain ⟨a, K, m, f, b0, b1, b2⟩ := x
  cases a
  · exact reset256 b K f m b0 b1 b2 w h
  · exact reset512 b K f m b0 b1 b2 w h
theorem cloneM (b : Nat) (x : MB) (w : World) (h : IsMk w b x) :
    Calls Tryz.prog 28 #[.pointer (some ⟨b, 0, none⟩)] w fun e w' => ∃ c c0 c1 c2, e = .returned (.tuple #[.pointer (some ⟨c, 0, none⟩), .int .i64 0]) ∧ IsMk w' c ⟨x.a, x.K, x.m, x.f, c0, c1, c2⟩ ∧ (w.heap.size ≤ c ∧ w.heap.size ≤ c0 ∧ w.heap.size ≤ c1 ∧ w.heap.size ≤ c2) ∧ Below w.heap.size w w' := by
  obtain ⟨a, K, m, f, b0, b1, b2⟩ := x
  cases a
  · exact clone256 b K f m b0 b1 b2 w h
  · exact clone512 b K f m b0 b1 b2 w h
def fm3n : Bool → Nat | false => 312 | true => 600
theorem formM (b : Nat) (x : MB) (w : World) (h : IsMk w b x) :
    Calls Tryz.prog 12 #[.pointer (some ⟨b, 0, none⟩)] w fun e w' => ∃ v, e = .returned v ∧ By.Own w' w.heap.size v (fm3n x.a) (mfm x.a x.K x.m x.f) ∧ Below w.heap.size w w' := by
  obtain ⟨a, K, m, f, b0, b1, b2⟩ := x
  cases a
  · exact form256 b K f m b0 b1 b2 w h
  · exact form512 b K f m b0 b1 b2 w h
theorem sizeM (b : Nat) (x : MB) (w : World) (h : IsMk w b x) : Calls Tryz.prog 32 #[.pointer (some ⟨b, 0, none⟩)] w fun e w' => e = .returned (.int .i64 (sz x.a)) ∧ w' = w := by
  obtain ⟨a, K, m, f, b0, b1, b2⟩ := x
  cases a
  · exact size256 b K f m b0 b1 b2 w h
  · exact size512 b K f m b0 b1 b2 w h
theorem tagM (a : Bool) (n np : Nat) (v v2 : Value) (g f : Nat → Int) (lo : Option Nat) (L : List Rn) (S : Nat → Prop) (w : World) (hk : KT w) (hS0 : ¬ S 0) (hS1 : ¬ S 1) (hl : LG S w w lo L) (hp : Pos L)
    (hr : ∀ w', Kp S w w' → By.RB w' v n g) (hr2 : ∀ w', Kp S w w' → By.RB w' v2 np f) (hn : n ≤ 4900000) (hnp : np ≤ 4900000) (hroom : tot L ≤ 800000000) :
    Calls Tryz.prog 16 #[lpv lo, .int .u8 (an a), v, v2] w fun e w' => ∃ u, e = .returned (.tuple #[u, .int .i64 0]) ∧ By.Own w' w.heap.size u (sz a) (hm a (kb a n g) np f) ∧ LG S w w' lo (sev a (evs a (kev a L n) (np / bk a)) np) ∧ Kp S w w' := by
  cases a
  · exact tag256 n np v v2 g f lo L S w hk hS0 hS1 hl hp hr hr2 (by omega) (by omega) (by omega)
  · exact tag512 n np v v2 g f lo L S w hk hS0 hS1 hl hp hr hr2 (by omega) (by omega) (by omega)
section
variable {w0 W : World} {B : Nat} {sts s1 s2 : List EM} {leds l1 l2 : List LE} {b lb : Nat} {x : MB} {rv : Value} {L : List Rn}
theorem GM.mid (h : GM w0 B (s1 ++ (b, some x) :: s2) leds W) : IsMk W b x := (h.st (b, some x) (by simp)).1
theorem GM.midL (h : GM w0 B sts (l1 ++ ⟨true, lb, rv, L⟩ :: l2) W) : Led W lb rv L ∧ ∀ j, SE ⟨true, lb, rv, L⟩ j → B ≤ j := h.led ⟨true, lb, rv, L⟩ (by simp)
theorem GM.no (h : GM w0 B sts (l1 ++ ⟨true, lb, rv, L⟩ :: l2) W) : ¬ SE ⟨true, lb, rv, L⟩ 0 ∧ ¬ SE ⟨true, lb, rv, L⟩ 1 := by
  have h1 := h.h1
  exact ⟨fun e => by have := h.midL.2 0 e; omega, fun e => by have := h.midL.2 1 e; omega⟩
theorem GM.lg (h : GM w0 B sts (l1 ++ ⟨true, lb, rv, L⟩ :: l2) W) : LG (SE ⟨true, lb, rv, L⟩) W W (some lb) L := ⟨.inl rfl, rv, h.midL.1, fun _ hg _ => .inr hg⟩
theorem lg_led {S : Nat → Prop} {W W' : World} {L' : List Rn} (h : LG S W W' (some lb) L') : ∃ rv', Led W' lb rv' L' ∧ ∀ g, rv'.ownBlock = some g → g < W.heap.size → S g := by
  obtain ⟨_, rv', h1, h2⟩ := h
  exact ⟨rv', h1, h2⟩
/-- A ledger goes on. -/
theorem GM.goL (h : GM w0 B sts (l1 ++ ⟨true, lb, rv, L⟩ :: l2) W) {W' : World} {L' : List Rn} (hl : LG (SE ⟨true, lb, rv, L⟩) W W' (some lb) L') (hk : Kp (SE ⟨true, lb, rv, L⟩) W W') : ∃ rv', GM w0 B sts (l1 ++ ⟨true, lb, rv', L'⟩ :: l2) W' ∧ Ko W W' := by
  obtain ⟨rv', h1, h2⟩ := lg_led hl
  refine ⟨rv', h.turnL (e' := ⟨true, lb, rv', L'⟩) hk (fun j hj _ => .inl hj) h1 (fun j hj => ?_), fun g cs t hg ht => hg.kept hk (fun hs => ?_)⟩
  · rcases hj with e | e
    · exact .inl (.inl e)
    · by_cases hlt : j < W.heap.size
      · exact .inl (h2 j e hlt)
      · exact .inr (by omega)
  · obtain ⟨c', t', hb', ht'⟩ := (h.led ⟨true, lb, rv, L⟩ (by simp)).1.kind hs
    exact Blk.ne hg hb' (oth_l ht ht') rfl
theorem fm_new {V : World} {c c0 c1 c2 : Nat} {a : Bool} {K f : Nat → Int} {m : Nat} (h : V.heap.size ≤ c ∧ V.heap.size ≤ c0 ∧ V.heap.size ≤ c1 ∧ V.heap.size ≤ c2) : ∀ j, FM (c, some ⟨a, K, m, f, c0, c1, c2⟩) j → V.heap.size ≤ j := fun j hj => by
  rcases hj with e | ⟨y, e, hy⟩
  · rw [e]; exact h.1
  · cases e
    rcases hy with rfl | rfl | rfl
    · exact h.2.1
    · exact h.2.2.1
    · exact h.2.2.2
/-- New. -/
theorem GM.new (h : GM w0 B sts (l1 ++ ⟨true, lb, rv, L⟩ :: l2) W) (a : Bool) (n : Nat) (v : Value) (g : Nat → Int) (hr : ∀ w', Kp (SE ⟨true, lb, rv, L⟩) W w' → By.RB w' v n g) (hn : n ≤ 5000000) (hroom : tot L ≤ 800000000) :
    Calls Tryz.prog 19 #[.pointer (some ⟨lb, 0, none⟩), .int .u8 (an a), v] W fun e w' => ∃ b b0 b1 b2 rv', e = .returned (.tuple #[.pointer (some ⟨b, 0, none⟩), .int .i64 0]) ∧ GM w0 B (sts ++ [(b, some ⟨a, kb a n g, 0, nof, b0, b1, b2⟩)]) (l1 ++ ⟨true, lb, rv', kev a L n⟩ :: l2) w' ∧ Ko W w' ∧ W.heap.size ≤ b := by
  refine (newM a n v g (some lb) L (SE ⟨true, lb, rv, L⟩) W h.kt h.no.1 h.no.2 h.lg h.midL.1.pos hr hn hroom).mono ?_
  rintro e w' ⟨b, b0, b1, b2, rfl, h1, h2, h3, h4⟩
  obtain ⟨rv', g1, g2⟩ := h.goL h3 h4
  exact ⟨b, b0, b1, b2, rv', rfl, g1.add (p := (b, some ⟨a, kb a n g, 0, nof, b0, b1, b2⟩)) (V := W) (fun q hq => (h.st q hq).1) h.hB h1 (fm_new h2), g2, h2.1⟩
theorem GM.new0 (h : GM w0 B sts leds W) (a : Bool) (n : Nat) (v : Value) (g : Nat → Int) (hr : By.RB W v n g) (hn : n ≤ 5000000) :
    Calls Tryz.prog 19 #[.pointer none, .int .u8 (an a), v] W fun e w' => ∃ b b0 b1 b2, e = .returned (.tuple #[.pointer (some ⟨b, 0, none⟩), .int .i64 0]) ∧ GM w0 B (sts ++ [(b, some ⟨a, kb a n g, 0, nof, b0, b1, b2⟩)]) leds w' ∧ Below W.heap.size W w' ∧ W.heap.size ≤ b := by
  refine (newM a n v g none [] (fun _ => False) W h.kt id id trivial Sg.pos_nil' (fun w' hk' => hr.below (Sg.below_kp hk')) hn (by decide)).mono ?_
  rintro e w' ⟨b, b0, b1, b2, rfl, h1, h2, -, h4⟩
  have hb := Sg.below_kp h4
  exact ⟨b, b0, b1, b2, rfl, (h.below hb).add (p := (b, some ⟨a, kb a n g, 0, nof, b0, b1, b2⟩)) (V := W) (fun q hq => (h.st q hq).1) h.hB h1 (fm_new h2), hb, h2.1⟩
/-- Write. -/
theorem GM.write (h : GM w0 B (s1 ++ (b, some x) :: s2) (l1 ++ ⟨true, lb, rv, L⟩ :: l2) W) (n : Nat) (v : Value) (g : Nat → Int) (hr : ∀ w', Kp (fun j => j = x.b0 ∨ SE ⟨true, lb, rv, L⟩ j) W w' → By.RB w' v n g) (hmn : x.m + n ≤ 5500000) (hroom : tot L ≤ 800000000) :
    Calls Tryz.prog 22 #[.pointer (some ⟨b, 0, none⟩), .pointer (some ⟨lb, 0, none⟩), v] W fun e w' => e = .returned (.int .i64 0) ∧ ∃ rv', GM w0 B (s1 ++ (b, some ⟨x.a, x.K, x.m + n, cat x.m x.f g, x.b0, x.b1, x.b2⟩) :: s2) (l1 ++ ⟨true, lb, rv', evs x.a L ((x.m + n) / bk x.a - x.m / bk x.a)⟩ :: l2) w' ∧ Ko W w' := by
  have hm := h.mid
  have ne := hm.ne
  have hB := (h.st (b, some x) (by simp)).2
  have h1 := h.h1
  have sl : ∀ {j : Nat} {cs : List Value} {t : TypeId}, Blk W j cs t → Mty t → ¬ SE ⟨true, lb, rv, L⟩ j := fun {j cs t} hb ht he => by
    obtain ⟨c', t', hb', ht'⟩ := (h.led ⟨true, lb, rv, L⟩ (by simp)).1.kind he
    exact Blk.ne hb hb' (ml_ne ht ht') rfl
  obtain ⟨c1, hc1⟩ := hm.s1.blk
  obtain ⟨c2, hc2⟩ := hm.s2.blk
  have b0B : B ≤ x.b0 := hB _ (.inr ⟨x, rfl, .inl rfl⟩)
  refine (writeM b x n v g (some lb) L (fun j => j = x.b0 ∨ SE ⟨true, lb, rv, L⟩ j) W hm h.kt (fun e => e.elim (fun e => by omega) h.no.1) (fun e => e.elim (fun e => by omega) h.no.2) (.inl rfl) (fun e => e.elim ne.1 (sl hm.here (.inl rfl))) (fun e => e.elim (fun e => hm.n01 e.symm) (sl hc1 (tyS_m _))) (fun e => e.elim (fun e => hm.n02 e.symm) (sl hc2 (tyS_m _))) ⟨.inr (.inl rfl), rv, h.midL.1, fun g hg _ => .inr (.inr hg)⟩ h.midL.1.pos hr hmn hroom).mono ?_
  rintro e w' ⟨rfl, g1, g2, g3⟩
  obtain ⟨rv', l1', l2'⟩ := lg_led g2
  refine ⟨rfl, rv', h.turn (p' := (b, some ⟨x.a, x.K, x.m + n, cat x.m x.f g, x.b0, x.b1, x.b2⟩)) (e' := ⟨true, lb, rv', evs x.a L ((x.m + n) / bk x.a - x.m / bk x.a)⟩) g3 (fun j hj _ => hj.elim (fun e => .inl (.inr ⟨x, rfl, .inl e⟩)) .inr) g1 (fun j hj => .inl ?_) l1' (fun j hj => ?_)⟩
  · rcases hj with e | ⟨y, e, hy⟩
    · exact .inl e
    · cases e; exact .inr ⟨x, rfl, hy⟩
  · rcases hj with e | e
    · exact .inl (.inl e)
    · by_cases hlt : j < W.heap.size
      · rcases l2' j e hlt with e2 | e2
        · have hl : Led w' lb rv' _ := l1'
          obtain ⟨c0, hc0⟩ := g1.s0.blk
          have hc0' : Blk w' j c0 (tyS x.a) := e2 ▸ hc0
          obtain ⟨cr, hcr⟩ := (show IsLed w' ⟨true, lb, rv', evs x.a L ((x.m + n) / bk x.a - x.m / bk x.a)⟩ from hl).run e
          exact absurd rfl (Blk.ne hc0' hcr (by cases x.a <;> decide))
        · exact .inl e2
      · exact .inr (by omega)
theorem GM.write0 (h : GM w0 B (s1 ++ (b, some x) :: s2) leds W) (n : Nat) (v : Value) (g : Nat → Int) (hr : ∀ w', Kp (fun j => j = x.b0) W w' → By.RB w' v n g) (hmn : x.m + n ≤ 5500000) :
    Calls Tryz.prog 22 #[.pointer (some ⟨b, 0, none⟩), .pointer none, v] W fun e w' => e = .returned (.int .i64 0) ∧ GM w0 B (s1 ++ (b, some ⟨x.a, x.K, x.m + n, cat x.m x.f g, x.b0, x.b1, x.b2⟩) :: s2) leds w' ∧ Ko W w' := by
  have hm := h.mid
  have ne := hm.ne
  have hB := (h.st (b, some x) (by simp)).2
  have h1 := h.h1
  have b0B : B ≤ x.b0 := hB _ (.inr ⟨x, rfl, .inl rfl⟩)
  refine (writeM b x n v g none [] (fun j => j = x.b0) W hm h.kt (fun e => by have e' : 0 = x.b0 := e; omega) (fun e => by have e' : 1 = x.b0 := e; omega) rfl ne.1 (fun e => hm.n01 e.symm) (fun e => hm.n02 e.symm) trivial Sg.pos_nil' hr hmn (by decide)).mono ?_
  rintro e w' ⟨rfl, g1, -, g3⟩
  refine ⟨rfl, h.turnS (p' := (b, some ⟨x.a, x.K, x.m + n, cat x.m x.f g, x.b0, x.b1, x.b2⟩)) g3 (fun j hj _ => .inr ⟨x, rfl, .inl hj⟩) g1 (fun j hj => .inl ?_)⟩
  rcases hj with e | ⟨y, e, hy⟩
  · exact .inl e
  · cases e; exact .inr ⟨x, rfl, hy⟩
/-- Sum. -/
theorem GM.sum (h : GM w0 B (s1 ++ (b, some x) :: s2) (l1 ++ ⟨true, lb, rv, L⟩ :: l2) W) (hmm : x.m ≤ 4900000) (hroom : tot L ≤ 800000000) :
    Calls Tryz.prog 24 #[.pointer (some ⟨b, 0, none⟩), .pointer (some ⟨lb, 0, none⟩)] W fun e w' => ∃ v rv', e = .returned (.tuple #[v, .int .i64 0]) ∧ By.Own w' W.heap.size v (sz x.a) (hm x.a x.K x.m x.f) ∧ GM w0 B (s1 ++ (b, some x) :: s2) (l1 ++ ⟨true, lb, rv', sev x.a L x.m⟩ :: l2) w' ∧ Ko W w' := by
  refine (sumM b x (some lb) L (SE ⟨true, lb, rv, L⟩) W h.mid h.kt h.no.1 h.no.2 h.lg h.midL.1.pos hmm hroom).mono ?_
  rintro e w' ⟨v, rfl, g1, g2, g3, -⟩
  obtain ⟨rv', k1, k2⟩ := h.goL g2 g3
  exact ⟨v, rv', rfl, g1, k1, k2⟩
theorem GM.sum0 (h : GM w0 B (s1 ++ (b, some x) :: s2) leds W) (hmm : x.m ≤ 4900000) :
    Calls Tryz.prog 24 #[.pointer (some ⟨b, 0, none⟩), .pointer none] W fun e w' => ∃ v, e = .returned (.tuple #[v, .int .i64 0]) ∧ By.Own w' W.heap.size v (sz x.a) (hm x.a x.K x.m x.f) ∧ Below W.heap.size W w' := by
  refine (sumM b x none [] (fun _ => False) W h.mid h.kt id id trivial Sg.pos_nil' hmm (by decide)).mono ?_
  rintro e w' ⟨v, rfl, g1, -, g3, -⟩
  exact ⟨v, rfl, g1, Sg.below_kp g3⟩
/-- Reset. -/
theorem GM.reset (h : GM w0 B (s1 ++ (b, some x) :: s2) leds W) :
    Calls Tryz.prog 26 #[.pointer (some ⟨b, 0, none⟩)] W fun e w' => e = .returned (.int .i64 0) ∧ ∃ c, GM w0 B (s1 ++ (b, some ⟨x.a, x.K, 0, nof, c, x.b1, x.b2⟩) :: s2) leds w' ∧ Ko W w' := by
  refine (resetM b x W h.mid).mono ?_
  rintro e w' ⟨rfl, ⟨c, hc, g1⟩, g2⟩
  refine ⟨rfl, c, h.turnS (p' := (b, some ⟨x.a, x.K, 0, nof, c, x.b1, x.b2⟩)) g2 (fun j hj _ => .inl hj) g1 (fun j hj => ?_)⟩
  rcases hj with e | ⟨y, e, hy⟩
  · exact .inl (.inl e)
  · cases e
    rcases hy with rfl | e | e
    · exact .inr hc
    · exact .inl (.inr ⟨x, rfl, .inr (.inl e)⟩)
    · exact .inl (.inr ⟨x, rfl, .inr (.inr e)⟩)
/-- Clone. -/
theorem GM.clone (h : GM w0 B (s1 ++ (b, some x) :: s2) leds W) :
    Calls Tryz.prog 28 #[.pointer (some ⟨b, 0, none⟩)] W fun e w' => ∃ c c0 c1 c2, e = .returned (.tuple #[.pointer (some ⟨c, 0, none⟩), .int .i64 0]) ∧ GM w0 B ((s1 ++ (b, some x) :: s2) ++ [(c, some ⟨x.a, x.K, x.m, x.f, c0, c1, c2⟩)]) leds w' ∧ Below W.heap.size W w' ∧ W.heap.size ≤ c := by
  refine (cloneM b x W h.mid).mono ?_
  rintro e w' ⟨c, c0, c1, c2, rfl, g1, g2, g3⟩
  exact ⟨c, c0, c1, c2, rfl, (h.below g3).add (p := (c, some ⟨x.a, x.K, x.m, x.f, c0, c1, c2⟩)) (V := W) (fun q hq => (h.st q hq).1) h.hB g1 (fm_new g2), g3, g2.1⟩
/-- Tag. -/
theorem GM.tag (h : GM w0 B sts (l1 ++ ⟨true, lb, rv, L⟩ :: l2) W) (a : Bool) (n np : Nat) (v v2 : Value) (g f : Nat → Int) (hr : ∀ w', Kp (SE ⟨true, lb, rv, L⟩) W w' → By.RB w' v n g) (hr2 : ∀ w', Kp (SE ⟨true, lb, rv, L⟩) W w' → By.RB w' v2 np f) (hn : n ≤ 4900000) (hnp : np ≤ 4900000) (hroom : tot L ≤ 800000000) :
    Calls Tryz.prog 16 #[.pointer (some ⟨lb, 0, none⟩), .int .u8 (an a), v, v2] W fun e w' => ∃ u rv', e = .returned (.tuple #[u, .int .i64 0]) ∧ By.Own w' W.heap.size u (sz a) (hm a (kb a n g) np f) ∧ GM w0 B sts (l1 ++ ⟨true, lb, rv', sev a (evs a (kev a L n) (np / bk a)) np⟩ :: l2) w' ∧ Ko W w' := by
  refine (tagM a n np v v2 g f (some lb) L (SE ⟨true, lb, rv, L⟩) W h.kt h.no.1 h.no.2 h.lg h.midL.1.pos hr hr2 hn hnp hroom).mono ?_
  rintro e w' ⟨u, rfl, g1, g2, g3⟩
  obtain ⟨rv', k1, k2⟩ := h.goL g2 g3
  exact ⟨u, rv', rfl, g1, k1, k2⟩
end
end Go.Proofs.YtpgkalgnlkfmaaaGreatDoor.Dg
