/- Memories, ledgers and lists side by side: each call of the program's memory. -/
import Derived.Test.YthoklddoeoedgaaSthg
import Derived.Test.YthoklddoeoedgaaRreads
namespace Go.Proofs.Ythoklddoeoedgaa.Sl
open Go.ChangeShapes Go.WideShapes Go.ChangeAt Go.RowKit
open Go.Proofs.Ythoklddoeoedgaa.By
/-- The ledger at the number k, or none there. -/
def Lg (t : Nat → Th) (k : Nat) (lo : Option Nat) (L : List Rn) : Prop := match lo with | none => t k = Th.no | some lb => ∃ rv, t k = tL lb rv L
def lpv (lo : Option Nat) : Value := match lo with | none => .pointer none | some lb => .pointer (some ⟨lb, 0, none⟩)
/-- There is room for one event more. -/
def Room (L : List Rn) : Prop := tot L + 1 ≤ 9223372036854775807 ∧ (L.length + 1) * 24 ≤ 140737488355328
/-- All but two numbers stay. -/
def But (t t' : Nat → Th) (i k : Nat) : Prop := ∀ m, m ≠ i → m ≠ k → t' m = t m
theorem but_up (t : Nat → Th) (i k : Nat) (x y : Th) : But t (up (up t i x) k y) i k := fun m h1 h2 => by rw [up_ne _ _ h2, up_ne _ _ h1]
section
variable {w0 W W' : World} {B : Nat} {t : Nat → Th} {i j k m : Nat} {lo : Option Nat} {L L' : List Rn} {p q v : Value} {x y : Kd} {n : Nat} {f : Nat → Int}
theorem ai (hik : i ≠ k) (x y : Th) : up (up t i x) k y i = x := by rw [up_ne _ _ hik, up_at]
theorem ak (x y : Th) : up (up t i x) k y k = y := up_at _ _ _
theorem Lg.keep (h : Lg t k lo L) {t' : Nat → Th} (e : t' k = t k) : Lg t' k lo L := by
  cases lo with
  | none => exact e.trans h
  | some lb => obtain ⟨rv, e'⟩ := h; exact ⟨rv, e.trans e'⟩
/-- What a note makes of the ledger at the number k. -/
def Nx (t : Nat → Th) (k : Nat) (lo : Option Nat) (L : List Rn) (W w' : World) : Prop := ∃ y : Th, y.P w' ∧ (∀ j, y.F j → (t k).F j ∨ W.heap.size ≤ j) ∧ (∀ t' : Nat → Th, t' k = y → Lg t' k lo L) ∧ Kp (t k).F W w'
theorem same_or_new {W : World} {rv rv' : Value} (hs : SameOrNew W rv rv') {j : Nat} (hj : rv'.ownBlock = some j) : rv.ownBlock = some j ∨ W.heap.size ≤ j := by
  rcases hs with e | e
  · exact .inl (by rw [← e]; exact hj)
  · exact .inr (e j hj)
theorem Lg.notes (h : Lg t k lo L) (hG : GX w0 B t W) (kd s : Int) (hr : (⟨kd, s, 1⟩ : Rn).Ok) (hm : Room L) : By.Notes W (lpv lo) kd s (Nx t k lo (putL L ⟨kd, s, 1⟩) W) := by
  cases lo with
  | none =>
    refine (note39n kd s W).mono ?_
    rintro e w' ⟨rfl, hb⟩
    exact ⟨rfl, Th.no, trivial, fun _ e => e.elim, fun _ e => e, Kp.of_below _ hb⟩
  | some lb =>
    obtain ⟨rv, e⟩ := h
    have hl := hG.all k
    rw [e] at hl
    refine (note39 lb rv L kd s W hl hr hm.1 hm.2).mono ?_
    rintro e' w' ⟨rfl, rv', hl', hkp, hs⟩
    refine ⟨rfl, tL lb rv' (putL L ⟨kd, s, 1⟩), hl', fun j hj => ?_, fun t' e => ⟨rv', e⟩, by rw [e]; exact hkp⟩
    rw [e]
    rcases hj with hj | hj
    · exact .inl (.inl hj)
    · rcases same_or_new hs hj with h | h
      · exact .inl (.inr h)
      · exact .inr h
/-- A list among the things is read. -/
theorem GX.rd (hG : GX w0 B t W) (hm : t m = tB v n f) : By.RB W v n f := by
  have := hG.all m; rw [hm] at this; exact By.Own.reads this
theorem gx_new (hG : GX w0 B t W) (i : Nat) : Calls Try.prog 9 #[] W fun e W' => e = .returned (.pointer (some ⟨W.heap.size, 0, none⟩)) ∧ ∃ t', GX w0 B t' W' ∧ t' i = tM (.pointer (some ⟨W.heap.size, 0, none⟩)) (some (0, fun _ => 0)) ∧ But t t' i i := by
  refine (new_mem W).mono ?_
  rintro e W' ⟨rfl, hm, hb⟩
  exact ⟨rfl, _, hG.one i (tM (.pointer (some ⟨W.heap.size, 0, none⟩)) (some (0, fun _ => 0))) (Kp.of_below (fun _ => False) hb) (fun _ e => e.elim) ⟨_, rfl, hm⟩ (fun j hj => .inr (by rw [pb_one hj]; exact Nat.le_refl _)), up_at _ _ _, fun m h1 _ => up_ne _ _ h1⟩
theorem gx_led (hG : GX w0 B t W) (i : Nat) : Calls Try.prog 7 #[] W fun e W' => e = .returned (lpv (some W.heap.size)) ∧ ∃ t', GX w0 B t' W' ∧ Lg t' i (some W.heap.size) [] ∧ But t t' i i := by
  refine (new9 W).mono ?_
  rintro e W' ⟨rfl, hm, hb⟩
  exact ⟨rfl, _, hG.one i (tL W.heap.size (.slice none 0 0) []) (Kp.of_below (fun _ => False) hb) (fun _ e => e.elim) hm (fun j hj => .inr (by
    rcases hj with e | e
    · rw [e]; exact Nat.le_refl _
    · cases e)), ⟨_, up_at _ _ _⟩, fun m h1 _ => up_ne _ _ h1⟩
theorem gx_put (hG : GX w0 B t W) (hi : t i = tM p x) (hr : By.RB W v n f) : Calls Try.prog 12 #[p, v] W fun e W' => e = .returned (.int .i64 (pc x n)) ∧ ∃ t', GX w0 B t' W' ∧ t' i = tM p (pk x n f) ∧ But t t' i i := by
  have hp := hG.all i
  rw [hi] at hp
  refine (put_m p v x n f W hp hr).mono ?_
  rintro e W' ⟨rfl, hm, hk⟩
  exact ⟨rfl, _, hG.one i (tM p (pk x n f)) hk (fun j hj _ => by rw [hi]; exact hj) hm (fun j hj => .inl (by rw [hi]; exact hj)), up_at _ _ _, fun m h1 _ => up_ne _ _ h1⟩
theorem gx_look (hG : GX w0 B t W) (hi : t i = tM p x) : Calls Try.prog 19 #[p] W fun e W' => e = .returned (sv (kf x)) ∧ GX w0 B t W' ∧ Below W.heap.size W W' := by
  have hp := hG.all i
  rw [hi] at hp
  refine (look_m p x W hp).mono ?_
  rintro e W' ⟨rfl, hb⟩
  exact ⟨rfl, hG.below hb, hb⟩
theorem gx_len (hG : GX w0 B t W) (hi : t i = tM p x) : Calls Try.prog 21 #[p] W fun e W' => e = .returned (.int .i64 (kn x)) ∧ W' = W := by
  have hp := hG.all i
  rw [hi] at hp
  exact len_m p x W hp
theorem gx_bytes (hG : GX w0 B t W) (hi : t i = tM p x) (m : Nat) : Calls Try.prog 16 #[p] W fun e W' => ∃ v, e = .returned v ∧ ∃ t', GX w0 B t' W' ∧ t' m = tB v (kn x) (kf x) ∧ But t t' m m := by
  have hp := hG.all i
  rw [hi] at hp
  refine (bytes_m p x W hp).mono ?_
  rintro e W' ⟨v, rfl, ho, hb⟩
  exact ⟨v, rfl, _, hG.one m (tB v (kn x) (kf x)) (Kp.of_below (fun _ => False) hb) (fun _ e => e.elim) (own_mono ho (Nat.zero_le _)) (fun j hj => .inr (own_row ho j hj)), up_at _ _ _, fun m h1 _ => up_ne _ _ h1⟩
/-- What Wipe answers, what the memory is then, and what is recorded. -/
def wc (x : Kd) : Int := match x with | none => 1 | some _ => 0
def wk (x : Kd) : Kd := match x with | none => none | some _ => some (0, fun _ => 0)
def wl (x : Kd) (L : List Rn) : List Rn := match x with | none => L | some _ => putL L ⟨8, 1024, 1⟩
def sc (x y : Kd) : Bool := match x, y with | some (_, f), some (_, g) => eqB f g 1024 | _, _ => false
def sl (x y : Kd) (L : List Rn) : List Rn := match x, y with | some _, some _ => putL L ⟨6, 1024, 1⟩ | _, _ => L
theorem ok8 : (⟨8, 1024, 1⟩ : Rn).Ok := by unfold Rn.Ok; decide
theorem ok6 : (⟨6, 1024, 1⟩ : Rn).Ok := by unfold Rn.Ok; decide
theorem gx_wipe (hG : GX w0 B t W) (hi : t i = tM p x) (hk : Lg t k lo L) (hik : i ≠ k) (hm : Room L) :
    Calls Try.prog 23 #[p, lpv lo] W fun e W' => e = .returned (.int .i64 (wc x)) ∧ ∃ t', GX w0 B t' W' ∧ t' i = tM p (wk x) ∧ Lg t' k lo (wl x L) ∧ But t t' i k := by
  have hp := hG.all i
  have hap := hG.ap i k hik
  rw [hi] at hp hap
  cases x with
  | none =>
    refine (wipe_no p (lpv lo) W hp).mono ?_
    rintro e W' ⟨rfl, rfl⟩
    exact ⟨rfl, t, hG, hi, hk, fun _ _ _ => rfl⟩
  | some z =>
    obtain ⟨n, f⟩ := z
    obtain ⟨b, rfl, hmem⟩ := hp
    refine (wipe_mem b n f (lpv lo) W _ hmem (hk.notes hG 8 1024 ok8 hm) (fun w' r => by
      obtain ⟨y, -, -, -, hkp⟩ := r
      exact hmem.kept hkp (hap b rfl))).mono ?_
    rintro e W' ⟨rfl, w1, ⟨y, hy, hyF, hyL, hkp⟩, hm', hk'⟩
    have hyb : ¬ y.F b := fun e => by
      rcases hyF b e with h | h
      · exact hap b rfl h
      · have := hmem.here.lt; omega
    have hky : Kp (fun j => (t k).F j ∨ j = b) W W' := (hkp.mono (fun _ _ e => .inl e)).trans hk' (fun _ _ e => .inr e)
    refine ⟨rfl, _, hG.two i k (tM (.pointer (some ⟨b, 0, none⟩)) (some (0, fun _ => 0))) y hik hky (fun j hs _ => ?_) ⟨b, rfl, hm'⟩ (y.keep hy hk' (fun j hj e => by subst e; exact hyb hj)) (fun j hj => .inl (by rw [hi]; exact hj)) (fun j hj => .inr (hyF j hj)) (fun j hj hj' => by rw [pb_one hj] at hj'; exact hyb hj'), ai hik _ _, hyL _ (ak _ _), but_up _ _ _ _ _⟩
    rcases hs with e | e
    · exact .inr e
    · exact .inl (by rw [hi, e]; rfl)
theorem gx_same (hG : GX w0 B t W) (hi : t i = tM p x) (hj : t j = tM q y) (hk : Lg t k lo L) (hik : i ≠ k) (hjk : j ≠ k) (hm : Room L) :
    Calls Try.prog 25 #[lpv lo, p, q] W fun e W' => e = .returned (.bool (sc x y)) ∧ ∃ t', GX w0 B t' W' ∧ Lg t' k lo (sl x y L) ∧ But t t' k k := by
  have hp := hG.all i
  have hap := hG.ap i k hik
  have hq := hG.all j
  have haq := hG.ap j k hjk
  rw [hi] at hp hap
  rw [hj] at hq haq
  have no : ∀ (b : Bool), b = false → (∀ (e : Ending) W', e = .returned (.bool false) ∧ W' = W → e = .returned (.bool b) ∧ ∃ t', GX w0 B t' W' ∧ Lg t' k lo L ∧ But t t' k k) := by
    rintro b rfl e W' ⟨rfl, rfl⟩
    exact ⟨rfl, t, hG, hk, fun _ _ _ => rfl⟩
  cases x with
  | none => exact (same_no1 (lpv lo) p q W hp).mono (no _ rfl)
  | some z =>
    obtain ⟨n, f⟩ := z
    obtain ⟨a, rfl, ha⟩ := hp
    cases y with
    | none => exact (same_no2 (lpv lo) q a n f W ha hq).mono (no _ rfl)
    | some z =>
      obtain ⟨n', g⟩ := z
      obtain ⟨b, rfl, hb⟩ := hq
      have hG' := hG.drewN 1
      refine (same_mem (lpv lo) a b n n' f g W _ ha hb (hk.notes hG' 6 1024 ok6 hm) (fun w' r => by
        obtain ⟨y, -, -, -, hkp⟩ := r
        exact (ha.below (below_drewN W 1)).kept hkp (hap a rfl)) (fun w' r => by
        obtain ⟨y, -, -, -, hkp⟩ := r
        exact (hb.below (below_drewN W 1)).kept hkp (haq b rfl))).mono ?_
      rintro e W' ⟨rfl, w1, d, ⟨y, hy, hyF, hyL, hkp⟩, rfl⟩
      exact ⟨rfl, _, (hG'.one k y hkp (fun j hs _ => hs) hy hyF).drewN d, hyL _ (up_at _ _ _), fun m h1 _ => up_ne _ _ h1⟩
theorem gx_runs (hG : GX w0 B t W) (hk : Lg t k (some m) L) (hN : L.length * 24 ≤ 140737488355328) : Calls Try.prog 28 #[lpv (some m)] W fun e W' => ∃ v, e = .returned v ∧ RB W' v L ∧ Below W.heap.size W W' := by
  obtain ⟨rv, e⟩ := hk
  have hp := hG.all k
  rw [e] at hp
  refine (runs22 m rv L W hp hN).mono ?_
  rintro e W' ⟨v, rfl, ho, hb⟩
  exact ⟨v, rfl, ho.reads, hb⟩
end
end Go.Proofs.Ythoklddoeoedgaa.Sl
