/- Things in memory, each by its own blocks: what one call leaves of the others. Sessions, ledgers and lists side by side: each call of a session. -/
import Derived.Test.YtpohogpkfdebdaaGreatDoorOg
import Derived.Test.YtpohogpkfdebdaaGreatDoorOd
namespace Go.Proofs.YtpohogpkfdebdaaGreatDoor.Oc
open Go.ChangeShapes Go.WideShapes Go.ChangeAt Go.RowKit
open Go.Proofs.YtpohogpkfdebdaaGreatDoor.By
open Go.Proofs.YtpohogpkfdebdaaGreatDoor.Sh (Blk size_alloc)
open Go.Proofs.YtpohogpkfdebdaaGreatDoor.Dg (BB LG lpv Lt Tl IsMk MB)
/-- A thing: its blocks, and what holds of it. -/
structure Th where
  F : Nat → Prop
  P : World → Prop
  keep : ∀ {S W W'}, P W → Kp S W W' → (∀ j, F j → ¬ S j) → P W'
  lt : ∀ {W}, P W → ∀ j, F j → j < W.heap.size
def Th.no : Th := ⟨fun _ => False, fun _ => True, fun _ _ _ => trivial, fun _ _ e => e.elim⟩
def up (t : Nat → Th) (i : Nat) (x : Th) : Nat → Th := fun k => if k = i then x else t k
theorem up_at (t : Nat → Th) (i : Nat) (x : Th) : up t i x i = x := if_pos rfl
theorem up_ne (t : Nat → Th) {i k : Nat} (x : Th) (h : k ≠ i) : up t i x k = t k := if_neg h
/-- Things that lie apart, in blocks from B on. -/
structure GX (w0 : World) (B : Nat) (t : Nat → Th) (W : World) : Prop where
  all : ∀ i, (t i).P W
  lo : ∀ i j, (t i).F j → B ≤ j
  ap : ∀ i k, i ≠ k → ∀ j, (t i).F j → ¬ (t k).F j
  bel : Below B w0 W
  ka : KA W
  h1 : 4 < B
  hB : B ≤ W.heap.size
section
variable {w0 W W' : World} {B : Nat} {t : Nat → Th} {S : Nat → Prop}
theorem GX.start (w : World) (hk : KA w) : GX w w.heap.size (fun _ => Th.no) w := ⟨fun _ => trivial, fun _ _ e => e.elim, fun _ _ _ _ e => e.elim, Below.refl _ _, hk, hk.lt, Nat.le_refl _⟩
/-- Some things are turned into others, new ones among them. -/
theorem GX.turn (h : GX w0 B t W) (t' : Nat → Th) (I : Nat → Prop) (hk : Kp S W W') (hS : ∀ j, S j → j < W.heap.size → ∃ i, I i ∧ (t i).F j)
    (he : ∀ i, ¬ I i → t' i = t i) (hp : ∀ i, I i → (t' i).P W') (hf : ∀ i, I i → ∀ j, (t' i).F j → (∃ k, I k ∧ (t k).F j) ∨ W.heap.size ≤ j) (hd : ∀ i k, I i → I k → i ≠ k → ∀ j, (t' i).F j → ¬ (t' k).F j) : GX w0 B t' W' := by
  have hSB : ∀ j, j < W.heap.size → S j → B ≤ j := fun j hj hs => by
    obtain ⟨i, _, hi⟩ := hS j hs hj
    exact h.lo i j hi
  have old : ∀ i, ¬ I i → ∀ j, (t i).F j → ¬ S j := fun i hi j hj hs => by
    obtain ⟨k, hk, hkj⟩ := hS j hs ((t i).lt (h.all i) j hj)
    exact h.ap i k (fun e => hi (e ▸ hk)) j hj hkj
  have mix : ∀ i k, ¬ I i → I k → ∀ j, (t i).F j → ¬ (t' k).F j := fun i k hi hk j hj hkj => by
    rcases hf k hk j hkj with ⟨m, hm, hmj⟩ | hz
    · exact h.ap i m (fun e => hi (e ▸ hm)) j hj hmj
    · have := (t i).lt (h.all i) j hj; omega
  have h1 := h.h1
  have hB := h.hB
  refine ⟨fun i => ?_, fun i j hj => ?_, fun i k hik j hi hj => ?_, h.bel.trans (hk.below hB (fun j hj hs => by have := hSB j (by omega) hs; omega)), h.ka.kept hk (fun j hj hs => by have := hSB j (by omega) hs; omega), h1, Nat.le_trans hB hk.size⟩
  · by_cases hi : I i
    · exact hp i hi
    · rw [he i hi]; exact (t i).keep (h.all i) hk (old i hi)
  · by_cases hi : I i
    · rcases hf i hi j hj with ⟨m, _, hmj⟩ | hz
      · exact h.lo m j hmj
      · omega
    · rw [he i hi] at hj; exact h.lo i j hj
  · by_cases hI : I i
    · by_cases hK : I k
      · exact hd i k hI hK hik j hi hj
      · rw [he k hK] at hj; exact mix k i hK hI j hj hi
    · rw [he i hI] at hi
      by_cases hK : I k
      · exact mix i k hI hK j hi hj
      · rw [he k hK] at hj; exact h.ap i k hik j hi hj
/-- Nothing that was is turned. -/
theorem GX.below (h : GX w0 B t W) (hb : Below W.heap.size W W') : GX w0 B t W' :=
  h.turn t (fun _ => False) (Kp.of_below (fun _ => False) hb) (fun _ e => e.elim) (fun _ _ => rfl) (fun _ e => e.elim) (fun _ e => e.elim) (fun _ _ e => e.elim)
/-- One thing is turned, or is new. -/
theorem GX.one (h : GX w0 B t W) (i : Nat) (x : Th) (hk : Kp S W W') (hS : ∀ j, S j → j < W.heap.size → (t i).F j) (hp : x.P W') (hf : ∀ j, x.F j → (t i).F j ∨ W.heap.size ≤ j) : GX w0 B (up t i x) W' :=
  h.turn _ (fun k => k = i) hk (fun j hs hj => ⟨i, rfl, hS j hs hj⟩) (fun k hk => up_ne t x hk) (fun k hk => by rw [show k = i from hk, up_at]; exact hp)
    (fun k hk j hj => by rw [show k = i from hk, up_at] at hj; exact (hf j hj).imp (fun e => ⟨i, rfl, e⟩) id) (fun a b ha hb hab => absurd (ha.trans hb.symm) hab)
/-- Two things are turned, or are new. -/
theorem GX.two (h : GX w0 B t W) (i k : Nat) (x y : Th) (hik : i ≠ k) (hk : Kp S W W') (hS : ∀ j, S j → j < W.heap.size → (t i).F j ∨ (t k).F j) (hp : x.P W') (hq : y.P W') (hf : ∀ j, x.F j → (t i).F j ∨ (t k).F j ∨ W.heap.size ≤ j) (hg : ∀ j, y.F j → (t i).F j ∨ (t k).F j ∨ W.heap.size ≤ j) (hd : ∀ j, x.F j → ¬ y.F j) : GX w0 B (up (up t i x) k y) W' := by
  have ei : up (up t i x) k y i = x := by rw [up_ne _ _ hik, up_at]
  have ek : up (up t i x) k y k = y := up_at _ _ _
  refine h.turn _ (fun m => m = i ∨ m = k) hk (fun j hs hj => (hS j hs hj).elim (fun e => ⟨i, .inl rfl, e⟩) (fun e => ⟨k, .inr rfl, e⟩)) (fun m hm => ?_) (fun m hm => ?_) (fun m hm j hj => ?_) (fun a b ha hb hab j hj hj' => ?_)
  · rw [up_ne _ _ (fun e => hm (.inr e)), up_ne _ _ (fun e => hm (.inl e))]
  · rcases hm with rfl | rfl
    · rw [ei]; exact hp
    · rw [ek]; exact hq
  · have : (t i).F j ∨ (t k).F j ∨ W.heap.size ≤ j := by
      rcases hm with rfl | rfl
      · rw [ei] at hj; exact hf j hj
      · rw [ek] at hj; exact hg j hj
    rcases this with e | e | e
    · exact .inl ⟨i, .inl rfl, e⟩
    · exact .inl ⟨k, .inr rfl, e⟩
    · exact .inr e
  · rcases ha with rfl | rfl <;> rcases hb with rfl | rfl
    · exact hab rfl
    · rw [ei] at hj; rw [ek] at hj'; exact hd j hj hj'
    · rw [ek] at hj; rw [ei] at hj'; exact hd j hj' hj
    · exact hab rfl
theorem GX.drop (h : GX w0 B t W) (i : Nat) : GX w0 B (up t i Th.no) W :=
  h.one i Th.no (Kp.refl (fun _ => False) W) (fun _ e => e.elim) trivial (fun _ e => e.elim)
end
/-- The program's ledger as a thing. -/
theorem led_kind {W : World} {lb : Nat} {rv : Value} {L : List Rn} (h : Led W lb rv L) {j : Nat} (hj : j = lb ∨ rv.ownBlock = some j) : ∃ cs t, Blk W j cs t ∧ Lt t := by
  rcases hj with e | e
  · rw [e]; exact ⟨_, _, h.here, .inl rfl⟩
  · obtain ⟨c, hc⟩ := Sg.own_type h.own e
    exact ⟨c.toList, _, (by show W.heap[j]? = _; rw [hc]), .inr rfl⟩
def tL (lb : Nat) (rv : Value) (L : List Rn) : Th where
  F j := j = lb ∨ rv.ownBlock = some j
  P W := Led W lb rv L
  keep h hk hn := h.kept hk (hn _ (.inl rfl)) (fun g hg => hn g (.inr hg))
  lt h j hj := by obtain ⟨cs, t, hb, _⟩ := led_kind h hj; exact hb.lt
theorem tL_tl {W : World} {lb : Nat} {rv : Value} {L : List Rn} (h : Led W lb rv L) : Tl W (tL lb rv L).F := fun _ hj => led_kind h hj
theorem tL_lg {W : World} {lb : Nat} {rv : Value} {L : List Rn} (h : Led W lb rv L) : LG (tL lb rv L).F W W (some lb) L := ⟨.inl rfl, rv, h, fun _ hg _ => .inr hg⟩
/-- A list of bytes as a thing. -/
def tB (v : Value) (n : Nat) (f : Nat → Int) : Th where
  F j := v.ownBlock = some j
  P W := By.Own W 0 v n f
  keep h hk hn := Sg.own_kept h hk (fun g hg => hn g hg)
  lt h j hj := by obtain ⟨cs, hb⟩ := own_kind h hj; exact hb.lt
end Go.Proofs.YtpohogpkfdebdaaGreatDoor.Oc
namespace Go.Proofs.YtpohogpkfdebdaaGreatDoor.Oc
open Go.ChangeShapes Go.WideShapes Go.ChangeAt Go.RowKit
open Go.Proofs.YtpohogpkfdebdaaGreatDoor.By
open Go.Proofs.YtpohogpkfdebdaaGreatDoor.Sh (Blk size_alloc)
open Go.Proofs.YtpohogpkfdebdaaGreatDoor.Dg (BB LG lpv Lt Tl IsMk MB)
def tS (x : SX) : Th where
  F := FS x
  P W := IsS W x
  keep h hk hn := h.kept hk hn
  lt h _ hj := h.lt hj
def tN (s : Nat) : Th where
  F j := j = s
  P W := Blk W s nos 84
  keep h hk hn := h.kept hk (hn _ rfl)
  lt h j hj := by rw [show j = s from hj]; exact h.lt
/-- The ledger at the number k, or none there. -/
def Ledg (t : Nat → Th) (k : Nat) (lo : Option Nat) (L : List Rn) : Prop := match lo with | none => t k = Th.no | some lb => ∃ rv, t k = tL lb rv L
section
variable {w0 W W' : World} {B : Nat} {t : Nat → Th} {i k m : Nat} {lo : Option Nat} {L L' : List Rn} {x : SX}
theorem Ledg.tl (h : Ledg t k lo L) (hG : GX w0 B t W) : Tl W (t k).F := by
  cases lo with
  | none => rw [show t k = Th.no from h]; exact fun _ e => e.elim
  | some lb =>
    obtain ⟨rv, e⟩ := h
    have hp := hG.all k
    rw [e] at hp ⊢
    exact tL_tl hp
theorem Ledg.lg (h : Ledg t k lo L) (hG : GX w0 B t W) : LG (t k).F W W lo L := by
  cases lo with
  | none => trivial
  | some lb =>
    obtain ⟨rv, e⟩ := h
    have hp := hG.all k
    rw [e] at hp ⊢
    exact tL_lg hp
theorem GX.no5 (hG : GX w0 B t W) (n : Nat) : ∀ j, j < 5 → ¬ (t n).F j := fun j hj e => by have := hG.lo n j e; have := hG.h1; omega
theorem Ledg.next {U : Nat → Prop} (h : Ledg t k lo L) (hl : LG (fun j => (t k).F j ∨ U j) W W' lo L') : ∃ y : Th, y.P W' ∧ (∀ j, y.F j → ((t k).F j ∨ U j) ∨ W.heap.size ≤ j) ∧ (∀ t' : Nat → Th, t' k = y → Ledg t' k lo L') ∧ Tl W' y.F := by
  cases lo with
  | none => exact ⟨Th.no, trivial, fun _ e => e.elim, fun _ e => e, fun _ e => e.elim⟩
  | some lb =>
    obtain ⟨h1, rv, hL, ho⟩ := hl
    refine ⟨tL lb rv L', hL, fun j hj => ?_, fun t' e => ⟨rv, e⟩, tL_tl hL⟩
    rcases hj with e | e
    · exact .inl (by rw [show j = lb from e]; exact h1)
    · by_cases hlt : j < W.heap.size
      · exact .inl (ho j e hlt)
      · exact .inr (by omega)
theorem Ledg.keep (h : Ledg t k lo L) {t' : Nat → Th} (e : t' k = t k) : Ledg t' k lo L := by
  cases lo with
  | none => exact e.trans h
  | some lb => obtain ⟨rv, e'⟩ := h; exact ⟨rv, e.trans e'⟩
/-- All but two numbers stay. -/
def But (t t' : Nat → Th) (i k : Nat) : Prop := ∀ m, m ≠ i → m ≠ k → t' m = t m
theorem but_up (t : Nat → Th) (i k : Nat) (x y : Th) : But t (up (up t i x) k y) i k := fun m h1 h2 => by rw [up_ne _ _ h2, up_ne _ _ h1]
theorem ai (hik : i ≠ k) (x y : Th) : up (up t i x) k y i = x := by rw [up_ne _ _ hik, up_at]
theorem ak (x y : Th) : up (up t i x) k y k = y := up_at _ _ _
/-- A list of the arguments is read. -/
theorem GX.rdA (hG : GX w0 B t W) {v : Value} {n : Nat} {f : Nat → Int} (hr : ∀ w', Below B w0 w' → By.RB w' v n f) {S : Nat → Prop} (hS : ∀ j, S j → B ≤ j) : ∀ w', Kp S W w' → By.RB w' v n f := fun w' hk => hr w' (hG.bel.trans (hk.below hG.hB (fun j hj hs => by have := hS j hs; omega)))
/-- A list among the things is read. -/
theorem GX.rdO (hG : GX w0 B t W) {v : Value} {n : Nat} {f : Nat → Int} (hm : t m = tB v n f) {S : Nat → Prop} (hS : ∀ j, S j → ¬ (t m).F j) : ∀ w', Kp S W w' → By.RB w' v n f := fun w' hk => by
  have hp := hG.all m
  rw [hm] at hp hS
  exact ((tB v n f).keep hp hk (fun j hj hs => hS j hs hj)).reads
theorem gx_write (hG : GX w0 B t W) (hi : t i = tS x) (hk : Ledg t k lo L) (hik : i ≠ k) (n kk : Nat) (v : Value) (g : Nat → Int) (hf : Fit kk L) (hk4 : kk ≤ 4000000)
    (hr : ∀ w', Kp (fun j => (t k).F j ∨ FX x.b x.o j) W w' → By.RB w' v n g) (hm : x.p.ml + n ≤ 5000000) :
    Calls Tryz.prog 27 #[pt x.s, lpv lo, v] W fun e W' => e = .returned (.int .i64 0) ∧ ∃ t', GX w0 B t' W' ∧ t' i = tS { x with p := x.p.add n g } ∧ Ledg t' k lo (x.p.eW n L) ∧ But t t' i k := by
  have hx := hG.all i
  have hlo := hG.lo i
  have hap := hG.ap i k hik
  rw [hi] at hx hlo hap
  refine (wr_s x n kk v g lo L (t k).F W hx hG.ka (hk.tl hG) (fun j hj e => e.elim (hG.no5 k j hj) (fun e => by have := hlo j (.inr (.inl e)); have := hG.h1; omega)) (hk.lg hG) hf hk4 hr hm).mono ?_
  rintro e W' ⟨rfl, hs, hl, hkp⟩
  obtain ⟨y, hy, hyF, hyL, hyT⟩ := hk.next (U := fun _ => False) (lg_mono hl (fun _ => .inl))
  refine ⟨rfl, _, hG.two i k (tS { x with p := x.p.add n g }) y hik hkp (fun j hs hj => ?_) hs hy (fun j hj => .inl (by rw [hi]; exact hj)) (fun j hj => ?_) (fun j hj hj' => ?_), ai hik _ _, hyL _ (ak _ _), but_up _ _ _ _ _⟩
  · rcases hs with e | e
    · exact .inr e
    · exact .inl (by rw [hi]; exact .inr (.inl e))
  · rcases hyF j hj with (e | e) | e
    · exact .inr (.inl e)
    · exact e.elim
    · exact .inr (.inr e)
  · obtain ⟨cs, tt, hb, ht⟩ := hs.kind hj
    exact hyT.no hb (sty_l ht) hj'
theorem gx_sum (hG : GX w0 B t W) (hi : t i = tS x) (hk : Ledg t k lo L) (hmk : m ≠ k) (kk : Nat) (hf : Fit kk L) (hk4 : kk ≤ 4000000) (hm : x.p.ml ≤ 4900000) :
    Calls Tryz.prog 31 #[pt x.s, lpv lo] W fun e W' => ∃ v, e = .returned (.tuple #[v, .int .i64 0]) ∧ ∃ t', GX w0 B t' W' ∧ t' m = tB v x.out x.p.tf ∧ Ledg t' k lo (x.p.eS L) ∧ But t t' m k := by
  have hx := hG.all i
  rw [hi] at hx
  refine (sm_s x kk lo L (t k).F W hx hG.ka (hk.tl hG) (hG.no5 k) (hk.lg hG) hf hk4 hm).mono ?_
  rintro e W' ⟨v, rfl, ho, -, hl, hkp⟩
  obtain ⟨y, hy, hyF, hyL, hyT⟩ := hk.next (U := fun _ => False) (lg_mono hl (fun _ => .inl))
  refine ⟨v, rfl, _, hG.two m k (tB v x.out x.p.tf) y hmk hkp (fun j hs hj => .inr hs) (Sh.own_mono ho (Nat.zero_le _)) hy (fun j hj => .inr (.inr (own_row ho j hj))) (fun j hj => ?_) (fun j hj hj' => ?_), ai hmk _ _, hyL _ (ak _ _), but_up _ _ _ _ _⟩
  · rcases hyF j hj with (e | e) | e
    · exact .inr (.inl e)
    · exact e.elim
    · exact .inr (.inr e)
  · obtain ⟨cs, hb⟩ := own_kind ho hj
    exact hyT.no hb (by decide) hj'
theorem gx_verify (hG : GX w0 B t W) (hi : t i = tS x) (hk : Ledg t k lo L) (kk : Nat) (v : Value) (g : Nat → Int) (hf : Fit kk L) (hk4 : kk ≤ 3900000) (hm : x.p.ml ≤ 4900000)
    (hr : ∀ w', Kp (t k).F W w' → By.RB w' v x.out g) :
    Calls Tryz.prog 33 #[pt x.s, lpv lo, v] W fun e W' => e = .returned (.tuple #[.bool (By.eqB x.p.tf g x.out), .int .i64 0]) ∧ ∃ t', GX w0 B t' W' ∧ Ledg t' k lo (putL (x.p.eS L) ⟨6, (x.out : Int), 1⟩) ∧ But t t' k k := by
  have hx := hG.all i
  rw [hi] at hx
  refine (vf_s x kk v g lo L (t k).F W hx hG.ka (hk.tl hG) (hG.no5 k) (hk.lg hG) hf hk4 hm hr).mono ?_
  rintro e W' ⟨rfl, -, hl, hkp⟩
  obtain ⟨y, hy, hyF, hyL, hyT⟩ := hk.next (U := fun _ => False) (lg_mono hl (fun _ => .inl))
  refine ⟨rfl, _, hG.one k y hkp (fun j hs hj => hs) hy (fun j hj => ?_), hyL _ (up_at _ _ _), fun m h1 _ => up_ne _ _ h1⟩
  rcases hyF j hj with (e | e) | e
  · exact .inl e
  · exact e.elim
  · exact .inr e
theorem gx_clone (hG : GX w0 B t W) (hi : t i = tS x) :
    Calls Tryz.prog 29 #[pt x.s] W fun e W' => ∃ y : SX, e = .returned (.tuple #[pt y.s, .int .i64 0]) ∧ y.al = x.al ∧ y.out = x.out ∧ y.p = x.p ∧ ∃ t', GX w0 B t' W' ∧ t' m = tS y ∧ But t t' m m := by
  have hx := hG.all i
  rw [hi] at hx
  refine (cl_s x W hx).mono ?_
  rintro e W' ⟨y, rfl, hy, h1, h2, h3, hn, hb⟩
  exact ⟨y, rfl, h1, h2, h3, _, hG.one m (tS y) (Kp.of_below (fun _ => False) hb) (fun _ e => e.elim) hy (fun j hj => .inr (hn j hj)), up_at _ _ _, fun m h1 _ => up_ne _ _ h1⟩
theorem gx_form (hG : GX w0 B t W) (hi : t i = tS x) :
    Calls Tryz.prog 32 #[pt x.s] W fun e W' => ∃ v, e = .returned v ∧ ∃ t', GX w0 B t' W' ∧ t' m = tB v x.p.fl x.p.ff ∧ But t t' m m := by
  have hx := hG.all i
  rw [hi] at hx
  refine (fm_s x W hx).mono ?_
  rintro e W' ⟨v, rfl, ho, hb⟩
  exact ⟨v, rfl, _, hG.one m (tB v x.p.fl x.p.ff) (Kp.of_below (fun _ => False) hb) (fun _ e => e.elim) (Sh.own_mono ho (Nat.zero_le _)) (fun j hj => .inr (own_row ho j hj)), up_at _ _ _, fun m h1 _ => up_ne _ _ h1⟩
theorem gx_wipe (hG : GX w0 B t W) (hi : t i = tS x) (hk : Ledg t k lo L) (hik : i ≠ k) (kk : Nat) (hf : Fit kk L) (hk4 : kk ≤ 4000000) :
    Calls Tryz.prog 30 #[pt x.s, lpv lo] W fun e W' => e = .returned (.int .i64 0) ∧ ∃ t', GX w0 B t' W' ∧ t' i = tN x.s ∧ Ledg t' k lo (putL L ⟨8, (x.p.fl : Int), 1⟩) ∧ But t t' i k := by
  have hx := hG.all i
  rw [hi] at hx
  refine (wp_s x kk lo L (t k).F W hx (hk.tl hG) (hk.lg hG) hf hk4).mono ?_
  rintro e W' ⟨rfl, hs, hl, hkp⟩
  have hs' : Blk W' x.s nos 84 := by
    rcases hs with e | ⟨s, e, h⟩
    · cases e
    · cases e; exact h
  obtain ⟨y, hy, hyF, hyL, hyT⟩ := hk.next (U := FS x) hl
  refine ⟨rfl, _, hG.two i k (tN x.s) y hik hkp (fun j hs hj => ?_) hs' hy (fun j hj => .inl (by rw [hi]; exact .inl hj)) (fun j hj => ?_) (fun j hj hj' => ?_), ai hik _ _, hyL _ (ak _ _), but_up _ _ _ _ _⟩
  · rcases hs with e | e
    · exact .inr e
    · exact .inl (by rw [hi]; exact e)
  · rcases hyF j hj with (e | e) | e
    · exact .inr (.inl e)
    · exact .inl (by rw [hi]; exact e)
    · exact .inr (.inr e)
  · cases (show j = x.s from hj)
    exact hyT.no hs' (by decide) hj'
theorem gx_begin (hG : GX w0 B t W) (hk : Ledg t k lo L) (hik : i ≠ k) (a n c q kk : Nat) (v u : Value) (g h : Nat → Int) (hf : Fit kk L) (hk4 : kk ≤ 4000000) (hr : ∀ w', Kp (t k).F W w' → By.RB w' v n g) (hr2 : ∀ w', Kp (t k).F W w' → By.RB w' u c h) (hc : code a n c q = 0) (hnn : n ≤ 1000000) :
    Calls Tryz.prog 22 #[lpv lo, .int .u8 (a : Int), v, u, .int .i64 (q : Int)] W fun e W' => ∃ x : SX, e = .returned (.tuple #[pt x.s, .int .i64 0]) ∧ x.al = a ∧ x.out = q ∧ x.p = px0 a n g c h q ∧ ∃ t', GX w0 B t' W' ∧ t' i = tS x ∧ Ledg t' k lo (eB a n g c h L) ∧ But t t' i k := by
  refine (bgn_ok a n c q kk v u g h lo L (t k).F W (hk.tl hG) hG.ka (hG.no5 k) (hk.lg hG) hf hk4 hr hr2 hc hnn).mono ?_
  rintro e W' ⟨x, rfl, hs, h1, h2, h3, hn, hl, hkp⟩
  obtain ⟨y, hy, hyF, hyL, hyT⟩ := hk.next (U := fun _ => False) (lg_mono hl (fun _ => .inl))
  refine ⟨x, rfl, h1, h2, h3, _, hG.two i k (tS x) y hik hkp (fun j hs hj => .inr hs) hs hy (fun j hj => .inr (.inr (hn j hj))) (fun j hj => ?_) (fun j hj hj' => ?_), ai hik _ _, hyL _ (ak _ _), but_up _ _ _ _ _⟩
  · rcases hyF j hj with (e | e) | e
    · exact .inr (.inl e)
    · exact e.elim
    · exact .inr (.inr e)
  · obtain ⟨cs, tt, hb, ht⟩ := hs.kind hj
    exact hyT.no hb (sty_l ht) hj'
end
end Go.Proofs.YtpohogpkfdebdaaGreatDoor.Oc
