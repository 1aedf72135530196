/- Two pairs of ledgers side by side, and all that they have told: what one call of either leaves. -/
import Derived.Test.YtadcindaafjckaaLact1
import Derived.Test.YtadcindaafjckaaLact2
import Derived.Test.YtadcindaafjckaaLact3
namespace Go.Proofs.Ytadcindaafjckaa
open Go.ChangeShapes Go.WideShapes Go.ChangeAt Go.RowKit
/-- One call of a pair, whichever. -/
theorem act9 (base pb b rb n : Nat) (rv rrv tv wv : Value) (L : List Rn) (T V : List Value) (on c k s nn : Int) (w : World) (hd : Duo w b rb rv rrv L) (ht : Tw w base pb b rb tv wv n n T V) (hk : 0 ≤ k ∧ k < 256) (hs : -9223372036854775808 ≤ s ∧ s ≤ 9223372036854775807) (hm : -9223372036854775808 ≤ nn ∧ nn ≤ 9223372036854775807)
    (hL : L.length ≤ 1000) (htot : tot L ≤ 4611686018427388000) (hb0 : base ≤ w.heap.size) (hn : n < 1000) (hnear : nearB c nn (tot L) = false) :
    Calls Try.prog 9 #[.pointer (some ⟨pb, 0, none⟩), .agg #[.int .i64 on, .int .i64 c, .int .u8 k, .int .i64 s, .int .i64 nn]] w fun e w' => e = .returned (.bool true) ∧ ActP w w' base pb b rb rv rrv tv wv L n T V := by
  by_cases h0 : c = 0
  · subst h0; exact act0 base pb b rb n rv rrv tv wv L T V on k s nn w hd ht ⟨hk, hs, by simp, by simp⟩ hL htot
  by_cases h1 : c = 1
  · subst h1
    by_cases hz : nn < 1
    · exact act1z base pb b rb n rv rrv tv wv L T V on k s nn w hd ht hz
    · refine act1 base pb b rb n rv rrv tv wv L T V on k s nn w hd ht ⟨hk, hs, hm⟩ hL (by omega) ?_
      unfold nearB at hnear
      have := of_decide_eq_false hnear
      omega
  by_cases h2 : c = 2
  · subst h2; exact act2 base pb b rb n rv rrv tv wv L T V on k s nn w hd ht hL hb0 hn
  by_cases h3 : c = 3
  · subst h3; exact act3 base pb b rb n rv rrv tv wv L T V on k s nn w hd ht hL hb0 hn hm
  by_cases h4 : c = 4
  · subst h4; exact act4 base pb b rb n rv rrv tv wv L T V on k s nn w hd ht hL
  by_cases h5 : c = 5
  · subst h5; exact act5 base pb b rb n rv rrv tv wv L T V on k s nn w hd ht hL htot
  by_cases h6 : c = 6
  · subst h6; exact act6 base pb b rb n rv rrv tv wv L T V on k s nn w hd ht
  exact act7 base pb b rb n rv rrv tv wv L T V on k s nn w hd ht c ⟨h0, h1, h2, h3, h4, h5, h6⟩ hL
/-- What a pair is made of. -/
structure PD where
  pb : Nat
  b : Nat
  rb : Nat
  rv : Value
  rrv : Value
  tv : Value
  wv : Value
  L : List Rn
  n : Nat
  T : List Value
  V : List Value
  Fs : List (List Rn)
/-- The pair's blocks. -/
def PD.S (p : PD) : Nat → Prop := PS p.pb p.b p.rb p.rv p.rrv p.tv p.wv
structure Ons (w W : World) (i : Nat) (p : PD) : Prop where
  duo : Duo W p.b p.rb p.rv p.rrv p.L
  tw : Tw W w.heap.size p.pb p.b p.rb p.tv p.wv p.n p.n p.T p.V
  low : ∀ q, p.S q → w.heap.size ≤ q
  len : p.L.length ≤ i
  most : tot p.L ≤ 4611686018427387504 + i
  nn : p.n ≤ i
  lf : p.Fs.length = p.n
  told : ∀ (j : Nat) (F : List Rn), p.Fs[j]? = some F → ∃ x y, p.T[j]? = some x ∧ p.V[j]? = some y ∧ Own W w.heap.size x F ∧ Own W w.heap.size y F ∧ F.length ≤ 1000
theorem Ons.lens {w W : World} {i : Nat} {p : PD} (h : Ons w W i p) : p.T.length = p.n ∧ p.V.length = p.n := by
  have h1 := h.tw.rt.1
  have h2 := h.tw.rw_.1
  omega
theorem Ons.lt {w W : World} {i : Nat} {p : PD} (h : Ons w W i p) : ∀ q, p.S q → q < W.heap.size := fun q hq => hq.elim (h.duo.lt q) (h.tw.lt q)
theorem Ons.mem {w W : World} {i : Nat} {p : PD} (h : Ons w W i p) {x : Value} (hx : x ∈ p.T ∨ x ∈ p.V) : ∃ F, Own W w.heap.size x F := by
  obtain ⟨l1, l2⟩ := h.lens
  have l3 := h.lf
  rcases hx with hx | hx
  · obtain ⟨j, hj⟩ := List.mem_iff_getElem?.1 hx
    have hl := (List.getElem?_eq_some_iff.1 hj).1
    obtain ⟨x', y', h1, _, h3, _⟩ := h.told j p.Fs[j] (List.getElem?_eq_getElem (by omega))
    rw [hj] at h1; cases h1
    exact ⟨_, h3⟩
  · obtain ⟨j, hj⟩ := List.mem_iff_getElem?.1 hx
    have hl := (List.getElem?_eq_some_iff.1 hj).1
    obtain ⟨x', y', _, h1, _, h3, _⟩ := h.told j p.Fs[j] (List.getElem?_eq_getElem (by omega))
    rw [hj] at h1; cases h1
    exact ⟨_, h3⟩
/-- Another's step. -/
theorem Ons.kept {w W W' : World} {i j : Nat} {p : PD} {S : Nat → Prop} (h : Ons w W i p) (hk : Kp S W W') (hS : ∀ q, p.S q → ¬ S q) (hf : ∀ x, x ∈ p.T ∨ x ∈ p.V → ∀ g, x.ownBlock = some g → ¬ S g) (hij : i ≤ j) : Ons w W' j p := by
  have h5 := h.most
  refine ⟨h.duo.kept hk (fun q hq => hS q (.inl hq)), h.tw.kept hk (fun q hq => hS q (.inr hq)), h.low, Nat.le_trans h.len hij, by omega, Nat.le_trans h.nn hij, h.lf, fun m F hF => ?_⟩
  obtain ⟨x, y, h1, h2, h3, h4, h5⟩ := h.told m F hF
  exact ⟨x, y, h1, h2, h3.kept hk (hf x (.inl (List.mem_of_getElem? h1))), h4.kept hk (hf y (.inr (List.mem_of_getElem? h2))), h5⟩
/-- Lists that lie apart. -/
def Aps (l : List Value) : Prop := l.Pairwise fun x y => ∀ g, x.ownBlock = some g → y.ownBlock ≠ some g
theorem aps_perm {l m : List Value} (h : l.Perm m) (hl : Aps l) : Aps m := (h.pairwise_iff (fun h g hg e => h g e hg)).1 hl
structure Both (w W : World) (i : Nat) (p q : PD) : Prop where
  one : Ons w W i p
  two : Ons w W i q
  dis : ∀ g, p.S g → ¬ q.S g
  froz : ∀ x, (x ∈ p.T ∨ x ∈ p.V) ∨ (x ∈ q.T ∨ x ∈ q.V) → ∀ g, x.ownBlock = some g → ¬ p.S g ∧ ¬ q.S g
  aps : Aps (p.T ++ q.T)
  bel : Below w.heap.size w W
theorem Both.swap {w W : World} {i : Nat} {p q : PD} (h : Both w W i p q) : Both w W i q p :=
  ⟨h.two, h.one, fun g h1 h2 => h.dis g h2 h1, fun x hx g hg => (h.froz x hx.symm g hg).symm, aps_perm List.perm_append_comm h.aps, h.bel⟩
theorem Both.below {w W W' : World} {i : Nat} {p q : PD} (h : Both w W i p q) (hb : Below W.heap.size W W') : Both w W' i p q :=
  ⟨h.one.kept (Kp.of_below (fun _ => False) hb) (fun _ _ e => e) (fun _ _ _ _ e => e) (Nat.le_refl _), h.two.kept (Kp.of_below (fun _ => False) hb) (fun _ _ e => e) (fun _ _ _ _ e => e) (Nat.le_refl _), h.dis, h.froz, h.aps, below_next h.bel hb⟩
theorem son_or {W : World} {v v' : Value} {g : Nat} (h : SameOrNew W v v') (hg : v'.ownBlock = some g) : v.ownBlock = some g ∨ W.heap.size ≤ g := h.imp (fun e => by rw [← e]; exact hg) (fun e => e g hg)
/-- One call of the first pair. -/
theorem Both.act {w W W' : World} {i : Nat} {p q : PD} (h : Both w W i p q) (hi : i ≤ 400) (ha : ActP W W' w.heap.size p.pb p.b p.rb p.rv p.rrv p.tv p.wv p.L p.n p.T p.V) : ∃ p', (p'.pb = p.pb ∧ p'.b = p.b ∧ p'.rb = p.rb) ∧ Both w W' (i + 1) p' q := by
  obtain ⟨rv', rrv', tv', wv', L', n', T', V', hd, ht, hk, ⟨s1, s2, s3, s4⟩, hl, hb, hc⟩ := ha
  have hwW := h.bel.size
  have news : ∀ g, PS p.pb p.b p.rb rv' rrv' tv' wv' g → p.S g ∨ W.heap.size ≤ g := by
    rintro g ((e | e | e | e) | (e | e | e))
    · exact .inl (.inl (.inl e))
    · exact (son_or s1 e).imp (fun e => .inl (.inr (.inl e))) id
    · exact .inl (.inl (.inr (.inr (.inl e))))
    · exact (son_or s2 e).imp (fun e => .inl (.inr (.inr (.inr e)))) id
    · exact .inl (.inr (.inl e))
    · exact (son_or s3 e).imp (fun e => .inr (.inr (.inl e))) id
    · exact (son_or s4 e).imp (fun e => .inr (.inr (.inr e))) id
  have two' : Ons w W' (i + 1) q := h.two.kept hk (fun g hq hp => h.dis g hp hq) (fun x hx g hg => (h.froz x (.inr hx) g hg).1) (Nat.le_succ _)
  have old : ∀ x, (x ∈ p.T ∨ x ∈ p.V) ∨ (x ∈ q.T ∨ x ∈ q.V) → ∀ g, x.ownBlock = some g → g < W.heap.size := by
    rintro x (hx | hx) g hg
    · obtain ⟨F, hF⟩ := h.one.mem hx; exact (hF.lt g hg).2
    · obtain ⟨F, hF⟩ := h.two.mem hx; exact (hF.lt g hg).2
  have low' : ∀ g, PS p.pb p.b p.rb rv' rrv' tv' wv' g → w.heap.size ≤ g := fun g hg => (news g hg).elim (h.one.low g) (fun e => Nat.le_trans hwW e)
  have dis' : ∀ g, PS p.pb p.b p.rb rv' rrv' tv' wv' g → ¬ q.S g := fun g hg hq => (news g hg).elim (fun e => h.dis g e hq) (fun e => by have := h.two.lt g hq; omega)
  have bel' : Below w.heap.size w W' := h.bel.trans (hk.below hwW (fun g hg e => by have := h.one.low g e; omega))
  have most' : tot L' ≤ 4611686018427387504 + ((i + 1 : Nat) : Int) := by have := h.one.most; rcases hb with hb | hb <;> omega
  have len' : L'.length ≤ i + 1 := by have := h.one.len; omega
  have told0 : ∀ (j : Nat) (F : List Rn), p.Fs[j]? = some F → ∃ x y, p.T[j]? = some x ∧ p.V[j]? = some y ∧ Own W' w.heap.size x F ∧ Own W' w.heap.size y F ∧ F.length ≤ 1000 := by
    intro m F hF
    obtain ⟨x, y, h1, h2, h3, h4, h5⟩ := h.one.told m F hF
    exact ⟨x, y, h1, h2, h3.kept hk (fun g hg => (h.froz x (.inl (.inl (List.mem_of_getElem? h1))) g hg).1), h4.kept hk (fun g hg => (h.froz y (.inl (.inr (List.mem_of_getElem? h2))) g hg).1), h5⟩
  have froz0 : ∀ x, (x ∈ p.T ∨ x ∈ p.V) ∨ (x ∈ q.T ∨ x ∈ q.V) → ∀ g, x.ownBlock = some g → ¬ PS p.pb p.b p.rb rv' rrv' tv' wv' g ∧ ¬ q.S g := by
    intro x hx g hg
    obtain ⟨f1, f2⟩ := h.froz x hx g hg
    exact ⟨fun e => (news g e).elim f1 (fun e => by have := old x hx g hg; omega), f2⟩
  rcases hc with ⟨rfl, rfl, rfl⟩ | ⟨rfl, rfl, rfl, x, y, F, rfl, rfl, hx, hy, hF⟩
  · refine ⟨⟨p.pb, p.b, p.rb, rv', rrv', tv', wv', L', p.n, p.T, p.V, p.Fs⟩, ⟨rfl, rfl, rfl⟩, ⟨⟨hd, ht, low', len', most', Nat.le_succ_of_le h.one.nn, h.one.lf, told0⟩, two', dis', froz0, h.aps, bel'⟩⟩
  · have hnew : ∀ v G, Own W' W.heap.size v G → ∀ g, v.ownBlock = some g → ¬ PS p.pb p.b p.rb p.rv p.rrv tv' wv' g ∧ ¬ q.S g := by
      intro v G hv g hg
      have hlt := (hv.lt g hg).1
      refine ⟨?_, fun e => by have := h.two.lt g e; omega⟩
      rintro (e | e)
      · have := h.one.duo.lt g e; omega
      · exact ht.runs hv g hg e
    refine ⟨⟨p.pb, p.b, p.rb, p.rv, p.rrv, tv', wv', L', p.n + 1, p.T ++ [x], p.V ++ [y], p.Fs ++ [F]⟩, ⟨rfl, rfl, rfl⟩, ⟨⟨hd, ht, low', len', most', Nat.succ_le_succ h.one.nn, by simp [h.one.lf], ?_⟩, two', dis', ?_, ?_, bel'⟩⟩
    · intro j G hG
      obtain ⟨l1, l2⟩ := h.one.lens
      have l3 := h.one.lf
      by_cases hj : j < p.Fs.length
      · rw [List.getElem?_append_left hj] at hG
        obtain ⟨x', y', h1, h2, h3⟩ := told0 j G hG
        exact ⟨x', y', (List.getElem?_append_left (by omega)).trans h1, (List.getElem?_append_left (by omega)).trans h2, h3⟩
      · have hjl := (List.getElem?_eq_some_iff.1 hG).1
        simp at hjl
        have ej : j = p.Fs.length := by omega
        subst ej
        simp at hG
        subst hG
        refine ⟨x, y, ?_, ?_, hx.base hwW, hy.base hwW, ?_⟩
        · show (p.T ++ [x])[_]? = _
          rw [List.getElem?_append_right (by omega), show p.Fs.length - p.T.length = 0 by omega]; rfl
        · show (p.V ++ [y])[_]? = _
          rw [List.getElem?_append_right (by omega), show p.Fs.length - p.V.length = 0 by omega]; rfl
        · have := h.one.len; omega
    · intro z hz g hg
      have hz' : ((z ∈ p.T ∨ z = x) ∨ (z ∈ p.V ∨ z = y)) ∨ (z ∈ q.T ∨ z ∈ q.V) := by
        rcases hz with (hz | hz) | hz
        · rcases List.mem_append.1 hz with hz | hz
          · exact .inl (.inl (.inl hz))
          · exact .inl (.inl (.inr (by simpa using hz)))
        · rcases List.mem_append.1 hz with hz | hz
          · exact .inl (.inr (.inl hz))
          · exact .inl (.inr (.inr (by simpa using hz)))
        · exact .inr hz
      rcases hz' with ((hz | rfl) | (hz | rfl)) | hz
      · exact froz0 z (.inl (.inl hz)) g hg
      · exact hnew _ _ hx g hg
      · exact froz0 z (.inl (.inr hz)) g hg
      · exact hnew _ _ hy g hg
      · exact froz0 z (.inr hz) g hg
    · refine aps_perm (l := x :: (p.T ++ q.T)) ?_ ?_
      · show (x :: (p.T ++ q.T)).Perm (p.T ++ [x] ++ q.T)
        rw [List.append_assoc]
        exact List.perm_middle.symm
      · refine List.pairwise_cons.2 ⟨fun z hz g hg e => ?_, h.aps⟩
        have h1 := (hx.lt g hg).1
        have h2 := old z ((List.mem_append.1 hz).imp .inl .inl) g e
        omega
end Go.Proofs.Ytadcindaafjckaa
