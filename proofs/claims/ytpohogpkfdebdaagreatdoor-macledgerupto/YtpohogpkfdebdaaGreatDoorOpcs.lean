/- The pieces of a message as a thing. -/
import Derived.Test.YtpohogpkfdebdaaGreatDoorOh
import Derived.Test.YtpohogpkfdebdaaGreatDoorScut
namespace Go.Proofs.YtpohogpkfdebdaaGreatDoor.Oc
open Go.ChangeShapes Go.WideShapes Go.ChangeAt Go.RowKit
open Go.Proofs.YtpohogpkfdebdaaGreatDoor.By
open Go.Proofs.YtpohogpkfdebdaaGreatDoor.Sh (Blk size_alloc)
open Go.Proofs.YtpohogpkfdebdaaGreatDoor.Dg (BB LG lpv Lt Tl IsMk MB)
theorem row_kept {W W' : World} {S : Nat → Prop} {base n : Nat} {v : Value} {xs : List Value} {t : TypeId} (h : W.ownsRow base t 1 v n xs) (hk : Kp S W W') (hn : ∀ g, v.ownBlock = some g → ¬ S g) : W'.ownsRow base t 1 v n xs := by
  obtain ⟨hl, h' | ⟨g, cap, cur, rfl, hb, hc, h1, h2, h3, h4⟩⟩ := h
  · exact ⟨hl, .inl h'⟩
  · refine ⟨hl, .inr ⟨g, cap, cur, rfl, hb, ?_, h1, h2, h3, h4⟩⟩
    rw [← hc]
    exact hk.block g (Array.getElem?_eq_some_iff.1 hc).1 (hn g rfl)
theorem row_lt {W : World} {base n : Nat} {v : Value} {xs : List Value} {t : TypeId} (h : W.ownsRow base t 1 v n xs) {g : Nat} (hg : v.ownBlock = some g) : g < W.heap.size := by
  obtain ⟨hl, ⟨h', _⟩ | ⟨g', cap, cur, rfl, hb, hc, _⟩⟩ := h
  · rw [h'] at hg; simp [Value.ownBlock] at hg
  · simp [Value.ownBlock] at hg; subst hg; exact (Array.getElem?_eq_some_iff.1 hc).1
theorem row_ge {W : World} {base n : Nat} {v : Value} {xs : List Value} {t : TypeId} (h : W.ownsRow base t 1 v n xs) {g : Nat} (hg : v.ownBlock = some g) : base ≤ g := by
  obtain ⟨hl, ⟨h', _⟩ | ⟨g', cap, cur, rfl, hb, hc, _⟩⟩ := h
  · rw [h'] at hg; simp [Value.ownBlock] at hg
  · simp [Value.ownBlock] at hg; subst hg; exact hb
theorem cuts_kept {W W' : World} {S : Nat → Prop} {base : Nat} {f : Nat → Int} : ∀ {vs : List Value} {s e : Nat}, Kc.Cuts W base f vs s e → Kp S W W' → (∀ u, u ∈ vs → ∀ g, u.ownBlock = some g → ¬ S g) → Kc.Cuts W' base f vs s e
  | [], _, _, h, _, _ => h
  | v :: vs, _, _, ⟨m, ho, h⟩, hk, hn => ⟨m, Sg.own_kept ho hk (hn v (by simp)), cuts_kept h hk (fun u hu => hn u (by simp [hu]))⟩
theorem cuts_lt {W : World} {base : Nat} {f : Nat → Int} : ∀ {vs : List Value} {s e : Nat}, Kc.Cuts W base f vs s e → ∀ u, u ∈ vs → ∀ g, u.ownBlock = some g → base ≤ g ∧ g < W.heap.size
  | [], _, _, _, u, hu, _, _ => by simp at hu
  | v :: vs, _, _, ⟨m, ho, h⟩, u, hu, g, hg => by
    rcases List.mem_cons.1 hu with rfl | hu
    · obtain ⟨cs, hb⟩ := own_kind ho hg
      exact ⟨own_row ho g hg, hb.lt⟩
    · exact cuts_lt h u hu g hg
def tP (v : Value) (vs : List Value) (f : Nat → Int) (base n : Nat) : Th where
  F j := v.ownBlock = some j ∨ ∃ u, u ∈ vs ∧ u.ownBlock = some j
  P W := W.ownsRow base 23 1 v vs.length vs ∧ Kc.Cuts W base f vs 0 n
  keep h hk hn := ⟨row_kept h.1 hk (fun g hg => hn g (.inl hg)), cuts_kept h.2 hk (fun u hu g hg => hn g (.inr ⟨u, hu, hg⟩))⟩
  lt h j hj := by
    rcases hj with e | ⟨u, hu, e⟩
    · exact row_lt h.1 e
    · exact (cuts_lt h.2 u hu j e).2
/-- Where a piece begins. -/
def offs (vs : List Value) (i : Nat) : Nat := ((vs.take i).map Kc.slLen).sum
theorem own_len {W : World} {base m : Nat} {v : Value} {f : Nat → Int} (h : By.Own W base v m f) : Kc.slLen v = m := by
  obtain ⟨a, c, rfl⟩ := By.RB.isSlice h.reads
  rfl
theorem cuts_at {W : World} {base : Nat} {f : Nat → Int} : ∀ {vs : List Value} {s e : Nat}, Kc.Cuts W base f vs s e → (e = s + offs vs vs.length) ∧ ∀ i (hi : i < vs.length), By.Own W base vs[i] (Kc.slLen vs[i]) (fun j => f (s + offs vs i + j))
  | [], _, _, h => ⟨by simp [offs]; exact h.symm, fun i hi => absurd hi (by simp)⟩
  | v :: vs, s, e, ⟨m, ho, h⟩ => by
    have hm := own_len ho
    obtain ⟨h1, h2⟩ := cuts_at h
    have hoff : ∀ i, offs (v :: vs) (i + 1) = m + offs vs i := fun i => by simp [offs, hm]
    refine ⟨by rw [List.length_cons, hoff]; omega, fun i hi => ?_⟩
    cases i with
    | zero =>
      have : offs (v :: vs) 0 = 0 := by simp [offs]
      rw [this]
      simpa [hm] using ho
    | succ i =>
      have := h2 i (by simpa using hi)
      rw [hoff]
      simpa [Nat.add_assoc] using this
theorem offs_succ (vs : List Value) (i : Nat) (hi : i < vs.length) : offs vs (i + 1) = offs vs i + Kc.slLen vs[i] := by
  unfold offs
  rw [List.take_succ_eq_append_getElem hi]
  simp only [List.map_append, List.map_cons, List.map_nil, List.sum_append, List.sum_cons, List.sum_nil, Nat.add_zero]
theorem offs_le (vs : List Value) (i : Nat) : offs vs i ≤ offs vs vs.length := by
  unfold offs
  rw [List.take_length]
  conv => rhs; rw [← List.take_append_drop i vs]
  simp only [List.map_append, List.sum_append]
  exact Nat.le_add_right _ _
/-- A message is cut into pieces. -/
theorem gx_cut {w0 W : World} {B : Nat} {t : Nat → Th} (hG : GX w0 B t W) (m : Nat) (a c : Option Addr) (n cap nc cc : Nat) (f g : Nat → Int) (hr : By.RB W (.slice a n cap) n f) (hg : By.RB W (.slice c nc cc) nc g) (hn : n ≤ 1048576) (hnc : nc ≤ 1048576) :
    Calls Tryz.prog 28 #[.slice a n cap, .slice c nc cc] W fun e W' => ∃ v vs, e = .returned v ∧ vs.length ≤ nc + 1 ∧ 0 < vs.length ∧ ∃ t', GX w0 B t' W' ∧ t' m = tP v vs f W.heap.size n ∧ But t t' m m := by
  refine (Kc.cut27 a c n cap nc cc f g W hr hg hn hnc).mono ?_
  rintro e W' ⟨v, vs, rfl, hrow, hcuts, hb, hl, hl0, -⟩
  refine ⟨v, vs, rfl, hl, hl0, _, hG.one m (tP v vs f W.heap.size n) (Kp.of_below (fun _ => False) hb) (fun _ e => e.elim) ⟨hrow, hcuts⟩ (fun j hj => .inr ?_), up_at _ _ _, fun _ h1 _ => up_ne _ _ h1⟩
  rcases hj with e | ⟨u, hu, e⟩
  · exact row_ge hrow e
  · exact (cuts_lt hcuts u hu j e).1
/-- A piece, and the rest of the message. -/
theorem GX.piece {w0 W : World} {B m base n : Nat} {t : Nat → Th} {v : Value} {vs : List Value} {f : Nat → Int} (hG : GX w0 B t W) (hm : t m = tP v vs f base n) {S : Nat → Prop} (hS : ∀ j, S j → ¬ (t m).F j) (i : Nat) (hi : i < vs.length) : ∀ w', Kp S W w' → By.RB w' vs[i] (Kc.slLen vs[i]) (fun j => f (offs vs i + j)) := fun w' hk => by
  have hp := hG.all m
  rw [hm] at hp hS
  have h2 := ((tP v vs f base n).keep hp hk (fun j hj hs => hS j hs hj)).2
  have := ((cuts_at h2).2 i hi).reads
  simpa using this
/-- The mac, and the ledger, behind i pieces. -/
def st (P : PX) (vs : List Value) (g : Nat → Int) (i : Nat) : PX := if i = 0 then P else P.add (offs vs i) g
def lg (P : PX) (vs : List Value) (L : List Rn) (i : Nat) : List Rn := if i = 0 then L else P.eW (offs vs i) L
theorem offs_zero (vs : List Value) : offs vs 0 = 0 := by simp [offs]
theorem st_step (P : PX) (vs : List Value) (g : Nat → Int) (i : Nat) (hi : i < vs.length) : (st P vs g i).add (Kc.slLen vs[i]) (fun j => g (offs vs i + j)) = st P vs g (i + 1) := by
  unfold st
  rw [if_neg (Nat.succ_ne_zero i), offs_succ vs i hi]
  by_cases h : i = 0
  · subst h
    rw [if_pos rfl, offs_zero]
    simp only [Nat.zero_add]
  · rw [if_neg h, PX.add_add]
theorem lg_step (P : PX) (hP : P.Fine) (vs : List Value) (g : Nat → Int) {k : Nat} {L : List Rn} (hL : Fit k L) (i : Nat) (hi : i < vs.length) (hk : k + offs vs vs.length ≤ 5000000) : (st P vs g i).eW (Kc.slLen vs[i]) (lg P vs L i) = lg P vs L (i + 1) := by
  have h1 := offs_le vs (i + 1)
  have h2 := offs_succ vs i hi
  unfold st lg
  rw [if_neg (Nat.succ_ne_zero i), h2]
  by_cases h : i = 0
  · subst h
    rw [if_pos rfl, if_pos rfl, offs_zero, Nat.zero_add]
  · rw [if_neg h, if_neg h, PX.eW_eW hP hL _ _ _ (by omega)]
theorem st_fine {P : PX} (hP : P.Fine) (vs : List Value) {g : Nat → Int} (hg : BB g) (i : Nat) : (st P vs g i).Fine := by
  unfold st
  split
  · exact hP
  · exact hP.add _ hg
theorem lg_fit {P : PX} (hP : P.Fine) (vs : List Value) {k : Nat} {L : List Rn} (hL : Fit k L) (i : Nat) (hk : k + offs vs vs.length ≤ 5000000) : Fit (k + offs vs vs.length + 2) (lg P vs L i) := by
  have h1 := offs_le vs i
  unfold lg
  split
  · exact hL.mono (by omega)
  · exact (PX.eW_fit hP hL _ (by omega)).mono (by omega)
theorem st_ml {P : PX} (vs : List Value) (g : Nat → Int) (i : Nat) : (st P vs g i).ml ≤ P.ml + offs vs vs.length := by
  have h1 := offs_le vs i
  unfold st
  split
  · omega
  · have := PX.ml_add P (offs vs i) g; omega
/-- A row's cell. -/
theorem GX.rowcell {w0 W : World} {B m base n : Nat} {t : Nat → Th} {v : Value} {vs : List Value} {f : Nat → Int} (hG : GX w0 B t W) (hm : t m = tP v vs f base n) (h0 : 0 < vs.length) : ∃ gr cap, v = .slice (some ⟨gr, 0, none⟩) vs.length cap ∧ ∀ i (hi : i < vs.length), W.cell? ⟨gr, i, none⟩ = some vs[i] := by
  have hp := hG.all m
  rw [hm] at hp
  have h := hp.1
  have hl := h.1
  rcases h.2 with ⟨_, h0'⟩ | ⟨gr, cap, cur, rfl, _⟩
  · omega
  · exact ⟨gr, cap, rfl, fun i hi => (h.cellAt i (by omega)).trans (List.getElem?_eq_getElem hi)⟩
end Go.Proofs.YtpohogpkfdebdaaGreatDoor.Oc
