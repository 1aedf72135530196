/- A message cut into pieces: CutInto. -/
import Derived.Test.YtpohogpkfdebdaaGreatDoorKi
import Derived.Test.YtpohogpkfdebdaaGreatDoorZa
import Derived.Laws.AppendOwnNone
import Derived.Deep.OwnRows
namespace Go.Proofs.YtpohogpkfdebdaaGreatDoor.Kc
open Go.ChangeShapes Go.WideShapes Go.ChangeAt Go.RowKit
open Go.Proofs.YtpohogpkfdebdaaGreatDoor.By Go.Proofs.YtpohogpkfdebdaaGreatDoor.Wd

/-- The lists vs are, one behind the other, the bytes f from s to e. -/
def Cuts (w : World) (B : Nat) (f : Nat → Int) : List Value → Nat → Nat → Prop
  | [], s, e => s = e
  | v :: vs, s, e => ∃ m, By.Own w B v m (fun i => f (s + i)) ∧ Cuts w B f vs (s + m) e
theorem Cuts.snoc {w : World} {B : Nat} {f : Nat → Int} {vs : List Value} {s e m : Nat} {v : Value} (h : Cuts w B f vs s e) (hv : By.Own w B v m (fun i => f (e + i))) : Cuts w B f (vs ++ [v]) s (e + m) := by
  induction vs generalizing s with
  | nil =>
    have e' : s = e := h
    subst e'
    exact ⟨m, hv, rfl⟩
  | cons u vs ih =>
    obtain ⟨k, hu, hr⟩ := h
    exact ⟨k, hu, ih hr⟩
theorem Cuts.imp {w w' : World} {B : Nat} {f : Nat → Int} {vs : List Value} {s e : Nat} (h : Cuts w B f vs s e) (hk : ∀ v m g, By.Own w B v m g → By.Own w' B v m g) : Cuts w' B f vs s e := by
  induction vs generalizing s with
  | nil => exact h
  | cons u vs ih =>
    obtain ⟨k, hu, hr⟩ := h
    exact ⟨k, hk _ _ _ hu, ih hr⟩
theorem Cuts.below {w w' : World} {B : Nat} {f : Nat → Int} {vs : List Value} {s e : Nat} (h : Cuts w B f vs s e) (hb : Below w.heap.size w w') : Cuts w' B f vs s e := h.imp (fun _ _ _ ho => own_below ho hb)
/-- An append to a list of lists turns no list of bytes. -/
theorem Cuts.pushed {w w' : World} {B n : Nat} {f : Nat → Int} {vs xs : List Value} {s e : Nat} {v : Value} (h : Cuts w B f vs s e) (hr : w.ownsRow B 23 1 v n xs) (hg : w.grownBy w' v.ownBlock) : Cuts w' B f vs s e :=
  h.imp (fun u m g ho => own_kept ho (Kp.of_grown hg) (fun q hq e => by
    obtain ⟨c1, h1⟩ := own8_type ho hq
    obtain ⟨c2, h2⟩ : ∃ cs, w.heap[q]? = some (.cells cs 23 (0, 0)) := by
      obtain ⟨_, h | ⟨g', cap, cur, rfl, _, hc, _⟩⟩ := hr
      · obtain ⟨rfl, _⟩ := h; simp [Value.ownBlock] at e
      · simp [Value.ownBlock] at e; subst e; exact ⟨cur, hc⟩
    have := Option.some.inj (h1.symm.trans h2)
    simp at this))
theorem row_kept3 {w w' : World} {base n : Nat} {v : Value} {e : TypeId} {size : Nat} {xs : List Value} {S : Nat → Prop} (h : w.ownsRow base e size v n xs) (hk : Kp S w w') (hne : ∀ g, v.ownBlock = some g → ¬ S g) : w'.ownsRow base e size v n xs := by
  obtain ⟨hl, h | ⟨g, cap, cur, rfl, hb, hc, h1, h2, h3, h4⟩⟩ := h
  · exact ⟨hl, .inl h⟩
  · refine ⟨hl, .inr ⟨g, cap, cur, rfl, hb, ?_, h1, h2, h3, h4⟩⟩
    rw [hk.block g (Array.getElem?_eq_some_iff.1 hc).1 (hne g rfl)]; exact hc
theorem row_ge {w : World} {base n : Nat} {v : Value} {e : TypeId} {size : Nat} {xs : List Value} (h : w.ownsRow base e size v n xs) {q : Nat} (hq : v.ownBlock = some q) : base ≤ q := by
  obtain ⟨_, h' | ⟨g', cap', cur, e', hb, _⟩⟩ := h
  · rw [h'.1] at hq; simp [Value.ownBlock] at hq
  · rw [e'] at hq; simp [Value.ownBlock] at hq; omega
theorem infoL : (Tryz.prog.info? 23).map (fun i => (i.zero, i.size, i.bytes)) = some (some (.slice none 0 0), 1, 24) := by kernel_rfl
/-- What is left of a slice of bytes from o on. -/
def Left (a : Option Addr) (n cap o : Nat) (v : Value) : Prop := ∃ A, v = .slice A (n - o) (cap - o) ∧ (o < n → ∃ b p, a = some ⟨b, p, none⟩ ∧ A = some ⟨b, p + o, none⟩) ∧ (A = none → cap - o = 0)
theorem Left.reads {w : World} {a : Option Addr} {n cap o : Nat} {v : Value} {f : Nat → Int} (h : Left a n cap o v) (hr : By.RB w (.slice a n cap) n f) (ho : o ≤ n) : By.RB w v (n - o) (fun i => f (o + i)) := by
  obtain ⟨hf, a', cap', he, h1, h2, hc⟩ := hr
  simp only [Value.slice.injEq] at he
  obtain ⟨e1, _, e3⟩ := he
  obtain ⟨A, rfl, hA, hN⟩ := h
  refine ⟨fun i => hf _, A, cap - o, rfl, by omega, by omega, ?_⟩
  by_cases hlt : o < n
  · obtain ⟨b, p, ea, eA⟩ := hA hlt
    rcases hc with ⟨h, _⟩ | ⟨b', off, e, hc⟩
    · omega
    · rw [← e1, ea] at e
      simp only [Option.some.injEq, Addr.mk.injEq] at e
      obtain ⟨rfl, rfl, _⟩ := e
      exact .inr ⟨b, p + o, eA, fun i hi => by rw [Nat.add_assoc]; exact hc (o + i) (by omega)⟩
  · exact .inl ⟨by omega, hN⟩
theorem Left.start (a : Option Addr) (n cap : Nat) (w : World) (f : Nat → Int) (hr : By.RB w (.slice a n cap) n f) : Left a n cap 0 (.slice a n cap) := by
  obtain ⟨_, a', cap', he, _, _, hc⟩ := hr
  simp only [Value.slice.injEq] at he
  obtain ⟨rfl, _, rfl⟩ := he
  refine ⟨a, rfl, fun h => ?_, fun h => ?_⟩
  · rcases hc with ⟨e, _⟩ | ⟨b, p, e, _⟩
    · omega
    · exact ⟨b, p, e, e⟩
  · rcases hc with ⟨_, e⟩ | ⟨b, p, e, _⟩
    · exact e h
    · rw [h] at e; cases e
theorem sub_left (A : Option Addr) (a : Option Addr) (n cap o k : Nat) (h : Left a n cap o (.slice A (n - o) (cap - o))) (hn : n ≤ cap) : Left a n cap (o + k) (sub A (cap - o) k ((n - o : Nat) : Int)) := by
  obtain ⟨A', e, hA, hN⟩ := h
  simp only [Value.slice.injEq, and_true] at e
  obtain rfl := e
  refine ⟨if cap - o = ((k : Int)).toNat then A else A.map (·.add (((k : Int)).toNat * 1)), ?_, fun hlt => ?_, fun h => ?_⟩
  · unfold sub; rw [Int.toNat_natCast, Int.toNat_natCast, Nat.sub_sub, Nat.sub_sub]
  · obtain ⟨b, p, ea, eA⟩ := hA (by omega)
    refine ⟨b, p, ea, ?_⟩
    rw [Int.toNat_natCast, if_neg (by omega), eA, Nat.mul_one, Option.map_some, By.add_plain, Nat.add_assoc]
  · rw [Int.toNat_natCast] at h
    split at h
    · omega
    · cases A with
      | none => have := hN rfl; omega
      | some x => simp at h

/-- How long the pieces are, from the cut j and the place o on (k cuts are left). -/
def rest (g : Nat → Int) (n : Nat) : Nat → Nat → Nat → List Nat
  | 0, _, o => [n - o]
  | k + 1, j, o => if o < n then Nat.min (g j % 200).toNat (n - o) :: rest g n k (j + 1) (o + Nat.min (g j % 200).toNat (n - o)) else [n - o]
theorem rest_in (g : Nat → Int) (n nc j o K : Nat) (hj : j < nc) (ho : o < n) (hK : Nat.min (g j % 200).toNat (n - o) = K) : rest g n (nc - j) j o = K :: rest g n (nc - (j + 1)) (j + 1) (o + K) := by
  rw [show nc - j = (nc - (j + 1)) + 1 from by omega, rest, if_pos ho, hK]
theorem rest_out (g : Nat → Int) (n nc j o : Nat) (h : ¬ (j < nc ∧ o < n)) : rest g n (nc - j) j o = [n - o] := by
  by_cases hj : j < nc
  · rw [show nc - j = (nc - (j + 1)) + 1 from by omega, rest, if_neg (by omega)]
  · rw [show nc - j = 0 from by omega, rest]
theorem ls_next {vs : List Value} {x : Value} {K : Nat} {R R' T : List Nat} (h : vs.map slLen ++ R = T) (hR : R = K :: R') (hx : slLen x = K) : (vs ++ [x]).map slLen ++ R' = T := by
  rw [← h, hR]; simp [hx]
theorem ls_end {vs : List Value} {x : Value} {K : Nat} {R T : List Nat} (h : vs.map slLen ++ R = T) (hR : R = [K]) (hx : slLen x = K) : (vs ++ [x]).map slLen = T := by
  rw [← h, hR]; simp [hx]
set_option maxRecDepth 4000 in
set_option maxHeartbeats 800000 in
theorem cut27 (a c : Option Addr) (n cap nc cc : Nat) (f g : Nat → Int) (w : World) (hr : By.RB w (.slice a n cap) n f) (hg : By.RB w (.slice c nc cc) nc g) (hn : n ≤ 1048576) (hnc : nc ≤ 1048576) :
    Calls Tryz.prog 28 #[.slice a n cap, .slice c nc cc] w fun e w' => ∃ v vs, e = .returned v ∧ w'.ownsRow w.heap.size 23 1 v vs.length vs ∧ Cuts w' w.heap.size f vs 0 n ∧ Below w.heap.size w w' ∧ vs.length ≤ nc + 1 ∧ 0 < vs.length ∧ vs.map slLen = rest g n nc 0 0 := by
  obtain ⟨i0, hi, hz0, hz1, hz2⟩ := info_parts infoL
  have HR := hid hr
  have HG := hid hg
  have HL := hid (Left.start a n cap w f hr)
  have hcap := hid (rb_cap hr)
  clear hr hg
  go_enter Tryz.func28, Tryz.ntmps28
  go_wp2_with fail
  go_loopw [0, 5, 6] (fun p v i wr => ∃ (j o : Nat) (vs : List Value), j ≤ nc ∧ o ≤ n ∧ vs.length ≤ j ∧ i = .int .i64 j ∧ Left a n cap o p ∧ wr.ownsRow w.heap.size 23 1 v vs.length vs ∧ Cuts wr w.heap.size f vs 0 o ∧ Below w.heap.size w wr ∧ vs.map slLen ++ rest g n (nc - j) j o = rest g n nc 0 0) (fun _ _ i _ => nc - (intOf i).toNat)
  case atStart => exact ⟨0, 0, [], by omega, by omega, Nat.le_refl _, rfl, HL.out, World.ownsRow_nil _ _ _ _, rfl, Below.refl _ _, rfl⟩
  case round =>
    clear HL
    obtain ⟨j, o, vs, hj, ho, hvl, rfl, hl, hrow, hcut, hbel, hls⟩ := hrel
    have LS := hid hls
    have VL := hid hvl
    have LF := hid hl
    have ROW := hid hrow
    have CUT := hid hcut
    have b := hid hbel
    obtain ⟨A, rfl, hA2, -⟩ := hl
    clear hrow hcut hbel hvl hls
    by_cases h1 : j < nc
    · by_cases h2 : o < n
      · have hb := HG.out.1 j
        obtain ⟨qb, qo, hqc, hcell⟩ : ∃ qb qo, c = some ⟨qb, qo, none⟩ ∧ wr.cell? ⟨qb, qo + j, none⟩ = some (.int .u8 (g j)) := by
          obtain ⟨_, c', cc', e, _, _, hc⟩ := HG.out.below b.out
          simp only [Value.slice.injEq] at e
          obtain ⟨rfl, _, rfl⟩ := e
          rcases hc with ⟨h, _⟩ | ⟨qb, qo, e, hc⟩
          · omega
          · exact ⟨qb, qo, e, hc j h1⟩
        subst hqc
        have h3 : 0 < n - o := by omega
        obtain ⟨pb, pp, ea, rfl⟩ := hA2 h2
        have hkc : ((n - o : Nat) : Int) ≤ ((cap - o : Nat) : Int) := by have := hcap.out; omega
        by_cases hbig : ((n - o : Nat) : Int) < g j % 200
        · go_wp2_with fail
          refine (copy16 _ (n - o) (fun i => f (o + i)) _ (((LF.out.reads (HR.out.below b.out) ho).first (n - o) (by omega))) (by omega)).mono ?_
          rintro e w1 ⟨u1, rfl, hu, hbl⟩
          have U1 := hid (own_mono hu b.out.size)
          obtain ⟨ua, uc, rfl⟩ : ∃ ua uc, u1 = .slice ua (n - o) uc := by obtain ⟨_, x, y, e, _⟩ := hu.reads; exact ⟨x, y, e⟩
          have ROW1 := hid (row_kept3 ROW.out (Kp.of_below (fun _ => False) hbl) (fun _ _ e => e))
          have CUT1 := hid (CUT.out.below hbl)
          have b1 := hid (below_next b.out hbl)
          clear hu hbl
          go_wp2_with (at_builtin; go_must (refine wpList_append_own _ rfl _ _ 38 rfl w.heap.size 23 i0 (.slice none 0 0) 1 24 Tryz.underlying38 hi hz0 hz1 hz2 rfl (by decide) _ _ _ rfl (ROW1.out.alloc _) ⟨_, 0, none⟩ 1 1 [.slice ua (n - o) uc] rfl rfl (fun q x hq => by rw [By.add_plain, Nat.zero_add]; exact (Blk.newAt w1 _ [.slice ua (n - o) uc] 23 _ rfl rfl).cell q x hq) (by intro x hx; simp at hx; subst hx; rfl) ?d1 ?d2 ?d3 ?_))
          case d1 => have := VL.out; simp only [maxLen]; omega
          case d2 => have := VL.out; omega
          case d3 => exact Nat.le_trans b1.out.size (below_alloc w1 _).size
          intro v2 w2 hr2 hg2 _
          have U2 := own_below U1.out (below_alloc w1 (.cells #[.slice ua (n - o) uc] 23))
          have C2 := (CUT1.out.below (below_alloc w1 (.cells #[.slice ua (n - o) uc] 23))).snoc U2
          have CUT2 := hid (C2.pushed (ROW1.out.alloc (.cells #[.slice ua (n - o) uc] 23)) hg2)
          have b2 := hid ((below_next b1.out (below_alloc w1 (.cells #[.slice ua (n - o) uc] 23))).grown hg2 (Nat.le_trans b1.out.size (below_alloc w1 _).size) (fun q hq => row_ge ROW1.out hq))
          have ROW2 := hid (show w2.ownsRow w.heap.size 23 1 v2 (vs ++ [Value.slice ua (n - o) uc]).length (vs ++ [Value.slice ua (n - o) uc]) from by rw [List.length_append]; exact hr2)
          clear U2 C2 hr2 hg2
          go_wp2
          exact ⟨⟨j + 1, o + (n - o), _, by omega, by omega, by rw [List.length_append]; have := VL.out; simp; omega, by go_num, sub_left _ a n cap o (n - o) LF.out hcap.out, ROW2.out, CUT2.out, b2.out, ls_next LS.out (rest_in g n nc j o (n - o) h1 h2 (Nat.min_eq_right (by omega))) rfl⟩, by simp [intOf]; omega⟩
        · obtain ⟨K, hK⟩ : ∃ K : Nat, g j % 200 = K := ⟨(g j % 200).toNat, by omega⟩
          have hK2 : K ≤ n - o := by omega
          have hK3 : (K : Int) ≤ ((cap - o : Nat) : Int) := by omega
          have hK4 : (K : Int) ≤ ((n - o : Nat) : Int) := by omega
          go_wp2_with fail
          refine (copy16 _ K (fun i => f (o + i)) _ (((LF.out.reads (HR.out.below b.out) ho).first K (by omega))) (by omega)).mono ?_
          rintro e w1 ⟨u1, rfl, hu, hbl⟩
          have U1 := hid (own_mono hu b.out.size)
          obtain ⟨ua, uc, rfl⟩ : ∃ ua uc, u1 = .slice ua K uc := by obtain ⟨_, x, y, e, _⟩ := hu.reads; exact ⟨x, y, e⟩
          have ROW1 := hid (row_kept3 ROW.out (Kp.of_below (fun _ => False) hbl) (fun _ _ e => e))
          have CUT1 := hid (CUT.out.below hbl)
          have b1 := hid (below_next b.out hbl)
          clear hu hbl
          go_wp2_with (at_builtin; go_must (refine wpList_append_own _ rfl _ _ 38 rfl w.heap.size 23 i0 (.slice none 0 0) 1 24 Tryz.underlying38 hi hz0 hz1 hz2 rfl (by decide) _ _ _ rfl (ROW1.out.alloc _) ⟨_, 0, none⟩ 1 1 [.slice ua K uc] rfl rfl (fun q x hq => by rw [By.add_plain, Nat.zero_add]; exact (Blk.newAt w1 _ [.slice ua K uc] 23 _ rfl rfl).cell q x hq) (by intro x hx; simp at hx; subst hx; rfl) ?d1 ?d2 ?d3 ?_))
          case d1 => have := VL.out; simp only [maxLen]; omega
          case d2 => have := VL.out; omega
          case d3 => exact Nat.le_trans b1.out.size (below_alloc w1 _).size
          intro v2 w2 hr2 hg2 _
          have U2 := own_below U1.out (below_alloc w1 (.cells #[.slice ua K uc] 23))
          have C2 := (CUT1.out.below (below_alloc w1 (.cells #[.slice ua K uc] 23))).snoc U2
          have CUT2 := hid (C2.pushed (ROW1.out.alloc (.cells #[.slice ua K uc] 23)) hg2)
          have b2 := hid ((below_next b1.out (below_alloc w1 (.cells #[.slice ua K uc] 23))).grown hg2 (Nat.le_trans b1.out.size (below_alloc w1 _).size) (fun q hq => row_ge ROW1.out hq))
          have ROW2 := hid (show w2.ownsRow w.heap.size 23 1 v2 (vs ++ [Value.slice ua K uc]).length (vs ++ [Value.slice ua K uc]) from by rw [List.length_append]; exact hr2)
          clear U2 C2 hr2 hg2
          go_wp2
          exact ⟨⟨j + 1, o + K, _, by omega, by omega, by rw [List.length_append]; have := VL.out; simp; omega, by go_num, sub_left _ a n cap o K LF.out hcap.out, ROW2.out, CUT2.out, b2.out, ls_next LS.out (rest_in g n nc j o K h1 h2 (by rw [hK, Int.toNat_natCast]; exact Nat.min_eq_left hK2)) rfl⟩, by simp [intOf]; omega⟩
      · have h3 : ¬ 0 < n - o := by omega
        go_wp2_with fail
        refine (copy16 _ (n - o) (fun i => f (o + i)) _ (LF.out.reads (HR.out.below b.out) ho) (by omega)).mono ?_
        rintro e w1 ⟨u1, rfl, hu, hbl⟩
        have U1 := hid (own_mono hu b.out.size)
        obtain ⟨ua, uc, rfl⟩ : ∃ ua uc, u1 = .slice ua (n - o) uc := by obtain ⟨_, x, y, e, _⟩ := hu.reads; exact ⟨x, y, e⟩
        have ROW1 := hid (row_kept3 ROW.out (Kp.of_below (fun _ => False) hbl) (fun _ _ e => e))
        have CUT1 := hid (CUT.out.below hbl)
        have b1 := hid (below_next b.out hbl)
        clear hu hbl
        go_wp2_with (at_builtin; go_must (refine wpList_append_own _ rfl _ _ 38 rfl w.heap.size 23 i0 (.slice none 0 0) 1 24 Tryz.underlying38 hi hz0 hz1 hz2 rfl (by decide) _ _ _ rfl (ROW1.out.alloc _) ⟨_, 0, none⟩ 1 1 [.slice ua (n - o) uc] rfl rfl (fun q x hq => by rw [By.add_plain, Nat.zero_add]; exact (Blk.newAt w1 _ [.slice ua (n - o) uc] 23 _ rfl rfl).cell q x hq) (by intro x hx; simp at hx; subst hx; rfl) ?d1 ?d2 ?d3 ?_))
        case d1 => have := VL.out; simp only [maxLen]; omega
        case d2 => have := VL.out; omega
        case d3 => exact Nat.le_trans b1.out.size (below_alloc w1 _).size
        intro v2 w2 hr2 hg2 _
        have U2 := own_below U1.out (below_alloc w1 (.cells #[.slice ua (n - o) uc] 23))
        have C2 := (CUT1.out.below (below_alloc w1 (.cells #[.slice ua (n - o) uc] 23))).snoc U2
        have CUT2 := hid (C2.pushed (ROW1.out.alloc (.cells #[.slice ua (n - o) uc] 23)) hg2)
        have b2 := hid ((below_next b1.out (below_alloc w1 (.cells #[.slice ua (n - o) uc] 23))).grown hg2 (Nat.le_trans b1.out.size (below_alloc w1 _).size) (fun q hq => row_ge ROW1.out hq))
        have ROW2 := hid (show w2.ownsRow w.heap.size 23 1 v2 (vs ++ [Value.slice ua (n - o) uc]).length (vs ++ [Value.slice ua (n - o) uc]) from by rw [List.length_append]; exact hr2)
        clear U2 C2 hr2 hg2
        go_wp2
        go_ret
        exact ⟨_, _, rfl, ROW2.out, by have := CUT2.out; rwa [show o + (n - o) = n from by omega] at this, b2.out, by rw [List.length_append]; have := VL.out; simp; omega, by rw [List.length_append]; simp, ls_end LS.out (rest_out g n nc j o (by omega)) rfl⟩
    · go_wp2_with fail
      refine (copy16 _ (n - o) (fun i => f (o + i)) _ (LF.out.reads (HR.out.below b.out) ho) (by omega)).mono ?_
      rintro e w1 ⟨u1, rfl, hu, hbl⟩
      have U1 := hid (own_mono hu b.out.size)
      obtain ⟨ua, uc, rfl⟩ : ∃ ua uc, u1 = .slice ua (n - o) uc := by obtain ⟨_, x, y, e, _⟩ := hu.reads; exact ⟨x, y, e⟩
      have ROW1 := hid (row_kept3 ROW.out (Kp.of_below (fun _ => False) hbl) (fun _ _ e => e))
      have CUT1 := hid (CUT.out.below hbl)
      have b1 := hid (below_next b.out hbl)
      clear hu hbl
      go_wp2_with (at_builtin; go_must (refine wpList_append_own _ rfl _ _ 38 rfl w.heap.size 23 i0 (.slice none 0 0) 1 24 Tryz.underlying38 hi hz0 hz1 hz2 rfl (by decide) _ _ _ rfl (ROW1.out.alloc _) ⟨_, 0, none⟩ 1 1 [.slice ua (n - o) uc] rfl rfl (fun q x hq => by rw [By.add_plain, Nat.zero_add]; exact (Blk.newAt w1 _ [.slice ua (n - o) uc] 23 _ rfl rfl).cell q x hq) (by intro x hx; simp at hx; subst hx; rfl) ?d1 ?d2 ?d3 ?_))
      case d1 => have := VL.out; simp only [maxLen]; omega
      case d2 => have := VL.out; omega
      case d3 => exact Nat.le_trans b1.out.size (below_alloc w1 _).size
      intro v2 w2 hr2 hg2 _
      have U2 := own_below U1.out (below_alloc w1 (.cells #[.slice ua (n - o) uc] 23))
      have C2 := (CUT1.out.below (below_alloc w1 (.cells #[.slice ua (n - o) uc] 23))).snoc U2
      have CUT2 := hid (C2.pushed (ROW1.out.alloc (.cells #[.slice ua (n - o) uc] 23)) hg2)
      have b2 := hid ((below_next b1.out (below_alloc w1 (.cells #[.slice ua (n - o) uc] 23))).grown hg2 (Nat.le_trans b1.out.size (below_alloc w1 _).size) (fun q hq => row_ge ROW1.out hq))
      have ROW2 := hid (show w2.ownsRow w.heap.size 23 1 v2 (vs ++ [Value.slice ua (n - o) uc]).length (vs ++ [Value.slice ua (n - o) uc]) from by rw [List.length_append]; exact hr2)
      clear U2 C2 hr2 hg2
      go_wp2
      go_ret
      exact ⟨_, _, rfl, ROW2.out, by have := CUT2.out; rwa [show o + (n - o) = n from by omega] at this, b2.out, by rw [List.length_append]; have := VL.out; simp; omega, by rw [List.length_append]; simp, ls_end LS.out (rest_out g n nc j o (by omega)) rfl⟩
theorem Cuts.mono {w : World} {B B' : Nat} {f : Nat → Int} {vs : List Value} {s e : Nat} (h : Cuts w B f vs s e) (hB : B' ≤ B) : Cuts w B' f vs s e := by
  induction vs generalizing s with
  | nil => exact h
  | cons u vs ih =>
    obtain ⟨k, hu, hr⟩ := h
    exact ⟨k, own_mono hu hB, ih hr⟩
end Go.Proofs.YtpohogpkfdebdaaGreatDoor.Kc
