/- What the program's Since answers: the runs of the events from a number on, for every ledger and every mark; new memory, nothing that was there is turned. -/
import Derived.Test.YtadcindaafjckaaRreads
namespace Go.Proofs.Ytadcindaafjckaa
open Go.ChangeShapes Go.WideShapes Go.ChangeAt Go.RowKit

/-- The runs of the events from the number m on. -/
def sinceL : List Rn → Int → List Rn
  | [], _ => []
  | r :: L, m => if m ≤ 0 then r :: L else if r.c ≤ m then sinceL L (m - r.c) else ⟨r.k, r.s, r.c - m⟩ :: L
theorem since_low {L : List Rn} {m : Int} (h : m ≤ 0) : sinceL L m = L := by
  cases L with
  | nil => rfl
  | cons r L => unfold sinceL; rw [if_pos h]
theorem since_high {L : List Rn} : ∀ {m : Int}, Pos L → tot L ≤ m → sinceL L m = [] := by
  induction L with
  | nil => intro m _ _; rfl
  | cons r L ih =>
    intro m hp h
    have h1 := hp r (by simp)
    have h2 : Pos L := fun q hq => hp q (by simp [hq])
    have h3 := tot_pos h2
    simp only [tot] at h
    unfold sinceL
    rw [if_neg (by omega), if_pos (by omega)]
    exact ih h2 (by omega)
theorem since_at {L : List Rn} : ∀ {f : Nat} {r : Rn} {m : Int}, Pos L → L[f]? = some r → tot (L.take f) ≤ m → m < tot (L.take f) + r.c → sinceL L m = ⟨r.k, r.s, r.c - (m - tot (L.take f))⟩ :: L.drop (f + 1) := by
  induction L with
  | nil => intro f r m _ h; simp at h
  | cons q L ih =>
    intro f r m hp hf h1 h2
    have hq := hp q (by simp)
    have hp2 : Pos L := fun q hq => hp q (by simp [hq])
    cases f with
    | zero =>
      simp at hf
      subst hf
      simp [tot] at h1 h2 ⊢
      unfold sinceL
      by_cases h0 : m ≤ 0
      · rw [if_pos h0, show q.c - m = q.c by omega]
      · rw [if_neg h0, if_neg (by omega)]
    | succ f =>
      simp at hf
      simp only [List.take_succ_cons, tot] at h1 h2 ⊢
      have h3 := tot_pos (pos_take hp2 f)
      unfold sinceL
      rw [if_neg (by omega), if_pos (by omega), ih hp2 hf (by omega) (by omega)]
      simp
      omega
theorem drop_cons {L : List Rn} {f : Nat} {r : Rn} (h : L[f]? = some r) : L.drop f = r :: L.drop (f + 1) := by
  obtain ⟨h1, rfl⟩ := List.getElem?_eq_some_iff.1 h
  exact List.drop_eq_getElem_cons h1
theorem tot_split (L : List Rn) (f : Nat) : tot L = tot (L.take f) + tot (L.drop f) := by rw [← tot_append, List.take_append_drop]
/-- The end of a list. -/
theorem RB.tail {w : World} {b off n cap f : Nat} {L : List Rn} (h : RB w (.slice (some ⟨b, off, none⟩) n cap) L) (hf : f < n) : RB w (.slice (some ⟨b, off + f * 3, none⟩) (n - f) (cap - f)) (L.drop f) := by
  have hl := h.len
  obtain ⟨hok, a', cap', he, h1, h2, ⟨h0, _⟩ | ⟨b', off', e', hc⟩⟩ := h
  · subst h0; simp at hl; omega
  · subst e'
    simp only [Value.slice.injEq, Option.some.injEq, Addr.mk.injEq, and_true] at he
    obtain ⟨⟨rfl, rfl⟩, _, rfl⟩ := he
    refine ⟨fun r hr => hok r (List.mem_of_mem_drop hr), _, _, by rw [List.length_drop, hl], by rw [List.length_drop]; omega, by omega, .inr ⟨b, off + f * 3, rfl, fun i r hi => ?_⟩⟩
    rw [List.getElem?_drop] at hi
    have := hc _ r hi
    rw [show off + (f + i) * 3 = off + f * 3 + i * 3 by omega] at this
    exact this

set_option maxRecDepth 100000 in
set_option maxHeartbeats 1200000 in
theorem since23 (b : Nat) (rv : Value) (L : List Rn) (m : Int) (w : World) (h : Led w b rv L) (hN : L.length * 24 ≤ 140737488355328) (hm : -9223372036854775808 ≤ m ∧ m ≤ 9223372036854775807) :
    Calls Try.prog 22 #[.pointer (some ⟨b, 0, none⟩), .int .i64 m] w fun e w' => ∃ v, e = .returned v ∧ Own w' w.heap.size v (sinceL L m) ∧ Below w.heap.size w w' := by
  have H := hid h
  have h0 := h.cell0
  have h1 := h.cell1
  have h2 := h.len.2
  have h3 := h.most
  obtain ⟨n, hn⟩ : ∃ n, L.length = n := ⟨_, rfl⟩
  obtain ⟨a, cap, rfl⟩ : ∃ a cap, rv = .slice a n cap := by
    obtain ⟨a, cap, e⟩ := h.own.reads.isSlice
    exact ⟨a, cap, by rw [← hn]; exact e⟩
  have hN' : n * 24 ≤ 140737488355328 := by rw [← hn]; exact hN
  have HN := hid hN
  have HL := hid hn
  have HR := hid h.own.reads
  clear h hn hN
  by_cases hm0 : m ≤ 0
  · have e0 := hid (since_low (L := L) hm0)
    go_enter Try.func22, Try.ntmps22
    go_wp2_with fail
    refine (runs22 b _ L w H.out HN.out).mono ?_
    rintro e w' ⟨v, rfl, ho, hb⟩
    have HO := hid ho
    have HB := hid hb
    clear ho hb
    go_wp2
    go_ret
    exact ⟨_, rfl, by rw [e0.out]; exact HO.out, HB.out⟩
  · by_cases hm1 : tot L ≤ m
    · have e0 := hid (since_high (L := L) H.out.pos hm1)
      go_enter Try.func22, Try.ntmps22
      go_wp2_with fail
      refine (len20 b _ L w H.out).mono ?_
      rintro e w' ⟨rfl, rfl⟩
      go_wp2
      go_ret
      exact ⟨_, rfl, by rw [e0.out]; exact Own.nil _ _, Below.refl _ _⟩
    · have hw0 : IntKind.i64.wrap (tot L - m) = tot L - m := by rw [IntKind.wrap_i64]; omega
      go_enter Try.func22, Try.ntmps22
      go_wp2_with fail
      refine (len20 b _ L w H.out).mono ?_
      rintro e w' ⟨rfl, rfl⟩
      go_wp2
      go_quiet (fail)
      go_wp2
      go_loopw [5, 6] (fun x y wr => ∃ f : Nat, f ≤ n ∧ x = .int .i64 f ∧ y = .int .i64 (tot L - m - tot (L.drop f)) ∧ (f < n → 0 < tot L - m - tot (L.drop (f + 1))) ∧ ∃ d, wr = w'.drewN d) (fun x _ _ => (intOf x).toNat)
      case atStart => exact ⟨n, Nat.le_refl _, rfl, by rw [List.drop_eq_nil_of_le (by rw [HL.out]; exact Nat.le_refl _)]; simp [tot], fun h => by omega, _, rfl⟩
      case round =>
        obtain ⟨f, hf, rfl, rfl, hg, d, rfl⟩ := hrel
        have HG := hid hg
        clear hg
        have hs := tot_split L f
        have hp3 := tot_pos (pos_take H.out.pos f)
        by_cases hleft : 0 < tot L - m - tot (L.drop f)
        · have hf0 : 0 < f := by
            rcases Nat.eq_zero_or_pos f with h | h
            · subst h; simp at hleft; omega
            · exact h
          obtain ⟨r, hr⟩ := get_of_lt (L := L) (k := f - 1) (by rw [HL.out]; omega)
          obtain ⟨g, hgf⟩ : ∃ g, f - 1 = g := ⟨_, rfl⟩
          rw [hgf] at hr
          have Hr := hid hr
          obtain ⟨b', off, rfl, c1, c2, c3⟩ := HR.out.at hr
          have p1 := H.out.pos r (List.mem_of_getElem? hr)
          have ed := hid (show tot (L.drop g) = r.c + tot (L.drop f) by rw [drop_cons hr, tot, show g + 1 = f by omega])
          have hs2 := tot_split L g
          have hp4 := tot_pos (pos_take H.out.pos g)
          have hp5 : 0 ≤ tot (L.drop f) := by have := tot_pos (L := L.drop f) (fun q hq => H.out.pos q (List.mem_of_mem_drop hq)); omega
          have hw1 : IntKind.i64.wrap ((f : Int) - 1) = g := by rw [IntKind.wrap_i64]; omega
          have hw2 : IntKind.i64.wrap (tot L - m - tot (L.drop f) - r.c) = tot L - m - tot (L.drop g) := by have := ed.out; rw [IntKind.wrap_i64]; omega
          have l1 : (g : Int) < n := by omega
          have Hl := hid hleft
          have Hgf := hid hgf
          have Hf0 := hid hf0
          clear hr hs2 hp4 hp5 hp3 hs hgf hf0
          go_wp2
          go_roundw
          case rel => exact ⟨g, by omega, rfl, rfl, fun _ => by rw [show g + 1 = f by have := Hgf.out; have := Hf0.out; omega]; exact Hl.out, _, rfl⟩
          case measure => have := Hgf.out; have := Hf0.out; simp [intOf]; omega
        · have hfn : f < n := by
            rcases Nat.lt_or_ge f n with h | h
            · exact h
            · exfalso
              apply hleft
              rw [List.drop_eq_nil_of_le (by rw [HL.out]; exact h)]
              simp [tot]; omega
          obtain ⟨r, hr⟩ := get_of_lt (L := L) (k := f) (by rw [HL.out]; omega)
          have hsat := since_at (L := L) (f := f) (r := r) (m := m) H.out.pos hr (by omega) (by have := HG.out hfn; have e := drop_cons hr; have e2 : tot (L.drop f) = r.c + tot (L.drop (f + 1)) := (by rw [e, tot]); omega)
          have Hsat := hid hsat
          have Hr := hid hr
          obtain ⟨b', off, rfl, _, _, _⟩ := HR.out.at hr
          have HT := hid ((HR.out.tail hfn).drewN d)
          have hcap : f < cap := by
            obtain ⟨_, a', cap', he, hh, _⟩ := HR.out
            simp only [Value.slice.injEq] at he
            have := HL.out
            omega
          have Hlt : Hid ((L.drop f).length * 24 ≤ 140737488355328) := by show _ * 24 ≤ _; rw [List.length_drop, HL.out]; omega
          have hr0 : Hid ((L.drop f)[0]? = some r) := by show _ = _; rw [drop_cons hr]; rfl
          have hcc := hid (show r.c + (tot L - m - tot (L.drop f)) = r.c - (m - tot (L.take f)) by omega)
          have p1 := H.out.pos r (List.mem_of_getElem? hr)
          have p2 := (HR.out.ok hr).2.2.2
          have hgn := HG.out hfn
          have ed := (show tot (L.drop f) = r.c + tot (L.drop (f + 1)) by rw [drop_cons hr, tot])
          have hw1 : IntKind.i64.wrap (r.c + (tot L - m - tot (L.drop f))) = r.c + (tot L - m - tot (L.drop f)) := by rw [IntKind.wrap_i64]; omega
          have hrange : Hid (-9223372036854775808 ≤ r.c + (tot L - m - tot (L.drop f)) ∧ r.c + (tot L - m - tot (L.drop f)) ≤ 9223372036854775807) := by constructor <;> omega
          clear hsat hr hs hp3 hgn ed
          go_wp2_with fail
          refine (clone49 _ (L.drop f) _ HT.out Hlt.out).mono ?_
          rintro e w1 ⟨v, rfl, ho, hb⟩
          have HB : Hid (Below w'.heap.size w' w1) := below_next (below_drewN w' d) hb
          rcases ho.shape with ⟨_, h0⟩ | ⟨g, cap2, rfl, hgb, hgl, hnc, hcm, hcc2, hfz⟩
          · have := hr0.out; rw [h0] at this; simp at this
          · obtain ⟨d1, d2, d3⟩ := hcc2 0 r hr0.out
            have f3 := hfz (0 * 3 + 2)
            simp only [Nat.zero_mul, Nat.zero_add] at d1 d2 d3 f3
            have hpos : 0 < (L.drop f).length := by have := (List.getElem?_eq_some_iff.1 hr0.out).1; exact this
            have S := hid (ho.setC hr0.out _ hrange.out)
            obtain ⟨q, hq⟩ : ∃ q, (L.drop f).length = q := ⟨_, rfl⟩
            rw [hq] at hpos ⊢
            have Hq := hid hq
            have hgb' : w'.heap.size ≤ g := hgb
            clear ho hb hnc hcc2 hfz hq hgb
            go_wp2
            go_ret
            refine ⟨_, rfl, ?_, HB.out.trans ((S.out.2).below HB.out.size (fun k hk e => by omega))⟩
            have S1 := S.out.1
            rw [Hq.out] at S1
            rw [Hsat.out, ← hcc.out]
            have e5 : (L.drop f).set 0 ⟨r.k, r.s, r.c + (tot L - m - tot (L.drop f))⟩ = ⟨r.k, r.s, r.c + (tot L - m - tot (L.drop f))⟩ :: L.drop (f + 1) := by rw [drop_cons Hr.out]; rfl
            rw [e5] at S1
            exact S1
end Go.Proofs.Ytadcindaafjckaa
