/- The law Sha512Plays: its argument, and what was told in the end. -/
import Derived.Test.YtdhbkekpjojlnaaDoorJpl10
namespace Go.Proofs.YtdhbkekpjojlnaaDoor.Sg
open Go.ChangeShapes Go.WideShapes Go.ChangeAt Go.RowKit
open Go.Proofs.YtdhbkekpjojlnaaDoor.By Go.Proofs.YtdhbkekpjojlnaaDoor.Wd
/-- A step: what is done, with which state, with which bytes. -/
structure Stp where
  d : Int
  q : Nat
  pa : Option Addr
  pn : Nat
  pc : Nat
  g : Nat → Int
/-- The slice v reads as the steps X. -/
def SB (w : World) (v : Value) (X : List Stp) : Prop := ∃ a cap, v = .slice a X.length cap ∧ ∀ i s, X[i]? = some s → ∃ b off, a = some ⟨b, off, none⟩ ∧ w.cell? ⟨b, off + i * 3, none⟩ = some (.int .i64 s.d) ∧ w.cell? ⟨b, off + i * 3 + 1, none⟩ = some (.int .u8 (s.q : Int)) ∧ w.cell? ⟨b, off + i * 3 + 2, none⟩ = some (.slice s.pa s.pn s.pc) ∧ s.q < 256 ∧ By.RB w (.slice s.pa s.pn s.pc) s.pn s.g
theorem SB.below {w w' : World} {v : Value} {X : List Stp} (h : SB w v X) (hb : Below w.heap.size w w') : SB w' v X := by
  obtain ⟨a, cap, e, hc⟩ := h
  refine ⟨a, cap, e, fun i s hi => ?_⟩
  obtain ⟨b, off, ea, c0, c1, c2, hq, hr⟩ := hc i s hi
  have hlt : b < w.heap.size := block_lt_of_cell c0
  exact ⟨b, off, ea, by rw [hb.cell (p := ⟨b, off + i * 3, none⟩) hlt]; exact c0, by rw [hb.cell (p := ⟨b, off + i * 3 + 1, none⟩) hlt]; exact c1, by rw [hb.cell (p := ⟨b, off + i * 3 + 2, none⟩) hlt]; exact c2, hq, hr.below hb⟩
/-- How many bytes the first i steps have. -/
def tk (X : List Stp) (i : Nat) : Nat := ((X.take i).map Stp.pn).sum
theorem tk_succ {X : List Stp} {i : Nat} {s : Stp} (h : X[i]? = some s) : tk X (i + 1) = tk X i + s.pn := by
  unfold tk
  rw [List.take_add_one, h]
  simp
theorem tk_mono (X : List Stp) (i : Nat) : tk X i ≤ tk X X.length := by
  unfold tk
  rw [List.take_length]
  have e : X.map Stp.pn = (X.take i).map Stp.pn ++ (X.drop i).map Stp.pn := by rw [← List.map_append, List.take_append_drop]
  rw [e, List.sum_append]
  omega
section
variable {w0 W : World} {B xb lb mb : Nat} {sts rts : List EN} {tl : List TE} {L M : List Rn} {sv rv tv wv lv mv : Value}
theorem PL.ledP (h : PL w0 B xb lb mb sts rts tl L M sv rv tv wv lv mv W) : Led W lb lv L := (h.gs.led ⟨true, lb, lv, L⟩ (by simp)).1
theorem PL.ledR (h : PL w0 B xb lb mb sts rts tl L M sv rv tv wv lv mv W) : RLed W mb mv M := (h.gs.led ⟨false, mb, mv, M⟩ (by simp)).1
theorem PL.viewT (h : PL w0 B xb lb mb sts rts tl L M sv rv tv wv lv mv W) {n : Nat} (hl : tl.length = n) (hn : 0 < n) : ∃ g c, tv = .slice (some ⟨g, 0, none⟩) n c ∧ ∀ k x, tl[k]? = some x → W.cell? ⟨g, k, none⟩ = some x.t := by
  have h3 := h.four.r3
  rw [List.length_map, hl] at h3
  obtain ⟨g, c, e, hc⟩ := rowG_view h3 hn
  exact ⟨g, c, e, fun k x hx => hc k _ (by rw [List.getElem?_map, hx]; rfl)⟩
theorem PL.viewW (h : PL w0 B xb lb mb sts rts tl L M sv rv tv wv lv mv W) {n : Nat} (hl : tl.length = n) (hn : 0 < n) : ∃ g c, wv = .slice (some ⟨g, 0, none⟩) n c ∧ ∀ k x, tl[k]? = some x → W.cell? ⟨g, k, none⟩ = some x.w := by
  have h3 := h.four.r4
  rw [List.length_map, hl] at h3
  obtain ⟨g, c, e, hc⟩ := rowG_view h3 hn
  exact ⟨g, c, e, fun k x hx => hc k _ (by rw [List.getElem?_map, hx]; rfl)⟩
/-- What was told lies apart. -/
theorem PL.apart (h : PL w0 B xb lb mb sts rts tl L M sv rv tv wv lv mv W) {n g c : Nat} (hl : tl.length = n) (hn : 0 < n) (hm : n ≤ 1000000) (ht : tv = .slice (some ⟨g, 0, none⟩) n c) (hc : ∀ k x, tl[k]? = some x → W.cell? ⟨g, k, none⟩ = some x.t) :
    Calls Tryd.prog 16 #[.slice (some ⟨g, 0, none⟩) n c] W fun e w' => e = .returned (.bool true) ∧ Below B W w' := by
  subst hl
  have get : ∀ j, j < tl.length → tl[j]? = some (tl.getD j ⟨.slice none 0 0, .slice none 0 0, 0, fun _ => 0⟩) := fun j hj => by
    rw [List.getD_eq_getElem?_getD, List.getElem?_eq_getElem hj]; rfl
  have ow : ∀ j, j < tl.length → By.Own W B (tl.getD j ⟨.slice none 0 0, .slice none 0 0, 0, fun _ => 0⟩).t (tl.getD j ⟨.slice none 0 0, .slice none 0 0, 0, fun _ => 0⟩).n (tl.getD j ⟨.slice none 0 0, .slice none 0 0, 0, fun _ => 0⟩).f ∧ (tl.getD j ⟨.slice none 0 0, .slice none 0 0, 0, fun _ => 0⟩).n ≤ 200 := fun j hj => by
    have := h.told.own _ (List.mem_of_getElem? (get j hj))
    exact ⟨this.1, this.2.2⟩
  refine apart30w B tl.length g c (fun j => (tl.getD j ⟨.slice none 0 0, .slice none 0 0, 0, fun _ => 0⟩).t) (fun j => (tl.getD j ⟨.slice none 0 0, .slice none 0 0, 0, fun _ => 0⟩).n) (fun j => if j < tl.length then (tl.getD j ⟨.slice none 0 0, .slice none 0 0, 0, fun _ => 0⟩).f else fun _ => 0) W ⟨fun i j hi hj hij => ?_, fun j hj e => ?_⟩ ⟨fun j hj => ?_, fun j hj => ?_⟩ (fun j i => ?_) hm hn (fun j hj => by have := (ow j hj).2; omega) h.gs.hB
  · cases hb : (tl.getD i ⟨.slice none 0 0, .slice none 0 0, 0, fun _ => 0⟩).t.ownBlock with
    | none => exact .inl rfl
    | some b =>
      refine .inr (fun e => ?_)
      have ap := List.pairwise_iff_getElem.1 h.told.ap
      rcases Nat.lt_or_gt_of_ne hij with hlt | hlt
      · have := ap i j hi hj hlt b (by have := get i hi; rw [List.getElem?_eq_getElem hi] at this; rw [Option.some.inj this]; exact hb)
        exact this (by have := get j hj; rw [List.getElem?_eq_getElem hj] at this; rw [Option.some.inj this]; exact e.symm)
      · have := ap j i hj hi hlt b (by have := get j hj; rw [List.getElem?_eq_getElem hj] at this; rw [Option.some.inj this]; exact e.symm)
        exact this (by have := get i hi; rw [List.getElem?_eq_getElem hi] at this; rw [Option.some.inj this]; exact hb)
  · obtain ⟨cc, hcc⟩ := own8_type (ow j hj).1 e
    exact h.four.apart (show Blk W g cc.toList 5 from by show W.heap[g]? = _; rw [hcc]) (by decide) (by decide) (by decide) (by decide) (by rw [ht]; exact .inr (.inr (.inr (.inl rfl))))
  · show By.Own W B _ _ (if j < tl.length then _ else _)
    rw [if_pos hj]; exact (ow j hj).1
  · exact hc j _ (get j hj)
  · show 0 ≤ (if j < tl.length then (tl.getD j ⟨.slice none 0 0, .slice none 0 0, 0, fun _ => 0⟩).f else fun _ => 0) i ∧ _ < 256
    by_cases hj : j < tl.length
    · rw [if_pos hj]; exact (ow j hj).1.1 i
    · rw [if_neg hj]; exact ⟨Int.le_refl _, by decide⟩
end
end Go.Proofs.YtdhbkekpjojlnaaDoor.Sg
