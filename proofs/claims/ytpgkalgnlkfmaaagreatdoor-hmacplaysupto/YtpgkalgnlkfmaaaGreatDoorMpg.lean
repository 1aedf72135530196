/- The law HmacPlays: its record at the start, its argument, what was told in the end. -/
import Derived.Test.YtpgkalgnlkfmaaaGreatDoorMpf
import Derived.Test.YtpgkalgnlkfmaaaGreatDoorJapart
namespace Go.Proofs.YtpgkalgnlkfmaaaGreatDoor.Dg
open Go.ChangeShapes Go.WideShapes Go.ChangeAt Go.RowKit
open Go.Proofs.YtpgkalgnlkfmaaaGreatDoor.By
open Go.Proofs.YtpgkalgnlkfmaaaGreatDoor.Sh (Blk size_alloc)
/-- The program's two macs are laid: nil, one that nobody made. -/
theorem init1 {w X W5 : World} {B xb lb mb b0 : Nat} {sv : Value} (G : GM w B [] [⟨true, lb, .slice none 0 0, []⟩, ⟨false, mb, .slice none 0 0, []⟩] X)
    (hx : Blk X xb [.pointer (some ⟨lb, 0, none⟩), .pointer (some ⟨mb, 0, none⟩), .slice none 0 0, .slice none 0 0, .slice none 0 0, .slice none 0 0] 32) (hB : B ≤ xb) (hb : Below X.heap.size X W5)
    (s0 : Blk W5 b0 nm4 38) (h0 : X.heap.size ≤ b0) (hr : W5.ownsRow B 33 1 sv 2 [.pointer none, .pointer (some ⟨b0, 0, none⟩)]) :
    PL w B xb lb mb (fun _ => False) [none, some (b0, none)] [] [] [] [] sv (.slice none 0 0) (.slice none 0 0) (.slice none 0 0) (.slice none 0 0) (.slice none 0 0) (W5.setCell ⟨xb, 2, none⟩ sv) := by
  have g1 := (G.below hb).add (p := (b0, none)) (V := X) (fun q hq => by simp at hq) G.hB s0 (fun j hj => by
    rcases hj with e | ⟨y, e, _⟩
    · rw [e]; exact h0
    · cases e)
  have x5 := hx.below hb
  have k1 : Kp (fun j => j = xb) W5 (W5.setCell ⟨xb, 2, none⟩ sv) := Kp.setCell _ _ _
  exact ⟨g1.turnO k1 (fun j hj _ => by have e : j = xb := hj; subst e; exact ⟨hB, _, _, x5, by decide⟩), ⟨fun p hp => by simp at hp, List.Pairwise.nil⟩, ⟨x5.set 2 sv, rowG_kept hr k1 (rowG_blk hr x5 (by decide)), World.ownsRow_nil _ _ _ _, World.ownsRow_nil _ _ _ _, World.ownsRow_nil _ _ _ _, fun g hg => by simp [Value.ownBlock] at hg, hB⟩, ⟨fun q hq => by simp at hq, List.Pairwise.nil⟩⟩
/-- The document's two. -/
theorem init2 {w X W5 : World} {B xb lb mb c0 : Nat} {sts : List EP} {sv rv : Value} (h : PL w B xb lb mb (fun _ => False) sts [] [] [] [] sv (.slice none 0 0) (.slice none 0 0) (.slice none 0 0) (.slice none 0 0) (.slice none 0 0) X) (hb : Below X.heap.size X W5)
    (s0 : IsQ W5 c0 none) (h0 : B ≤ c0) (hr : W5.ownsRow B 39 1 rv 2 [.pointer none, .pointer (some ⟨c0, 0, none⟩)]) :
    PL w B xb lb mb (fun _ => False) sts [none, some (c0, none)] [] [] [] sv rv (.slice none 0 0) (.slice none 0 0) (.slice none 0 0) (.slice none 0 0) (W5.setCell ⟨xb, 3, none⟩ rv) := by
  have h5 := PLg.below h hb
  have x5 := h5.four.here
  have k1 : Kp (fun j => j = xb) W5 (W5.setCell ⟨xb, 3, none⟩ rv) := Kp.setCell _ _ _
  have u8 : ∀ g cs, Blk W5 g cs 5 → ¬ g = xb := fun g cs hg e => Blk.ne hg x5 (by decide) e
  refine ⟨h5.gm.turnO k1 (fun j hj _ => by have e : j = xb := hj; subst e; exact ⟨h5.four.hB, _, _, x5, by decide⟩), ⟨fun p hp => ?_, List.pairwise_singleton _ _⟩, ⟨x5.set 3 rv, rowG_kept h5.four.r1 k1 (rowG_blk h5.four.r1 x5 (by decide)), rowG_kept hr k1 (rowG_blk hr x5 (by decide)), World.ownsRow_nil _ _ _ _, World.ownsRow_nil _ _ _ _, fun g hg => by simp [Value.ownBlock] at hg, h5.four.hB⟩, ⟨fun q hq => by simp at hq, List.Pairwise.nil⟩⟩
  have hp' : p = (c0, none) := by simpa using hp
  rw [hp']
  obtain ⟨c, hc⟩ := s0.blk
  exact ⟨IsA.kept (k := none) (show IsA _ W5 c0 none from s0) k1 (fun e => Blk.ne hc x5 (by decide) e) u8, h0⟩
/-- Both lists, of the same kinds: the play may begin. -/
theorem init3 {w W : World} {B xb lb mb b0 c0 : Nat} {sv rv : Value} (h : PL w B xb lb mb (fun _ => False) [none, some (b0, none)] [none, some (c0, none)] [] [] [] sv rv (.slice none 0 0) (.slice none 0 0) (.slice none 0 0) (.slice none 0 0) W) : PG w B xb lb mb 0 0 0 (fun _ => False) W :=
  ⟨_, _, _, _, _, _, _, _, _, _, h, rfl, by simp, by simp, Nat.le_refl _, fun k hk => by
    have : k = none := by simpa [kdP] using hk
    rw [this]; exact mx_none _, by simp [tot], fun _ _ _ => ⟨fun _ e => e, fun _ e => e⟩⟩
/-- A step: what is done, with which mac, of which algorithm, with which bytes. -/
structure Stp where
  d : Int
  q : Nat
  al : Int
  pa : Option Addr
  pn : Nat
  pc : Nat
  g : Nat → Int
  qa : Option Addr
  qn : Nat
  qc : Nat
  g2 : Nat → Int
/-- The slice v reads as the steps X. -/
def SB (w : World) (v : Value) (X : List Stp) : Prop := ∃ a cap, v = .slice a X.length cap ∧ ∀ i s, X[i]? = some s → ∃ b off, a = some ⟨b, off, none⟩ ∧ (w.cell? ⟨b, off + i * 5, none⟩ = some (.int .i64 s.d) ∧ w.cell? ⟨b, off + i * 5 + 1, none⟩ = some (.int .u8 (s.q : Int)) ∧ w.cell? ⟨b, off + i * 5 + 2, none⟩ = some (.int .u8 s.al) ∧ w.cell? ⟨b, off + i * 5 + 3, none⟩ = some (.slice s.pa s.pn s.pc) ∧ w.cell? ⟨b, off + i * 5 + 4, none⟩ = some (.slice s.qa s.qn s.qc)) ∧ s.q < 256 ∧ By.RB w (.slice s.pa s.pn s.pc) s.pn s.g ∧ By.RB w (.slice s.qa s.qn s.qc) s.qn s.g2
theorem SB.below {w w' : World} {v : Value} {X : List Stp} (h : SB w v X) (hb : Below w.heap.size w w') : SB w' v X := by
  obtain ⟨a, cap, e, hc⟩ := h
  refine ⟨a, cap, e, fun i s hi => ?_⟩
  obtain ⟨b, off, ea, ⟨c0, c1, c2, c3, c4⟩, hq, hr, hr2⟩ := hc i s hi
  have hlt : b < w.heap.size := block_lt_of_cell c0
  exact ⟨b, off, ea, ⟨by rw [hb.cell (p := ⟨b, off + i * 5, none⟩) hlt]; exact c0, by rw [hb.cell (p := ⟨b, off + i * 5 + 1, none⟩) hlt]; exact c1, by rw [hb.cell (p := ⟨b, off + i * 5 + 2, none⟩) hlt]; exact c2, by rw [hb.cell (p := ⟨b, off + i * 5 + 3, none⟩) hlt]; exact c3, by rw [hb.cell (p := ⟨b, off + i * 5 + 4, none⟩) hlt]; exact c4⟩, hq, hr.below hb, hr2.below hb⟩
/-- How many bytes the first i steps have. -/
def tk (X : List Stp) (i : Nat) : Nat := ((X.take i).map (fun s => s.pn + s.qn)).sum
theorem tk_succ {X : List Stp} {i : Nat} {s : Stp} (h : X[i]? = some s) : tk X (i + 1) = tk X i + (s.pn + s.qn) := by
  unfold tk
  rw [List.take_add_one, h]
  simp
theorem tk_mono (X : List Stp) (i : Nat) : tk X i ≤ tk X X.length := by
  unfold tk
  rw [List.take_length]
  have e : X.map (fun s => s.pn + s.qn) = (X.take i).map (fun s => s.pn + s.qn) ++ (X.drop i).map (fun s => s.pn + s.qn) := by rw [← List.map_append, List.take_append_drop]
  rw [e, List.sum_append]
  omega
section
variable {w0 W : World} {B xb lb mb : Nat} {av : Nat → Prop} {sts : List EP} {rts : List EQ} {tl : List TE} {L M : List Rn} {sv rv tv wv lv mv : Value}
theorem PL.viewT (h : PL w0 B xb lb mb av sts rts tl L M sv rv tv wv lv mv W) {n : Nat} (hl : tl.length = n) (hn : 0 < n) : ∃ g c, tv = .slice (some ⟨g, 0, none⟩) n c ∧ ∀ k x, tl[k]? = some x → W.cell? ⟨g, k, none⟩ = some x.t := by
  have h3 := h.four.r3
  rw [List.length_map, hl] at h3
  obtain ⟨g, c, e, hc⟩ := rowG_view h3 hn
  exact ⟨g, c, e, fun k x hx => hc k _ (by rw [List.getElem?_map, hx]; rfl)⟩
theorem PL.viewW (h : PL w0 B xb lb mb av sts rts tl L M sv rv tv wv lv mv W) {n : Nat} (hl : tl.length = n) (hn : 0 < n) : ∃ g c, wv = .slice (some ⟨g, 0, none⟩) n c ∧ ∀ k x, tl[k]? = some x → W.cell? ⟨g, k, none⟩ = some x.w := by
  have h3 := h.four.r4
  rw [List.length_map, hl] at h3
  obtain ⟨g, c, e, hc⟩ := rowG_view h3 hn
  exact ⟨g, c, e, fun k x hx => hc k _ (by rw [List.getElem?_map, hx]; rfl)⟩
/-- What was told lies apart. -/
theorem PL.apart (h : PL w0 B xb lb mb av sts rts tl L M sv rv tv wv lv mv W) {n g c : Nat} (hl : tl.length = n) (hn : 0 < n) (hm : n ≤ 1000000) (ht : tv = .slice (some ⟨g, 0, none⟩) n c) (hc : ∀ k x, tl[k]? = some x → W.cell? ⟨g, k, none⟩ = some x.t) :
    Calls Tryz.prog 15 #[.slice (some ⟨g, 0, none⟩) n c] W fun e w' => e = .returned (.bool true) ∧ Below B W w' := by
  subst hl
  have get : ∀ j, j < tl.length → tl[j]? = some (tl.getD j ⟨.slice none 0 0, .slice none 0 0, 0, fun _ => 0⟩) := fun j hj => by
    rw [List.getD_eq_getElem?_getD, List.getElem?_eq_getElem hj]; rfl
  have ow : ∀ j, j < tl.length → By.Own W B (tl.getD j ⟨.slice none 0 0, .slice none 0 0, 0, fun _ => 0⟩).t (tl.getD j ⟨.slice none 0 0, .slice none 0 0, 0, fun _ => 0⟩).n (tl.getD j ⟨.slice none 0 0, .slice none 0 0, 0, fun _ => 0⟩).f ∧ (tl.getD j ⟨.slice none 0 0, .slice none 0 0, 0, fun _ => 0⟩).n ≤ 600 := fun j hj => by
    have := h.told.own _ (List.mem_of_getElem? (get j hj))
    exact ⟨this.1, this.2.2⟩
  refine By.apart30w B tl.length g c (fun j => (tl.getD j ⟨.slice none 0 0, .slice none 0 0, 0, fun _ => 0⟩).t) (fun j => (tl.getD j ⟨.slice none 0 0, .slice none 0 0, 0, fun _ => 0⟩).n) (fun j => if j < tl.length then (tl.getD j ⟨.slice none 0 0, .slice none 0 0, 0, fun _ => 0⟩).f else fun _ => 0) W ⟨fun i j hi hj hij => ?_, fun j hj e => ?_⟩ ⟨fun j hj => ?_, fun j hj => ?_⟩ (fun j i => ?_) hm hn (fun j hj => by have := (ow j hj).2; omega) h.gm.hB
  · cases hb : (tl.getD i ⟨.slice none 0 0, .slice none 0 0, 0, fun _ => 0⟩).t.ownBlock with
    | none => exact .inl rfl
    | some b =>
      refine .inr (fun e => ?_)
      have ap := List.pairwise_iff_getElem.1 h.told.ap
      rcases Nat.lt_or_gt_of_ne hij with hlt | hlt
      · have := ap i j hi hj hlt b (by have := get i hi; rw [List.getElem?_eq_getElem hi] at this; rw [Option.some.inj this]; exact hb)
        exact this (by have := get j hj; rw [List.getElem?_eq_getElem hj] at this; rw [Option.some.inj this]; exact e.symm)
      · have := ap j i hj hi hlt b (by have := get j hj; rw [List.getElem?_eq_getElem hj] at this; rw [Option.some.inj this]; exact e.symm)
        exact this (by have := get i hi; rw [List.getElem?_eq_getElem hi] at this; rw [Option.some.inj this]; exact hb)
  · obtain ⟨cc, hcc⟩ := Sg.own8_type (ow j hj).1 e
    exact h.four.apart (show Blk W g cc.toList 5 from by show W.heap[g]? = _; rw [hcc]) (by decide) (by decide) (by decide) (by decide) (by rw [ht]; exact .inr (.inr (.inr (.inl rfl))))
  · show By.Own W B _ _ (if j < tl.length then _ else _)
    rw [if_pos hj]; exact (ow j hj).1
  · exact hc j _ (get j hj)
  · show 0 ≤ (if j < tl.length then (tl.getD j ⟨.slice none 0 0, .slice none 0 0, 0, fun _ => 0⟩).f else fun _ => 0) i ∧ _ < 256
    by_cases hj : j < tl.length
    · rw [if_pos hj]; exact (ow j hj).1.1 i
    · rw [if_neg hj]; exact ⟨Int.le_refl _, by decide⟩
end
end Go.Proofs.YtpgkalgnlkfmaaaGreatDoor.Dg
