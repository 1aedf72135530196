/- The program's macs: Clone. -/
import Derived.Test.YtpgkalgnlkfmaaaGreatDoorZmd
namespace Go.Proofs.YtpgkalgnlkfmaaaGreatDoor.Dg
open Go.ChangeShapes Go.WideShapes Go.ChangeAt Go.RowKit
open Go.Proofs.YtpgkalgnlkfmaaaGreatDoor.By
open Go.Proofs.YtpgkalgnlkfmaaaGreatDoor.Sh (Blk size_alloc)
/-- A mac's states, in their order. -/
def st3 (a : Bool) (K f : Nat → Int) (m : Nat) : Nat → SK
  | 0 => some (bk a + m, inr a K f)
  | 1 => some (bk a, msk 92 K)
  | _ => some (bk a, msk 54 K)
def oc (a : Bool) (k : Nat) (c : Nat → Nat) : List Value := [.int .i64 (sz a), if 0 < k then iv a (c 0) else .nilIface, if 1 < k then iv a (c 1) else .nilIface, if 2 < k then iv a (c 2) else .nilIface]
/-- A clone that has k states so far. -/
structure CI (a : Bool) (K f : Nat → Int) (m : Nat) (w : World) (k : Nat) (c : Nat → Nat) (W : World) : Prop where
  here : Blk W w.heap.size (oc a k c) 38
  st : ∀ j, j < k → IsD W (c j) a (st3 a K f m j)
  new : ∀ j, j < k → w.heap.size ≤ c j
  ne : ∀ i j, i < j → j < k → c i ≠ c j
  bel : Below w.heap.size w W
def put3 (c : Nat → Nat) (k d : Nat) (j : Nat) : Nat := if j = k then d else c j
theorem oc_set (a : Bool) (k : Nat) (hk : k < 3) (c : Nat → Nat) (d : Nat) : (oc a k c).set (1 + k) (iv a d) = oc a (k + 1) (put3 c k d) := by
  match k, hk with
  | 0, _ => rfl
  | 1, _ => rfl
  | 2, _ => rfl
theorem CI.step {a : Bool} {K f : Nat → Int} {m k : Nat} {w W W1 : World} {c : Nat → Nat} (h : CI a K f m w k c W) (hk : k < 3) (hb : Below W.heap.size W W1) {d : Nat} (hd : W.heap.size ≤ d) (hD : IsD W1 d a (st3 a K f m k)) :
    CI a K f m w (k + 1) (put3 c k d) (W1.setCell ⟨w.heap.size, 1 + k, none⟩ (iv a d)) := by
  have hh := h.here.below hb
  have tm : ∀ {b : Nat} {q : SK}, IsD W1 b a q → IsD (W1.setCell ⟨w.heap.size, 1 + k, none⟩ (iv a d)) b a q := fun {b q} hq => by
    obtain ⟨cs, hc⟩ := hq.blk
    exact hq.kept (Kp.setCell w.heap.size (1 + k) (iv a d)) (fun e => Blk.ne hc hh (by cases a <;> decide) e)
  have lt : ∀ j, j < k → c j < W.heap.size := fun j hj => by obtain ⟨cs, hc⟩ := (h.st j hj).blk; exact hc.lt
  have hz := h.bel.size
  refine ⟨?_, fun j hj => ?_, fun j hj => ?_, fun i j hij hj => ?_, ?_⟩
  · have := hh.set (1 + k) (iv a d)
    rwa [oc_set a k hk c d] at this
  · show IsD _ (if j = k then d else c j) a _
    by_cases e : j = k
    · rw [if_pos e, e]; exact tm hD
    · rw [if_neg e]; exact tm ((h.st j (by omega)).below hb)
  · show w.heap.size ≤ (if j = k then d else c j)
    by_cases e : j = k
    · rw [if_pos e]; omega
    · rw [if_neg e]; exact h.new j (by omega)
  · show (if i = k then d else c i) ≠ (if j = k then d else c j)
    rw [if_neg (by omega)]
    by_cases e : j = k
    · rw [if_pos e]; have := lt i (by omega); omega
    · rw [if_neg e]; exact h.ne i j hij (by omega)
  · exact (below_next h.bel hb).trans ((Kp.setCell w.heap.size (1 + k) (iv a d)).below (Nat.le_trans hz hb.size) (fun j hj e => by have : j = w.heap.size := e; omega))
set_option maxRecDepth 8000 in
set_option maxHeartbeats 4000000 in
theorem clone256 (b : Nat) (K f : Nat → Int) (m b0 b1 b2 : Nat) (w : World) (h : IsMk w b ⟨false, K, m, f, b0, b1, b2⟩) :
    Calls Tryz.prog 28 #[.pointer (some ⟨b, 0, none⟩)] w fun e w' => ∃ c c0 c1 c2, e = .returned (.tuple #[.pointer (some ⟨c, 0, none⟩), .int .i64 0]) ∧ IsMk w' c ⟨false, K, m, f, c0, c1, c2⟩ ∧ (w.heap.size ≤ c ∧ w.heap.size ≤ c0 ∧ w.heap.size ≤ c1 ∧ w.heap.size ≤ c2) ∧ Below w.heap.size w w' := by
  have BS := hid h
  have hlt := h.here.lt
  have x0 : w.cell? ⟨b, 0, none⟩ = some (.int .i64 32) := h.here.cell 0 _ rfl
  have x1 : w.cell? ⟨b, 1, none⟩ = some (.iface 110 (.agg #[.pointer (some ⟨b0, 0, none⟩)])) := h.here.cell 1 _ rfl
  have x2 : w.cell? ⟨b, 2, none⟩ = some (.iface 110 (.agg #[.pointer (some ⟨b1, 0, none⟩)])) := h.here.cell 2 _ rfl
  have x3 : w.cell? ⟨b, 3, none⟩ = some (.iface 110 (.agg #[.pointer (some ⟨b2, 0, none⟩)])) := h.here.cell 3 _ rfl
  have C0 := hid (show CI false K f m w 0 (fun _ => 0) (w.alloc (.cells #[.int .i64 32, .nilIface, .nilIface, .nilIface] 38)) from ⟨Sh.Blk.new w [.int .i64 32, .nilIface, .nilIface, .nilIface] _, fun j hj => by omega, fun j hj => by omega, fun i j hij hj => by omega, below_alloc w _⟩)
  clear h
  go_enter Tryz.func28, Tryz.ntmps28
  go_wp2_with fail
  refine (isNone256 b K f m b0 b1 b2 _ BS.out).mono ?_
  rintro e w1 ⟨rfl, hw1⟩
  subst w1
  go_wp2_with fail
  go_loopw [19] (fun i wr => ∃ k : Nat, k ≤ 3 ∧ i = .int .i64 k ∧ ∃ c, CI false K f m w k c wr) (fun i _ => 3 - (intOf i).toNat)
  case atStart => exact ⟨0, by omega, rfl, _, C0.out⟩
  case round =>
    clear C0 x0 x1 x2 x3
    obtain ⟨k, hk, rfl, c, hci⟩ := hrel
    match k, hk with
    | 0, hk3 =>
      have C := hid hci
      clear hci
      have y1 := C.out.here.cell 1 .nilIface rfl
      have hix := fun (w : World) => show (Instr.index 36 (.agg #[.iface 110 (.agg #[.pointer (some ⟨b0, 0, none⟩)]), .iface 110 (.agg #[.pointer (some ⟨b1, 0, none⟩)]), .iface 110 (.agg #[.pointer (some ⟨b2, 0, none⟩)])]) (.int .i64 0)).run Tryz.prog w = .ok (.iface 110 (.agg #[.pointer (some ⟨b0, 0, none⟩)])) w from by kernel_rfl
      go_wp2_with fail
      go_region_held3 (fun _ => True) (trivial) (first
        | (go_at_call 147; go_must (refine (copyC256 b0 _ _ _ ((BS.out.s0.below C.out.bel).below (below_drewN wr 1))).mono ?_; rintro e w8 ⟨d, hd, rfl, hD, hb8⟩; have C8 := hid (C.out.step (by omega) (below_next (below_drewN wr 1) hb8) (show wr.heap.size ≤ d from hd) hD); have hh := C.out.here.below (below_next (below_drewN wr 1) hb8); have y2 : w8.cell? ⟨w.heap.size, 1, none⟩ = some .nilIface := hh.cell 1 .nilIface rfl; have y3 := hh.frozen 1; clear hd hD hb8 hh)))
      clear y1 y2 y3
      go_wp2
      exact ⟨⟨1, by omega, rfl, _, C8.out⟩, by simp [intOf]⟩
    | 1, hk3 =>
      have C := hid hci
      clear hci
      have y1 := C.out.here.cell 2 .nilIface rfl
      have hix := fun (w : World) => show (Instr.index 36 (.agg #[.iface 110 (.agg #[.pointer (some ⟨b0, 0, none⟩)]), .iface 110 (.agg #[.pointer (some ⟨b1, 0, none⟩)]), .iface 110 (.agg #[.pointer (some ⟨b2, 0, none⟩)])]) (.int .i64 1)).run Tryz.prog w = .ok (.iface 110 (.agg #[.pointer (some ⟨b1, 0, none⟩)])) w from by kernel_rfl
      go_wp2_with fail
      go_region_held3 (fun _ => True) (trivial) (first
        | (go_at_call 147; go_must (refine (copyC256 b1 _ _ _ ((BS.out.s1.below C.out.bel).below (below_drewN wr 1))).mono ?_; rintro e w8 ⟨d, hd, rfl, hD, hb8⟩; have C8 := hid (C.out.step (by omega) (below_next (below_drewN wr 1) hb8) (show wr.heap.size ≤ d from hd) hD); have hh := C.out.here.below (below_next (below_drewN wr 1) hb8); have y2 : w8.cell? ⟨w.heap.size, 2, none⟩ = some .nilIface := hh.cell 2 .nilIface rfl; have y3 := hh.frozen 2; clear hd hD hb8 hh)))
      clear y1 y2 y3
      go_wp2
      exact ⟨⟨2, by omega, rfl, _, C8.out⟩, by simp [intOf]⟩
    | 2, hk3 =>
      have C := hid hci
      clear hci
      have y1 := C.out.here.cell 3 .nilIface rfl
      have hix := fun (w : World) => show (Instr.index 36 (.agg #[.iface 110 (.agg #[.pointer (some ⟨b0, 0, none⟩)]), .iface 110 (.agg #[.pointer (some ⟨b1, 0, none⟩)]), .iface 110 (.agg #[.pointer (some ⟨b2, 0, none⟩)])]) (.int .i64 2)).run Tryz.prog w = .ok (.iface 110 (.agg #[.pointer (some ⟨b2, 0, none⟩)])) w from by kernel_rfl
      go_wp2_with fail
      go_region_held3 (fun _ => True) (trivial) (first
        | (go_at_call 147; go_must (refine (copyC256 b2 _ _ _ ((BS.out.s2.below C.out.bel).below (below_drewN wr 1))).mono ?_; rintro e w8 ⟨d, hd, rfl, hD, hb8⟩; have C8 := hid (C.out.step (by omega) (below_next (below_drewN wr 1) hb8) (show wr.heap.size ≤ d from hd) hD); have hh := C.out.here.below (below_next (below_drewN wr 1) hb8); have y2 : w8.cell? ⟨w.heap.size, 3, none⟩ = some .nilIface := hh.cell 3 .nilIface rfl; have y3 := hh.frozen 3; clear hd hD hb8 hh)))
      clear y1 y2 y3
      go_wp2
      exact ⟨⟨3, by omega, rfl, _, C8.out⟩, by simp [intOf]⟩
    | 3, hk3 =>
      have C := hid hci
      clear hci
      go_wp2
      go_ret2
      exact ⟨_, c 0, c 1, c 2, rfl, ⟨C.out.here, C.out.st 0 (by omega), C.out.st 1 (by omega), C.out.st 2 (by omega), C.out.ne 0 1 (by omega) (by omega), C.out.ne 0 2 (by omega) (by omega), C.out.ne 1 2 (by omega) (by omega), BS.out.fb⟩, ⟨Nat.le_refl _, C.out.new 0 (by omega), C.out.new 1 (by omega), C.out.new 2 (by omega)⟩, C.out.bel⟩
set_option maxRecDepth 8000 in
set_option maxHeartbeats 4000000 in
theorem clone512 (b : Nat) (K f : Nat → Int) (m b0 b1 b2 : Nat) (w : World) (h : IsMk w b ⟨true, K, m, f, b0, b1, b2⟩) :
    Calls Tryz.prog 28 #[.pointer (some ⟨b, 0, none⟩)] w fun e w' => ∃ c c0 c1 c2, e = .returned (.tuple #[.pointer (some ⟨c, 0, none⟩), .int .i64 0]) ∧ IsMk w' c ⟨true, K, m, f, c0, c1, c2⟩ ∧ (w.heap.size ≤ c ∧ w.heap.size ≤ c0 ∧ w.heap.size ≤ c1 ∧ w.heap.size ≤ c2) ∧ Below w.heap.size w w' := by
  have BS := hid h
  have hlt := h.here.lt
  have x0 : w.cell? ⟨b, 0, none⟩ = some (.int .i64 64) := h.here.cell 0 _ rfl
  have x1 : w.cell? ⟨b, 1, none⟩ = some (.iface 115 (.agg #[.pointer (some ⟨b0, 0, none⟩)])) := h.here.cell 1 _ rfl
  have x2 : w.cell? ⟨b, 2, none⟩ = some (.iface 115 (.agg #[.pointer (some ⟨b1, 0, none⟩)])) := h.here.cell 2 _ rfl
  have x3 : w.cell? ⟨b, 3, none⟩ = some (.iface 115 (.agg #[.pointer (some ⟨b2, 0, none⟩)])) := h.here.cell 3 _ rfl
  have C0 := hid (show CI true K f m w 0 (fun _ => 0) (w.alloc (.cells #[.int .i64 64, .nilIface, .nilIface, .nilIface] 38)) from ⟨Sh.Blk.new w [.int .i64 64, .nilIface, .nilIface, .nilIface] _, fun j hj => by omega, fun j hj => by omega, fun i j hij hj => by omega, below_alloc w _⟩)
  clear h
  go_enter Tryz.func28, Tryz.ntmps28
  go_wp2_with fail
  refine (isNone512 b K f m b0 b1 b2 _ BS.out).mono ?_
  rintro e w1 ⟨rfl, hw1⟩
  subst w1
  go_wp2_with fail
  go_loopw [19] (fun i wr => ∃ k : Nat, k ≤ 3 ∧ i = .int .i64 k ∧ ∃ c, CI true K f m w k c wr) (fun i _ => 3 - (intOf i).toNat)
  case atStart => exact ⟨0, by omega, rfl, _, C0.out⟩
  case round =>
    clear C0 x0 x1 x2 x3
    obtain ⟨k, hk, rfl, c, hci⟩ := hrel
    match k, hk with
    | 0, hk3 =>
      have C := hid hci
      clear hci
      have y1 := C.out.here.cell 1 .nilIface rfl
      have hix := fun (w : World) => show (Instr.index 36 (.agg #[.iface 115 (.agg #[.pointer (some ⟨b0, 0, none⟩)]), .iface 115 (.agg #[.pointer (some ⟨b1, 0, none⟩)]), .iface 115 (.agg #[.pointer (some ⟨b2, 0, none⟩)])]) (.int .i64 0)).run Tryz.prog w = .ok (.iface 115 (.agg #[.pointer (some ⟨b0, 0, none⟩)])) w from by kernel_rfl
      go_wp2_with fail
      go_region_held3 (fun _ => True) (trivial) (first
        | (go_at_call 153; go_must (refine (copyC512 b0 _ _ _ ((BS.out.s0.below C.out.bel).below (below_drewN wr 1))).mono ?_; rintro e w8 ⟨d, hd, rfl, hD, hb8⟩; have C8 := hid (C.out.step (by omega) (below_next (below_drewN wr 1) hb8) (show wr.heap.size ≤ d from hd) hD); have hh := C.out.here.below (below_next (below_drewN wr 1) hb8); have y2 : w8.cell? ⟨w.heap.size, 1, none⟩ = some .nilIface := hh.cell 1 .nilIface rfl; have y3 := hh.frozen 1; clear hd hD hb8 hh)))
      clear y1 y2 y3
      go_wp2
      exact ⟨⟨1, by omega, rfl, _, C8.out⟩, by simp [intOf]⟩
    | 1, hk3 =>
      have C := hid hci
      clear hci
      have y1 := C.out.here.cell 2 .nilIface rfl
      have hix := fun (w : World) => show (Instr.index 36 (.agg #[.iface 115 (.agg #[.pointer (some ⟨b0, 0, none⟩)]), .iface 115 (.agg #[.pointer (some ⟨b1, 0, none⟩)]), .iface 115 (.agg #[.pointer (some ⟨b2, 0, none⟩)])]) (.int .i64 1)).run Tryz.prog w = .ok (.iface 115 (.agg #[.pointer (some ⟨b1, 0, none⟩)])) w from by kernel_rfl
      go_wp2_with fail
      go_region_held3 (fun _ => True) (trivial) (first
        | (go_at_call 153; go_must (refine (copyC512 b1 _ _ _ ((BS.out.s1.below C.out.bel).below (below_drewN wr 1))).mono ?_; rintro e w8 ⟨d, hd, rfl, hD, hb8⟩; have C8 := hid (C.out.step (by omega) (below_next (below_drewN wr 1) hb8) (show wr.heap.size ≤ d from hd) hD); have hh := C.out.here.below (below_next (below_drewN wr 1) hb8); have y2 : w8.cell? ⟨w.heap.size, 2, none⟩ = some .nilIface := hh.cell 2 .nilIface rfl; have y3 := hh.frozen 2; clear hd hD hb8 hh)))
      clear y1 y2 y3
      go_wp2
      exact ⟨⟨2, by omega, rfl, _, C8.out⟩, by simp [intOf]⟩
    | 2, hk3 =>
      have C := hid hci
      clear hci
      have y1 := C.out.here.cell 3 .nilIface rfl
      have hix := fun (w : World) => show (Instr.index 36 (.agg #[.iface 115 (.agg #[.pointer (some ⟨b0, 0, none⟩)]), .iface 115 (.agg #[.pointer (some ⟨b1, 0, none⟩)]), .iface 115 (.agg #[.pointer (some ⟨b2, 0, none⟩)])]) (.int .i64 2)).run Tryz.prog w = .ok (.iface 115 (.agg #[.pointer (some ⟨b2, 0, none⟩)])) w from by kernel_rfl
      go_wp2_with fail
      go_region_held3 (fun _ => True) (trivial) (first
        | (go_at_call 153; go_must (refine (copyC512 b2 _ _ _ ((BS.out.s2.below C.out.bel).below (below_drewN wr 1))).mono ?_; rintro e w8 ⟨d, hd, rfl, hD, hb8⟩; have C8 := hid (C.out.step (by omega) (below_next (below_drewN wr 1) hb8) (show wr.heap.size ≤ d from hd) hD); have hh := C.out.here.below (below_next (below_drewN wr 1) hb8); have y2 : w8.cell? ⟨w.heap.size, 3, none⟩ = some .nilIface := hh.cell 3 .nilIface rfl; have y3 := hh.frozen 3; clear hd hD hb8 hh)))
      clear y1 y2 y3
      go_wp2
      exact ⟨⟨3, by omega, rfl, _, C8.out⟩, by simp [intOf]⟩
    | 3, hk3 =>
      have C := hid hci
      clear hci
      go_wp2
      go_ret2
      exact ⟨_, c 0, c 1, c 2, rfl, ⟨C.out.here, C.out.st 0 (by omega), C.out.st 1 (by omega), C.out.st 2 (by omega), C.out.ne 0 1 (by omega) (by omega), C.out.ne 0 2 (by omega) (by omega), C.out.ne 1 2 (by omega) (by omega), BS.out.fb⟩, ⟨Nat.le_refl _, C.out.new 0 (by omega), C.out.new 1 (by omega), C.out.new 2 (by omega)⟩, C.out.bel⟩
end Go.Proofs.YtpgkalgnlkfmaaaGreatDoor.Dg
