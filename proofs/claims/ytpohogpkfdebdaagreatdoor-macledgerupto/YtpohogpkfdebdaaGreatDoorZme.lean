/- The program's macs: Clone. A list of bytes gone on with: its block stays, or is a new one. The program's macs: Form. Macs of either algorithm, side by side with ledgers: each call. The program's macs: Wipe. -/
import Derived.Test.YtpohogpkfdebdaaGreatDoorZmd
import Derived.Test.YtpohogpkfdebdaaGreatDoorZga
import Derived.Deep.AppendLies
namespace Go.Proofs.YtpohogpkfdebdaaGreatDoor.Dg
open Go.ChangeShapes Go.WideShapes Go.ChangeAt Go.RowKit
open Go.Proofs.YtpohogpkfdebdaaGreatDoor.By
open Go.Proofs.YtpohogpkfdebdaaGreatDoor.Sh (Blk size_alloc)
/-- A mac's states, in their order. -/
def st3 (a : Bool) (K f : Nat → Int) (m : Nat) : Nat → SK
  | 0 => some (bk a + m, inr a K f)
  | 1 => some (bk a, msk 92 K)
  | _ => some (bk a, msk 54 K)
def oc (a : Bool) (k : Nat) (c : Nat → Nat) : List Value := [.int .i64 (sz a), if 0 < k then iv a (c 0) else .nilIface, if 1 < k then iv a (c 1) else .nilIface, if 2 < k then iv a (c 2) else .nilIface]
/-- A clone that has k states so far. -/
structure CI (a : Bool) (K f : Nat → Int) (m : Nat) (w : World) (k : Nat) (c : Nat → Nat) (W : World) : Prop where
  here : Blk W w.heap.size (oc a k c) 192
  st : ∀ j, j < k → IsD W (c j) a (st3 a K f m j)
  new : ∀ j, j < k → w.heap.size ≤ c j
  ne : ∀ i j, i < j → j < k → c i ≠ c j
  bel : Below w.heap.size w W
def put3 (c : Nat → Nat) (k d : Nat) (j : Nat) : Nat := if j = k then d else c j
theorem oc_set (a : Bool) (k : Nat) (hk : k < 3) (c : Nat → Nat) (d : Nat) : (oc a k c).set (1 + k) (iv a d) = oc a (k + 1) (put3 c k d) := by
  match k, hk with
  | 0, _ => rfl
  | 1, _ => rfl
  | 2, _ => rfl
theorem CI.step {a : Bool} {K f : Nat → Int} {m k : Nat} {w W W1 : World} {c : Nat → Nat} (h : CI a K f m w k c W) (hk : k < 3) (hb : Below W.heap.size W W1) {d : Nat} (hd : W.heap.size ≤ d) (hD : IsD W1 d a (st3 a K f m k)) :
    CI a K f m w (k + 1) (put3 c k d) (W1.setCell ⟨w.heap.size, 1 + k, none⟩ (iv a d)) := by
  have hh := h.here.below hb
  have tm : ∀ {b : Nat} {q : SK}, IsD W1 b a q → IsD (W1.setCell ⟨w.heap.size, 1 + k, none⟩ (iv a d)) b a q := fun {b q} hq => by
    obtain ⟨cs, hc⟩ := hq.blk
    exact hq.kept (Kp.setCell w.heap.size (1 + k) (iv a d)) (fun e => Blk.ne hc hh (by cases a <;> decide) e)
  have lt : ∀ j, j < k → c j < W.heap.size := fun j hj => by obtain ⟨cs, hc⟩ := (h.st j hj).blk; exact hc.lt
  have hz := h.bel.size
  refine ⟨?_, fun j hj => ?_, fun j hj => ?_, fun i j hij hj => ?_, ?_⟩
  · have := hh.set (1 + k) (iv a d)
    rwa [oc_set a k hk c d] at this
  · show IsD _ (if j = k then d else c j) a _
    by_cases e : j = k
    · rw [if_pos e, e]; exact tm hD
    · rw [if_neg e]; exact tm ((h.st j (by omega)).below hb)
  · show w.heap.size ≤ (if j = k then d else c j)
    by_cases e : j = k
    · rw [if_pos e]; omega
    · rw [if_neg e]; exact h.new j (by omega)
  · show (if i = k then d else c i) ≠ (if j = k then d else c j)
    rw [if_neg (by omega)]
    by_cases e : j = k
    · rw [if_pos e]; have := lt i (by omega); omega
    · rw [if_neg e]; exact h.ne i j hij (by omega)
  · exact (below_next h.bel hb).trans ((Kp.setCell w.heap.size (1 + k) (iv a d)).below (Nat.le_trans hz hb.size) (fun j hj e => by have : j = w.heap.size := e; omega))
set_option maxRecDepth 8000 in
set_option maxHeartbeats 4000000 in
theorem clone256 (b : Nat) (K f : Nat → Int) (m b0 b1 b2 : Nat) (w : World) (h : IsMk w b ⟨false, K, m, f, b0, b1, b2⟩) :
    Calls Tryz.prog 146 #[.pointer (some ⟨b, 0, none⟩)] w fun e w' => ∃ c c0 c1 c2, e = .returned (.tuple #[.pointer (some ⟨c, 0, none⟩), .int .i64 0]) ∧ IsMk w' c ⟨false, K, m, f, c0, c1, c2⟩ ∧ (w.heap.size ≤ c ∧ w.heap.size ≤ c0 ∧ w.heap.size ≤ c1 ∧ w.heap.size ≤ c2) ∧ Below w.heap.size w w' := by
  have BS := hid h
  have hlt := h.here.lt
  have x0 : w.cell? ⟨b, 0, none⟩ = some (.int .i64 32) := h.here.cell 0 _ rfl
  have x1 : w.cell? ⟨b, 1, none⟩ = some (.iface 261 (.agg #[.pointer (some ⟨b0, 0, none⟩)])) := h.here.cell 1 _ rfl
  have x2 : w.cell? ⟨b, 2, none⟩ = some (.iface 261 (.agg #[.pointer (some ⟨b1, 0, none⟩)])) := h.here.cell 2 _ rfl
  have x3 : w.cell? ⟨b, 3, none⟩ = some (.iface 261 (.agg #[.pointer (some ⟨b2, 0, none⟩)])) := h.here.cell 3 _ rfl
  have C0 := hid (show CI false K f m w 0 (fun _ => 0) (w.alloc (.cells #[.int .i64 32, .nilIface, .nilIface, .nilIface] 192)) from ⟨Sh.Blk.new w [.int .i64 32, .nilIface, .nilIface, .nilIface] _, fun j hj => by omega, fun j hj => by omega, fun i j hij hj => by omega, below_alloc w _⟩)
  clear h
  go_enter Tryz.func146, Tryz.ntmps146
  go_wp2_with fail
  refine (isNone256 b K f m b0 b1 b2 _ BS.out).mono ?_
  rintro e w1 ⟨rfl, hw1⟩
  subst w1
  go_wp2_with fail
  go_loopw [19] (fun i wr => ∃ k : Nat, k ≤ 3 ∧ i = .int .i64 k ∧ ∃ c, CI false K f m w k c wr) (fun i _ => 3 - (intOf i).toNat)
  case atStart => exact ⟨0, by omega, rfl, _, C0.out⟩
  case round =>
    clear C0 x0 x1 x2 x3
    obtain ⟨k, hk, rfl, c, hci⟩ := hrel
    match k, hk with
    | 0, hk3 =>
      have C := hid hci
      clear hci
      have y1 := C.out.here.cell 1 .nilIface rfl
      have hix := fun (w : World) => show (Instr.index 190 (.agg #[.iface 261 (.agg #[.pointer (some ⟨b0, 0, none⟩)]), .iface 261 (.agg #[.pointer (some ⟨b1, 0, none⟩)]), .iface 261 (.agg #[.pointer (some ⟨b2, 0, none⟩)])]) (.int .i64 0)).run Tryz.prog w = .ok (.iface 261 (.agg #[.pointer (some ⟨b0, 0, none⟩)])) w from by kernel_rfl
      go_wp2_with fail
      go_region_held3 (fun _ => True) (trivial) (first
        | (go_at_call 335; go_must (refine (copyC256 b0 _ _ _ ((BS.out.s0.below C.out.bel).below (below_drewN wr 1))).mono ?_; rintro e w8 ⟨d, hd, rfl, hD, hb8⟩; have C8 := hid (C.out.step (by omega) (below_next (below_drewN wr 1) hb8) (show wr.heap.size ≤ d from hd) hD); have hh := C.out.here.below (below_next (below_drewN wr 1) hb8); have y2 : w8.cell? ⟨w.heap.size, 1, none⟩ = some .nilIface := hh.cell 1 .nilIface rfl; have y3 := hh.frozen 1; clear hd hD hb8 hh)))
      clear y1 y2 y3
      go_wp2
      exact ⟨⟨1, by omega, rfl, _, C8.out⟩, by simp [intOf]⟩
    | 1, hk3 =>
      have C := hid hci
      clear hci
      have y1 := C.out.here.cell 2 .nilIface rfl
      have hix := fun (w : World) => show (Instr.index 190 (.agg #[.iface 261 (.agg #[.pointer (some ⟨b0, 0, none⟩)]), .iface 261 (.agg #[.pointer (some ⟨b1, 0, none⟩)]), .iface 261 (.agg #[.pointer (some ⟨b2, 0, none⟩)])]) (.int .i64 1)).run Tryz.prog w = .ok (.iface 261 (.agg #[.pointer (some ⟨b1, 0, none⟩)])) w from by kernel_rfl
      go_wp2_with fail
      go_region_held3 (fun _ => True) (trivial) (first
        | (go_at_call 335; go_must (refine (copyC256 b1 _ _ _ ((BS.out.s1.below C.out.bel).below (below_drewN wr 1))).mono ?_; rintro e w8 ⟨d, hd, rfl, hD, hb8⟩; have C8 := hid (C.out.step (by omega) (below_next (below_drewN wr 1) hb8) (show wr.heap.size ≤ d from hd) hD); have hh := C.out.here.below (below_next (below_drewN wr 1) hb8); have y2 : w8.cell? ⟨w.heap.size, 2, none⟩ = some .nilIface := hh.cell 2 .nilIface rfl; have y3 := hh.frozen 2; clear hd hD hb8 hh)))
      clear y1 y2 y3
      go_wp2
      exact ⟨⟨2, by omega, rfl, _, C8.out⟩, by simp [intOf]⟩
    | 2, hk3 =>
      have C := hid hci
      clear hci
      have y1 := C.out.here.cell 3 .nilIface rfl
      have hix := fun (w : World) => show (Instr.index 190 (.agg #[.iface 261 (.agg #[.pointer (some ⟨b0, 0, none⟩)]), .iface 261 (.agg #[.pointer (some ⟨b1, 0, none⟩)]), .iface 261 (.agg #[.pointer (some ⟨b2, 0, none⟩)])]) (.int .i64 2)).run Tryz.prog w = .ok (.iface 261 (.agg #[.pointer (some ⟨b2, 0, none⟩)])) w from by kernel_rfl
      go_wp2_with fail
      go_region_held3 (fun _ => True) (trivial) (first
        | (go_at_call 335; go_must (refine (copyC256 b2 _ _ _ ((BS.out.s2.below C.out.bel).below (below_drewN wr 1))).mono ?_; rintro e w8 ⟨d, hd, rfl, hD, hb8⟩; have C8 := hid (C.out.step (by omega) (below_next (below_drewN wr 1) hb8) (show wr.heap.size ≤ d from hd) hD); have hh := C.out.here.below (below_next (below_drewN wr 1) hb8); have y2 : w8.cell? ⟨w.heap.size, 3, none⟩ = some .nilIface := hh.cell 3 .nilIface rfl; have y3 := hh.frozen 3; clear hd hD hb8 hh)))
      clear y1 y2 y3
      go_wp2
      exact ⟨⟨3, by omega, rfl, _, C8.out⟩, by simp [intOf]⟩
    | 3, hk3 =>
      have C := hid hci
      clear hci
      go_wp2
      go_ret2
      exact ⟨_, c 0, c 1, c 2, rfl, ⟨C.out.here, C.out.st 0 (by omega), C.out.st 1 (by omega), C.out.st 2 (by omega), C.out.ne 0 1 (by omega) (by omega), C.out.ne 0 2 (by omega) (by omega), C.out.ne 1 2 (by omega) (by omega), BS.out.fb⟩, ⟨Nat.le_refl _, C.out.new 0 (by omega), C.out.new 1 (by omega), C.out.new 2 (by omega)⟩, C.out.bel⟩
set_option maxRecDepth 8000 in
set_option maxHeartbeats 4000000 in
theorem clone512 (b : Nat) (K f : Nat → Int) (m b0 b1 b2 : Nat) (w : World) (h : IsMk w b ⟨true, K, m, f, b0, b1, b2⟩) :
    Calls Tryz.prog 146 #[.pointer (some ⟨b, 0, none⟩)] w fun e w' => ∃ c c0 c1 c2, e = .returned (.tuple #[.pointer (some ⟨c, 0, none⟩), .int .i64 0]) ∧ IsMk w' c ⟨true, K, m, f, c0, c1, c2⟩ ∧ (w.heap.size ≤ c ∧ w.heap.size ≤ c0 ∧ w.heap.size ≤ c1 ∧ w.heap.size ≤ c2) ∧ Below w.heap.size w w' := by
  have BS := hid h
  have hlt := h.here.lt
  have x0 : w.cell? ⟨b, 0, none⟩ = some (.int .i64 64) := h.here.cell 0 _ rfl
  have x1 : w.cell? ⟨b, 1, none⟩ = some (.iface 266 (.agg #[.pointer (some ⟨b0, 0, none⟩)])) := h.here.cell 1 _ rfl
  have x2 : w.cell? ⟨b, 2, none⟩ = some (.iface 266 (.agg #[.pointer (some ⟨b1, 0, none⟩)])) := h.here.cell 2 _ rfl
  have x3 : w.cell? ⟨b, 3, none⟩ = some (.iface 266 (.agg #[.pointer (some ⟨b2, 0, none⟩)])) := h.here.cell 3 _ rfl
  have C0 := hid (show CI true K f m w 0 (fun _ => 0) (w.alloc (.cells #[.int .i64 64, .nilIface, .nilIface, .nilIface] 192)) from ⟨Sh.Blk.new w [.int .i64 64, .nilIface, .nilIface, .nilIface] _, fun j hj => by omega, fun j hj => by omega, fun i j hij hj => by omega, below_alloc w _⟩)
  clear h
  go_enter Tryz.func146, Tryz.ntmps146
  go_wp2_with fail
  refine (isNone512 b K f m b0 b1 b2 _ BS.out).mono ?_
  rintro e w1 ⟨rfl, hw1⟩
  subst w1
  go_wp2_with fail
  go_loopw [19] (fun i wr => ∃ k : Nat, k ≤ 3 ∧ i = .int .i64 k ∧ ∃ c, CI true K f m w k c wr) (fun i _ => 3 - (intOf i).toNat)
  case atStart => exact ⟨0, by omega, rfl, _, C0.out⟩
  case round =>
    clear C0 x0 x1 x2 x3
    obtain ⟨k, hk, rfl, c, hci⟩ := hrel
    match k, hk with
    | 0, hk3 =>
      have C := hid hci
      clear hci
      have y1 := C.out.here.cell 1 .nilIface rfl
      have hix := fun (w : World) => show (Instr.index 190 (.agg #[.iface 266 (.agg #[.pointer (some ⟨b0, 0, none⟩)]), .iface 266 (.agg #[.pointer (some ⟨b1, 0, none⟩)]), .iface 266 (.agg #[.pointer (some ⟨b2, 0, none⟩)])]) (.int .i64 0)).run Tryz.prog w = .ok (.iface 266 (.agg #[.pointer (some ⟨b0, 0, none⟩)])) w from by kernel_rfl
      go_wp2_with fail
      go_region_held3 (fun _ => True) (trivial) (first
        | (go_at_call 341; go_must (refine (copyC512 b0 _ _ _ ((BS.out.s0.below C.out.bel).below (below_drewN wr 1))).mono ?_; rintro e w8 ⟨d, hd, rfl, hD, hb8⟩; have C8 := hid (C.out.step (by omega) (below_next (below_drewN wr 1) hb8) (show wr.heap.size ≤ d from hd) hD); have hh := C.out.here.below (below_next (below_drewN wr 1) hb8); have y2 : w8.cell? ⟨w.heap.size, 1, none⟩ = some .nilIface := hh.cell 1 .nilIface rfl; have y3 := hh.frozen 1; clear hd hD hb8 hh)))
      clear y1 y2 y3
      go_wp2
      exact ⟨⟨1, by omega, rfl, _, C8.out⟩, by simp [intOf]⟩
    | 1, hk3 =>
      have C := hid hci
      clear hci
      have y1 := C.out.here.cell 2 .nilIface rfl
      have hix := fun (w : World) => show (Instr.index 190 (.agg #[.iface 266 (.agg #[.pointer (some ⟨b0, 0, none⟩)]), .iface 266 (.agg #[.pointer (some ⟨b1, 0, none⟩)]), .iface 266 (.agg #[.pointer (some ⟨b2, 0, none⟩)])]) (.int .i64 1)).run Tryz.prog w = .ok (.iface 266 (.agg #[.pointer (some ⟨b1, 0, none⟩)])) w from by kernel_rfl
      go_wp2_with fail
      go_region_held3 (fun _ => True) (trivial) (first
        | (go_at_call 341; go_must (refine (copyC512 b1 _ _ _ ((BS.out.s1.below C.out.bel).below (below_drewN wr 1))).mono ?_; rintro e w8 ⟨d, hd, rfl, hD, hb8⟩; have C8 := hid (C.out.step (by omega) (below_next (below_drewN wr 1) hb8) (show wr.heap.size ≤ d from hd) hD); have hh := C.out.here.below (below_next (below_drewN wr 1) hb8); have y2 : w8.cell? ⟨w.heap.size, 2, none⟩ = some .nilIface := hh.cell 2 .nilIface rfl; have y3 := hh.frozen 2; clear hd hD hb8 hh)))
      clear y1 y2 y3
      go_wp2
      exact ⟨⟨2, by omega, rfl, _, C8.out⟩, by simp [intOf]⟩
    | 2, hk3 =>
      have C := hid hci
      clear hci
      have y1 := C.out.here.cell 3 .nilIface rfl
      have hix := fun (w : World) => show (Instr.index 190 (.agg #[.iface 266 (.agg #[.pointer (some ⟨b0, 0, none⟩)]), .iface 266 (.agg #[.pointer (some ⟨b1, 0, none⟩)]), .iface 266 (.agg #[.pointer (some ⟨b2, 0, none⟩)])]) (.int .i64 2)).run Tryz.prog w = .ok (.iface 266 (.agg #[.pointer (some ⟨b2, 0, none⟩)])) w from by kernel_rfl
      go_wp2_with fail
      go_region_held3 (fun _ => True) (trivial) (first
        | (go_at_call 341; go_must (refine (copyC512 b2 _ _ _ ((BS.out.s2.below C.out.bel).below (below_drewN wr 1))).mono ?_; rintro e w8 ⟨d, hd, rfl, hD, hb8⟩; have C8 := hid (C.out.step (by omega) (below_next (below_drewN wr 1) hb8) (show wr.heap.size ≤ d from hd) hD); have hh := C.out.here.below (below_next (below_drewN wr 1) hb8); have y2 : w8.cell? ⟨w.heap.size, 3, none⟩ = some .nilIface := hh.cell 3 .nilIface rfl; have y3 := hh.frozen 3; clear hd hD hb8 hh)))
      clear y1 y2 y3
      go_wp2
      exact ⟨⟨3, by omega, rfl, _, C8.out⟩, by simp [intOf]⟩
    | 3, hk3 =>
      have C := hid hci
      clear hci
      go_wp2
      go_ret2
      exact ⟨_, c 0, c 1, c 2, rfl, ⟨C.out.here, C.out.st 0 (by omega), C.out.st 1 (by omega), C.out.st 2 (by omega), C.out.ne 0 1 (by omega) (by omega), C.out.ne 0 2 (by omega) (by omega), C.out.ne 1 2 (by omega) (by omega), BS.out.fb⟩, ⟨Nat.le_refl _, C.out.new 0 (by omega), C.out.new 1 (by omega), C.out.new 2 (by omega)⟩, C.out.bel⟩
end Go.Proofs.YtpohogpkfdebdaaGreatDoor.Dg
namespace Go.Proofs.YtpohogpkfdebdaaGreatDoor.Dg
open Go.ChangeShapes Go.WideShapes Go.ChangeAt Go.RowKit
open Go.Proofs.YtpohogpkfdebdaaGreatDoor.By
open Go.Proofs.YtpohogpkfdebdaaGreatDoor.Sh (Blk size_alloc)
theorem wpList_catS {w : World} {ops : Array Oper} {rest : List Oper} {o : Oper} {a : Act} {Q : Exit → Act → World → Prop} (hgd : o.guard = none) (s x : Operand)
    (ho : o.op = .call { callee := .builtin .append, args := #[s, x], argTypes := #[23, 23] })
    (base n m : Nat) (v u : Value) (f g : Nat → Int) (hs : a.eval s = v) (hv : By.Own w base v n f) (hx : a.eval x = u) (hr : By.RB w u m g) (hn : n + m ≤ 140737488355328) (hb : base ≤ w.heap.size)
    (h : ∀ v' w', By.Own w' base v' (n + m) (cat n f g) → Kp (fun k => v.ownBlock = some k) w w' → SameOrNew w v v' → wpList Tryz.prog ops Q rest (a.put o.dst v') w') : wpList Tryz.prog ops Q (o :: rest) a w := by
  obtain ⟨hg, ad, cap, rfl, h1, h2, hc⟩ := hr
  obtain ⟨i0, hi, hz0, hz1, hz2⟩ := info_parts info5
  have hcat : bl n f ++ bl m g = bl (n + m) (cat n f g) := bl_append n m f g
  cases ad with
  | none =>
    have hm0 : m = 0 := by rcases hc with ⟨h, _⟩ | ⟨_, _, h, _⟩; exact h; cases h
    have hc0 : cap = 0 := by rcases hc with ⟨_, h⟩ | ⟨_, _, h, _⟩; exact h rfl; cases h
    subst hm0 hc0
    refine wpList_append_own_none hgd s x 23 ho base 5 i0 1 Tryz.underlying23 hi _ _ _ hs hv.2 hx ?_
    refine h v w ⟨Sg.cat_bound hv.1 hg, ?_⟩ (Kp.refl _ _) (.inl rfl)
    rw [← hcat]; simpa [bl] using hv.2
  | some ad =>
    have HC : ∀ j u, (bl m g)[j]? = some u → w.cell? (ad.add j) = some u := by
      intro j u hj
      obtain ⟨hj1, rfl⟩ := bl_get_inv _ _ _ _ hj
      rcases hc with ⟨h, _⟩ | ⟨b, off, h, hc⟩
      · omega
      · cases h; rw [By.add_plain]; exact hc j hj1
    have hu := hv.2
    have grows : ∀ (ao : Option Addr) (cp : Nat), v = .slice ao n cp → (ao = none → n = 0 ∧ cp = 0) → (∀ b, ao = some b → ∀ j u, (bl n f)[j]? = some u → w.cell? (b.add j) = some u) → cp < n + m → wpList Tryz.prog ops Q (o :: rest) a w := by
      intro ao cp hu' hnone hcells hcap
      refine wpList_append_grows _ hgd s x 23 ho 5 i0 (.int .u8 0) 1 1 Tryz.underlying23 hi hz0 hz1 hz2 rfl (by decide) ao n cp (bl n f) (hs.trans hu') hnone hu.1 hcells ad m cap (bl m g) hx (by rw [bl_length, Nat.mul_one]) HC (bl_one m g) hcap (by simp [maxLen]; omega) (by omega) ?_
      intro u' w' hown hgr
      refine h u' w' ⟨Sg.cat_bound hv.1 hg, ?_⟩ ((Kp.of_grown hgr).mono fun k _ e => by cases e) (.inr fun g hg => (hown.lt g hg).1)
      rw [← hcat]
      refine ⟨hown.1, ?_⟩
      rcases hown.2 with h' | ⟨g, c, cur, e1, e2, e3⟩
      · exact .inl h'
      · exact .inr ⟨g, c, cur, e1, by omega, e3⟩
    rcases hu.2 with ⟨hun, hn0⟩ | ⟨gb, cp, cur, hun, hgb, hgg, hnc, hcm, hcs, ht⟩
    · by_cases hm : m = 0
      · refine wpList_append_own _ hgd s x 23 ho base 5 i0 (.int .u8 0) 1 1 Tryz.underlying23 hi hz0 hz1 hz2 rfl (by decide) v n (bl n f) hs hv.2 ad m cap (bl m g) hx (by rw [bl_length]; omega) HC (bl_one m g) (by simp [maxLen]; omega) (by omega) hb ?_
        intro v' w' hown hgrow hnil
        have e := hnil.2 ⟨hun, hm⟩
        exact h v' w' ⟨Sg.cat_bound hv.1 hg, by rw [← hcat]; exact hown⟩ (Kp.of_grown hgrow) (.inl (by rw [e, hun]))
      · exact grows none 0 (by rw [hun, hn0]) (fun _ => ⟨hn0, rfl⟩) (fun b hb => by cases hb) (by omega)
    · by_cases hcap : n + m ≤ cp
      · subst hun
        refine wpList_append_fits _ hgd s x 23 ho base 5 i0 1 Tryz.underlying23 hi hz1 gb n cp (bl n f) hs hu ad m cap (bl m g) hx (by rw [bl_length, Nat.mul_one]) HC (bl_one m g) hcap ?_
        intro w' hown hgr
        exact h _ w' ⟨Sg.cat_bound hv.1 hg, by rw [← hcat]; exact hown⟩ (Kp.of_grown hgr) (.inl rfl)
      · subst hun
        refine grows (some ⟨gb, 0, none⟩) cp rfl (fun h => by cases h) (fun b hb => ?_) (by omega)
        cases hb
        exact hu.cells rfl
end Go.Proofs.YtpohogpkfdebdaaGreatDoor.Dg
namespace Go.Proofs.YtpohogpkfdebdaaGreatDoor.Dg
open Go.ChangeShapes Go.WideShapes Go.ChangeAt Go.RowKit
open Go.Proofs.YtpohogpkfdebdaaGreatDoor.By
open Go.Proofs.YtpohogpkfdebdaaGreatDoor.Sh (Blk size_alloc)
def fm3 (a : Bool) (K f : Nat → Int) (m : Nat) : Nat → Nat → Int
  | 0 => nof
  | 1 => formf a (bk a + m) (inr a K f)
  | 2 => cat (fmn a) (formf a (bk a + m) (inr a K f)) (formf a (bk a) (msk 92 K))
  | _ => mfm a K m f
theorem fmf_b (a : Bool) (m : Nat) (f : Nat → Int) (hf : BB f) : BB (formf a m f) := by
  cases a
  · exact Sg.cat_bound (Sg.cat_bound (Sh.lf_bound _) (fun _ => Wd.beByte_bound _ _ _)) (fun i => Sh.wt_bound m f hf i)
  · exact Sg.cat_bound (Sg.cat_bound (Sg.lf_bound _) (fun _ => Wd.beByte_bound _ _ _)) (fun i => Sg.wt_bound m f hf i)
theorem fm3_b (a : Bool) (K f : Nat → Int) (m k : Nat) (hf : BB f) : BB (fm3 a K f m k) := by
  match k with
  | 0 => exact nof_b
  | 1 => exact fmf_b a _ _ (inr_b hf)
  | 2 => exact Sg.cat_bound (fmf_b a _ _ (inr_b hf)) (fmf_b a _ _ (msk_b _ _))
  | k + 3 => exact Sg.cat_bound (Sg.cat_bound (fmf_b a _ _ (inr_b hf)) (fmf_b a _ _ (msk_b _ _))) (fmf_b a _ _ (msk_b _ _))
theorem fm3_next0 (a : Bool) (K f : Nat → Int) (m : Nat) (i : Nat) (_ : i < 0 * fmn a + fmn a) : cat (0 * fmn a) (fm3 a K f m 0) (formf a (bk a + m) (inr a K f)) i = fm3 a K f m 1 i := by
  show (if i < 0 * fmn a then _ else formf a (bk a + m) (inr a K f) (i - 0 * fmn a)) = _
  rw [Nat.zero_mul, if_neg (by omega), Nat.sub_zero]; rfl
theorem fm3_next1 (a : Bool) (K f : Nat → Int) (m : Nat) (i : Nat) (_ : i < 1 * fmn a + fmn a) : cat (1 * fmn a) (fm3 a K f m 1) (formf a (bk a) (msk 92 K)) i = fm3 a K f m 2 i := by rw [Nat.one_mul]; rfl
theorem fm3_next2 (a : Bool) (K f : Nat → Int) (m : Nat) (i : Nat) (_ : i < 2 * fmn a + fmn a) : cat (2 * fmn a) (fm3 a K f m 2) (formf a (bk a) (msk 54 K)) i = fm3 a K f m 3 i := by rw [Nat.two_mul]; rfl
set_option maxRecDepth 8000 in
set_option maxHeartbeats 4000000 in
theorem form256 (b : Nat) (K f : Nat → Int) (m b0 b1 b2 : Nat) (w : World) (h : IsMk w b ⟨false, K, m, f, b0, b1, b2⟩) :
    Calls Tryz.prog 148 #[.pointer (some ⟨b, 0, none⟩)] w fun e w' => ∃ v, e = .returned v ∧ By.Own w' w.heap.size v 312 (mfm false K m f) ∧ Below w.heap.size w w' := by
  have BS := hid h
  have hlt := h.here.lt
  have x1 : w.cell? ⟨b, 1, none⟩ = some (.iface 261 (.agg #[.pointer (some ⟨b0, 0, none⟩)])) := h.here.cell 1 _ rfl
  have x2 : w.cell? ⟨b, 2, none⟩ = some (.iface 261 (.agg #[.pointer (some ⟨b1, 0, none⟩)])) := h.here.cell 2 _ rfl
  have x3 : w.cell? ⟨b, 3, none⟩ = some (.iface 261 (.agg #[.pointer (some ⟨b2, 0, none⟩)])) := h.here.cell 3 _ rfl
  clear h
  go_enter Tryz.func148, Tryz.ntmps148
  go_wp2_with fail
  refine (isNone256 b K f m b0 b1 b2 _ BS.out).mono ?_
  rintro e w1 ⟨rfl, hw1⟩
  subst w1
  go_wp2_with fail
  go_loopw [3, 12] (fun v i wr => ∃ k : Nat, k ≤ 3 ∧ i = .int .i64 k ∧ By.Own wr w.heap.size v (k * 104) (fm3 false K f m k) ∧ Below w.heap.size w wr) (fun _ i _ => 3 - (intOf i).toNat)
  case atStart => exact ⟨0, by omega, rfl, own_nil _ _ _ nof_b, Below.refl _ _⟩
  case round =>
    clear x1 x2 x3
    obtain ⟨k, hk, rfl, ho, hb⟩ := hrel
    match k, hk with
    | 0, hk3 =>
      have O := hid ho
      have B := hid hb
      clear ho hb
      have hix := fun (w : World) => show (Instr.index 190 (.agg #[.iface 261 (.agg #[.pointer (some ⟨b0, 0, none⟩)]), .iface 261 (.agg #[.pointer (some ⟨b1, 0, none⟩)]), .iface 261 (.agg #[.pointer (some ⟨b2, 0, none⟩)])]) (.int .i64 0)).run Tryz.prog w = .ok (.iface 261 (.agg #[.pointer (some ⟨b0, 0, none⟩)])) w from by kernel_rfl
      go_wp2_with fail
      refine (dform false b0 (64 + m) (inr false K f) _ (BS.out.s0.below B.out)).mono ?_
      rintro e w2 ⟨u2, rfl, hu, hb2⟩
      have U := hid hu.reads
      have O2 := hid (own_below O.out hb2)
      have B2 := hid (below_next B.out hb2)
      clear hu hb2 O B hix
      go_wp2_with (at_builtin; go_must (refine Sg.wpList_cat rfl _ _ rfl w.heap.size (0 * 104) 104 _ _ (fm3 false K f m 0) (formf false (64 + m) (inr false K f)) rfl O2.out rfl U.out (by omega) B2.out.size ?_))
      intro u3 w3 h3 hg3
      have O3 := hid (own_congr h3 (fm3_b false K f m 1 BS.out.fb) (fm3_next0 false K f m))
      have B3 := hid (Sh.below_grow B2.out B2.out.size O2.out hg3)
      clear h3 hg3 O2 B2 U
      go_wp2
      exact ⟨⟨1, by omega, rfl, O3.out, B3.out⟩, by simp [intOf]⟩
    | 1, hk3 =>
      have O := hid ho
      have B := hid hb
      clear ho hb
      have hix := fun (w : World) => show (Instr.index 190 (.agg #[.iface 261 (.agg #[.pointer (some ⟨b0, 0, none⟩)]), .iface 261 (.agg #[.pointer (some ⟨b1, 0, none⟩)]), .iface 261 (.agg #[.pointer (some ⟨b2, 0, none⟩)])]) (.int .i64 1)).run Tryz.prog w = .ok (.iface 261 (.agg #[.pointer (some ⟨b1, 0, none⟩)])) w from by kernel_rfl
      go_wp2_with fail
      refine (dform false b1 64 (msk 92 K) _ (BS.out.s1.below B.out)).mono ?_
      rintro e w2 ⟨u2, rfl, hu, hb2⟩
      have U := hid hu.reads
      have O2 := hid (own_below O.out hb2)
      have B2 := hid (below_next B.out hb2)
      clear hu hb2 O B hix
      go_wp2_with (at_builtin; go_must (refine Sg.wpList_cat rfl _ _ rfl w.heap.size (1 * 104) 104 _ _ (fm3 false K f m 1) (formf false 64 (msk 92 K)) rfl O2.out rfl U.out (by omega) B2.out.size ?_))
      intro u3 w3 h3 hg3
      have O3 := hid (own_congr h3 (fm3_b false K f m 2 BS.out.fb) (fm3_next1 false K f m))
      have B3 := hid (Sh.below_grow B2.out B2.out.size O2.out hg3)
      clear h3 hg3 O2 B2 U
      go_wp2
      exact ⟨⟨2, by omega, rfl, O3.out, B3.out⟩, by simp [intOf]⟩
    | 2, hk3 =>
      have O := hid ho
      have B := hid hb
      clear ho hb
      have hix := fun (w : World) => show (Instr.index 190 (.agg #[.iface 261 (.agg #[.pointer (some ⟨b0, 0, none⟩)]), .iface 261 (.agg #[.pointer (some ⟨b1, 0, none⟩)]), .iface 261 (.agg #[.pointer (some ⟨b2, 0, none⟩)])]) (.int .i64 2)).run Tryz.prog w = .ok (.iface 261 (.agg #[.pointer (some ⟨b2, 0, none⟩)])) w from by kernel_rfl
      go_wp2_with fail
      refine (dform false b2 64 (msk 54 K) _ (BS.out.s2.below B.out)).mono ?_
      rintro e w2 ⟨u2, rfl, hu, hb2⟩
      have U := hid hu.reads
      have O2 := hid (own_below O.out hb2)
      have B2 := hid (below_next B.out hb2)
      clear hu hb2 O B hix
      go_wp2_with (at_builtin; go_must (refine Sg.wpList_cat rfl _ _ rfl w.heap.size (2 * 104) 104 _ _ (fm3 false K f m 2) (formf false 64 (msk 54 K)) rfl O2.out rfl U.out (by omega) B2.out.size ?_))
      intro u3 w3 h3 hg3
      have O3 := hid (own_congr h3 (fm3_b false K f m 3 BS.out.fb) (fm3_next2 false K f m))
      have B3 := hid (Sh.below_grow B2.out B2.out.size O2.out hg3)
      clear h3 hg3 O2 B2 U
      go_wp2
      exact ⟨⟨3, by omega, rfl, O3.out, B3.out⟩, by simp [intOf]⟩
    | 3, hk3 =>
      have O := hid ho
      have B := hid hb
      clear ho hb
      go_wp2
      go_ret
      exact ⟨_, rfl, O.out, B.out⟩
set_option maxRecDepth 8000 in
set_option maxHeartbeats 4000000 in
theorem form512 (b : Nat) (K f : Nat → Int) (m b0 b1 b2 : Nat) (w : World) (h : IsMk w b ⟨true, K, m, f, b0, b1, b2⟩) :
    Calls Tryz.prog 148 #[.pointer (some ⟨b, 0, none⟩)] w fun e w' => ∃ v, e = .returned v ∧ By.Own w' w.heap.size v 600 (mfm true K m f) ∧ Below w.heap.size w w' := by
  have BS := hid h
  have hlt := h.here.lt
  have x1 : w.cell? ⟨b, 1, none⟩ = some (.iface 266 (.agg #[.pointer (some ⟨b0, 0, none⟩)])) := h.here.cell 1 _ rfl
  have x2 : w.cell? ⟨b, 2, none⟩ = some (.iface 266 (.agg #[.pointer (some ⟨b1, 0, none⟩)])) := h.here.cell 2 _ rfl
  have x3 : w.cell? ⟨b, 3, none⟩ = some (.iface 266 (.agg #[.pointer (some ⟨b2, 0, none⟩)])) := h.here.cell 3 _ rfl
  clear h
  go_enter Tryz.func148, Tryz.ntmps148
  go_wp2_with fail
  refine (isNone512 b K f m b0 b1 b2 _ BS.out).mono ?_
  rintro e w1 ⟨rfl, hw1⟩
  subst w1
  go_wp2_with fail
  go_loopw [3, 12] (fun v i wr => ∃ k : Nat, k ≤ 3 ∧ i = .int .i64 k ∧ By.Own wr w.heap.size v (k * 200) (fm3 true K f m k) ∧ Below w.heap.size w wr) (fun _ i _ => 3 - (intOf i).toNat)
  case atStart => exact ⟨0, by omega, rfl, own_nil _ _ _ nof_b, Below.refl _ _⟩
  case round =>
    clear x1 x2 x3
    obtain ⟨k, hk, rfl, ho, hb⟩ := hrel
    match k, hk with
    | 0, hk3 =>
      have O := hid ho
      have B := hid hb
      clear ho hb
      have hix := fun (w : World) => show (Instr.index 190 (.agg #[.iface 266 (.agg #[.pointer (some ⟨b0, 0, none⟩)]), .iface 266 (.agg #[.pointer (some ⟨b1, 0, none⟩)]), .iface 266 (.agg #[.pointer (some ⟨b2, 0, none⟩)])]) (.int .i64 0)).run Tryz.prog w = .ok (.iface 266 (.agg #[.pointer (some ⟨b0, 0, none⟩)])) w from by kernel_rfl
      go_wp2_with fail
      refine (dform true b0 (128 + m) (inr true K f) _ (BS.out.s0.below B.out)).mono ?_
      rintro e w2 ⟨u2, rfl, hu, hb2⟩
      have U := hid hu.reads
      have O2 := hid (own_below O.out hb2)
      have B2 := hid (below_next B.out hb2)
      clear hu hb2 O B hix
      go_wp2_with (at_builtin; go_must (refine Sg.wpList_cat rfl _ _ rfl w.heap.size (0 * 200) 200 _ _ (fm3 true K f m 0) (formf true (128 + m) (inr true K f)) rfl O2.out rfl U.out (by omega) B2.out.size ?_))
      intro u3 w3 h3 hg3
      have O3 := hid (own_congr h3 (fm3_b true K f m 1 BS.out.fb) (fm3_next0 true K f m))
      have B3 := hid (Sh.below_grow B2.out B2.out.size O2.out hg3)
      clear h3 hg3 O2 B2 U
      go_wp2
      exact ⟨⟨1, by omega, rfl, O3.out, B3.out⟩, by simp [intOf]⟩
    | 1, hk3 =>
      have O := hid ho
      have B := hid hb
      clear ho hb
      have hix := fun (w : World) => show (Instr.index 190 (.agg #[.iface 266 (.agg #[.pointer (some ⟨b0, 0, none⟩)]), .iface 266 (.agg #[.pointer (some ⟨b1, 0, none⟩)]), .iface 266 (.agg #[.pointer (some ⟨b2, 0, none⟩)])]) (.int .i64 1)).run Tryz.prog w = .ok (.iface 266 (.agg #[.pointer (some ⟨b1, 0, none⟩)])) w from by kernel_rfl
      go_wp2_with fail
      refine (dform true b1 128 (msk 92 K) _ (BS.out.s1.below B.out)).mono ?_
      rintro e w2 ⟨u2, rfl, hu, hb2⟩
      have U := hid hu.reads
      have O2 := hid (own_below O.out hb2)
      have B2 := hid (below_next B.out hb2)
      clear hu hb2 O B hix
      go_wp2_with (at_builtin; go_must (refine Sg.wpList_cat rfl _ _ rfl w.heap.size (1 * 200) 200 _ _ (fm3 true K f m 1) (formf true 128 (msk 92 K)) rfl O2.out rfl U.out (by omega) B2.out.size ?_))
      intro u3 w3 h3 hg3
      have O3 := hid (own_congr h3 (fm3_b true K f m 2 BS.out.fb) (fm3_next1 true K f m))
      have B3 := hid (Sh.below_grow B2.out B2.out.size O2.out hg3)
      clear h3 hg3 O2 B2 U
      go_wp2
      exact ⟨⟨2, by omega, rfl, O3.out, B3.out⟩, by simp [intOf]⟩
    | 2, hk3 =>
      have O := hid ho
      have B := hid hb
      clear ho hb
      have hix := fun (w : World) => show (Instr.index 190 (.agg #[.iface 266 (.agg #[.pointer (some ⟨b0, 0, none⟩)]), .iface 266 (.agg #[.pointer (some ⟨b1, 0, none⟩)]), .iface 266 (.agg #[.pointer (some ⟨b2, 0, none⟩)])]) (.int .i64 2)).run Tryz.prog w = .ok (.iface 266 (.agg #[.pointer (some ⟨b2, 0, none⟩)])) w from by kernel_rfl
      go_wp2_with fail
      refine (dform true b2 128 (msk 54 K) _ (BS.out.s2.below B.out)).mono ?_
      rintro e w2 ⟨u2, rfl, hu, hb2⟩
      have U := hid hu.reads
      have O2 := hid (own_below O.out hb2)
      have B2 := hid (below_next B.out hb2)
      clear hu hb2 O B hix
      go_wp2_with (at_builtin; go_must (refine Sg.wpList_cat rfl _ _ rfl w.heap.size (2 * 200) 200 _ _ (fm3 true K f m 2) (formf true 128 (msk 54 K)) rfl O2.out rfl U.out (by omega) B2.out.size ?_))
      intro u3 w3 h3 hg3
      have O3 := hid (own_congr h3 (fm3_b true K f m 3 BS.out.fb) (fm3_next2 true K f m))
      have B3 := hid (Sh.below_grow B2.out B2.out.size O2.out hg3)
      clear h3 hg3 O2 B2 U
      go_wp2
      exact ⟨⟨3, by omega, rfl, O3.out, B3.out⟩, by simp [intOf]⟩
    | 3, hk3 =>
      have O := hid ho
      have B := hid hb
      clear ho hb
      go_wp2
      go_ret
      exact ⟨_, rfl, O.out, B.out⟩
end Go.Proofs.YtpohogpkfdebdaaGreatDoor.Dg
namespace Go.Proofs.YtpohogpkfdebdaaGreatDoor.Dg
open Go.ChangeShapes Go.WideShapes Go.ChangeAt Go.RowKit
open Go.Proofs.YtpohogpkfdebdaaGreatDoor.By
open Go.Proofs.YtpohogpkfdebdaaGreatDoor.Sh (Blk size_alloc)
theorem newM (a : Bool) (n : Nat) (v : Value) (g : Nat → Int) (lo : Option Nat) (L : List Rn) (S : Nat → Prop) (w : World) (hk : KT w) (hS0 : ¬ S 1) (hS1 : ¬ S 3) (hl : LG S w w lo L) (hp : Pos L)
    (hr : ∀ w', Kp S w w' → By.RB w' v n g) (hn : n ≤ 5000000) (hroom : tq L ≤ 800000000) :
    Calls Tryz.prog 115 #[lpv lo, .int .u8 (an a), v] w fun e w' => ∃ b b0 b1 b2, e = .returned (.tuple #[.pointer (some ⟨b, 0, none⟩), .int .i64 0]) ∧ IsMk w' b ⟨a, kb a n g, 0, nof, b0, b1, b2⟩ ∧ (w.heap.size ≤ b ∧ w.heap.size ≤ b0 ∧ w.heap.size ≤ b1 ∧ w.heap.size ≤ b2) ∧ LG S w w' lo (kev a L n) ∧ Kp S w w' := by
  cases a
  · exact new256 n v g lo L S w hk hS0 hS1 hl hp hr (by omega) (by omega)
  · exact new512 n v g lo L S w hk hS0 hS1 hl hp hr (by omega) (by omega)
theorem writeM (b : Nat) (x : MB) (n : Nat) (v : Value) (g : Nat → Int) (lo : Option Nat) (L : List Rn) (S : Nat → Prop) (w : World) (h : IsMk w b x) (hk : KT w) (hS0 : ¬ S 1) (hS1 : ¬ S 3) (hSb : S x.b0) (hnb : ¬ S b) (hn1 : ¬ S x.b1) (hn2 : ¬ S x.b2) (hl : LG S w w lo L) (hp : Pos L)
    (hr : ∀ w', Kp S w w' → By.RB w' v n g) (hmn : x.m + n ≤ 5500000) (hroom : tq L ≤ 800000000) :
    Calls Tryz.prog 143 #[.pointer (some ⟨b, 0, none⟩), lpv lo, v] w fun e w' => e = .returned (.int .i64 0) ∧ IsMk w' b ⟨x.a, x.K, x.m + n, cat x.m x.f g, x.b0, x.b1, x.b2⟩ ∧ LG S w w' lo (evs x.a L ((x.m + n) / bk x.a - x.m / bk x.a)) ∧ Kp S w w' := by
  obtain ⟨a, K, m, f, b0, b1, b2⟩ := x
  cases a
  · exact write256 b K f g m n b0 b1 b2 v lo L S w h hk hS0 hS1 hSb hnb hn1 hn2 hl hp hr (by have h : m + n ≤ 5500000 := hmn; omega) (by have h : m + n ≤ 5500000 := hmn; omega)
  · exact write512 b K f g m n b0 b1 b2 v lo L S w h hk hS0 hS1 hSb hnb hn1 hn2 hl hp hr (by have h : m + n ≤ 5500000 := hmn; omega) (by have h : m + n ≤ 5500000 := hmn; omega)
theorem sumM (b : Nat) (x : MB) (lo : Option Nat) (L : List Rn) (S : Nat → Prop) (w : World) (h : IsMk w b x) (hk : KT w) (hS0 : ¬ S 1) (hS1 : ¬ S 3) (hl : LG S w w lo L) (hp : Pos L) (hmm : x.m ≤ 4900000) (hroom : tq L ≤ 800000000) :
    Calls Tryz.prog 144 #[.pointer (some ⟨b, 0, none⟩), lpv lo] w fun e w' => ∃ v, e = .returned (.tuple #[v, .int .i64 0]) ∧ By.Own w' w.heap.size v (sz x.a) (hm x.a x.K x.m x.f) ∧ LG S w w' lo (sev x.a L x.m) ∧ Kp S w w' ∧ Kl w w' := by
  obtain ⟨a, K, m, f, b0, b1, b2⟩ := x
  cases a
  · exact sum256 b K f m b0 b1 b2 lo L S w h hk hS0 hS1 hl hp (by have h : m ≤ 4900000 := hmm; omega) (by omega)
  · exact sum512 b K f m b0 b1 b2 lo L S w h hk hS0 hS1 hl hp (by have h : m ≤ 4900000 := hmm; omega) (by omega)
theorem cloneM (b : Nat) (x : MB) (w : World) (h : IsMk w b x) :
    Calls Tryz.prog 146 #[.pointer (some ⟨b, 0, none⟩)] w fun e w' => ∃ c c0 c1 c2, e = .returned (.tuple #[.pointer (some ⟨c, 0, none⟩), .int .i64 0]) ∧ IsMk w' c ⟨x.a, x.K, x.m, x.f, c0, c1, c2⟩ ∧ (w.heap.size ≤ c ∧ w.heap.size ≤ c0 ∧ w.heap.size ≤ c1 ∧ w.heap.size ≤ c2) ∧ Below w.heap.size w w' := by
  obtain ⟨a, K, m, f, b0, b1, b2⟩ := x
  cases a
  · exact clone256 b K f m b0 b1 b2 w h
  · exact clone512 b K f m b0 b1 b2 w h
def fm3n : Bool → Nat | false => 312 | true => 600
theorem formM (b : Nat) (x : MB) (w : World) (h : IsMk w b x) :
    Calls Tryz.prog 148 #[.pointer (some ⟨b, 0, none⟩)] w fun e w' => ∃ v, e = .returned v ∧ By.Own w' w.heap.size v (fm3n x.a) (mfm x.a x.K x.m x.f) ∧ Below w.heap.size w w' := by
  obtain ⟨a, K, m, f, b0, b1, b2⟩ := x
  cases a
  · exact form256 b K f m b0 b1 b2 w h
  · exact form512 b K f m b0 b1 b2 w h
section
variable {w0 W : World} {B : Nat} {sts s1 s2 : List EM} {leds l1 l2 : List LE} {b lb : Nat} {x : MB} {rv : Value} {L : List Rn}
theorem GM.mid (h : GM w0 B (s1 ++ (b, some x) :: s2) leds W) : IsMk W b x := (h.st (b, some x) (by simp)).1
theorem GM.midL (h : GM w0 B sts (l1 ++ ⟨true, lb, rv, L⟩ :: l2) W) : Led W lb rv L ∧ ∀ j, SE ⟨true, lb, rv, L⟩ j → B ≤ j := h.led ⟨true, lb, rv, L⟩ (by simp)
theorem GM.no (h : GM w0 B sts (l1 ++ ⟨true, lb, rv, L⟩ :: l2) W) : ¬ SE ⟨true, lb, rv, L⟩ 1 ∧ ¬ SE ⟨true, lb, rv, L⟩ 3 := by
  have h1 := h.h1
  exact ⟨fun e => by have := h.midL.2 1 e; omega, fun e => by have := h.midL.2 3 e; omega⟩
theorem GM.lg (h : GM w0 B sts (l1 ++ ⟨true, lb, rv, L⟩ :: l2) W) : LG (SE ⟨true, lb, rv, L⟩) W W (some lb) L := ⟨.inl rfl, rv, h.midL.1, fun _ hg _ => .inr hg⟩
theorem lg_led {S : Nat → Prop} {W W' : World} {L' : List Rn} (h : LG S W W' (some lb) L') : ∃ rv', Led W' lb rv' L' ∧ ∀ g, rv'.ownBlock = some g → g < W.heap.size → S g := by
  obtain ⟨_, rv', h1, h2⟩ := h
  exact ⟨rv', h1, h2⟩
/-- A ledger goes on. -/
theorem GM.goL (h : GM w0 B sts (l1 ++ ⟨true, lb, rv, L⟩ :: l2) W) {W' : World} {L' : List Rn} (hl : LG (SE ⟨true, lb, rv, L⟩) W W' (some lb) L') (hk : Kp (SE ⟨true, lb, rv, L⟩) W W') : ∃ rv', GM w0 B sts (l1 ++ ⟨true, lb, rv', L'⟩ :: l2) W' ∧ Ko W W' := by
  obtain ⟨rv', h1, h2⟩ := lg_led hl
  refine ⟨rv', h.turnL (e' := ⟨true, lb, rv', L'⟩) hk (fun j hj _ => .inl hj) h1 (fun j hj => ?_), fun g cs t hg ht => hg.kept hk (fun hs => ?_)⟩
  · rcases hj with e | e
    · exact .inl (.inl e)
    · by_cases hlt : j < W.heap.size
      · exact .inl (h2 j e hlt)
      · exact .inr (by omega)
  · obtain ⟨c', t', hb', ht'⟩ := (h.led ⟨true, lb, rv, L⟩ (by simp)).1.kind hs
    exact Blk.ne hg hb' (oth_l ht ht') rfl
theorem fm_new {V : World} {c c0 c1 c2 : Nat} {a : Bool} {K f : Nat → Int} {m : Nat} (h : V.heap.size ≤ c ∧ V.heap.size ≤ c0 ∧ V.heap.size ≤ c1 ∧ V.heap.size ≤ c2) : ∀ j, FM (c, some ⟨a, K, m, f, c0, c1, c2⟩) j → V.heap.size ≤ j := fun j hj => by
  rcases hj with e | ⟨y, e, hy⟩
  · rw [e]; exact h.1
  · cases e
    rcases hy with rfl | rfl | rfl
    · exact h.2.1
    · exact h.2.2.1
    · exact h.2.2.2
/-- New. -/
theorem GM.new (h : GM w0 B sts (l1 ++ ⟨true, lb, rv, L⟩ :: l2) W) (a : Bool) (n : Nat) (v : Value) (g : Nat → Int) (hr : ∀ w', Kp (SE ⟨true, lb, rv, L⟩) W w' → By.RB w' v n g) (hn : n ≤ 5000000) (hroom : tq L ≤ 800000000) :
    Calls Tryz.prog 115 #[.pointer (some ⟨lb, 0, none⟩), .int .u8 (an a), v] W fun e w' => ∃ b b0 b1 b2 rv', e = .returned (.tuple #[.pointer (some ⟨b, 0, none⟩), .int .i64 0]) ∧ GM w0 B (sts ++ [(b, some ⟨a, kb a n g, 0, nof, b0, b1, b2⟩)]) (l1 ++ ⟨true, lb, rv', kev a L n⟩ :: l2) w' ∧ Ko W w' ∧ W.heap.size ≤ b := by
  refine (newM a n v g (some lb) L (SE ⟨true, lb, rv, L⟩) W h.kt h.no.1 h.no.2 h.lg h.midL.1.pos hr hn hroom).mono ?_
  rintro e w' ⟨b, b0, b1, b2, rfl, h1, h2, h3, h4⟩
  obtain ⟨rv', g1, g2⟩ := h.goL h3 h4
  exact ⟨b, b0, b1, b2, rv', rfl, g1.add (p := (b, some ⟨a, kb a n g, 0, nof, b0, b1, b2⟩)) (V := W) (fun q hq => (h.st q hq).1) h.hB h1 (fm_new h2), g2, h2.1⟩
/-- Sum. -/
theorem GM.sum (h : GM w0 B (s1 ++ (b, some x) :: s2) (l1 ++ ⟨true, lb, rv, L⟩ :: l2) W) (hmm : x.m ≤ 4900000) (hroom : tq L ≤ 800000000) :
    Calls Tryz.prog 144 #[.pointer (some ⟨b, 0, none⟩), .pointer (some ⟨lb, 0, none⟩)] W fun e w' => ∃ v rv', e = .returned (.tuple #[v, .int .i64 0]) ∧ By.Own w' W.heap.size v (sz x.a) (hm x.a x.K x.m x.f) ∧ GM w0 B (s1 ++ (b, some x) :: s2) (l1 ++ ⟨true, lb, rv', sev x.a L x.m⟩ :: l2) w' ∧ Ko W w' := by
  refine (sumM b x (some lb) L (SE ⟨true, lb, rv, L⟩) W h.mid h.kt h.no.1 h.no.2 h.lg h.midL.1.pos hmm hroom).mono ?_
  rintro e w' ⟨v, rfl, g1, g2, g3, -⟩
  obtain ⟨rv', k1, k2⟩ := h.goL g2 g3
  exact ⟨v, rv', rfl, g1, k1, k2⟩
/-- Clone. -/
theorem GM.clone (h : GM w0 B (s1 ++ (b, some x) :: s2) leds W) :
    Calls Tryz.prog 146 #[.pointer (some ⟨b, 0, none⟩)] W fun e w' => ∃ c c0 c1 c2, e = .returned (.tuple #[.pointer (some ⟨c, 0, none⟩), .int .i64 0]) ∧ GM w0 B ((s1 ++ (b, some x) :: s2) ++ [(c, some ⟨x.a, x.K, x.m, x.f, c0, c1, c2⟩)]) leds w' ∧ Below W.heap.size W w' ∧ W.heap.size ≤ c := by
  refine (cloneM b x W h.mid).mono ?_
  rintro e w' ⟨c, c0, c1, c2, rfl, g1, g2, g3⟩
  exact ⟨c, c0, c1, c2, rfl, (h.below g3).add (p := (c, some ⟨x.a, x.K, x.m, x.f, c0, c1, c2⟩)) (V := W) (fun q hq => (h.st q hq).1) h.hB g1 (fm_new g2), g3, g2.1⟩
end
end Go.Proofs.YtpohogpkfdebdaaGreatDoor.Dg
namespace Go.Proofs.YtpohogpkfdebdaaGreatDoor.Dg
open Go.ChangeShapes Go.WideShapes Go.ChangeAt Go.RowKit
open Go.Proofs.YtpohogpkfdebdaaGreatDoor.By
open Go.Proofs.YtpohogpkfdebdaaGreatDoor.Sh (Blk size_alloc)
def b3 (b0 b1 b2 : Nat) : Nat → Nat
  | 0 => b0
  | 1 => b1
  | _ => b2
/-- A mac whose first k states are wiped. -/
structure WI (a : Bool) (K f : Nat → Int) (m b b0 b1 b2 : Nat) (S SL : Nat → Prop) (w : World) (lo : Option Nat) (L : List Rn) (k : Nat) (W : World) : Prop where
  here : Blk W b (mc4 ⟨a, K, m, f, b0, b1, b2⟩) 192
  st : ∀ j, k ≤ j → j < 3 → IsD W (b3 b0 b1 b2 j) a (st3 a K f m j)
  lg : LG SL w W lo L
  kp : Kp S w W
theorem WI.step {a : Bool} {K f : Nat → Int} {m b b0 b1 b2 : Nat} {S SL : Nat → Prop} {w : World} {lo : Option Nat} {L : List Rn} {k : Nat} {W W' : World} (h : WI a K f m b b0 b1 b2 S SL w lo L k W) (hk3 : k < 3) (n01 : b0 ≠ b1) (n02 : b0 ≠ b2) (n12 : b1 ≠ b2) (hS : ∀ j, j < 3 → S (b3 b0 b1 b2 j)) (hk : Kp (fun j => j = b3 b0 b1 b2 k) W W') : WI a K f m b b0 b1 b2 S SL w lo L (k + 1) W' := by
  obtain ⟨cs, hc⟩ := (h.st k (Nat.le_refl _) hk3).blk
  have ne : ∀ i j, i < j → j < 3 → b3 b0 b1 b2 i ≠ b3 b0 b1 b2 j := fun i j hij hj => by
    have : (i = 0 ∧ j = 1) ∨ (i = 0 ∧ j = 2) ∨ (i = 1 ∧ j = 2) := by omega
    rcases this with ⟨rfl, rfl⟩ | ⟨rfl, rfl⟩ | ⟨rfl, rfl⟩
    · exact n01
    · exact n02
    · exact n12
  refine ⟨h.here.kept hk (fun e => Blk.ne h.here hc (by cases a <;> decide) e), fun j hj hj3 => (h.st j (by omega) hj3).kept hk (fun e => ne k j (by omega) hj3 e.symm), Sg.LG.kept h.lg hk (fun j e => ⟨cs, tyS a, (show j = b3 b0 b1 b2 k from e) ▸ hc, by cases a <;> decide, by cases a <;> decide⟩), h.kp.trans hk (fun i _ e => by rw [show i = b3 b0 b1 b2 k from e]; exact hS k hk3)⟩
set_option maxRecDepth 8000 in
set_option maxHeartbeats 4000000 in
theorem wipe256 (b : Nat) (K f : Nat → Int) (m b0 b1 b2 : Nat) (lo : Option Nat) (L : List Rn) (S SL : Nat → Prop) (w : World) (hSL : ∀ j, SL j → S j) (h : IsMk w b ⟨false, K, m, f, b0, b1, b2⟩) (hSb : S b) (hS : ∀ j, j < 3 → S (b3 b0 b1 b2 j)) (hl : LG SL w w lo L) (hp : Pos L) (hroom : tq L ≤ 800000000) :
    Calls Tryz.prog 147 #[.pointer (some ⟨b, 0, none⟩), lpv lo] w fun e w' => e = .returned (.int .i64 0) ∧ Blk w' b nm4 192 ∧ LG SL w w' lo (putL L ⟨8, 312, 1⟩) ∧ Kp S w w' := by
  have BS := hid h
  have HS := hid hS
  have HL := hid hl
  clear h hl hS
  go_enter Tryz.func147, Tryz.ntmps147
  go_wp2_with fail
  refine (isNone256 b K f m b0 b1 b2 _ BS.out).mono ?_
  rintro e w1 ⟨rfl, hw1⟩
  subst w1
  go_wp2_with fail
  refine (form256 b K f m b0 b1 b2 _ BS.out).mono ?_
  rintro e w1 ⟨fv, rfl, hf, hb⟩
  obtain ⟨fa, fc, rfl⟩ := own_sl hf
  have I1 := hid (show WI false K f m b b0 b1 b2 S SL w lo L 0 w1 from ⟨BS.out.here.below hb, fun j _ hj3 => by
    match j, hj3 with
    | 0, _ => exact BS.out.s0.below hb
    | 1, _ => exact BS.out.s1.below hb
    | 2, _ => exact BS.out.s2.below hb, HL.out.below hb, Kp.of_below S hb⟩)
  clear hf hb
  have x1 : w1.cell? ⟨b, 1, none⟩ = some (.iface 261 (.agg #[.pointer (some ⟨b0, 0, none⟩)])) := I1.out.here.cell 1 _ rfl
  have x2 : w1.cell? ⟨b, 2, none⟩ = some (.iface 261 (.agg #[.pointer (some ⟨b1, 0, none⟩)])) := I1.out.here.cell 2 _ rfl
  have x3 : w1.cell? ⟨b, 3, none⟩ = some (.iface 261 (.agg #[.pointer (some ⟨b2, 0, none⟩)])) := I1.out.here.cell 3 _ rfl
  go_wp2_with fail
  go_loopw [17] (fun i wr => ∃ k : Nat, k ≤ 3 ∧ i = .int .i64 k ∧ WI false K f m b b0 b1 b2 S SL w lo L k wr) (fun i _ => 3 - (intOf i).toNat)
  case atStart => exact ⟨0, by omega, rfl, I1.out⟩
  case round =>
    clear I1 x1 x2 x3
    obtain ⟨k, hk, rfl, hwi⟩ := hrel
    match k, hk with
    | 0, hk3 =>
      have I := hid hwi
      clear hwi
      have hix := fun (w : World) => show (Instr.index 190 (.agg #[.iface 261 (.agg #[.pointer (some ⟨b0, 0, none⟩)]), .iface 261 (.agg #[.pointer (some ⟨b1, 0, none⟩)]), .iface 261 (.agg #[.pointer (some ⟨b2, 0, none⟩)])]) (.int .i64 0)).run Tryz.prog w = .ok (.iface 261 (.agg #[.pointer (some ⟨b0, 0, none⟩)])) w from by kernel_rfl
      go_wp2_with fail
      refine (dwipe false b0 _ _ none [] (fun j => j = b0) _ (I.out.st 0 (Nat.le_refl _) (by omega)) rfl trivial Sg.pos_nil' (by decide)).mono ?_
      rintro e w8 ⟨rfl, -, -, hk8⟩
      have I8 := hid (I.out.step (k := 0) (by omega) BS.out.n01 BS.out.n02 BS.out.n12 HS.out hk8)
      clear hk8 I hix
      go_wp2
      exact ⟨⟨1, by omega, rfl, I8.out⟩, by simp [intOf]⟩
    | 1, hk3 =>
      have I := hid hwi
      clear hwi
      have hix := fun (w : World) => show (Instr.index 190 (.agg #[.iface 261 (.agg #[.pointer (some ⟨b0, 0, none⟩)]), .iface 261 (.agg #[.pointer (some ⟨b1, 0, none⟩)]), .iface 261 (.agg #[.pointer (some ⟨b2, 0, none⟩)])]) (.int .i64 1)).run Tryz.prog w = .ok (.iface 261 (.agg #[.pointer (some ⟨b1, 0, none⟩)])) w from by kernel_rfl
      go_wp2_with fail
      refine (dwipe false b1 _ _ none [] (fun j => j = b1) _ (I.out.st 1 (Nat.le_refl _) (by omega)) rfl trivial Sg.pos_nil' (by decide)).mono ?_
      rintro e w8 ⟨rfl, -, -, hk8⟩
      have I8 := hid (I.out.step (k := 1) (by omega) BS.out.n01 BS.out.n02 BS.out.n12 HS.out hk8)
      clear hk8 I hix
      go_wp2
      exact ⟨⟨2, by omega, rfl, I8.out⟩, by simp [intOf]⟩
    | 2, hk3 =>
      have I := hid hwi
      clear hwi
      have hix := fun (w : World) => show (Instr.index 190 (.agg #[.iface 261 (.agg #[.pointer (some ⟨b0, 0, none⟩)]), .iface 261 (.agg #[.pointer (some ⟨b1, 0, none⟩)]), .iface 261 (.agg #[.pointer (some ⟨b2, 0, none⟩)])]) (.int .i64 2)).run Tryz.prog w = .ok (.iface 261 (.agg #[.pointer (some ⟨b2, 0, none⟩)])) w from by kernel_rfl
      go_wp2_with fail
      refine (dwipe false b2 _ _ none [] (fun j => j = b2) _ (I.out.st 2 (Nat.le_refl _) (by omega)) rfl trivial Sg.pos_nil' (by decide)).mono ?_
      rintro e w8 ⟨rfl, -, -, hk8⟩
      have I8 := hid (I.out.step (k := 2) (by omega) BS.out.n01 BS.out.n02 BS.out.n12 HS.out hk8)
      clear hk8 I hix
      go_wp2
      exact ⟨⟨3, by omega, rfl, I8.out⟩, by simp [intOf]⟩
    | 3, hk3 =>
      have I := hid hwi
      clear hwi
      have y0 := I.out.here.cell 0 _ rfl
      have y1 := I.out.here.cell 1 _ rfl
      have y2 := I.out.here.cell 2 _ rfl
      have y3 := I.out.here.cell 3 _ rfl
      have z0 := I.out.here.frozen 0
      have z1 := I.out.here.frozen 1
      have z2 := I.out.here.frozen 2
      have z3 := I.out.here.frozen 3
      go_wp2_with fail
      have HN := hid (show ∀ W5 : World, W5 = ((((wr.setCell ⟨b, 0, none⟩ (.int .i64 0)).setCell ⟨b, 1, none⟩ .nilIface).setCell ⟨b, 2, none⟩ .nilIface).setCell ⟨b, 3, none⟩ .nilIface) → Calls Tryz.prog 121 #[lpv lo, .agg #[.int .u8 8, .int .i64 312]] W5 (fun e w' => e = .returned (.tuple #[]) ∧ Blk w' b nm4 192 ∧ LG SL w w' lo (putL L ⟨8, 312, 1⟩) ∧ Kp S w w') from by
        rintro W5 rfl
        have k5 : Kp (fun j => j = b) wr ((((wr.setCell ⟨b, 0, none⟩ (.int .i64 0)).setCell ⟨b, 1, none⟩ .nilIface).setCell ⟨b, 2, none⟩ .nilIface).setCell ⟨b, 3, none⟩ .nilIface) := (((Kp.setCell b 0 _).trans (Kp.setCell b 1 _) (fun _ _ e => e)).trans (Kp.setCell b 2 _) (fun _ _ e => e)).trans (Kp.setCell b 3 _) (fun _ _ e => e)
        have h5 := (((I.out.here.set 0 (.int .i64 0)).set 1 .nilIface).set 2 .nilIface).set 3 .nilIface
        have l5 := Sg.LG.kept I.out.lg k5 (fun j e => ⟨_, 192, (show j = b from e) ▸ I.out.here, by decide, by decide⟩)
        have kp5 := I.out.kp.trans k5 (fun i _ e => by rw [show i = b from e]; exact hSb)
        obtain ⟨T, l6, hT, hTS⟩ := LG.own l5
        refine (Sg.note_lg T _ _ lo L 8 312 (by decide) (by decide) l6 (Kp.refl _ _) (big_of hp (by omega)).room).mono ?_
        rintro e w' ⟨rfl, g1', g2', g3⟩
        have g1 := Sg.LG.back g1' HL.out kp5.size hTS
        have g2 := kp5.trans g2' (fun i hi e => hSL i (hTS i hi e))
        exact ⟨rfl, g3 b _ _ h5 (by decide) (by decide), g1, g2⟩)
      clear y0 y1 y2 y3 z0 z1 z2 z3 I
      refine (HN.out _ rfl).mono ?_
      rintro e w9 ⟨rfl, g1, g2, g3⟩
      go_wp2
      go_ret
      exact ⟨rfl, g1, g2, g3⟩
set_option maxRecDepth 8000 in
set_option maxHeartbeats 4000000 in
theorem wipe512 (b : Nat) (K f : Nat → Int) (m b0 b1 b2 : Nat) (lo : Option Nat) (L : List Rn) (S SL : Nat → Prop) (w : World) (hSL : ∀ j, SL j → S j) (h : IsMk w b ⟨true, K, m, f, b0, b1, b2⟩) (hSb : S b) (hS : ∀ j, j < 3 → S (b3 b0 b1 b2 j)) (hl : LG SL w w lo L) (hp : Pos L) (hroom : tq L ≤ 800000000) :
    Calls Tryz.prog 147 #[.pointer (some ⟨b, 0, none⟩), lpv lo] w fun e w' => e = .returned (.int .i64 0) ∧ Blk w' b nm4 192 ∧ LG SL w w' lo (putL L ⟨8, 600, 1⟩) ∧ Kp S w w' := by
  have BS := hid h
  have HS := hid hS
  have HL := hid hl
  clear h hl hS
  go_enter Tryz.func147, Tryz.ntmps147
  go_wp2_with fail
  refine (isNone512 b K f m b0 b1 b2 _ BS.out).mono ?_
  rintro e w1 ⟨rfl, hw1⟩
  subst w1
  go_wp2_with fail
  refine (form512 b K f m b0 b1 b2 _ BS.out).mono ?_
  rintro e w1 ⟨fv, rfl, hf, hb⟩
  obtain ⟨fa, fc, rfl⟩ := own_sl hf
  have I1 := hid (show WI true K f m b b0 b1 b2 S SL w lo L 0 w1 from ⟨BS.out.here.below hb, fun j _ hj3 => by
    match j, hj3 with
    | 0, _ => exact BS.out.s0.below hb
    | 1, _ => exact BS.out.s1.below hb
    | 2, _ => exact BS.out.s2.below hb, HL.out.below hb, Kp.of_below S hb⟩)
  clear hf hb
  have x1 : w1.cell? ⟨b, 1, none⟩ = some (.iface 266 (.agg #[.pointer (some ⟨b0, 0, none⟩)])) := I1.out.here.cell 1 _ rfl
  have x2 : w1.cell? ⟨b, 2, none⟩ = some (.iface 266 (.agg #[.pointer (some ⟨b1, 0, none⟩)])) := I1.out.here.cell 2 _ rfl
  have x3 : w1.cell? ⟨b, 3, none⟩ = some (.iface 266 (.agg #[.pointer (some ⟨b2, 0, none⟩)])) := I1.out.here.cell 3 _ rfl
  go_wp2_with fail
  go_loopw [17] (fun i wr => ∃ k : Nat, k ≤ 3 ∧ i = .int .i64 k ∧ WI true K f m b b0 b1 b2 S SL w lo L k wr) (fun i _ => 3 - (intOf i).toNat)
  case atStart => exact ⟨0, by omega, rfl, I1.out⟩
  case round =>
    clear I1 x1 x2 x3
    obtain ⟨k, hk, rfl, hwi⟩ := hrel
    match k, hk with
    | 0, hk3 =>
      have I := hid hwi
      clear hwi
      have hix := fun (w : World) => show (Instr.index 190 (.agg #[.iface 266 (.agg #[.pointer (some ⟨b0, 0, none⟩)]), .iface 266 (.agg #[.pointer (some ⟨b1, 0, none⟩)]), .iface 266 (.agg #[.pointer (some ⟨b2, 0, none⟩)])]) (.int .i64 0)).run Tryz.prog w = .ok (.iface 266 (.agg #[.pointer (some ⟨b0, 0, none⟩)])) w from by kernel_rfl
      go_wp2_with fail
      refine (dwipe true b0 _ _ none [] (fun j => j = b0) _ (I.out.st 0 (Nat.le_refl _) (by omega)) rfl trivial Sg.pos_nil' (by decide)).mono ?_
      rintro e w8 ⟨rfl, -, -, hk8⟩
      have I8 := hid (I.out.step (k := 0) (by omega) BS.out.n01 BS.out.n02 BS.out.n12 HS.out hk8)
      clear hk8 I hix
      go_wp2
      exact ⟨⟨1, by omega, rfl, I8.out⟩, by simp [intOf]⟩
    | 1, hk3 =>
      have I := hid hwi
      clear hwi
      have hix := fun (w : World) => show (Instr.index 190 (.agg #[.iface 266 (.agg #[.pointer (some ⟨b0, 0, none⟩)]), .iface 266 (.agg #[.pointer (some ⟨b1, 0, none⟩)]), .iface 266 (.agg #[.pointer (some ⟨b2, 0, none⟩)])]) (.int .i64 1)).run Tryz.prog w = .ok (.iface 266 (.agg #[.pointer (some ⟨b1, 0, none⟩)])) w from by kernel_rfl
      go_wp2_with fail
      refine (dwipe true b1 _ _ none [] (fun j => j = b1) _ (I.out.st 1 (Nat.le_refl _) (by omega)) rfl trivial Sg.pos_nil' (by decide)).mono ?_
      rintro e w8 ⟨rfl, -, -, hk8⟩
      have I8 := hid (I.out.step (k := 1) (by omega) BS.out.n01 BS.out.n02 BS.out.n12 HS.out hk8)
      clear hk8 I hix
      go_wp2
      exact ⟨⟨2, by omega, rfl, I8.out⟩, by simp [intOf]⟩
    | 2, hk3 =>
      have I := hid hwi
      clear hwi
      have hix := fun (w : World) => show (Instr.index 190 (.agg #[.iface 266 (.agg #[.pointer (some ⟨b0, 0, none⟩)]), .iface 266 (.agg #[.pointer (some ⟨b1, 0, none⟩)]), .iface 266 (.agg #[.pointer (some ⟨b2, 0, none⟩)])]) (.int .i64 2)).run Tryz.prog w = .ok (.iface 266 (.agg #[.pointer (some ⟨b2, 0, none⟩)])) w from by kernel_rfl
      go_wp2_with fail
      refine (dwipe true b2 _ _ none [] (fun j => j = b2) _ (I.out.st 2 (Nat.le_refl _) (by omega)) rfl trivial Sg.pos_nil' (by decide)).mono ?_
      rintro e w8 ⟨rfl, -, -, hk8⟩
      have I8 := hid (I.out.step (k := 2) (by omega) BS.out.n01 BS.out.n02 BS.out.n12 HS.out hk8)
      clear hk8 I hix
      go_wp2
      exact ⟨⟨3, by omega, rfl, I8.out⟩, by simp [intOf]⟩
    | 3, hk3 =>
      have I := hid hwi
      clear hwi
      have y0 := I.out.here.cell 0 _ rfl
      have y1 := I.out.here.cell 1 _ rfl
      have y2 := I.out.here.cell 2 _ rfl
      have y3 := I.out.here.cell 3 _ rfl
      have z0 := I.out.here.frozen 0
      have z1 := I.out.here.frozen 1
      have z2 := I.out.here.frozen 2
      have z3 := I.out.here.frozen 3
      go_wp2_with fail
      have HN := hid (show ∀ W5 : World, W5 = ((((wr.setCell ⟨b, 0, none⟩ (.int .i64 0)).setCell ⟨b, 1, none⟩ .nilIface).setCell ⟨b, 2, none⟩ .nilIface).setCell ⟨b, 3, none⟩ .nilIface) → Calls Tryz.prog 121 #[lpv lo, .agg #[.int .u8 8, .int .i64 600]] W5 (fun e w' => e = .returned (.tuple #[]) ∧ Blk w' b nm4 192 ∧ LG SL w w' lo (putL L ⟨8, 600, 1⟩) ∧ Kp S w w') from by
        rintro W5 rfl
        have k5 : Kp (fun j => j = b) wr ((((wr.setCell ⟨b, 0, none⟩ (.int .i64 0)).setCell ⟨b, 1, none⟩ .nilIface).setCell ⟨b, 2, none⟩ .nilIface).setCell ⟨b, 3, none⟩ .nilIface) := (((Kp.setCell b 0 _).trans (Kp.setCell b 1 _) (fun _ _ e => e)).trans (Kp.setCell b 2 _) (fun _ _ e => e)).trans (Kp.setCell b 3 _) (fun _ _ e => e)
        have h5 := (((I.out.here.set 0 (.int .i64 0)).set 1 .nilIface).set 2 .nilIface).set 3 .nilIface
        have l5 := Sg.LG.kept I.out.lg k5 (fun j e => ⟨_, 192, (show j = b from e) ▸ I.out.here, by decide, by decide⟩)
        have kp5 := I.out.kp.trans k5 (fun i _ e => by rw [show i = b from e]; exact hSb)
        obtain ⟨T, l6, hT, hTS⟩ := LG.own l5
        refine (Sg.note_lg T _ _ lo L 8 600 (by decide) (by decide) l6 (Kp.refl _ _) (big_of hp (by omega)).room).mono ?_
        rintro e w' ⟨rfl, g1', g2', g3⟩
        have g1 := Sg.LG.back g1' HL.out kp5.size hTS
        have g2 := kp5.trans g2' (fun i hi e => hSL i (hTS i hi e))
        exact ⟨rfl, g3 b _ _ h5 (by decide) (by decide), g1, g2⟩)
      clear y0 y1 y2 y3 z0 z1 z2 z3 I
      refine (HN.out _ rfl).mono ?_
      rintro e w9 ⟨rfl, g1, g2, g3⟩
      go_wp2
      go_ret
      exact ⟨rfl, g1, g2, g3⟩
theorem wipeM (b : Nat) (x : MB) (lo : Option Nat) (L : List Rn) (S SL : Nat → Prop) (w : World) (hSL : ∀ j, SL j → S j) (h : IsMk w b x) (hSb : S b) (hS : ∀ j, j < 3 → S (b3 x.b0 x.b1 x.b2 j)) (hl : LG SL w w lo L) (hp : Pos L) (hroom : tq L ≤ 800000000) :
    Calls Tryz.prog 147 #[.pointer (some ⟨b, 0, none⟩), lpv lo] w fun e w' => e = .returned (.int .i64 0) ∧ Blk w' b nm4 192 ∧ LG SL w w' lo (putL L ⟨8, fm3n x.a, 1⟩) ∧ Kp S w w' := by
  obtain ⟨a, K, m, f, b0, b1, b2⟩ := x
  cases a
  · exact wipe256 b K f m b0 b1 b2 lo L S SL w hSL h hSb hS hl hp hroom
  · exact wipe512 b K f m b0 b1 b2 lo L S SL w hSL h hSb hS hl hp hroom
end Go.Proofs.YtpohogpkfdebdaaGreatDoor.Dg
