/- A state of the document: the calls that note in a ledger, or in none. A state of the document: Clone, Wipe, Sum, Write. A state of the document: Write. -/
import Derived.Test.YtjhhnajgfngbhaaGreatDoorZhg
import Derived.Deep.RegionHeld3
namespace Go.Proofs.YtjhhnajgfngbhaaGreatDoor.Sh
open Go.ChangeShapes Go.WideShapes Go.ChangeAt Go.RowKit
open Go.Proofs.YtjhhnajgfngbhaaGreatDoor.By Go.Proofs.YtjhhnajgfngbhaaGreatDoor.Wd

/-- The document's ledger, or none. -/
def RG (w : World) (L : List Rn) : Option (Nat × Value) → Prop
  | none => True
  | some (lb, rv) => RLed w lb rv L ∧ Room L
def lptr : Option (Nat × Value) → Value
  | none => .pointer none
  | some (lb, _) => .pointer (some ⟨lb, 0, none⟩)
def SR : Option (Nat × Value) → Nat → Prop
  | none, _ => False
  | some (lb, rv), j => j = lb ∨ rv.ownBlock = some j
def RP (w w' : World) (L' : List Rn) : Option (Nat × Value) → Prop
  | none => True
  | some (lb, rv) => ∃ rv', RLed w' lb rv' L' ∧ SameOrNew w rv rv'
theorem RG.below {w w' : World} {L : List Rn} {lo : Option (Nat × Value)} (h : RG w L lo) (hb : Below w.heap.size w w') : RG w' L lo := by
  match lo, h with
  | none, _ => exact trivial
  | some (lb, rv), h => exact ⟨h.1.below hb, h.2⟩
theorem RP.below {w w1 w' : World} {L : List Rn} {lo : Option (Nat × Value)} (h : RP w w1 L lo) (hb : Below w1.heap.size w1 w') : RP w w' L lo := by
  match lo, h with
  | none, _ => exact trivial
  | some (lb, rv), ⟨rv', h, s⟩ => exact ⟨rv', h.below hb, s⟩
theorem RP.from {w0 w w' : World} {L : List Rn} {lo : Option (Nat × Value)} (h : RP w w' L lo) (hb : w0.heap.size ≤ w.heap.size) : RP w0 w' L lo := by
  match lo, h with
  | none, _ => exact trivial
  | some (lb, rv), ⟨rv', h, s⟩ => exact ⟨rv', h, s.imp id (fun h g hg => Nat.le_trans hb (h g hg))⟩
theorem RG.apart {w : World} {L : List Rn} {lo : Option (Nat × Value)} (h : RG w L lo) {g : Nat} {cs : List Value} {t : TypeId} (hg : Blk w g cs t) (h1 : t ≠ 48) (h2 : t ≠ 66) : ¬ SR lo g := by
  match lo, h with
  | none, _ => exact id
  | some (lb, rv), h => exact rled_apart h.1 hg h1 h2
theorem rtimes0 (p : Option Addr) (a : Value) (n : Int) (k s : Int) (w : World) (ha : a = .agg #[.int .u8 k, .int .i64 s]) (h : p = none ∨ n < 1) :
    Calls Tryz.prog 53 #[.pointer p, a, .int .i64 n] w fun e w' => e = .returned (.tuple #[]) ∧ Below w.heap.size w w' := by
  subst ha
  have b := below_alloc w (.cells #[.int .u8 k, .int .i64 s] 64)
  cases p with
  | none =>
    go_enter Tryz.func53, Tryz.ntmps53
    go_wp2
    refine bodyPost_ret (results_none rfl _ _ _) rfl ?_
    exact ⟨rfl, b⟩
  | some q =>
    have hn : n < 1 := by rcases h with h | h; cases h; exact h
    go_enter Tryz.func53, Tryz.ntmps53
    go_wp2
    refine bodyPost_ret (results_none rfl _ _ _) rfl ?_
    exact ⟨rfl, b⟩
theorem rlen_tot {w : World} {b : Nat} {rv : Value} {L : List Rn} (_ : RLed w b rv L) : (L.length : Int) ≤ tq L ∧ 0 ≤ tq L := by have := tq_len L; omega
theorem rroom_len {w : World} {lb : Nat} {rv : Value} {L : List Rn} (h : RLed w lb rv L) (hr : Room L) : (L.length + 1) * 24 ≤ 140737488355328 := by
  have := rlen_tot h
  unfold Room at hr
  have h2 : L.length ≤ 5800000000000 := by omega
  have := Nat.mul_le_mul_right 24 (Nat.succ_le_succ h2)
  omega
theorem rtimes (lo : Option (Nat × Value)) (L : List Rn) (n : Nat) (w : World) (h : RG w L lo) (hn : n ≤ 140737488354328) :
    Calls Tryz.prog 53 #[lptr lo, .agg #[.int .u8 1, .int .i64 64], .int .i64 n] w fun e w' => e = .returned (.tuple #[]) ∧ RP w w' (evs256 L n) lo ∧ Kp (SR lo) w w' := by
  match lo, h with
  | none, _ =>
    refine (rtimes0 none _ n 1 64 w rfl (.inl rfl)).mono ?_
    rintro e w1 ⟨rfl, hb⟩
    exact ⟨rfl, trivial, Kp.of_below _ hb⟩
  | some (lb, rv), ⟨h, hr⟩ =>
    have hl := rroom_len h hr
    have ht := rlen_tot h
    have hqq := tq_tot L
    unfold Room at hr
    match n with
    | 0 =>
      refine (rtimes0 (some ⟨lb, 0, none⟩) _ _ 1 64 w rfl (.inr (by omega))).mono ?_
      rintro e w1 ⟨rfl, hb⟩
      exact ⟨rfl, ⟨rv, h.below hb, .inl rfl⟩, Kp.of_below _ hb⟩
    | k + 1 =>
      refine (refNoteTimes45 lb rv L 1 64 ((k + 1 : Nat) : Int) w h ⟨by show (0 : Int) ≤ 1 ∧ (1 : Int) < 256; decide, by show (-9223372036854775808 : Int) ≤ 64 ∧ (64 : Int) ≤ 9223372036854775807; decide, by show -9223372036854775808 ≤ ((k + 1 : Nat) : Int) ∧ ((k + 1 : Nat) : Int) ≤ 9223372036854775807; omega⟩ (by omega) (by omega) hl).mono ?_
      rintro e w1 ⟨rfl, rv1, hl1, hk1, hs1⟩
      rw [putL_many L h.pos k (by omega)] at hl1
      exact ⟨rfl, ⟨rv1, hl1, hs1⟩, hk1⟩
end Go.Proofs.YtjhhnajgfngbhaaGreatDoor.Sh
namespace Go.Proofs.YtjhhnajgfngbhaaGreatDoor.Sh
open Go.ChangeShapes Go.WideShapes Go.ChangeAt Go.RowKit
open Go.Proofs.YtjhhnajgfngbhaaGreatDoor.By Go.Proofs.YtjhhnajgfngbhaaGreatDoor.Wd

theorem RG.kept {w w' : World} {L : List Rn} {lo : Option (Nat × Value)} {S : Nat → Prop} (h : RG w L lo) (hk : Kp S w w') (hn : ∀ g, SR lo g → ¬ S g) : RG w' L lo := by
  match lo, h, hn with
  | none, _, _ => exact trivial
  | some (lb, rv), h, hn => exact ⟨h.1.kept hk (hn _ (.inl rfl)) (fun g hg => hn g (.inr hg)), h.2⟩
theorem event52e (w : World) : Calls Tryz.prog 91 #[] w fun e w' => e = .returned (.agg #[.int .u8 1, .int .i64 64]) ∧ w' = w.alloc (.cells #[.int .u8 1, .int .i64 64] 64) := by
  go_enter Tryz.func91, Tryz.ntmps91
  go_wp2
  refine bodyPost_ret (v := .agg #[.int .u8 1, .int .i64 64]) (by simp [results, Tryz.results91, go_sem]) rfl ⟨rfl, rfl⟩
theorem bel_al {w W : World} {o : Obj} (h : Below w.heap.size w W) : Below w.heap.size w (W.alloc o) := below_next h (below_alloc W o)
theorem bel_dr {w W : World} (h : Below w.heap.size w W) : Below w.heap.size w W.drew := below_next h (below_drewN W 1)
theorem rtimes' (lo : Option (Nat × Value)) (L : List Rn) (n : Nat) (w W : World) (hb : Below w.heap.size w W) (h : RG w L lo) (hn : n ≤ 140737488354328) :
    Calls Tryz.prog 53 #[lptr lo, .agg #[.int .u8 1, .int .i64 64], .int .i64 n] W fun e w' => e = .returned (.tuple #[]) ∧ RP w w' (evs256 L n) lo ∧ Kp (SR lo) w w' := by
  refine (rtimes lo L n W (h.below hb) hn).mono ?_
  rintro e w1 ⟨rfl, hp, hk⟩
  exact ⟨rfl, hp.from hb.size, (Kp.of_below _ hb).trans hk (fun _ _ e => e)⟩
theorem last51 (n : Nat) (w : World) (hn : n ≤ 140737488353328) : Calls Tryz.prog 92 #[.int .i64 n] w fun e w' => e = .returned (.int .i64 (last n)) ∧ w' = w := by
  by_cases h : n % 64 ≤ 55
  · have h1 : ¬ (n : Int) % 64 > 55 := by omega
    have e : last n = 1 := by unfold last zs; omega
    go_enter Tryz.func92, Tryz.ntmps92
    go_wp2
    go_ret
    exact ⟨by first | rfl | (rw [e]; rfl), rfl⟩
  · have h1 : (n : Int) % 64 > 55 := by omega
    have e : last n = 2 := by unfold last zs; omega
    go_enter Tryz.func92, Tryz.ntmps92
    go_wp2
    go_ret
    exact ⟨by first | rfl | (rw [e]; rfl), rfl⟩
theorem rsum36 (b m : Nat) (lo : Option (Nat × Value)) (f : Nat → Int) (L : List Rn) (w : World) (h : IsR w b (some (m, f))) (hl : RG w L lo) :
    Calls Tryz.prog 82 #[.pointer (some ⟨b, 0, none⟩), lptr lo] w fun e w' => ∃ v, e = .returned (.tuple #[v, .int .i64 0]) ∧ By.Own w' w.heap.size v 32 (dig m f) ∧ RP w w' (evs256 L (last m)) lo ∧ Kp (SR lo) w w' := by
  obtain ⟨hm, v, hb, ho⟩ := h
  have h1 := hb.cell 1 _ rfl
  have h0 := hb.cell 0 _ rfl
  obtain ⟨a, cap, rfl⟩ : ∃ a cap, v = .slice a m cap := by obtain ⟨_, a, cap, e, _⟩ := ho.reads; exact ⟨a, cap, e⟩
  have B := hid hb
  have HO := hid ho
  have HL := hid hl
  have hl1 : Hid (1 ≤ last m ∧ last m ≤ 2) := by show 1 ≤ last m ∧ last m ≤ 2; unfold last zs; omega
  clear hb ho hl
  go_enter Tryz.func82, Tryz.ntmps82
  go_wp2_with (first | (go_at_call 90; refine (none_st _ _ true h1).mono ?_; rintro e w ⟨rfl, rfl⟩))
  have h0a := (B.out.below (below_alloc w (.cells #[.int .u8 1, .int .i64 64] 64))).cell 0 _ rfl
  go_region_law (first | (go_simp; go_at_call 91; refine (event52e _).mono ?_; rintro e w' ⟨rfl, rfl⟩) | (go_simp; go_at_call 92; refine (last51 m _ (by omega)).mono ?_; rintro e w' ⟨rfl, rfl⟩) | (go_simp; go_at_call 53; refine (rtimes' lo L (last m) w _ ?bb HL.out (by have := hl1.out; omega)).mono ?_; (case bb => (repeat (first | with_reducible exact Below.refl _ _ | with_reducible refine bel_al ?_ | with_reducible refine bel_dr ?_))); rintro e w4 ⟨rfl, hp, hk⟩))
  all_goals (
    have P4 := hid hp
    have K4 := hid hk
    have B4 := hid (B.out.kept hk (HL.out.apart B.out (by decide) (by decide)))
    have O4 := hid (own_kept HO.out hk (fun g hg => by
      obtain ⟨c, hc⟩ := own8_type HO.out hg
      exact HL.out.apart (show Blk w g c.toList 5 from by show w.heap[g]? = _; rw [hc]) (by decide) (by decide)))
    have c0 := B4.out.cell 0 _ rfl
    clear hp hk h0 h1 h0a
    go_wp2_with fail
    refine (digest54 m _ f _ O4.out.reads hm).mono ?_
    rintro e w5 ⟨u5, rfl, hu, hb⟩
    have U5 := hid (own_mono hu K4.out.size)
    have P5 := hid (P4.out.below hb)
    have K5 := hid (K4.out.trans (Kp.of_below _ hb) (fun _ _ e => e))
    clear hu hb
    go_wp2
    go_ret2
    exact ⟨_, rfl, U5.out, P5.out, K5.out⟩)
end Go.Proofs.YtjhhnajgfngbhaaGreatDoor.Sh
namespace Go.Proofs.YtjhhnajgfngbhaaGreatDoor.Sh
open Go.ChangeShapes Go.WideShapes Go.ChangeAt Go.RowKit
open Go.Proofs.YtjhhnajgfngbhaaGreatDoor.By Go.Proofs.YtjhhnajgfngbhaaGreatDoor.Wd

set_option maxHeartbeats 12000000 in
theorem rwrite35 (b m n : Nat) (lo : Option (Nat × Value)) (f g : Nat → Int) (v : Value) (L : List Rn) (w : World) (h : IsR w b (some (m, f))) (hl : RG w L lo) (hr : ∀ w', Below w.heap.size w w' → By.RB w' v n g) (hmn : m + n ≤ 140737488353328) :
    Calls Tryz.prog 81 #[.pointer (some ⟨b, 0, none⟩), lptr lo, v] w fun e w' => e = .returned (.int .i64 0) ∧ IsR w' b (some (m + n, cat m f g)) ∧ RP w w' (evs256 L ((m + n) / 64 - m / 64)) lo ∧ Kp (fun j => j = b ∨ SR lo j) w w' ∧ ∃ u, Blk w' b [u, .bool true] 133 ∧ By.Own w' w.heap.size u (m + n) (cat m f g) := by
  obtain ⟨hm, vm, hb, ho⟩ := h
  have h1 := hb.cell 1 _ rfl
  have h0 := hb.cell 0 _ rfl
  obtain ⟨a, cap, rfl⟩ : ∃ a cap, vm = .slice a m cap := by obtain ⟨_, a, cap, e, _⟩ := ho.reads; exact ⟨a, cap, e⟩
  have B := hid hb
  have HO := hid ho
  have HL := hid hl
  have HV := hid hr
  clear hb ho hl hr
  go_enter Tryz.func81, Tryz.ntmps81
  go_wp2_with (first | (go_at_call 90; refine (none_st _ _ true h1).mono ?_; rintro e w ⟨rfl, rfl⟩) | (at_builtin; refine wpList_cat rfl _ _ rfl w.heap.size 0 m _ _ f f rfl (By.own_nil _ _ _ HO.out.1) rfl HO.out.reads (by omega) (Nat.le_refl _) ?_))
  intro v1 w1 hv1 hg1
  have O1 := hid (own_congr (g := f) hv1 HO.out.1 (fun i hi => by rw [cat0]))
  have b1 := hid (below_grow (Below.refl w.heap.size w) (Nat.le_refl _) (By.own_nil w w.heap.size f HO.out.1) hg1)
  clear hv1 hg1
  go_wp2_with (at_builtin; refine wpList_cat rfl _ _ rfl w.heap.size m n _ _ f g rfl O1.out rfl (HV.out _ b1.out) (by omega) b1.out.size ?_)
  intro v2 w2 hv2 hg2
  have O2 := hid hv2
  have b2 := hid (below_grow b1.out b1.out.size O1.out hg2)
  obtain ⟨a2, c2, rfl⟩ : ∃ a2 c2, v2 = .slice a2 (m + n) c2 := by obtain ⟨_, x, y, e, _⟩ := hv2.reads; exact ⟨x, y, e⟩
  have B2 := hid (B.out.below b2.out)
  have f2 := B2.out.frozen 0
  have c2' := B2.out.cell 0 _ rfl
  have L2 := hid (HL.out.below b2.out)
  clear hv2 hg2 O1 h0 h1
  go_wp2_with fail
  obtain ⟨W3, hW3⟩ : ∃ x, w2.setCell ⟨b, 0, none⟩ (.slice a2 (m + n) c2) = x := ⟨_, rfl⟩
  have x1 : Blk W3 b [.slice a2 (m + n) c2, .bool true] 133 := by rw [← hW3]; exact B2.out.set 0 _
  have x2 : Kp (fun j => j = b) w2 W3 := by rw [← hW3]; exact Kp.setCell b 0 _
  have x3 : RG W3 L lo := L2.out.kept x2 (fun g hg e => L2.out.apart B2.out (by decide) (by decide) (by have e' : g = b := e; rw [← e']; exact hg))
  have x4 : By.Own W3 w.heap.size (.slice a2 (m + n) c2) (m + n) (cat m f g) := own_kept O2.out x2 (fun g hg e => by
    obtain ⟨c, hc⟩ := own8_type O2.out hg
    have e' : g = b := e
    exact Blk.ne (show Blk w2 g c.toList 5 from by show w2.heap[g]? = _; rw [hc]) B2.out (by decide) e')
  rw [hW3]
  have X1 := hid x1
  have X3 := hid x3
  have X4 := hid x4
  have X5 := hid (show Kp (fun j => j = b ∨ SR lo j) w W3 from (Kp.of_below _ b2.out).trans x2 (fun i _ e => .inl e))
  clear hW3 x1 x2 x3 x4 O2 B2 L2 f2 c2'
  obtain ⟨q, hq⟩ : ∃ q : Nat, (m + n) / 64 - m / 64 = q := ⟨_, rfl⟩
  obtain ⟨N, hN⟩ : ∃ N : Nat, m + n = N := ⟨_, rfl⟩
  obtain ⟨j, hj⟩ : ∃ j : Nat, m / 64 = j := ⟨_, rfl⟩
  have ej : (m : Int) / 64 = (j : Int) := by omega
  have HN := hid hN
  have HQ := hid hq
  have HQ2 := hid (show q ≤ 140737488354328 by omega)
  have e0 : (N : Int) / 64 - (j : Int) = (q : Int) := by omega
  have hNN : N ≤ 140737488353328 := by omega
  have hj9 : j ≤ 140737488353328 := by omega
  have e1 : IntKind.i64.wrap (IntKind.i64.wrap ((N : Int) / 64) - (j : Int)) = (q : Int) := by
    have x1 : IntKind.i64.wrap ((N : Int) / 64) = (N : Int) / 64 := by rw [IntKind.wrap_i64]; omega
    rw [x1, e0]
    have := HQ2.out
    rw [IntKind.wrap_i64]; omega
  rw [hN] at X1 X4
  rw [ej]
  have h0 := X1.out.cell 0 _ rfl
  have h0a := (X1.out.below (below_alloc W3 (.cells #[.int .u8 1, .int .i64 64] 64))).cell 0 _ rfl
  clear hq hj ej hN
  go_region_held3 (fun W' => W'.cell? ⟨b, 0, none⟩ = some (.slice a2 N c2)) (go_keep) (first | (go_simp; go_at_call 91; refine (event52e _).mono ?_; rintro e w' ⟨rfl, rfl⟩) | (go_simp; go_at_call 53; (try rw [e1]); refine (rtimes' lo L q W3 _ ?bb X3.out HQ2.out).mono ?_; (case bb => (repeat (first | with_reducible exact Below.refl _ _ | with_reducible refine bel_al ?_ | with_reducible refine bel_dr ?_))); rintro e w4 ⟨rfl, hp, hk⟩; have h04 := (X1.out.kept hk (X3.out.apart X1.out (by decide) (by decide))).cell 0 _ rfl))
  all_goals (
    have P4 := hid (hp.from X5.out.size)
    have K4 := hid (X5.out.trans hk (fun i _ e => .inr e))
    have B4 := hid (X1.out.kept hk (X3.out.apart X1.out (by decide) (by decide)))
    have O4 := hid (own_kept X4.out hk (fun g hg => by
      obtain ⟨c, hc⟩ := own8_type X4.out hg
      exact X3.out.apart (show Blk W3 g c.toList 5 from by show W3.heap[g]? = _; rw [hc]) (by decide) (by decide)))
    clear hp hk h0 h0a h04
    go_wp2
    go_ret
    exact ⟨rfl, by rw [HN.out]; exact ⟨hNN, _, B4.out, own_mono O4.out (Nat.zero_le _)⟩, by rw [HQ.out]; exact P4.out, K4.out, _, B4.out, by rw [HN.out]; exact O4.out⟩)
end Go.Proofs.YtjhhnajgfngbhaaGreatDoor.Sh
