/- The statement's walk: errors and kinds of events have their numbers, and the chapter's examples hold of the code. -/
import Derived.Test.YtmoadcoabfjbnaaCsg
import Derived.Test.YtmoadcoabfjbnaaWcompares
namespace Go.Proofs.Ytmoadcoabfjbnaa
open Go.ChangeShapes Go.WideShapes Go.ChangeAt Go.RowKit

/-- A list of runs that was just built. -/
theorem runs_lit (w : World) (g n : Nat) (L : List Rn) (cs : Array Value) (hg : g = w.heap.size) (hn : L.length = n) (hL : ∀ r ∈ L, r.Ok) (hc : cs.toList = rl L) (hm : n ≤ 1000) : RB (w.alloc (.cells cs 57)) (.slice (some ⟨g, 0, none⟩) n n) L := by
  subst hg hn
  exact (own_lit w L cs hL hc (by simp [maxLen]; omega)).reads
theorem Sg.reset {S : Nat → Prop} {w0 W : World} {b : Nat} {rv : Value} {L : List Rn} {i : Int} (h : Sg S w0 W b rv L i) :
    Calls Try.prog 34 #[.pointer (some ⟨b, 0, none⟩)] W fun e w' => e = .returned (.tuple #[]) ∧ Then S w0 W b [] 0 w' := by
  refine (reset18 b rv L W h.led).mono ?_
  rintro e w' ⟨rfl, hl, hk⟩
  refine ⟨rfl, _, ⟨h.kp.trans hk (fun k hk' e => by subst e; exact h.sb hk'), hl, rfl, h.sb, fun g hg => by simp [Value.ownBlock] at hg⟩, Kb.of_kp hk (fun g cs fr e e' => ?_)⟩
  subst e'
  rw [h.led.here] at e
  simp at e
theorem own_litB (w : World) (cs : Array Value) (g n : Nat) (f : Nat → Int) (hg : g = w.heap.size) (hf : ∀ i, 0 ≤ f i ∧ f i < 256) (hn : n ≤ 1000) (hs : cs.size = n) (hc : cs.toList = By.bl n f) :
    By.Own (w.alloc (.cells cs 5)) w.heap.size (.slice (some ⟨g, 0, none⟩) n n) n f := by
  subst hg
  exact By.own_lit w cs n f hf (by simp [maxLen]; omega) hs hc

set_option maxRecDepth 100000 in
set_option maxHeartbeats 4000000 in
theorem names (w : World) : Calls Try.prog 6 #[] w fun e w' => e = .returned (.bool true) ∧ Below w.heap.size w w' := by
  have E1 := hid (show By.eqB (by8 [1, 2]) (by8 [1, 2]) 2 = true by decide)
  have E2 := hid (show By.eqB (by8 [1, 2]) (by8 [1, 3]) 2 = false by decide)
  have E3 := hid (show By.eqB (by8 []) (by8 []) 0 = true by decide)
  have E4 := hid (show By.less (by8 [1, 255]) (by8 [2, 0]) 2 = true by decide)
  have E5 := hid (show By.less (by8 [2, 0]) (by8 [2, 0]) 2 = false by decide)
  have E6 := hid (show By.zeroB (by8 [0, 0]) 2 = true by decide)
  have E7 := hid (show By.zeroB (by8 [0, 1]) 2 = false by decide)
  have E8 := hid (show By.zeroB (by8 []) 0 = true by decide)
  have EL := hid (show putL (putL (putL [] ⟨6, ((2 : Nat) : Int), 1⟩) ⟨6, ((2 : Nat) : Int), 1⟩) ⟨6, ((0 : Nat) : Int), 1⟩ = [⟨6, 2, 2⟩, ⟨6, 0, 1⟩] by decide)
  have EM := hid (show putL (putL (putL [] ⟨7, ((1 : Nat) : Int), 1⟩) ⟨7, ((1 : Nat) : Int), 1⟩) ⟨8, ((3 : Nat) : Int), 1⟩ = [⟨7, 1, 2⟩, ⟨8, 3, 1⟩] by decide)
  go_enter Try.func6, Try.ntmps6
  go_wp2_with fail
  refine (new9 w).mono ?_
  rintro e W1 ⟨rfl, hl, hb⟩
  have SG := hid (Sg.start hl hb)
  clear hl hb
  have O1 := hid (lit_own W1 (#[.int .u8 1, .int .u8 2]) _ 2 (by8 [1, 2]) rfl (by8_bound _ rfl) (by omega) rfl (by kernel_rfl))
  go_wp2_with fail
  refine (((SG.out.alloc _).alloc _).equal _ _ 2 (by8 [1, 2]) (by8 [1, 2]) (still_own (By.own_alloc O1.out _)) (still_own (lit_own _ (#[.int .u8 1, .int .u8 2]) _ 2 (by8 [1, 2]) ?g1 (by8_bound _ rfl) (by omega) rfl (by kernel_rfl))) (by omega) (by omega)).mono ?_
  case g1 => first | rfl | simp
  rintro e W2 ⟨rfl, r, hs, hk⟩
  replace O1 := hid (own_kb (By.own_alloc O1.out _) hk)
  replace SG := hid hs
  clear hs hk
  rw [E1.out]
  go_wp2_with fail
  refine ((SG.out.alloc _).equal _ _ 2 (by8 [1, 2]) (by8 [1, 3]) (still_own (By.own_alloc O1.out _)) (still_own (lit_own _ (#[.int .u8 1, .int .u8 3]) _ 2 (by8 [1, 3]) ?g0 (by8_bound _ rfl) (by omega) rfl (by kernel_rfl))) (by omega) (by omega)).mono ?_
  case g0 => first | rfl | simp
  rintro e W3 ⟨rfl, r, hs, hk⟩
  replace O1 := hid (own_kb (By.own_alloc O1.out _) hk)
  replace SG := hid hs
  clear hs hk
  rw [E2.out]
  go_wp2_with fail
  refine (By.equal12x _ _ _ 1 2 _ ⟨_, _, rfl⟩ ⟨_, _, rfl⟩ (by omega)).mono ?_
  rintro e W3 ⟨rfl, h⟩
  subst h
  go_wp2_with fail
  refine ((SG.out.alloc _).equal (.slice none 0 0) _ 0 (by8 []) (by8 []) (still_own (By.own_nil _ 0 _ (by8_bound [] rfl))) (still_own (lit_own _ (#[]) _ 0 (by8 []) ?g0 (by8_bound _ rfl) (by omega) rfl (by kernel_rfl))) (by omega) (by omega)).mono ?_
  case g0 => first | rfl | simp
  rintro e W4 ⟨rfl, r, hs, hk⟩
  replace O1 := hid (own_kb (By.own_alloc O1.out _) hk)
  replace SG := hid hs
  clear hs hk
  rw [E3.out]
  go_wp2_with fail
  refine (SG.out.runs (by omega)).mono ?_
  rintro e W5 ⟨v5, rfl, hr, hb⟩
  rw [EL.out] at hr
  have R1 := hid hr
  replace SG := hid (SG.out.below hb)
  replace O1 := hid (By.own_below O1.out hb)
  clear hr hb
  go_wp2_with fail
  refine (same_runs (R1.out.below (below_alloc _ _)) (runs_lit W5 _ 2 [⟨6, 2, 2⟩, ⟨6, 0, 1⟩] (#[.int .u8 6, .int .i64 2, .int .i64 2, .int .u8 6, .int .i64 0, .int .i64 1]) ?g0 rfl ?g1 (by kernel_rfl) (by omega)) (by decide)).mono ?_
  case g0 => first | rfl | simp
  case g1 => simp [Rn.Ok]
  rintro e W6 ⟨rfl, d6, rfl⟩
  replace SG := hid ((SG.out.alloc (.cells #[.int .u8 6, .int .i64 2, .int .i64 2, .int .u8 6, .int .i64 0, .int .i64 1] 57)).drewN d6)
  replace O1 := hid (By.own_drewN (By.own_alloc O1.out (.cells #[.int .u8 6, .int .i64 2, .int .i64 2, .int .u8 6, .int .i64 0, .int .i64 1] 57)) d6)
  clear R1
  go_wp2_with fail
  refine (SG.out.reset ).mono ?_
  rintro e W7 ⟨rfl, r, hs, hk⟩
  replace O1 := hid (own_kb O1.out hk)
  replace SG := hid hs
  clear hs hk
  go_wp2_with fail
  refine (((SG.out.alloc _).alloc _).less _ _ 2 (by8 [1, 255]) (by8 [2, 0]) (still_own (By.own_alloc (lit_own _ (#[.int .u8 1, .int .u8 255]) _ 2 (by8 [1, 255]) ?g0 (by8_bound _ rfl) (by omega) rfl (by kernel_rfl)) _)) (still_own (lit_own _ (#[.int .u8 2, .int .u8 0]) _ 2 (by8 [2, 0]) ?g1 (by8_bound _ rfl) (by omega) rfl (by kernel_rfl))) (by omega) (by omega)).mono ?_
  case g0 => first | rfl | simp
  case g1 => first | rfl | simp
  rintro e W8 ⟨rfl, r, hs, hk⟩
  replace O1 := hid (own_kb (By.own_alloc (By.own_alloc O1.out _) _) hk)
  replace SG := hid hs
  clear hs hk
  rw [E4.out]
  go_wp2_with fail
  refine (((SG.out.alloc _).alloc _).less _ _ 2 (by8 [2, 0]) (by8 [2, 0]) (still_own (By.own_alloc (lit_own _ (#[.int .u8 2, .int .u8 0]) _ 2 (by8 [2, 0]) ?g0 (by8_bound _ rfl) (by omega) rfl (by kernel_rfl)) _)) (still_own (lit_own _ (#[.int .u8 2, .int .u8 0]) _ 2 (by8 [2, 0]) ?g1 (by8_bound _ rfl) (by omega) rfl (by kernel_rfl))) (by omega) (by omega)).mono ?_
  case g0 => first | rfl | simp
  case g1 => first | rfl | simp
  rintro e W9 ⟨rfl, r, hs, hk⟩
  replace O1 := hid (own_kb (By.own_alloc (By.own_alloc O1.out _) _) hk)
  replace SG := hid hs
  clear hs hk
  rw [E5.out]
  replace SG := hid (SG.out.alloc (.cells #[.int .u8 1] 5))
  replace O1 := hid (By.own_alloc O1.out (.cells #[.int .u8 1] 5))
  go_wp2_with fail
  refine (By.less14x _ _ _ 1 2 _ ⟨_, _, rfl⟩ ⟨_, _, rfl⟩ (by omega)).mono ?_
  rintro e WX ⟨rfl, h⟩
  rw [← h] at SG O1
  clear h
  go_wp2_with fail
  refine SG.out.len.mono ?_
  rintro e WY ⟨rfl, h⟩
  subst h
  go_wp2_with fail
  refine ((SG.out.alloc _).zero _ 2 (by8 [0, 0]) (still_own (lit_own _ (#[.int .u8 0, .int .u8 0]) _ 2 (by8 [0, 0]) ?g0 (by8_bound _ rfl) (by omega) rfl (by kernel_rfl))) (by omega) (by omega)).mono ?_
  case g0 => first | rfl | simp
  rintro e W10 ⟨rfl, r, hs, hk⟩
  replace O1 := hid (own_kb (By.own_alloc O1.out _) hk)
  replace SG := hid hs
  clear hs hk
  rw [E6.out]
  go_wp2_with fail
  refine ((SG.out.alloc _).zero _ 2 (by8 [0, 1]) (still_own (lit_own _ (#[.int .u8 0, .int .u8 1]) _ 2 (by8 [0, 1]) ?g0 (by8_bound _ rfl) (by omega) rfl (by kernel_rfl))) (by omega) (by omega)).mono ?_
  case g0 => first | rfl | simp
  rintro e W11 ⟨rfl, r, hs, hk⟩
  replace O1 := hid (own_kb (By.own_alloc O1.out _) hk)
  replace SG := hid hs
  clear hs hk
  rw [E7.out]
  go_wp2_with fail
  refine (SG.out.zero _ 0 (by8 []) (still_own (By.own_nil _ 0 _ (by8_bound [] rfl))) (by omega) (by omega)).mono ?_
  rintro e W12 ⟨rfl, r, hs, hk⟩
  replace O1 := hid (own_kb O1.out hk)
  replace SG := hid hs
  clear hs hk
  rw [E8.out]
  go_wp2_with fail
  refine (SG.out.reset ).mono ?_
  rintro e W13 ⟨rfl, r, hs, hk⟩
  replace O1 := hid (own_kb O1.out hk)
  replace SG := hid hs
  clear hs hk
  clear O1
  go_wp2_with fail
  refine (((SG.out.alloc _).alloc _).choose true _ _ 1 (by8 [7]) (by8 [8]) (still_own (By.own_alloc (lit_own _ (#[.int .u8 7]) _ 1 (by8 [7]) ?g0 (by8_bound _ rfl) (by omega) rfl (by kernel_rfl)) _)) (still_own (lit_own _ (#[.int .u8 8]) _ 1 (by8 [8]) ?g1 (by8_bound _ rfl) (by omega) rfl (by kernel_rfl))) (by omega) (by omega)).mono ?_
  case g0 => first | rfl | simp
  case g1 => first | rfl | simp
  rintro e W14 ⟨x1, rfl, ho, r, hs, hk⟩
  obtain ⟨ax, cx, hx⟩ := By.own_lit_slice ho
  subst hx
  have X1 := hid ho
  clear ho
  replace SG := hid hs
  clear hs hk
  go_wp2_with fail
  refine (((SG.out.alloc _).alloc _).choose false _ _ 1 (by8 [7]) (by8 [8]) (still_own (By.own_alloc (lit_own _ (#[.int .u8 7]) _ 1 (by8 [7]) ?g0 (by8_bound _ rfl) (by omega) rfl (by kernel_rfl)) _)) (still_own (lit_own _ (#[.int .u8 8]) _ 1 (by8 [8]) ?g1 (by8_bound _ rfl) (by omega) rfl (by kernel_rfl))) (by omega) (by omega)).mono ?_
  case g0 => first | rfl | simp
  case g1 => first | rfl | simp
  rintro e W15 ⟨x2, rfl, ho, r, hs, hk⟩
  obtain ⟨ay, cy, hy⟩ := By.own_lit_slice ho
  subst hy
  have X2 := hid ho
  clear ho
  replace X1 := hid (own_kb (By.own_alloc (By.own_alloc X1.out _) _) hk)
  replace SG := hid hs
  clear hs hk
  replace SG := hid (SG.out.alloc (.cells #[.int .u8 7] 5))
  replace X1 := hid (By.own_alloc X1.out (.cells #[.int .u8 7] 5))
  replace X2 := hid (By.own_alloc X2.out (.cells #[.int .u8 7] 5))
  go_wp2_with fail
  refine (By.choose22x _ _ _ true 1 0 _ ⟨_, _, rfl⟩ ⟨_, _, rfl⟩ (by omega)).mono ?_
  rintro e WX ⟨rfl, h⟩
  rw [← h] at SG X1 X2
  clear h
  have OB := hid (own_litB WX (#[.int .u8 5, .int .u8 6, .int .u8 7]) _ 3 (by8 [5, 6, 7]) rfl (by8_bound _ rfl) (by omega) rfl (by kernel_rfl))
  have AB1 := hid (By.own_apart X1.out (Nat.le_refl _) OB.out)
  have AB2 := hid (By.own_apart X2.out (Nat.le_refl _) OB.out)
  have SB := hid SG.out.kp.size
  go_wp2_with fail
  refine ((SG.out.alloc _).wipe _ 3 (by8 [5, 6, 7]) OB.out SB.out (by omega) (by omega)).mono ?_
  rintro e WY ⟨rfl, ho, r, hs, wy, hk, hg⟩
  replace OB := hid ho
  replace X1 := hid (By.own_kept (own_kb (By.own_alloc X1.out _) hk) hg AB1.out)
  replace X2 := hid (By.own_kept (own_kb (By.own_alloc X2.out _) hk) hg AB2.out)
  replace SG := hid hs
  clear ho hs hk hg AB1 AB2 SB
  go_wp2_with fail
  refine (By.same_true _ _ 1 _ (by8 [7]) _ (By.own_alloc X1.out _).reads (lit_own _ (#[.int .u8 7]) _ 1 (by8 [7]) ?g0 (by8_bound _ rfl) (by omega) rfl (by kernel_rfl)).reads (by omega) (by decide)).mono ?_
  case g0 => first | rfl | simp
  rintro e W16 ⟨rfl, d16, rfl⟩
  replace SG := hid ((SG.out.alloc (.cells #[.int .u8 7] 5)).drewN d16)
  replace X1 := hid (By.own_drewN (By.own_alloc X1.out (.cells #[.int .u8 7] 5)) d16)
  replace X2 := hid (By.own_drewN (By.own_alloc X2.out (.cells #[.int .u8 7] 5)) d16)
  replace OB := hid (By.own_drewN (By.own_alloc OB.out (.cells #[.int .u8 7] 5)) d16)
  go_wp2_with fail
  refine (By.same_true _ _ 1 _ (by8 [8]) _ (By.own_alloc X2.out _).reads (lit_own _ (#[.int .u8 8]) _ 1 (by8 [8]) ?g0 (by8_bound _ rfl) (by omega) rfl (by kernel_rfl)).reads (by omega) (by decide)).mono ?_
  case g0 => first | rfl | simp
  rintro e W17 ⟨rfl, d17, rfl⟩
  replace SG := hid ((SG.out.alloc (.cells #[.int .u8 8] 5)).drewN d17)
  replace X1 := hid (By.own_drewN (By.own_alloc X1.out (.cells #[.int .u8 8] 5)) d17)
  replace X2 := hid (By.own_drewN (By.own_alloc X2.out (.cells #[.int .u8 8] 5)) d17)
  replace OB := hid (By.own_drewN (By.own_alloc OB.out (.cells #[.int .u8 8] 5)) d17)
  go_wp2_with fail
  refine (By.same_true _ _ 3 _ (by8 [0, 0, 0]) _ (By.own_alloc OB.out _).reads (lit_own _ (#[.int .u8 0, .int .u8 0, .int .u8 0]) _ 3 (by8 [0, 0, 0]) ?g0 (by8_bound _ rfl) (by omega) rfl (by kernel_rfl)).reads (by omega) (by decide)).mono ?_
  case g0 => first | rfl | simp
  rintro e W18 ⟨rfl, d18, rfl⟩
  replace SG := hid ((SG.out.alloc (.cells #[.int .u8 0, .int .u8 0, .int .u8 0] 5)).drewN d18)
  replace X1 := hid (By.own_drewN (By.own_alloc X1.out (.cells #[.int .u8 0, .int .u8 0, .int .u8 0] 5)) d18)
  replace X2 := hid (By.own_drewN (By.own_alloc X2.out (.cells #[.int .u8 0, .int .u8 0, .int .u8 0] 5)) d18)
  replace OB := hid (By.own_drewN (By.own_alloc OB.out (.cells #[.int .u8 0, .int .u8 0, .int .u8 0] 5)) d18)
  clear X1 X2 OB
  go_wp2_with fail
  refine (SG.out.runs (by omega)).mono ?_
  rintro e W19 ⟨v19, rfl, hr, hb⟩
  rw [EM.out] at hr
  have R1 := hid hr
  replace SG := hid (SG.out.below hb)
  clear hr hb
  go_wp2_with fail
  refine (same_runs (R1.out.below (below_alloc _ _)) (runs_lit W19 _ 2 [⟨7, 1, 2⟩, ⟨8, 3, 1⟩] (#[.int .u8 7, .int .i64 1, .int .i64 2, .int .u8 8, .int .i64 3, .int .i64 1]) ?g0 rfl ?g1 (by kernel_rfl) (by omega)) (by decide)).mono ?_
  case g0 => first | rfl | simp
  case g1 => simp [Rn.Ok]
  rintro e W20 ⟨rfl, d20, rfl⟩
  replace SG := hid ((SG.out.alloc (.cells #[.int .u8 7, .int .i64 1, .int .i64 2, .int .u8 8, .int .i64 3, .int .i64 1] 57)).drewN d20)
  clear R1
  go_wp2_with fail
  refine (awake36 _).mono ?_
  rintro e WE ⟨rfl, hb⟩
  replace SG := hid (SG.out.below hb)
  clear hb
  go_wp2
  go_ret
  exact ⟨rfl, SG.out.bel⟩
end Go.Proofs.Ytmoadcoabfjbnaa
