/- The iterator over a table of the type int: it goes over what the table had, rising; stopped, over a beginning of it. -/
import Derived.Test.YtodihepgfpbonaaTiI
import Derived.Test.YtodihepgfpbonaaTkc
namespace Go.Proofs.Ytodihepgfpbonaa.Tb.I
open Go.ChangeShapes Go.WideShapes Go.ChangeAt Go.RowKit Go.Shelf
attribute [local go_sem] Oper.semAt_some
/-- The pointers ps stand for what hd says. -/
def SW (W : World) (ps : Ps) (hd : Nat → Option V) : Prop := ∀ j, (∀ v, hd j = some v → ∃ g, ps j = some g ∧ Blk W g (vc v) vt) ∧ (hd j = none → ps j = none)
theorem SW.kc {S : Nat → Prop} {W W' : World} {ps : Ps} {hd : Nat → Option V} (h : SW W ps hd) (hk : KC S W W') (hs : ∀ j g, ps j = some g → ¬ S g) : SW W' ps hd := fun j =>
  ⟨fun v e => by obtain ⟨g, h1, h2⟩ := (h j).1 v e; exact ⟨g, h1, h2.kc hk (hs j g h1)⟩, (h j).2⟩
theorem SW.below {W W' : World} {ps : Ps} {hd : Nat → Option V} (h : SW W ps hd) (hb : Below W.heap.size W W') : SW W' ps hd := h.kc (kc_below hb) (fun _ _ _ e => e)
set_option maxRecDepth 100000 in
set_option maxHeartbeats 2000000 in
theorem all1_in (F : Fence) (n : Nat) (h48 : F.fn 57) (hro : F.round = none) (hn : 1 ≤ n) (l Bs : Nat) (S : Nat → Prop) (ps : Ps) (hd : Nat → Option V) (W : World)
    (hBs : Blk W Bs (pl ps) at') (hR : SW W ps hd) (hS2 : ¬ S Bs) (hS3 : ∀ j g, ps j = some g → ¬ S g) (J Jx : List (Nat × V) → World → Prop)
    (hY : ∀ pre x W1, J pre W1 → pre.length < (prs hd 64).length → YieldAt F (n - 1) Try.prog l #[.int .i64 x.1, vv x.2] W1 fun e W' =>
      (e = .returned (.bool true) ∧ J (pre ++ [x]) W' ∧ KC S W1 W') ∨ (e = .returned (.bool false) ∧ Jx (pre ++ [x]) W')) (h0 : J [] W) :
    CallsIn F n Try.prog 57 #[.func (.yield l) #[] #[], .pointer (some ⟨Bs, 0, none⟩)] W fun e W' => (∃ v, e = .returned v) ∧
      ((∃ ys, ys = prs hd 64 ∧ J ys W') ∨ (∃ pre, pre <+: prs hd 64 ∧ Jx pre W')) := by
  have HR := hid hR
  have HS2 := hid hS2
  have HS3 := hid hS3
  have HY := hid hY
  have la := LDa_b hBs
  clear hR hS2 hS3 hY hBs
  refine callsIn_of_wp Try.func57 rfl h48 ?_ hro
  simp only [Try.ntmps57, List.size_toArray, List.length_cons, List.length_nil, Nat.reduceAdd, Nat.reduceSub, Array.replicate_succ, Array.replicate_zero, List.push_toArray, List.append_toArray, List.nil_append, List.cons_append]
  gi_wp2
  clear la
  gi_loopw [6] (fun i wr => ∃ k : Nat, k ≤ 64 ∧ i = .int .i64 k ∧ J (prs hd k) wr ∧ KC S W wr) (fun i _ => 64 - (intOf i).toNat)
  case atStart => exact ⟨0, Nat.zero_le _, rfl, h0, KC.refl _ _⟩
  case round =>
    obtain ⟨k, hk, rfl, hJs, hkc⟩ := hrel
    have HK := hid hkc
    have HJs := hid hJs
    clear hkc hJs h0
    by_cases hlt : k < 64
    · have ix := ixa ps k hlt wr
      have l1 : (k : Int) < 64 := by omega
      cases e : hd k with
      | none =>
        rw [((HR.out k).2 e)] at ix
        simp only [pv, Option.map_none] at ix
        have HJ2 : Hid (J (prs hd (k + 1)) wr) := by rw [prs_none e]; exact HJs.out
        clear e HJs
        gi_wp2
        refine ⟨fun f hf => (nomatch hf), ?_⟩
        gi_wp2
        go_roundw
        case rel => exact ⟨k + 1, by omega, by go_num, HJ2.out, HK.out⟩
        case measure => simp [intOf]; omega
      | some v =>
        obtain ⟨g, hp, hg⟩ := ((HR.out.kc HK.out HS3.out) k).1 v e
        rw [hp] at ix
        simp only [pv, Option.map_some] at ix
        have d0 := hg.cell 0 _ rfl
        have HE := hid (prs_some e)
        obtain ⟨fn, tmps, assign, body, hy, hR⟩ := HY.out _ (k, v) _ HJs.out (by
          have hp := (prs_pre hd (show k + 1 ≤ 64 by omega)).length_le
          rw [prs_some e, List.length_append, List.length_singleton] at hp
          omega)
        dsimp only at hy
        clear e hp hg
        gi_wp2
        refine hR.mono ?_
        rintro e W3 (⟨rfl, hJ4, hk4⟩ | ⟨rfl, hJx4⟩)
        · have HJ4 : Hid (J (prs hd (k + 1)) W3) := by rw [HE.out]; exact hJ4
          have HK4 := hid (HK.out.trans hk4)
          clear hJ4 hk4 HJs HK
          gi_wp2
          go_roundw
          case rel => exact ⟨k + 1, by omega, by go_num, HJ4.out, HK4.out⟩
          case measure => simp [intOf]; omega
        · have HJx := hid hJx4
          clear hJx4
          gi_wp2
          refine bodyPost_ret (results_none rfl _ _ _) rfl ?_
          exact ⟨⟨_, rfl⟩, .inr ⟨_, by rw [← HE.out]; exact prs_pre hd (by omega), HJx.out⟩⟩
    · obtain rfl : k = 64 := by omega
      gi_wp2
      go_end0
      exact ⟨⟨_, rfl⟩, .inl ⟨_, rfl, HJs.out⟩⟩
theorem all_stops (F : Fence) (n : Nat) (h48 : F.fn 57) (hro : F.round = none) (hn : 1 ≤ n) (Bs : Nat) (S : Nat → Prop) (ps : Ps) (hd : Nat → Option V) (w : World)
    (hBs : Blk w Bs (pl ps) at') (hR : SW w ps hd) (hS2 : ¬ S Bs) (hS3 : ∀ j g, ps j = some g → ¬ S g) :
    SeqStopsK F n Try.prog 57 #[.pointer (some ⟨Bs, 0, none⟩)] (fun x : Nat × V => #[.int .i64 x.1, vv x.2]) (KC S) (fun ys => ys = prs hd 64) (fun pre => pre <+: prs hd 64) (prs hd 64).length w := fun l J Jx W hW hJ _ hY h0 => by
  refine (all1_in F n h48 hro hn l Bs S ps hd W (hBs.below hW) (hR.below hW) hS2 hS3 J Jx hY h0).mono ?_
  rintro e W' ⟨he, h⟩
  exact ⟨he, h⟩
end Go.Proofs.Ytodihepgfpbonaa.Tb.I
