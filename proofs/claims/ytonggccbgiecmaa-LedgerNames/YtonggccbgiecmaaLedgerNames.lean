/- LedgerNames: the kinds and the error have their numbers and the chapter's examples hold of the code; a closed statement, no condition. -/
import Derived.Test.YtonggccbgiecmaaLives
import Derived.Deep.RegionWith
import Derived.Deep.DeepCutAuto
import Derived.Test.YtonggccbgiecmaaRows
import Derived.WalkKit
import Derived.ProofKit
import Derived.OpenShut
import Derived.ShutString
import Derived.ChangeOld
import Derived.Below
namespace Go.Proofs.Ytonggccbgiecmaa.ledgerNames
open Go.ChangeShapes Go.WideShapes Go.ChangeAt Go.RowKit
open Go.ChangeMaps (open_string shut_string)
set_option linter.unusedVariables false      -- a walk need not use every 'w<i>' (that an integer argument fits its kind)

theorem own : ownKnob Try.prog.godebug = none := by kernel_rfl

theorem s4 : sinceL [⟨5, 16, 3⟩, ⟨8, 8, 2⟩] 4 = [⟨8, 8, 1⟩] := by decide +kernel
theorem s2 : sinceL [⟨5, 16, 3⟩, ⟨8, 8, 2⟩] 2 = [⟨5, 16, 1⟩, ⟨8, 8, 2⟩] := by decide +kernel
theorem s5 : sinceL [⟨5, 16, 3⟩, ⟨8, 8, 2⟩] 5 = [] := by decide +kernel
theorem s6 : sinceL [⟨5, 16, 3⟩, ⟨8, 8, 2⟩] 6 = [] := by decide +kernel
theorem sm1 : sinceL [⟨5, 16, 3⟩, ⟨8, 8, 2⟩] (-1) = [⟨5, 16, 3⟩, ⟨8, 8, 2⟩] := by decide +kernel
theorem s0 : sinceL [] 0 = [] := rfl
theorem j12 : joinL [⟨5, 16, 2⟩, ⟨8, 8, 0⟩] [⟨5, 16, 1⟩, ⟨8, 8, 3⟩] = [⟨5, 16, 3⟩, ⟨8, 8, 3⟩] := by decide +kernel
theorem ok_two (x y : Int) (hx : 0 ≤ x ∧ x ≤ 1000) (hy : 0 ≤ y ∧ y ≤ 1000) : ∀ r ∈ ([⟨5, 16, x⟩, ⟨8, 8, y⟩] : List Rn), r.Ok := by
  intro r hr
  simp at hr
  rcases hr with rfl | rfl
  · exact ok_a _ (by omega)
  · exact ok_b _ (by omega)
theorem ok_4 : ∀ r ∈ ([⟨8, 8, 1⟩] : List Rn), r.Ok := by
  intro r hr
  simp at hr
  subst hr
  exact ok_b _ (by omega)
theorem ok_2 : ∀ r ∈ ([⟨5, 16, 1⟩, ⟨8, 8, 2⟩] : List Rn), r.Ok := ok_two 1 2 (by omega) (by omega)
theorem ok_j1 : ∀ r ∈ ([⟨5, 16, 2⟩, ⟨8, 8, 0⟩] : List Rn), r.Ok := ok_two 2 0 (by omega) (by omega)
theorem ok_j2 : ∀ r ∈ ([⟨5, 16, 1⟩, ⟨8, 8, 3⟩] : List Rn), r.Ok := ok_two 1 3 (by omega) (by omega)
theorem ok_j3 : ∀ r ∈ ([⟨5, 16, 3⟩, ⟨8, 8, 3⟩] : List Rn), r.Ok := ok_two 3 3 (by omega) (by omega)
theorem checkBad {w W : World} {rv : Value} {K : List Rn} {v : Value} {L : List Rn} (hc : ¬ Chk L) (h : St w W rv K) (hv : RB W v L) (hN : L.length < 1000000000000000000) : Calls Try.prog 32 #[v] W fun e w' => e = .returned (.int .i64 120) ∧ St w w' rv K := by
  refine (check32 _ L _ hv hN).mono ?_
  rintro e w5 ⟨z, rfl, ⟨_, h1⟩ | ⟨rfl, _⟩, hb⟩
  · exact absurd h1 hc
  · exact ⟨rfl, h.below hb⟩
theorem checkGood {w W : World} {rv : Value} {K : List Rn} {v : Value} {L : List Rn} (hc : Chk L) (h : St w W rv K) (hv : RB W v L) (hN : L.length < 1000000000000000000) : Calls Try.prog 32 #[v] W fun e w' => e = .returned (.int .i64 0) ∧ St w w' rv K := by
  refine (check32 _ L _ hv hN).mono ?_
  rintro e w5 ⟨z, rfl, ⟨rfl, _⟩ | ⟨_, h1⟩, hb⟩
  · exact ⟨rfl, h.below hb⟩
  · exact absurd hc h1
theorem totalSt {w W : World} {rv : Value} {K : List Rn} {v : Value} {L : List Rn} (h : St w W rv K) (hv : RB W v L) (hN : L.length < 1000000000000000000) : Calls Try.prog 33 #[v] W fun e w' => e = .returned (.int .i64 (totS L)) ∧ St w w' rv K := by
  refine (total33 _ L _ hv hN).mono ?_
  rintro e w5 ⟨rfl, hb⟩
  exact ⟨rfl, h.below hb⟩
theorem n_c1 : ¬ Chk [⟨5, 16, 2⟩, ⟨5, 16, 1⟩] := fun h => (h 1 ⟨5, 16, 1⟩ rfl).2 ⟨5, 16, 2⟩ (by omega) rfl ⟨rfl, rfl⟩
theorem n_c2 : ¬ Chk [⟨5, 16, 0⟩] := fun h => by have := (h 0 ⟨5, 16, 0⟩ rfl).1; simp at this
theorem y_c3 : Chk [] := fun i r h => by simp at h
theorem ok_c1 : ∀ r ∈ ([⟨5, 16, 2⟩, ⟨5, 16, 1⟩] : List Rn), r.Ok := by
  intro r hr
  simp at hr
  rcases hr with rfl | rfl <;> exact ok_a _ (by omega)
theorem ok_c2 : ∀ r ∈ ([⟨5, 16, 0⟩] : List Rn), r.Ok := by
  intro r hr
  simp at hr
  subst hr
  exact ok_a _ (by omega)
theorem ok_t1 : ∀ r ∈ ([⟨5, 16, 2⟩, ⟨8, 8, -3⟩, ⟨8, 8, 1⟩] : List Rn), r.Ok := by
  intro r hr
  simp at hr
  rcases hr with rfl | rfl | rfl
  · exact ok_a _ (by omega)
  · exact ok_b _ (by omega)
  · exact ok_b _ (by omega)
theorem ok_t2 : ∀ r ∈ ([⟨5, 16, 9223372036854775807⟩, ⟨8, 8, 1⟩] : List Rn), r.Ok := by
  intro r hr
  simp at hr
  rcases hr with rfl | rfl
  · exact ok_a _ (by omega)
  · exact ok_b _ (by omega)
theorem joinSt {w W : World} {rv : Value} {K : List Rn} {v v' : Value} {L M J : List Rn} (hJ : joinL L M = J) (h : St w W rv K) (hv : RB W v L) (hv' : RB W v' M) (hb : (L.length + M.length) * 24 ≤ 140737488355328) :
    Calls Try.prog 26 #[v, v'] W fun e w' => ∃ u, e = .returned u ∧ St w w' rv K ∧ RB w' u J ∧ ∀ v' L', RB W v' L' → RB w' v' L' := by
  refine (join26 _ _ L M _ hv hv' hb).mono ?_
  rintro e w5 ⟨v5, rfl, ho5, hb5⟩
  rw [hJ] at ho5
  exact ⟨v5, rfl, h.below hb5, ho5.reads, fun v' L' h' => h'.below hb5⟩
set_option maxRecDepth 100000 in
set_option maxHeartbeats 8000000 in
theorem walk  (w : World) :
    Calls Try.prog 7 #[] w fun e w' => e = .returned (.bool true) ∧ Below w.heap.size w w' := by
  go_enter Try.func7, Try.ntmps7
  go_wp2_with fail
  refine (new9 _).mono ?_
  rintro e w1 ⟨rfl, hl, hb⟩
  have SN : Hid (St w w1 (.slice none 0 0) []) := St.start (by simpa using hl) (by simpa using hb)
  clear hl hb
  obtain ⟨p0, p1, q0, q1⟩ := SN.out.free
  go_wp2_with fail
  refine (noteTimes17 _ _ _ _ _ _ _ SN.out.led (ok_a 3 (by omega)) (by omega) (by decide +kernel) (by simp)).mono ?_
  rintro e w2 ⟨rfl, r2, hl, hk, hs⟩
  have SM : Hid (St w w2 r2 [⟨5, 16, 3⟩]) := SN.out.noted hl hk hs
  clear hl hk hs p0 p1 q0 q1 SN
  obtain ⟨p0, p1, q0, q1⟩ := SM.out.free
  go_wp2_with fail
  refine (noteTimes17z _ _ _ _ _ (by omega)).mono ?_
  rintro e w3 ⟨rfl, hb⟩
  have SN := hid (SM.out.below hb)
  clear hb p0 p1 q0 q1 SM
  obtain ⟨p0, p1, q0, q1⟩ := SN.out.free
  go_wp2_with fail
  refine (note16 _ _ _ _ _ _ SN.out.led (ok_b 1 (by omega)) (by decide +kernel) (by simp)).mono ?_
  rintro e w4 ⟨rfl, r4, hl, hk, hs⟩
  have SM : Hid (St w w4 r4 [⟨5, 16, 3⟩, ⟨8, 8, 1⟩]) := SN.out.noted hl hk hs
  clear hl hk hs p0 p1 q0 q1 SN
  obtain ⟨p0, p1, q0, q1⟩ := SM.out.free
  go_wp2_with fail
  refine (mark21 _ _ _ _ SM.out.led).mono ?_
  rintro e w' ⟨rfl, rfl⟩
  go_wp2_with fail
  refine (note16 _ _ _ _ _ _ SM.out.led (ok_b 1 (by omega)) (by decide +kernel) (by simp)).mono ?_
  rintro e w6 ⟨rfl, r6, hl, hk, hs⟩
  have SN : Hid (St w w6 r6 [⟨5, 16, 3⟩, ⟨8, 8, 2⟩]) := SM.out.noted hl hk hs
  clear hl hk hs p0 p1 q0 q1 SM
  obtain ⟨p0, p1, q0, q1⟩ := SN.out.free
  rw [show tot [⟨5, 16, 3⟩, ⟨8, 8, 1⟩] = 4 from by decide +kernel]
  go_upto_region 9 with fail
  go_cut [5] (fun c wx => c = .bool true ∧ St w wx r6 [⟨5, 16, 3⟩, ⟨8, 8, 2⟩])
  case first =>
    go_region_held3 (fun w' => w'.cell? ⟨w.heap.size, 0, none⟩ = some (.int .u8 5) ∧ w'.cell? ⟨w.heap.size, 1, none⟩ = some (.int .i64 16) ∧ w'.cell? ⟨w.heap.size + 1, 0, none⟩ = some (.int .u8 8) ∧ w'.cell? ⟨w.heap.size + 1, 1, none⟩ = some (.int .i64 8)) (go_keep) (first
      | (go_at_call 23; first
          | (with_reducible refine (sinceSt 4 1 s4 rfl SN.out rfl (by simp) (by omega)).mono ?_; rintro e w5 ⟨a5, cap5, rfl, SN, ON, K5⟩; obtain ⟨p0, p1, q0, q1⟩ := SN.free; have SN := hid SN; have ON := hid ON; clear K5)
          | (with_reducible refine (sinceSt 4 1 s4 rfl SN.out.drew rfl (by simp) (by omega)).mono ?_; rintro e w5 ⟨a5, cap5, rfl, SN, ON, K5⟩; obtain ⟨p0, p1, q0, q1⟩ := SN.free; have SN := hid SN; have ON := hid ON; clear K5)
          | (with_reducible refine (sinceSt 4 1 s4 rfl (SN.out.alloc (.cells #[.int .u8 8, .int .i64 8, .int .i64 1] 70)) rfl (by simp) (by omega)).mono ?_; rintro e w5 ⟨a5, cap5, rfl, SN, ON, K5⟩; obtain ⟨p0, p1, q0, q1⟩ := SN.free; have SN := hid SN; have ON := hid ON; have RL := hid (K5 _ _ (rb_lit _ _ 1 [⟨8, 8, 1⟩] #[.int .u8 8, .int .i64 8, .int .i64 1] rfl rfl (ok_4) rfl (by omega))); clear K5)
          | (with_reducible refine (sinceSt 4 1 s4 rfl (SN.out.alloc (.cells #[.int .u8 8, .int .i64 8, .int .i64 1] 70)).drew rfl (by simp) (by omega)).mono ?_; rintro e w5 ⟨a5, cap5, rfl, SN, ON, K5⟩; obtain ⟨p0, p1, q0, q1⟩ := SN.free; have SN := hid SN; have ON := hid ON; have RL := hid (K5 _ _ (RB.drew (rb_lit _ _ 1 [⟨8, 8, 1⟩] #[.int .u8 8, .int .i64 8, .int .i64 1] rfl rfl (ok_4) rfl (by omega)))); clear K5))
      | (go_at_call 23; first
          | (with_reducible refine (sinceSt 2 2 s2 rfl SN.out rfl (by simp) (by omega)).mono ?_; rintro e w5 ⟨a5, cap5, rfl, SN, ON, K5⟩; obtain ⟨p0, p1, q0, q1⟩ := SN.free; have SN := hid SN; have ON := hid ON; clear K5)
          | (with_reducible refine (sinceSt 2 2 s2 rfl SN.out.drew rfl (by simp) (by omega)).mono ?_; rintro e w5 ⟨a5, cap5, rfl, SN, ON, K5⟩; obtain ⟨p0, p1, q0, q1⟩ := SN.free; have SN := hid SN; have ON := hid ON; clear K5)
          | (with_reducible refine (sinceSt 2 2 s2 rfl (SN.out.alloc (.cells #[.int .u8 5, .int .i64 16, .int .i64 1, .int .u8 8, .int .i64 8, .int .i64 2] 70)) rfl (by simp) (by omega)).mono ?_; rintro e w5 ⟨a5, cap5, rfl, SN, ON, K5⟩; obtain ⟨p0, p1, q0, q1⟩ := SN.free; have SN := hid SN; have ON := hid ON; have RL := hid (K5 _ _ (rb_lit _ _ 2 [⟨5, 16, 1⟩, ⟨8, 8, 2⟩] #[.int .u8 5, .int .i64 16, .int .i64 1, .int .u8 8, .int .i64 8, .int .i64 2] rfl rfl (ok_2) rfl (by omega))); clear K5)
          | (with_reducible refine (sinceSt 2 2 s2 rfl (SN.out.alloc (.cells #[.int .u8 5, .int .i64 16, .int .i64 1, .int .u8 8, .int .i64 8, .int .i64 2] 70)).drew rfl (by simp) (by omega)).mono ?_; rintro e w5 ⟨a5, cap5, rfl, SN, ON, K5⟩; obtain ⟨p0, p1, q0, q1⟩ := SN.free; have SN := hid SN; have ON := hid ON; have RL := hid (K5 _ _ (RB.drew (rb_lit _ _ 2 [⟨5, 16, 1⟩, ⟨8, 8, 2⟩] #[.int .u8 5, .int .i64 16, .int .i64 1, .int .u8 8, .int .i64 8, .int .i64 2] rfl rfl (ok_2) rfl (by omega)))); clear K5))
      | (go_at_call 23; first
          | (with_reducible refine (sinceSt 5 0 s5 rfl SN.out rfl (by simp) (by omega)).mono ?_; rintro e w5 ⟨a5, cap5, rfl, SN, ON, K5⟩; obtain ⟨p0, p1, q0, q1⟩ := SN.free; have SN := hid SN; have ON := hid ON; clear K5)
          | (with_reducible refine (sinceSt 5 0 s5 rfl SN.out.drew rfl (by simp) (by omega)).mono ?_; rintro e w5 ⟨a5, cap5, rfl, SN, ON, K5⟩; obtain ⟨p0, p1, q0, q1⟩ := SN.free; have SN := hid SN; have ON := hid ON; clear K5))
      | (go_at_call 23; first
          | (with_reducible refine (sinceSt 6 0 s6 rfl SN.out rfl (by simp) (by omega)).mono ?_; rintro e w5 ⟨a5, cap5, rfl, SN, ON, K5⟩; obtain ⟨p0, p1, q0, q1⟩ := SN.free; have SN := hid SN; have ON := hid ON; clear K5)
          | (with_reducible refine (sinceSt 6 0 s6 rfl SN.out.drew rfl (by simp) (by omega)).mono ?_; rintro e w5 ⟨a5, cap5, rfl, SN, ON, K5⟩; obtain ⟨p0, p1, q0, q1⟩ := SN.free; have SN := hid SN; have ON := hid ON; clear K5))
      | (go_at_call 23; first
          | (with_reducible refine (sinceSt (-1) 2 sm1 rfl SN.out rfl (by simp) (by omega)).mono ?_; rintro e w5 ⟨a5, cap5, rfl, SN, ON, K5⟩; obtain ⟨p0, p1, q0, q1⟩ := SN.free; have SN := hid SN; have ON := hid ON; clear K5)
          | (with_reducible refine (sinceSt (-1) 2 sm1 rfl SN.out.drew rfl (by simp) (by omega)).mono ?_; rintro e w5 ⟨a5, cap5, rfl, SN, ON, K5⟩; obtain ⟨p0, p1, q0, q1⟩ := SN.free; have SN := hid SN; have ON := hid ON; clear K5))
      | (go_at_call 22; (with_reducible refine (runsSt SN.out rfl (by simp)).mono ?_; rintro e w5 ⟨v6, rfl, SN, OM, K5⟩; obtain ⟨p0, p1, q0, q1⟩ := SN.free; have SN := hid SN; have OM := hid OM; have OP := hid (K5 _ _ ON.out); clear K5))
      | (go_at_call 14; (first | with_reducible refine (sameSt SN.out OP.out OM.out (by simp)).mono ?_ | with_reducible refine (sameSt SN.out ON.out RL.out (by simp)).mono ?_ | with_reducible refine (sameSt (SN.out.alloc _) (ON.out.alloc _) (rb_lit _ _ 1 [⟨8, 8, 1⟩] #[.int .u8 8, .int .i64 8, .int .i64 1] rfl rfl ok_4 rfl (by omega)) (by simp)).mono ?_ | with_reducible refine (sameSt (SN.out.alloc _) (ON.out.alloc _) (rb_lit _ _ 2 [⟨5, 16, 1⟩, ⟨8, 8, 2⟩] #[.int .u8 5, .int .i64 16, .int .i64 1, .int .u8 8, .int .i64 8, .int .i64 2] rfl rfl ok_2 rfl (by omega)) (by simp)).mono ?_); rintro e w6 ⟨rfl, SN⟩; obtain ⟨p0, p1, q0, q1⟩ := SN.free; have SN := hid SN; try clear RL))
    all_goals
      go_wp2_with fail
      go_meet
      case rel => exact ⟨rfl, SN.out⟩
  case rest =>
    obtain ⟨rfl, hst⟩ := hcut
    clear SN p0 p1 q0 q1
    have SN := hid hst
    clear hst
    go_wp2_with fail
    refine (reset18 _ _ _ _ SN.out.led).mono ?_
    rintro e w7 ⟨rfl, hl, hk⟩
    have SM : Hid (St w w7 (.slice none 0 0) []) := SN.out.noted hl (hk.mono fun k _ e => .inl e) (.inr fun g hg => by simp [Value.ownBlock] at hg)
    clear hl hk SN
    go_wp2_with fail
    refine (len20 _ _ _ _ SM.out.led).mono ?_
    rintro e w' ⟨rfl, rfl⟩
    rw [show tot [] = 0 from rfl]
    go_wp2_with fail
    refine (sinceSt 0 0 s0 rfl SM.out rfl (by simp) (by omega)).mono ?_
    rintro e w8 ⟨a8, cap8, rfl, hst, _, _⟩
    have SN := hid hst
    clear hst SM
    obtain ⟨p0, p1, q0, q1⟩ := SN.out.free
    go_upto_region 12 with fail
    go_cut [7] (fun c wx => c = .bool true ∧ St w wx (.slice none 0 0) [])
    case first =>
      go_region_held3 (fun w' => w'.cell? ⟨w.heap.size, 0, none⟩ = some (.int .u8 5) ∧ w'.cell? ⟨w.heap.size, 1, none⟩ = some (.int .i64 16) ∧ w'.cell? ⟨w.heap.size + 1, 0, none⟩ = some (.int .u8 8) ∧ w'.cell? ⟨w.heap.size + 1, 1, none⟩ = some (.int .i64 8)) (first | exact St.free (w := w) (rv := .slice none 0 0) (L := []) (by repeat (first | with_reducible exact SN.out | with_reducible refine St.drew ?_ | with_reducible refine St.alloc ?_ _)) | go_keep) (first
        | (go_at_call 26; go_must ((with_reducible refine (joinSt (w := w) (rv := .slice none 0 0) (K := []) (L := [⟨5, 16, 2⟩, ⟨8, 8, 0⟩]) (M := [⟨5, 16, 1⟩, ⟨8, 8, 3⟩]) j12 ?ss ?sa ?sb (by simp)).mono ?_); (case ss => repeat (first | with_reducible exact SN.out | with_reducible refine St.drew ?_ | with_reducible refine St.alloc ?_ _)); (case sa => repeat (first | exact rb_lit _ _ 2 [⟨5, 16, 2⟩, ⟨8, 8, 0⟩] #[.int .u8 5, .int .i64 16, .int .i64 2, .int .u8 8, .int .i64 8, .int .i64 0] (by simp) rfl ok_j1 rfl (by omega) | with_reducible refine RB.drew ?_ | with_reducible refine RB.alloc ?_ _)); (case sb => repeat (first | exact rb_lit _ _ 2 [⟨5, 16, 1⟩, ⟨8, 8, 3⟩] #[.int .u8 5, .int .i64 16, .int .i64 1, .int .u8 8, .int .i64 8, .int .i64 3] (by simp) rfl ok_j2 rfl (by omega) | with_reducible refine RB.drew ?_ | with_reducible refine RB.alloc ?_ _)); rintro e w5 ⟨v5, rfl, SN, ON, K5⟩; obtain ⟨p0, p1, q0, q1⟩ := SN.free; have SN := hid SN; have ON := hid ON; have K5 := hid K5))
        | (go_at_call 14; go_must ((with_reducible refine (sameSt (w := w) (rv := .slice none 0 0) (K := []) (L := [⟨5, 16, 3⟩, ⟨8, 8, 3⟩]) ?ss ?sa ?sb (by simp)).mono ?_); (case ss => repeat (first | with_reducible exact SN.out | with_reducible refine St.drew ?_ | with_reducible refine St.alloc ?_ _)); (case sa => first | with_reducible exact ON.out | with_reducible exact ON.out.alloc _); (case sb => first | exact rb_lit _ _ 2 [⟨5, 16, 3⟩, ⟨8, 8, 3⟩] #[.int .u8 5, .int .i64 16, .int .i64 3, .int .u8 8, .int .i64 8, .int .i64 3] (by simp) rfl ok_j3 rfl (by omega) | (refine K5.out _ _ ?_; repeat (first | exact rb_lit _ _ 2 [⟨5, 16, 3⟩, ⟨8, 8, 3⟩] #[.int .u8 5, .int .i64 16, .int .i64 3, .int .u8 8, .int .i64 8, .int .i64 3] (by simp) rfl ok_j3 rfl (by omega) | with_reducible refine RB.drew ?_ | with_reducible refine RB.alloc ?_ _))); rintro e w6 ⟨rfl, SN⟩; obtain ⟨p0, p1, q0, q1⟩ := SN.free; have SN := hid SN)))
      all_goals
        go_wp2_with fail
        go_meet
        case rel => exact ⟨rfl, SN.out⟩
    case rest =>
      obtain ⟨rfl, hst⟩ := hcut
      clear SN p0 p1 q0 q1
      have SN := hid hst
      clear hst
      obtain ⟨p0, p1, q0, q1⟩ := SN.out.free
      go_wp2_with fail
      refine (checkBad n_c1 (SN.out.alloc _) (rb_lit _ _ 2 [⟨5, 16, 2⟩, ⟨5, 16, 1⟩] #[.int .u8 5, .int .i64 16, .int .i64 2, .int .u8 5, .int .i64 16, .int .i64 1] rfl rfl ok_c1 rfl (by omega)) (by simp)).mono ?_
      rintro e w9 ⟨rfl, hst⟩
      clear SN p0 p1 q0 q1
      have SN := hid hst
      clear hst
      obtain ⟨p0, p1, q0, q1⟩ := SN.out.free
      go_wp2_with fail
      refine (checkBad n_c2 (SN.out.alloc _) (rb_lit _ _ 1 [⟨5, 16, 0⟩] #[.int .u8 5, .int .i64 16, .int .i64 0] rfl rfl ok_c2 rfl (by omega)) (by simp)).mono ?_
      rintro e w10 ⟨rfl, hst⟩
      clear SN p0 p1 q0 q1
      have SN := hid hst
      clear hst
      go_wp2_with fail
      refine (checkGood y_c3 SN.out (Own.nil _ 0).reads (by simp)).mono ?_
      rintro e w11 ⟨rfl, hst⟩
      clear SN
      have SN := hid hst
      clear hst
      obtain ⟨p0, p1, q0, q1⟩ := SN.out.free
      go_wp2_with fail
      refine (totalSt (SN.out.alloc _) (rb_lit _ _ 3 [⟨5, 16, 2⟩, ⟨8, 8, -3⟩, ⟨8, 8, 1⟩] #[.int .u8 5, .int .i64 16, .int .i64 2, .int .u8 8, .int .i64 8, .int .i64 (-3), .int .u8 8, .int .i64 8, .int .i64 1] rfl rfl ok_t1 rfl (by omega)) (by simp)).mono ?_
      rintro e w12 ⟨rfl, hst⟩
      rw [show totS [⟨5, 16, 2⟩, ⟨8, 8, -3⟩, ⟨8, 8, 1⟩] = 3 from by decide +kernel]
      clear SN p0 p1 q0 q1
      have SN := hid hst
      clear hst
      obtain ⟨p0, p1, q0, q1⟩ := SN.out.free
      go_wp2_with fail
      refine (totalSt (SN.out.alloc _) (rb_lit _ _ 2 [⟨5, 16, 9223372036854775807⟩, ⟨8, 8, 1⟩] #[.int .u8 5, .int .i64 16, .int .i64 9223372036854775807, .int .u8 8, .int .i64 8, .int .i64 1] rfl rfl ok_t2 rfl (by omega)) (by simp)).mono ?_
      rintro e w13 ⟨rfl, hst⟩
      rw [show totS [⟨5, 16, 9223372036854775807⟩, ⟨8, 8, 1⟩] = 9223372036854775807 from by decide +kernel]
      clear SN p0 p1 q0 q1
      have SN := hid hst
      clear hst
      go_wp2_with fail
      refine (lives8 _).mono ?_
      rintro e w14 ⟨rfl, hb⟩
      have HB := hid (SN.out.bel.trans (hb.mono SN.out.bel.size))
      clear hb SN
      go_wp2
      go_ret
      exact ⟨rfl, HB.out⟩

/-! ### THE ROW's STEP: WRITTEN OUT: LEAVE IT -/
set_option maxRecDepth 100000 in
theorem lifted (os : Os) (started : os.Started) (H : Type) (enc : TypeId × Value → H) :
    ReturnsInHanded {} Try.checked os 7 .any (Rows.ledgerNamesSpec.pre6 enc Try.prog Try.f7 Rows.ledgerNamesRow.domain false) (Rows.ledgerNamesSpec.post enc Try.prog Try.f7 false true false false) := by
  refine returnsInHanded_of_change (C := Try.checked) own started (by kernel_rfl) Try.func7
    (ChangeSpec.witness6 (enc := enc) (C := Try.checked) false ⟨#[], #[], []⟩ 8 (by kernel_rfl) (by kernel_rfl) (by kernel_rfl) (by kernel_rfl)) ?_
  intro W base args ds gs before hval0 hW hcnd _
  have hval : ∀ (j : Nat) t v, Try.f7.params[j]? = some t → args[j]? = some v → Value.okWide Try.prog W .any base t v := hval0
  have hW' := hW
  obtain ⟨p, q, hA0, hV, rfl, hfz, hnd⟩ := hW
  have hA : DataW.TrodAll enc Try.prog W 0 (fun _ => true) true Try.f7.params.toList args.toList ds p := hA0
  rw [Try.params7] at hA hval
  obtain ⟨rfl, rfl, rfl⟩ := trodAll_none hA
  obtain ⟨rfl, rfl⟩ := trodVars_none hV
  clear hA0 hval0
  refine (walk  W).mono fun e W' ⟨he, hg⟩ => ?_
  subst he
  exact ⟨_, rfl, _, _, _, [], _, [], hW', trodAll_mk1 (shut_bool Try.underlying4 _), trodAll_mk0, rfl, hg.frame _, fun h => by cases h⟩

theorem over : Rows.ledgerNamesRow.holds Try.pinned (OpenSpec.ofChange Rows.ledgerNamesSpec) :=
  OpenClaim.holds_of_wide 7 Try.f7 rfl rfl rfl rfl rfl rfl rfl ⟨rfl, rfl, rfl, rfl, rfl⟩ rfl rfl rfl rfl rfl (by kernel_rfl) Try.func7 (by kernel_rfl)
    (of_decide_eq_true (by kernel_rfl)) (by unfold Func.isWrapper; first | (rw [if_pos (by decide +kernel)]; kernel_rfl) | (rw [if_neg (by decide +kernel)]; exact ⟨rfl, rfl⟩))
    (fun os started H enc _ => lifted os started H enc)

/-- ████ THE STATEMENT ████ -/
theorem proved : Rows.LedgerNamesSaid :=
  over
end Go.Proofs.Ytonggccbgiecmaa.ledgerNames
namespace Go.Proofs.Ytonggccbgiecmaa
theorem ledgerNames_holds : Rows.LedgerNamesSaid := ledgerNames.proved
#print axioms ledgerNames_holds
end Go.Proofs.Ytonggccbgiecmaa
