/- What the calls of a mac of the program's answer. -/
import Derived.Test.YtnhhkoekghjogaaDoorUnum
namespace Go.Proofs.YtnhhkoekghjogaaDoor.Kc
open Go.ChangeShapes Go.WideShapes Go.ChangeAt Go.RowKit
open Go.Proofs.YtnhhkoekghjogaaDoor.By Go.Proofs.YtnhhkoekghjogaaDoor.Wd
theorem kisNone_mk {w : World} {g b : Nat} {st : Int} {r : Nat} {z : Z} (h : Mk w g b st r z) : Calls Tryd.prog 46 #[.pointer (some ⟨g, 0, none⟩)] w fun e w' => e = .returned (.bool false) ∧ w' = w := by
  have H := hid h
  have c0 := h.here.cell 0 _ rfl
  have hl := h.sp.lo
  have er : ¬ (r : Int) = 0 := by omega
  have er' : ((r : Int) == 0) = false := by rw [beq_eq_false_iff_ne]; omega
  clear h
  go_enter Tryd.func46, Tryd.ntmps46
  go_wp2_with (go_at_call 44; refine (rate_sp _ _ _ _ _ _ H.out.sp).mono ?_; rintro e w ⟨rfl, rfl⟩)
  go_ret
  exact ⟨rfl, rfl⟩
theorem kisNone_no {w : World} {v : Value} (h : NoM w v) : Calls Tryd.prog 46 #[v] w fun e w' => e = .returned (.bool true) ∧ w' = w := by
  rcases h with rfl | ⟨g, rfl, h⟩
  · go_enter Tryd.func46, Tryd.ntmps46
    go_wp2
    go_ret
    exact ⟨rfl, rfl⟩
  · have c0 := h.cell 0 _ rfl
    clear h
    go_enter Tryd.func46, Tryd.ntmps46
    go_wp2_with (go_at_call 44; refine (rate_nil _).mono ?_; rintro e w ⟨rfl, rfl⟩)
    go_ret
    exact ⟨rfl, rfl⟩
section
variable {w : World} {v : Value}
theorem NoM.write (h : NoM w v) (lp x : Value) : Calls Tryd.prog 21 #[v, lp, x] w fun e w' => e = .returned (.int .i64 1) ∧ w' = w := by
  have H := hid h
  clear h
  go_enter Tryd.func21, Tryd.ntmps21
  go_wp2_with (go_at_call 46; refine (kisNone_no H.out).mono ?_; rintro e w ⟨rfl, rfl⟩)
  go_ret
  exact ⟨rfl, rfl⟩
theorem NoM.sum (h : NoM w v) (lp n x : Value) : Calls Tryd.prog 26 #[v, lp, n, x] w fun e w' => e = .returned (.tuple #[.slice none 0 0, .int .i64 1]) ∧ w' = w := by
  have H := hid h
  clear h
  go_enter Tryd.func26, Tryd.ntmps26
  go_wp2_with (go_at_call 46; refine (kisNone_no H.out).mono ?_; rintro e w ⟨rfl, rfl⟩)
  go_ret2
  exact ⟨rfl, rfl⟩
theorem NoM.clone (h : NoM w v) : Calls Tryd.prog 23 #[v] w fun e w' => e = .returned (.tuple #[.pointer none, .int .i64 1]) ∧ w' = w := by
  have H := hid h
  clear h
  go_enter Tryd.func23, Tryd.ntmps23
  go_wp2_with (go_at_call 46; refine (kisNone_no H.out).mono ?_; rintro e w ⟨rfl, rfl⟩)
  go_ret2
  exact ⟨rfl, rfl⟩
theorem NoM.wipe (h : NoM w v) (lp : Value) : Calls Tryd.prog 24 #[v, lp] w fun e w' => e = .returned (.int .i64 1) ∧ w' = w := by
  have H := hid h
  clear h
  go_enter Tryd.func24, Tryd.ntmps24
  go_wp2_with (go_at_call 46; refine (kisNone_no H.out).mono ?_; rintro e w ⟨rfl, rfl⟩)
  go_ret
  exact ⟨rfl, rfl⟩
theorem NoM.form (h : NoM w v) : Calls Tryd.prog 27 #[v] w fun e w' => e = .returned (.slice none 0 0) ∧ w' = w := by
  have H := hid h
  clear h
  go_enter Tryd.func27, Tryd.ntmps27
  go_wp2_with (go_at_call 46; refine (kisNone_no H.out).mono ?_; rintro e w ⟨rfl, rfl⟩)
  go_ret
  exact ⟨rfl, rfl⟩
theorem NoM.strength (h : NoM w v) : Calls Tryd.prog 33 #[v] w fun e w' => e = .returned (.int .i64 0) ∧ w' = w := by
  have H := hid h
  clear h
  go_enter Tryd.func33, Tryd.ntmps33
  go_wp2_with (go_at_call 46; refine (kisNone_no H.out).mono ?_; rintro e w ⟨rfl, rfl⟩)
  go_ret
  exact ⟨rfl, rfl⟩
end
section
variable {w : World} {g b : Nat} {st : Int} {r : Nat} {z : Z}
theorem Mk.strength (h : Mk w g b st r z) : Calls Tryd.prog 33 #[.pointer (some ⟨g, 0, none⟩)] w fun e w' => e = .returned (.int .i64 st) ∧ w' = w := by
  have H := hid h
  have c1 := h.here.cell 1 _ rfl
  clear h
  go_enter Tryd.func33, Tryd.ntmps33
  go_wp2_with (go_at_call 46; refine (kisNone_mk H.out).mono ?_; rintro e w ⟨rfl, rfl⟩)
  go_ret
  exact ⟨rfl, rfl⟩
/-- Write is the sponge's. -/
theorem Mk.write (h : Mk w g b st r z) (lp x : Value) (R : World → Prop) (hc : Calls Tryd.prog 45 #[.pointer (some ⟨b, 0, none⟩), lp, x] w fun e w' => e = .returned (.int .i64 0) ∧ R w') :
    Calls Tryd.prog 21 #[.pointer (some ⟨g, 0, none⟩), lp, x] w fun e w' => e = .returned (.int .i64 0) ∧ R w' := by
  have H := hid h
  have HC := hid hc
  have c0 := h.here.cell 0 _ rfl
  clear h hc
  go_enter Tryd.func21, Tryd.ntmps21
  go_wp2_with (go_at_call 46; refine (kisNone_mk H.out).mono ?_; rintro e w' ⟨rfl, rfl⟩)
  refine HC.out.mono ?_
  rintro e w1 ⟨rfl, hr⟩
  have HR := hid hr
  clear hr
  go_wp2
  go_ret
  exact ⟨rfl, HR.out⟩
/-- Form is the sponge's. -/
theorem Mk.form (h : Mk w g b st r z) : Calls Tryd.prog 27 #[.pointer (some ⟨g, 0, none⟩)] w fun e w' => e = .returned (.slice (some ⟨w.heap.size, 0, none⟩) 203 203) ∧ Blk w' w.heap.size (bl 203 (fmf z false)) 5 ∧ Below w.heap.size w w' := by
  have H := hid h
  have c0 := h.here.cell 0 _ rfl
  clear h
  go_enter Tryd.func27, Tryd.ntmps27
  go_wp2_with (go_at_call 46; refine (kisNone_mk H.out).mono ?_; rintro e w' ⟨rfl, rfl⟩)
  refine (form_sp _ _ _ _ _ _ H.out.sp).mono ?_
  rintro e w1 ⟨rfl, h1, h2⟩
  have H1 := hid h1
  have H2 := hid h2
  clear h1 h2
  go_wp2
  go_ret
  exact ⟨rfl, H1.out, H2.out⟩
/-- Clone: another mac, another sponge. -/
theorem Mk.clone (h : Mk w g b st r z) : Calls Tryd.prog 23 #[.pointer (some ⟨g, 0, none⟩)] w fun e w' => ∃ g', e = .returned (.tuple #[.pointer (some ⟨g', 0, none⟩), .int .i64 0]) ∧ w.heap.size ≤ g' ∧ Mk w' g' w.heap.size st r z ∧ Below w.heap.size w w' := by
  have H := hid h
  have c0 := h.here.cell 0 _ rfl
  have c1 := h.here.cell 1 _ rfl
  have HT := hid h.str
  clear h
  go_enter Tryd.func23, Tryd.ntmps23
  go_wp2_with (go_at_call 46; refine (kisNone_mk H.out).mono ?_; rintro e w' ⟨rfl, rfl⟩)
  refine (clone_sp _ _ _ _ _ _ H.out.sp).mono ?_
  rintro e w1 ⟨rfl, hs, hb⟩
  have HS1 := hid hs
  have HB1 := hid hb
  have c1' := (H.out.here.below hb).cell 1 _ rfl
  clear hs hb
  go_wp2
  go_ret2
  have bn := Blk.newAt w1 #[.pointer (some ⟨w'.heap.size, 0, none⟩), .int .i64 st] [.pointer (some ⟨w'.heap.size, 0, none⟩), .int .i64 st] 67 w1.heap.size rfl rfl
  exact ⟨_, rfl, HB1.out.size, ⟨bn, HS1.out.below (below_alloc _ _), HT.out⟩, below_next HB1.out (below_alloc _ _)⟩
/-- Wipe, without what is recorded. -/
theorem Mk.wipe (h : Mk w g b st r z) (lo : Option Nat) (L : List Rn) (S : Nat → Prop) (hSg : S g) (hSb : S b) (hl : LG S w w lo L) (hroom : Big L) :
    Calls Tryd.prog 24 #[.pointer (some ⟨g, 0, none⟩), lpv lo] w fun e w' => e = .returned (.int .i64 0) ∧ Blk w' g [.pointer none, .int .i64 0] 67 ∧ NoSp w' b ∧ LG S w w' lo (putL L ⟨8, 203, 1⟩) ∧ Kp S w w' := by
  have H := hid h
  have HG := hid hSg
  have HB := hid hSb
  have HL := hid hl
  have HR := hid hroom
  have c0 := h.here.cell 0 _ rfl
  have c1 := h.here.cell 1 _ rfl
  clear h hSg hSb hl hroom
  go_enter Tryd.func24, Tryd.ntmps24
  go_wp2_with (go_at_call 46; refine (kisNone_mk H.out).mono ?_; rintro e w' ⟨rfl, rfl⟩)
  have hgb : g ≠ b := fun e => by have h1 := H.out.here; have h2 := H.out.sp.here; rw [← e] at h2; exact Blk.ne h1 h2 (by decide) rfl
  have HL0 := hid (show LG (fun j => S j ∧ j ≠ g) w' w' lo L from by
    cases lo with
    | none => trivial
    | some lb =>
      obtain ⟨hs, rv, hl, ho⟩ := HL.out
      have hn := led_apart hl H.out.here (by decide) (by decide)
      exact ⟨⟨hs, fun e => hn (.inl e.symm)⟩, rv, hl, fun x hx hlt => ⟨ho x hx hlt, fun e => hn (.inr (by rw [← e]; exact hx))⟩⟩)
  refine (wipe_sp _ _ _ _ _ lo L (fun j => S j ∧ j ≠ g) w' H.out.sp ⟨HB.out, fun e => hgb e.symm⟩ HL0.out HR.out).mono ?_
  rintro e w1 ⟨rfl, hs, hlg, hkp⟩
  have HS1 := hid hs
  have HG1 := hid (H.out.here.kept hkp (fun e => e.2 rfl))
  have HL1 := hid (show LG S w' w1 lo (putL L ⟨8, 203, 1⟩) from by
    cases lo with
    | none => trivial
    | some lb =>
      obtain ⟨hs, rv, hl, ho⟩ := hlg
      exact ⟨hs.1, rv, hl, fun x hx hlt => (ho x hx hlt).1⟩)
  have HK1 := hid (hkp.mono (fun _ _ e => e.1) : Kp S w' w1)
  clear hs hlg hkp HL0 c0 c1
  have c0 := HG1.out.cell 0 _ rfl
  have c1 := HG1.out.cell 1 _ rfl
  have f0 := HG1.out.frozen 0
  have f1 := HG1.out.frozen 1
  have B2 := hid ((HG1.out.set 0 (.pointer none)).set 1 (.int .i64 0))
  have KK : Kp (fun j => j = g) w1 ((w1.setCell ⟨g, 0, none⟩ (.pointer none)).setCell ⟨g, 1, none⟩ (.int .i64 0)) := (Kp.setCell g 0 _).trans (Kp.setCell g 1 _) (fun _ _ e => e)
  have K2 := hid (HK1.out.trans KK (fun j _ e => by have e' : j = g := e; rw [e']; exact HG.out))
  have L2 := hid (HL1.out.kept KK (fun x e => by have e' : x = g := e; rw [e']; exact ⟨_, _, HG1.out, by decide, by decide⟩))
  have N2 : Hid (NoSp ((w1.setCell ⟨g, 0, none⟩ (.pointer none)).setCell ⟨g, 1, none⟩ (.int .i64 0)) b) := by
    obtain ⟨cs, hc⟩ := HS1.out
    exact ⟨cs, hc.kept KK (fun e => hgb e.symm)⟩
  clear KK
  go_wp2
  go_ret
  exact ⟨rfl, B2.out, N2.out, L2.out, K2.out⟩
end
end Go.Proofs.YtnhhkoekghjogaaDoor.Kc
