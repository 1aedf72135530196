/- KMAC as numbers; what a mac of the program's is. What the calls of a mac of the program's answer. What New, Sum and Tag of the program answer. What New and Tag of the program answer. -/
import Derived.Test.YtnhhkoekghjogaaGreatDoorXtold
import Derived.Test.YtnhhkoekghjogaaGreatDoorXany
import Derived.Lib.SlBytesConst
namespace Go.Proofs.YtnhhkoekghjogaaGreatDoor.Kc
open Go.ChangeShapes Go.WideShapes Go.ChangeAt Go.RowKit
open Go.Proofs.YtnhhkoekghjogaaGreatDoor.By Go.Proofs.YtnhhkoekghjogaaGreatDoor.Wd
/-- The name. -/
def kmc : Nat → Int := lst [75, 77, 65, 67]
theorem kmc_b (i : Nat) : 0 ≤ kmc i ∧ kmc i < 256 := lst_bound _ (by decide) i
/-- A ledger with room for many events more. -/
def Tiny (L : List Rn) : Prop := tot L ≤ 2305843009200000000 ∧ L.length ≤ 5000000
theorem tiny_nil : Tiny [] := ⟨by decide, by decide⟩
theorem Tiny.big {L : List Rn} (h : Tiny L) (hp : Pos L) (c : Nat) (hc : c ≤ 3000000) : Big (evk L c) := by
  have h1 := h.1
  have h2 := h.2
  have h3 := evk_len L c
  refine ⟨?_, by omega⟩
  rw [evk_tot hp c (by omega)]; omega
theorem tiny_evn (c : Nat) (hc : c ≤ 3000000) : Tiny (evk [] c) := by
  have h3 := evk_len [] c
  have h4 : tot [] = 0 := rfl
  refine ⟨?_, by simp at h3; omega⟩
  rw [evk_tot pos_nil c (by omega)]; omega
theorem sfx4 (c : Nat) : sfx 4 c = 4 := if_neg (by omega)
theorem pN_up (m r : Nat) (hr : 1 ≤ r) (hr2 : r ≤ 256) : pN m r ≤ m + 300 := by
  have h3 := (nb_pos r).2
  have h4 := pz_lt m r (by omega)
  unfold pN pn; omega
/-- The sponge that New makes. -/
def kz (r a : Nat) (f : Nat → Int) (c : Nat) (h : Nat → Int) : Z := Z.ins r (bz r 4 kmc c h) (pg (sn a) (sg a f) r) (pN (sn a) r)
/-- What goes in behind a message; the sponge of a tag. -/
def ku (n : Nat) (xof : Bool) : Nat := match xof with | true => 0 | false => 8 * n
def ke (r : Nat) (z : Z) (n : Nat) (xof : Bool) : Z := Z.ins r z (rt (ku n xof)) (nb (ku n xof) + 1)
def ky (r : Nat) (z : Z) (n : Nat) (xof : Bool) : Z := Z.fin r 4 (ke r z n xof)
/-- How many events a tag has. -/
def kN (r : Nat) (z : Z) (n : Nat) (xof : Bool) : Nat := (Z.out r (ky r z n xof) n).c - z.c
theorem ku_lt (n : Nat) (xof : Bool) (hn : n ≤ 65536) : ku n xof < 9223372036854775808 := by cases xof <;> simp only [ku] <;> omega
section
variable {st : Int} {r : Nat} (hst : Str st r)
include hst
theorem kz_ok (a c : Nat) (f h : Nat → Int) : (kz r a f c h).Ok r false := (bz_ok hst 4 c kmc h).ins (by have := hst.lo; omega) _ _
theorem kz_ge (a c : Nat) (f h : Nat → Int) : (bz r 4 kmc c h).c ≤ (kz r a f c h).c := ins_ge ((bz_ok hst 4 c kmc h).o rfl) _ _
theorem kz_le (a c : Nat) (f h : Nat → Int) (ha : a ≤ 1000000) (hc : c ≤ 1000000) : (kz r a f c h).c ≤ 30000 := by
  have h1 := hst.lo
  have h2 := pN_up (sn a) r (by omega) (by omega)
  have h3 := sn_le' a
  exact z2_le hst 4 c kmc h _ _ (by omega) (by omega)
theorem ins_up {z : Z} (hz : z.Ok r false) (g : Nat → Int) (n : Nat) (hn : n ≤ 1000000) : (Z.ins r z g n).c ≤ z.c + 8000 := by
  have h1 := hst.lo
  have h0 := hz.o rfl
  have h2 := ins_c h0 g n
  have h3 := ins_ge h0 g n
  have h4 : (z.p + n) / r ≤ 8000 := by
    rcases hst with ⟨_, rfl⟩ | ⟨_, rfl⟩ <;> omega
  omega
theorem ke_ok {z : Z} (hz : z.Ok r false) (n : Nat) (xof : Bool) : (ke r z n xof).Ok r false := hz.ins (by have := hst.lo; omega) _ _
omit hst in
theorem ke_ge {z : Z} (hz : z.Ok r false) (n : Nat) (xof : Bool) : z.c ≤ (ke r z n xof).c := ins_ge (hz.o rfl) _ _
theorem ke_le {z : Z} (hz : z.Ok r false) (n : Nat) (xof : Bool) : (ke r z n xof).c ≤ z.c + 8000 := ins_up hst hz _ _ (by have := (nb_pos (ku n xof)).2; omega)
theorem ky_ok (z : Z) (n : Nat) (xof : Bool) : (ky r z n xof).Ok r true := Z.Ok.fin _ true _ (by have := hst.lo; omega)
theorem kN_le {z : Z} (hz : z.Ok r false) (n : Nat) (xof : Bool) (hn : n ≤ 65536) : kN r z n xof ≤ 80000 := by
  have h1 := ke_le hst hz n xof
  have h2 := out_le r (ky r z n xof) n
  have h3 : (ky r z n xof).c = (ke r z n xof).c + 1 := rfl
  unfold kN; omega
theorem say_kb (z : Z) (n : Nat) (xof : Bool) (i : Nat) : 0 ≤ Z.say r (ky r z n xof) i ∧ Z.say r (ky r z n xof) i < 256 := say_b (ky_ok hst z n xof) (by have := hst.lo; omega) i
end
theorem kN_eq {r : Nat} {z : Z} (hz : z.Ok r false) (n : Nat) (xof : Bool) : ((ke r z n xof).c - z.c) + (1 + ((Z.out r (ky r z n xof) n).c - (ky r z n xof).c)) = kN r z n xof := by
  have h1 : z.c ≤ (ke r z n xof).c := ins_ge (hz.o rfl) _ _
  have h2 := out_ge r (ky r z n xof) n
  have h3 : (ky r z n xof).c = (ke r z n xof).c + 1 := rfl
  unfold kN; omega
/-- A mac of the program's in block g, its sponge in block b. -/
structure Mk (w : World) (g b : Nat) (st : Int) (r : Nat) (z : Z) : Prop where
  here : Blk w g [.pointer (some ⟨b, 0, none⟩), .int .i64 st] 90
  sp : Sp w b r 4 z false
  str : Str st r
theorem Mk.below {w w' : World} {g b : Nat} {st : Int} {r : Nat} {z : Z} (h : Mk w g b st r z) (hb : Below w.heap.size w w') : Mk w' g b st r z := ⟨h.here.below hb, h.sp.below hb, h.str⟩
theorem Mk.kept {S : Nat → Prop} {w w' : World} {g b : Nat} {st : Int} {r : Nat} {z : Z} (h : Mk w g b st r z) (hk : Kp S w w') (h1 : ¬ S g) (h2 : ¬ S b) : Mk w' g b st r z := ⟨h.here.kept hk h1, h.sp.kept hk h2, h.str⟩
/-- No mac. -/
def NoM (w : World) (v : Value) : Prop := v = .pointer none ∨ ∃ g, v = .pointer (some ⟨g, 0, none⟩) ∧ Blk w g [.pointer none, .int .i64 0] 90
theorem NoM.below {w w' : World} {v : Value} (h : NoM w v) (hb : Below w.heap.size w w') : NoM w' v := by
  rcases h with h | ⟨g, e, h⟩
  · exact .inl h
  · exact .inr ⟨g, e, h.below hb⟩
theorem Tiny.mono {L : List Rn} (h : Tiny L) : Big L := ⟨by have := h.1; omega, by have := h.2; omega⟩
end Go.Proofs.YtnhhkoekghjogaaGreatDoor.Kc
namespace Go.Proofs.YtnhhkoekghjogaaGreatDoor.Kc
open Go.ChangeShapes Go.WideShapes Go.ChangeAt Go.RowKit
open Go.Proofs.YtnhhkoekghjogaaGreatDoor.By Go.Proofs.YtnhhkoekghjogaaGreatDoor.Wd
theorem kisNone_mk {w : World} {g b : Nat} {st : Int} {r : Nat} {z : Z} (h : Mk w g b st r z) : Calls Tryz.prog 54 #[.pointer (some ⟨g, 0, none⟩)] w fun e w' => e = .returned (.bool false) ∧ w' = w := by
  have H := hid h
  have c0 := h.here.cell 0 _ rfl
  have hl := h.sp.lo
  have er : ¬ (r : Int) = 0 := by omega
  have er' : ((r : Int) == 0) = false := by rw [beq_eq_false_iff_ne]; omega
  clear h
  go_enter Tryz.func54, Tryz.ntmps54
  go_wp2_with (go_at_call 47; refine (rate_sp _ _ _ _ _ _ H.out.sp).mono ?_; rintro e w ⟨rfl, rfl⟩)
  go_ret
  exact ⟨rfl, rfl⟩
theorem kisNone_no {w : World} {v : Value} (h : NoM w v) : Calls Tryz.prog 54 #[v] w fun e w' => e = .returned (.bool true) ∧ w' = w := by
  rcases h with rfl | ⟨g, rfl, h⟩
  · go_enter Tryz.func54, Tryz.ntmps54
    go_wp2
    go_ret
    exact ⟨rfl, rfl⟩
  · have c0 := h.cell 0 _ rfl
    clear h
    go_enter Tryz.func54, Tryz.ntmps54
    go_wp2_with (go_at_call 47; refine (rate_nil _).mono ?_; rintro e w ⟨rfl, rfl⟩)
    go_ret
    exact ⟨rfl, rfl⟩
section
variable {w : World} {v : Value}
theorem NoM.write (h : NoM w v) (lp x : Value) : Calls Tryz.prog 27 #[v, lp, x] w fun e w' => e = .returned (.int .i64 1) ∧ w' = w := by
  have H := hid h
  clear h
  go_enter Tryz.func27, Tryz.ntmps27
  go_wp2_with (go_at_call 54; refine (kisNone_no H.out).mono ?_; rintro e w ⟨rfl, rfl⟩)
  go_ret
  exact ⟨rfl, rfl⟩
theorem NoM.sum (h : NoM w v) (lp n x : Value) : Calls Tryz.prog 29 #[v, lp, n, x] w fun e w' => e = .returned (.tuple #[.slice none 0 0, .int .i64 1]) ∧ w' = w := by
  have H := hid h
  clear h
  go_enter Tryz.func29, Tryz.ntmps29
  go_wp2_with (go_at_call 54; refine (kisNone_no H.out).mono ?_; rintro e w ⟨rfl, rfl⟩)
  go_ret2
  exact ⟨rfl, rfl⟩
theorem NoM.clone (h : NoM w v) : Calls Tryz.prog 32 #[v] w fun e w' => e = .returned (.tuple #[.pointer none, .int .i64 1]) ∧ w' = w := by
  have H := hid h
  clear h
  go_enter Tryz.func32, Tryz.ntmps32
  go_wp2_with (go_at_call 54; refine (kisNone_no H.out).mono ?_; rintro e w ⟨rfl, rfl⟩)
  go_ret2
  exact ⟨rfl, rfl⟩
theorem NoM.wipe (h : NoM w v) (lp : Value) : Calls Tryz.prog 34 #[v, lp] w fun e w' => e = .returned (.int .i64 1) ∧ w' = w := by
  have H := hid h
  clear h
  go_enter Tryz.func34, Tryz.ntmps34
  go_wp2_with (go_at_call 54; refine (kisNone_no H.out).mono ?_; rintro e w ⟨rfl, rfl⟩)
  go_ret
  exact ⟨rfl, rfl⟩
theorem NoM.form (h : NoM w v) : Calls Tryz.prog 36 #[v] w fun e w' => e = .returned (.slice none 0 0) ∧ w' = w := by
  have H := hid h
  clear h
  go_enter Tryz.func36, Tryz.ntmps36
  go_wp2_with (go_at_call 54; refine (kisNone_no H.out).mono ?_; rintro e w ⟨rfl, rfl⟩)
  go_ret
  exact ⟨rfl, rfl⟩
theorem NoM.strength (h : NoM w v) : Calls Tryz.prog 38 #[v] w fun e w' => e = .returned (.int .i64 0) ∧ w' = w := by
  have H := hid h
  clear h
  go_enter Tryz.func38, Tryz.ntmps38
  go_wp2_with (go_at_call 54; refine (kisNone_no H.out).mono ?_; rintro e w ⟨rfl, rfl⟩)
  go_ret
  exact ⟨rfl, rfl⟩
end
section
variable {w : World} {g b : Nat} {st : Int} {r : Nat} {z : Z}
theorem Mk.strength (h : Mk w g b st r z) : Calls Tryz.prog 38 #[.pointer (some ⟨g, 0, none⟩)] w fun e w' => e = .returned (.int .i64 st) ∧ w' = w := by
  have H := hid h
  have c1 := h.here.cell 1 _ rfl
  clear h
  go_enter Tryz.func38, Tryz.ntmps38
  go_wp2_with (go_at_call 54; refine (kisNone_mk H.out).mono ?_; rintro e w ⟨rfl, rfl⟩)
  go_ret
  exact ⟨rfl, rfl⟩
/-- Write is the sponge's. -/
theorem Mk.write (h : Mk w g b st r z) (lp x : Value) (R : World → Prop) (hc : Calls Tryz.prog 48 #[.pointer (some ⟨b, 0, none⟩), lp, x] w fun e w' => e = .returned (.int .i64 0) ∧ R w') :
    Calls Tryz.prog 27 #[.pointer (some ⟨g, 0, none⟩), lp, x] w fun e w' => e = .returned (.int .i64 0) ∧ R w' := by
  have H := hid h
  have HC := hid hc
  have c0 := h.here.cell 0 _ rfl
  clear h hc
  go_enter Tryz.func27, Tryz.ntmps27
  go_wp2_with (go_at_call 54; refine (kisNone_mk H.out).mono ?_; rintro e w' ⟨rfl, rfl⟩)
  refine HC.out.mono ?_
  rintro e w1 ⟨rfl, hr⟩
  have HR := hid hr
  clear hr
  go_wp2
  go_ret
  exact ⟨rfl, HR.out⟩
/-- Form is the sponge's. -/
theorem Mk.form (h : Mk w g b st r z) : Calls Tryz.prog 36 #[.pointer (some ⟨g, 0, none⟩)] w fun e w' => e = .returned (.slice (some ⟨w.heap.size, 0, none⟩) 203 203) ∧ Blk w' w.heap.size (bl 203 (fmf z false)) 5 ∧ Below w.heap.size w w' := by
  have H := hid h
  have c0 := h.here.cell 0 _ rfl
  clear h
  go_enter Tryz.func36, Tryz.ntmps36
  go_wp2_with (go_at_call 54; refine (kisNone_mk H.out).mono ?_; rintro e w' ⟨rfl, rfl⟩)
  refine (form_sp _ _ _ _ _ _ H.out.sp).mono ?_
  rintro e w1 ⟨rfl, h1, h2⟩
  have H1 := hid h1
  have H2 := hid h2
  clear h1 h2
  go_wp2
  go_ret
  exact ⟨rfl, H1.out, H2.out⟩
/-- Clone: another mac, another sponge. -/
theorem Mk.clone (h : Mk w g b st r z) : Calls Tryz.prog 32 #[.pointer (some ⟨g, 0, none⟩)] w fun e w' => ∃ g', e = .returned (.tuple #[.pointer (some ⟨g', 0, none⟩), .int .i64 0]) ∧ w.heap.size ≤ g' ∧ Mk w' g' w.heap.size st r z ∧ Below w.heap.size w w' := by
  have H := hid h
  have c0 := h.here.cell 0 _ rfl
  have c1 := h.here.cell 1 _ rfl
  have HT := hid h.str
  clear h
  go_enter Tryz.func32, Tryz.ntmps32
  go_wp2_with (go_at_call 54; refine (kisNone_mk H.out).mono ?_; rintro e w' ⟨rfl, rfl⟩)
  refine (clone_sp _ _ _ _ _ _ H.out.sp).mono ?_
  rintro e w1 ⟨rfl, hs, hb⟩
  have HS1 := hid hs
  have HB1 := hid hb
  have c1' := (H.out.here.below hb).cell 1 _ rfl
  clear hs hb
  go_wp2
  go_ret2
  have bn := Blk.newAt w1 #[.pointer (some ⟨w'.heap.size, 0, none⟩), .int .i64 st] [.pointer (some ⟨w'.heap.size, 0, none⟩), .int .i64 st] 90 w1.heap.size rfl rfl
  exact ⟨_, rfl, HB1.out.size, ⟨bn, HS1.out.below (below_alloc _ _), HT.out⟩, below_next HB1.out (below_alloc _ _)⟩
/-- Wipe, without what is recorded. -/
theorem Mk.wipe (h : Mk w g b st r z) (lo : Option Nat) (L : List Rn) (S : Nat → Prop) (hSg : S g) (hSb : S b) (hl : LG S w w lo L) (hroom : Big L) :
    Calls Tryz.prog 34 #[.pointer (some ⟨g, 0, none⟩), lpv lo] w fun e w' => e = .returned (.int .i64 0) ∧ Blk w' g [.pointer none, .int .i64 0] 90 ∧ NoSp w' b ∧ LG S w w' lo (putL L ⟨8, 203, 1⟩) ∧ Kp S w w' := by
  have H := hid h
  have HG := hid hSg
  have HB := hid hSb
  have HL := hid hl
  have HR := hid hroom
  have c0 := h.here.cell 0 _ rfl
  have c1 := h.here.cell 1 _ rfl
  clear h hSg hSb hl hroom
  go_enter Tryz.func34, Tryz.ntmps34
  go_wp2_with (go_at_call 54; refine (kisNone_mk H.out).mono ?_; rintro e w' ⟨rfl, rfl⟩)
  have hgb : g ≠ b := fun e => by have h1 := H.out.here; have h2 := H.out.sp.here; rw [← e] at h2; exact Blk.ne h1 h2 (by decide) rfl
  have HL0 := hid (show LG (fun j => S j ∧ j ≠ g) w' w' lo L from by
    cases lo with
    | none => trivial
    | some lb =>
      obtain ⟨hs, rv, hl, ho⟩ := HL.out
      have hn := led_apart hl H.out.here (by decide) (by decide)
      exact ⟨⟨hs, fun e => hn (.inl e.symm)⟩, rv, hl, fun x hx hlt => ⟨ho x hx hlt, fun e => hn (.inr (by rw [← e]; exact hx))⟩⟩)
  refine (wipe_sp _ _ _ _ _ lo L (fun j => S j ∧ j ≠ g) w' H.out.sp ⟨HB.out, fun e => hgb e.symm⟩ HL0.out HR.out).mono ?_
  rintro e w1 ⟨rfl, hs, hlg, hkp⟩
  have HS1 := hid hs
  have HG1 := hid (H.out.here.kept hkp (fun e => e.2 rfl))
  have HL1 := hid (show LG S w' w1 lo (putL L ⟨8, 203, 1⟩) from by
    cases lo with
    | none => trivial
    | some lb =>
      obtain ⟨hs, rv, hl, ho⟩ := hlg
      exact ⟨hs.1, rv, hl, fun x hx hlt => (ho x hx hlt).1⟩)
  have HK1 := hid (hkp.mono (fun _ _ e => e.1) : Kp S w' w1)
  clear hs hlg hkp HL0 c0 c1
  have c0 := HG1.out.cell 0 _ rfl
  have c1 := HG1.out.cell 1 _ rfl
  have f0 := HG1.out.frozen 0
  have f1 := HG1.out.frozen 1
  have B2 := hid ((HG1.out.set 0 (.pointer none)).set 1 (.int .i64 0))
  have KK : Kp (fun j => j = g) w1 ((w1.setCell ⟨g, 0, none⟩ (.pointer none)).setCell ⟨g, 1, none⟩ (.int .i64 0)) := (Kp.setCell g 0 _).trans (Kp.setCell g 1 _) (fun _ _ e => e)
  have K2 := hid (HK1.out.trans KK (fun j _ e => by have e' : j = g := e; rw [e']; exact HG.out))
  have L2 := hid (HL1.out.kept KK (fun x e => by have e' : x = g := e; rw [e']; exact ⟨_, _, HG1.out, by decide, by decide⟩))
  have N2 : Hid (NoSp ((w1.setCell ⟨g, 0, none⟩ (.pointer none)).setCell ⟨g, 1, none⟩ (.int .i64 0)) b) := by
    obtain ⟨cs, hc⟩ := HS1.out
    exact ⟨cs, hc.kept KK (fun e => hgb e.symm)⟩
  clear KK
  go_wp2
  go_ret
  exact ⟨rfl, B2.out, N2.out, L2.out, K2.out⟩
end
end Go.Proofs.YtnhhkoekghjogaaGreatDoor.Kc
namespace Go.Proofs.YtnhhkoekghjogaaGreatDoor.Kc
open Go.ChangeShapes Go.WideShapes Go.ChangeAt Go.RowKit
open Go.Proofs.YtnhhkoekghjogaaGreatDoor.By Go.Proofs.YtnhhkoekghjogaaGreatDoor.Wd
theorem told_ok (n : Nat) (w : World) (hn : n ≤ 65536) : Calls Tryz.prog 42 #[.int .i64 n] w fun e w' => e = .returned (.bool true) ∧ w' = w := by
  have n1 : ¬ (n : Int) < 0 := by omega
  have n2 : ¬ (65536 : Int) < n := by omega
  have n3 : (0 : Int) ≤ n := by omega
  have n4 : (n : Int) ≤ 65536 := by omega
  go_enter Tryz.func42, Tryz.ntmps42
  go_wp2
  go_ret
  exact ⟨rfl, rfl⟩
theorem told_no (n : Int) (w : World) (hn : n < 0 ∨ 65536 < n) : Calls Tryz.prog 42 #[.int .i64 n] w fun e w' => e = .returned (.bool false) ∧ w' = w := by
  by_cases h1 : n < 0
  · have n1 : ¬ (0 : Int) ≤ n := by omega
    go_enter Tryz.func42, Tryz.ntmps42
    go_wp2
    go_ret
    exact ⟨rfl, rfl⟩
  · have h2 : 65536 < n := by omega
    have n1 : (0 : Int) ≤ n := by omega
    have n2 : ¬ n ≤ 65536 := by omega
    go_enter Tryz.func42, Tryz.ntmps42
    go_wp2
    go_ret
    exact ⟨rfl, rfl⟩
theorem lastOf1 (n : Nat) (xof : Bool) (w : World) (hn : n ≤ 65536) : Calls Tryz.prog 57 #[.int .i64 n, .bool xof] w fun e w' => ∃ v, e = .returned (.tuple #[v, .int .i64 0]) ∧ By.Own w' w.heap.size v (nb (ku n xof) + 1) (rt (ku n xof)) ∧ Below w.heap.size w w' := by
  cases xof with
  | true =>
    go_enter Tryz.func57, Tryz.ntmps57
    go_wp2_with fail
    refine (rightOk 0 w (by omega)).mono ?_
    rintro e w1 ⟨v, rfl, ho, hb⟩
    have HO := hid ho
    have HB := hid hb
    clear ho hb
    go_wp2
    go_ret2
    exact ⟨_, rfl, HO.out, HB.out⟩
  | false =>
    go_enter Tryz.func57, Tryz.ntmps57
    go_wp2_with fail
    refine (rightOk (8 * n) w (by omega)).mono ?_
    rintro e w1 ⟨v, rfl, ho, hb⟩
    have HO := hid ho
    have HB := hid hb
    clear ho hb
    go_wp2
    go_ret2
    exact ⟨_, rfl, HO.out, HB.out⟩
section
variable {w : World} {g b : Nat} {st : Int} {r : Nat} {z : Z}
theorem Mk.sum_no (h : Mk w g b st r z) (lp x : Value) (n : Int) (hn : n < 0 ∨ 65536 < n) : Calls Tryz.prog 29 #[.pointer (some ⟨g, 0, none⟩), lp, .int .i64 n, x] w fun e w' => e = .returned (.tuple #[.slice none 0 0, .int .i64 2]) ∧ w' = w := by
  have H := hid h
  have HN := hid hn
  clear h hn
  go_enter Tryz.func29, Tryz.ntmps29
  go_wp2_with (first
    | (go_at_call 54; refine (kisNone_mk H.out).mono ?_; rintro e w ⟨rfl, rfl⟩)
    | (go_at_call 42; refine (told_no n _ HN.out).mono ?_; rintro e w ⟨rfl, rfl⟩))
  go_ret2
  exact ⟨rfl, rfl⟩
set_option maxRecDepth 4000 in
set_option maxHeartbeats 2000000 in
theorem Mk.sum (h : Mk w g b st r z) (lo : Option Nat) (L : List Rn) (S : Nat → Prop) (n : Nat) (xof : Bool) (hk : KT w) (hS0 : ¬ S 0) (hS1 : ¬ S 1) (hl : LG S w w lo L) (hpos : Pos L) (hT : Tiny L) (hn : n ≤ 65536) :
    Calls Tryz.prog 29 #[.pointer (some ⟨g, 0, none⟩), lpv lo, .int .i64 n, .bool xof] w fun e w' => ∃ v, e = .returned (.tuple #[v, .int .i64 0]) ∧ By.Own w' w.heap.size v n (Z.say r (ky r z n xof)) ∧ LG S w w' lo (evk L (kN r z n xof)) ∧ Kp S w w' := by
  have H := hid h
  have c0 := h.here.cell 0 _ rfl
  have HST := hid h.str
  have HZ := hid h.sp.ok
  have HK := hid hk
  have HS0 := hid hS0
  have HS1 := hid hS1
  have HL := hid hl
  have HPOS := hid hpos
  have HT := hid hT
  clear h hk hS0 hS1 hl hpos hT
  go_enter Tryz.func29, Tryz.ntmps29
  go_wp2_with (first
    | (go_at_call 54; refine (kisNone_mk H.out).mono ?_; rintro e w' ⟨rfl, rfl⟩)
    | (go_at_call 42; refine (told_ok n _ hn).mono ?_; rintro e w' ⟨rfl, rfl⟩))
  refine (clone_sp _ _ _ _ _ _ H.out.sp).mono ?_
  rintro e w1 ⟨rfl, hs, hb⟩
  have S1 := hid hs
  have B1 := hid hb
  clear hs hb c0
  obtain ⟨bb, eb⟩ : ∃ b, w'.heap.size = b := ⟨_, rfl⟩
  have EB := hid eb
  rw [eb] at S1
  rw [eb]
  clear eb
  go_wp2_with fail
  refine (lastOf1 n xof w1 hn).mono ?_
  rintro e w2 ⟨v2, rfl, ho, hb⟩
  have O2 := hid ho
  have B2 := hid (below_next B1.out hb)
  have S2 := hid (S1.out.below hb)
  have Z1 : Hid (bb < w1.heap.size) := by have := S1.out.here.lt; exact this
  clear ho hb S1
  have hnb : nb (ku n xof) + 1 ≤ 9000000 := by have := (nb_pos (ku n xof)).2; omega
  go_wp2_with fail
  refine (write_sp bb r (nb (ku n xof) + 1) 4 v2 z (rt (ku n xof)) lo L (Sb w' S bb) w2 S2.out (HK.out.below B2.out) (sb_no HS0.out EB.out (by have := kt_lt HK.out; omega)) (sb_no HS1.out EB.out (kt_lt HK.out)) (.inr rfl) (HL.out.sb B2.out) HPOS.out (fun w' hk' => (own_kept O2.out hk' (fun g hg e => by
    have h1 := own_row O2.out g hg
    have h2 := Z1.out
    have h3 := B1.out.size
    rcases e with ⟨_, e⟩ | e <;> omega)).reads) hnb HT.out.mono).mono ?_
  rintro e w3 ⟨rfl, hs, hlg, hkp⟩
  have S3 := hid hs
  have L3 := hid (HL.out.sbBack hlg EB.out B2.out.size)
  have K3 : Hid (Kp S w' w3) := (Kp.of_below S B2.out).trans hkp (fun i hi e => by have := EB.out; rcases e with ⟨e, _⟩ | e; exact e; omega)
  clear hs hlg hkp O2 B2 S2
  have hge : w'.heap.size ≤ bb := Nat.le_of_eq EB.out
  have hcc : (ke r z n xof).c - z.c ≤ 3000000 := by have := ke_le HST.out HZ.out n xof; omega
  go_wp2_with fail
  refine (read_open bb r n 4 _ (ky r z n xof) lo _ (Nw w' S) w3 S3.out (HK.out.kept K3.out HS0.out HS1.out) (nw0 HK.out HS0.out) (nw1 HK.out HS1.out) (.inr hge) L3.out.nw (evk_pos HPOS.out _) hn (HT.out.big HPOS.out _ hcc) _ rfl rfl).mono ?_
  rintro e w4 ⟨gb, rfl, hgb, hs, hbl, hlg, hkp⟩
  have R1 := hid (own_blk hbl (say_kb HST.out z n xof) (show w'.heap.size ≤ gb by have := K3.out.size; omega) (by simp [maxLen]; omega))
  have R2 : Hid (LG S w' w4 lo (evk L (kN r z n xof))) := by
    have hlg2 : LG (Nw w' S) w3 w4 lo (evk L (kN r z n xof)) := by
      rw [← kN_eq HZ.out n xof, evk_add, evk_add]; exact hlg
    exact HL.out.back hlg2 K3.out.size
  have R3 := hid (Kp.nw K3.out hkp)
  clear hs hbl hlg hkp S3 L3
  go_wp2
  go_ret2
  exact ⟨_, rfl, R1.out, R2.out, R3.out⟩
end
end Go.Proofs.YtnhhkoekghjogaaGreatDoor.Kc
namespace Go.Proofs.YtnhhkoekghjogaaGreatDoor.Kc
open Go.ChangeShapes Go.WideShapes Go.ChangeAt Go.RowKit
open Go.Proofs.YtnhhkoekghjogaaGreatDoor.By Go.Proofs.YtnhhkoekghjogaaGreatDoor.Wd
theorem rb_marked (w : World) (n : Nat) (f : Nat → Int) (fr : Nat × Nat) (hf : ∀ i, 0 ≤ f i ∧ f i < 256) (hn : n ≤ maxLen) : By.RB (w.alloc (.cells (bl n f).toArray 5 fr)) (.slice (some ⟨w.heap.size, 0, none⟩) n n) n f :=
  ⟨hf, _, _, rfl, Nat.le_refl _, hn, .inr ⟨_, 0, rfl, fun i hi => by
    rw [cell_of_row _ w.heap.size (0 + i) _ 5 fr (heap_alloc_last w _), Nat.zero_add]
    simpa using bl_get n f i hi⟩⟩
theorem rb_kept {w w' : World} {S : Nat → Prop} {g o n cap : Nat} {f : Nat → Int} (h : By.RB w (.slice (some ⟨g, o, none⟩) n cap) n f) (hk : Kp S w w') (hn : ¬ S g) : By.RB w' (.slice (some ⟨g, o, none⟩) n cap) n f := by
  obtain ⟨hf, a, c, e, h1, h2, hc⟩ := h
  simp only [Value.slice.injEq, true_and] at e
  obtain ⟨rfl, rfl⟩ := e
  refine ⟨hf, _, _, rfl, h1, h2, ?_⟩
  rcases hc with hc | ⟨b, off, e, hc⟩
  · exact .inl hc
  · refine .inr ⟨b, off, e, fun i hi => ?_⟩
    simp only [Option.some.injEq, Addr.mk.injEq, and_true] at e
    obtain ⟨rfl, rfl⟩ := e
    have h1 := hc i hi
    rw [← h1]
    have hl := block_lt_of_cell h1
    simp [World.cell?, hk.block g hl hn]
/-- Blocks that may be turned: the old ones of S. -/
def So (w : World) (S : Nat → Prop) (g : Nat) : Prop := S g ∧ g < w.heap.size
theorem LG.so {S : Nat → Prop} {w w2 : World} {lo : Option Nat} {L : List Rn} (h : LG S w w lo L) (hb : Below w.heap.size w w2) : LG (So w S) w2 w2 lo L := by
  cases lo with
  | none => trivial
  | some lb =>
    obtain ⟨hs, rv, hl, ho⟩ := h
    have h1 := (Array.getElem?_eq_some_iff.1 hl.here).1
    refine ⟨⟨hs, h1⟩, rv, hl.below hb, fun g hg _ => ?_⟩
    obtain ⟨c, hc⟩ := own_type hl.own hg
    have h2 := (Array.getElem?_eq_some_iff.1 hc).1
    exact ⟨ho g hg h2, h2⟩
theorem LG.soBack {S : Nat → Prop} {w w2 w3 : World} {lo : Option Nat} {L L0 : List Rn} (h0 : LG S w w lo L0) (h : LG (So w S) w2 w3 lo L) (hz : w.heap.size ≤ w2.heap.size) : LG S w w3 lo L := by
  cases lo with
  | none => trivial
  | some lb =>
    obtain ⟨hs, rv, hl, ho⟩ := h
    exact ⟨h0.1, rv, hl, fun g hg hlt => (ho g hg (by omega)).1⟩
theorem Kp.so {S : Nat → Prop} {w w2 w3 : World} (h : Kp S w w2) (k : Kp (So w S) w2 w3) : Kp S w w3 := h.trans k (fun _ _ e => e.1)
/-- Blocks that may be turned: those of S, and all that is new, but g. -/
def Nb (w : World) (S : Nat → Prop) (g j : Nat) : Prop := Nw w S j ∧ j ≠ g
theorem LG.but {S : Nat → Prop} {w w1 : World} {lo : Option Nat} {L : List Rn} {g : Nat} {cs : List Value} {t : TypeId} (h : LG S w w1 lo L) (hb : Blk w1 g cs t) (h1 : t ≠ 59) (h2 : t ≠ 81) : LG (Nb w S g) w1 w1 lo L := by
  cases lo with
  | none => trivial
  | some lb =>
    obtain ⟨hs, rv, hl, ho⟩ := h
    have hn := led_apart hl hb h1 h2
    refine ⟨⟨.inl hs, fun e => hn (.inl e.symm)⟩, rv, hl, fun x hx hlt => ⟨?_, fun e => hn (.inr (by rw [← e]; exact hx))⟩⟩
    by_cases hlt : x < w.heap.size
    · exact .inl (ho x hx hlt)
    · exact .inr (by omega)
theorem LG.butBack {S : Nat → Prop} {w w2 w3 : World} {lo : Option Nat} {L L0 : List Rn} {g : Nat} (h0 : LG S w w lo L0) (h : LG (Nb w S g) w2 w3 lo L) (hz : w.heap.size ≤ w2.heap.size) : LG S w w3 lo L := by
  cases lo with
  | none => trivial
  | some lb =>
    obtain ⟨hs, rv, hl, ho⟩ := h
    refine ⟨h0.1, rv, hl, fun x hx hlt => ?_⟩
    rcases (ho x hx (by omega)).1 with e | e
    · exact e
    · omega
theorem Kp.nb {S : Nat → Prop} {w w2 w3 : World} {g : Nat} (h : Kp S w w2) (k : Kp (Nb w S g) w2 w3) : Kp S w w3 := h.trans k (fun i hi e => by rcases e.1 with e | e; exact e; omega)
theorem knew_bad (st : Int) (lp p q : Value) (w : World) (h1 : ¬ st = 128) (h2 : ¬ st = 256) :
    Calls Tryz.prog 22 #[lp, .int .i64 st, p, q] w fun e w' => e = .returned (.tuple #[.pointer none, .int .i64 2]) ∧ Below w.heap.size w w' := by
  have hcv := Lib.run_convert_bytes_const (P := Tryz.prog) w 22 5 #[Value.int IntKind.u8 75, Value.int IntKind.u8 77, Value.int IntKind.u8 65, Value.int IntKind.u8 67] 4 4 Tryz.underlying22 Tryz.underlying5
  go_enter Tryz.func22, Tryz.ntmps22
  go_wp2_with fail
  refine (begin_bad st _ _ _ _ h1 h2).mono ?_
  rintro e w' ⟨rfl, rfl⟩
  clear hcv
  go_wp2
  go_ret2
  exact ⟨rfl, below_alloc _ _⟩
set_option maxRecDepth 4000 in
set_option maxHeartbeats 4000000 in
theorem knew_ok (st : Int) (r a c : Nat) (f h : Nat → Int) (p q : Value) (lo : Option Nat) (L : List Rn) (S : Nat → Prop) (w : World) (hst : Str st r) (hk : KT w) (hS0 : ¬ S 0) (hS1 : ¬ S 1) (hl : LG S w w lo L) (hpos : Pos L) (hT : Tiny L)
    (hp : ∀ w', Kp S w w' → By.RB w' p a f) (hq : ∀ w', Kp S w w' → By.RB w' q c h) (ha : a ≤ 1000000) (hc : c ≤ 1000000) :
    Calls Tryz.prog 22 #[lpv lo, .int .i64 st, p, q] w fun e w' => ∃ g b, e = .returned (.tuple #[.pointer (some ⟨g, 0, none⟩), .int .i64 0]) ∧ w.heap.size ≤ b ∧ w.heap.size ≤ g ∧ Mk w' g b st r (kz r a f c h) ∧ LG S w w' lo (evk L (kz r a f c h).c) ∧ Kp S w w' := by
  obtain ⟨r1, r2, r3, r4, r5⟩ := hst.lo
  have HST := hid hst
  have HK := hid hk
  have HS0 := hid hS0
  have HS1 := hid hS1
  have HL := hid hl
  have HPOS := hid hpos
  have HT := hid hT
  have HP := hid hp
  have HQ := hid hq
  obtain ⟨_, pa, pc', rfl, -, -, -⟩ := hp w (Kp.refl _ _)
  clear hst hk hS0 hS1 hl hpos hT hp hq
  have hcv := Lib.run_convert_bytes_const (P := Tryz.prog) w 22 5 #[Value.int IntKind.u8 75, Value.int IntKind.u8 77, Value.int IntKind.u8 65, Value.int IntKind.u8 67] 4 4 Tryz.underlying22 Tryz.underlying5
  go_enter Tryz.func22, Tryz.ntmps22
  go_wp2_with fail
  clear hcv
  obtain ⟨w0, hw0⟩ : ∃ x, w.alloc (.cells #[Value.int IntKind.u8 75, Value.int IntKind.u8 77, Value.int IntKind.u8 65, Value.int IntKind.u8 67] 5 (4, 5)) = x := ⟨_, rfl⟩
  have B0 : Hid (Below w.heap.size w w0) := by rw [← hw0]; exact below_alloc _ _
  have R0 : Hid (By.RB w0 (.slice (some ⟨w.heap.size, 0, none⟩) 4 4) 4 kmc) := by rw [← hw0]; exact rb_marked w 4 kmc (4, 5) kmc_b (by decide)
  rw [hw0]
  clear hw0
  have K0 := hid (Kp.of_below S B0.out)
  refine (begin_ok st r 4 c kmc h _ q lo L (So w S) w0 HST.out (HK.out.below B0.out) (fun e => HS0.out e.1) (fun e => HS1.out e.1) (HL.out.so B0.out) HPOS.out HT.out.mono (fun w' hk' => ?_) (fun w' hk' => HQ.out w' (Kp.so K0.out hk')) (by omega)).mono ?_
  · exact rb_kept R0.out hk' (fun e => by have := e.2; omega)
  rintro e w1 ⟨b, rfl, hb, hs, hlg, hkp⟩
  have B1 : Hid (w.heap.size ≤ b) := by have := B0.out.size; show _ ≤ _; omega
  have S1 : Hid (Sp w1 b r 4 (bz r 4 kmc c h) false) := by rw [sfx4] at hs; exact hs
  have L1 := hid (HL.out.soBack hlg B0.out.size)
  have K1 := hid (Kp.so K0.out hkp)
  have HB1 : Hid (b < w1.heap.size) := hs.here.lt
  clear hb hs hlg hkp R0 B0 K0
  go_wp2_with fail
  refine (string1 a f _ w1 (HP.out w1 K1.out) (by omega)).mono ?_
  rintro e w2 ⟨v2, rfl, ho, hb⟩
  have O2 := hid ho
  have S2 := hid (S1.out.below hb)
  have B2 := hid hb
  clear ho hb S1
  go_wp2_with fail
  refine (rate_sp _ _ _ _ _ _ S2.out).mono ?_
  rintro e w2' ⟨rfl, rfl⟩
  have hsn : sn a ≤ 140737488355000 := by have := sn_le' a; omega
  go_wp2_with fail
  refine (padOk (sn a) r (sg a f) v2 w2' O2.out.reads hsn r5 r4).mono ?_
  rintro e w3 ⟨v3, rfl, ho, hb⟩
  have O3 := hid (own_mono ho B2.out.size)
  have S3 := hid (S2.out.below hb)
  have B3 := hid (below_next B2.out hb)
  have L3 := hid (L1.out.below (below_next B2.out hb))
  have K3 := hid (K1.out.trans (Kp.of_below S (below_next B2.out hb)) (fun _ _ e => e))
  clear ho hb S2 O2 B2
  have hpN : pN (sn a) r ≤ 9000000 := by have := sn_le' a; have := pN_up (sn a) r r5 r4; omega
  have hb0 : ∀ j, j ≤ 1 → ¬ S j → ¬ Sb w1 (Nw w S) b j := fun j hj hs e => by
    have := kt_lt HK.out
    have := B1.out
    rcases e with ⟨e | e, _⟩ | e
    · exact hs e
    · omega
    · omega
  go_wp2_with fail
  refine (write_sp b r (pN (sn a) r) 4 v3 (bz r 4 kmc c h) (pg (sn a) (sg a f) r) lo _ (Sb w1 (Nw w S) b) w3 S3.out (HK.out.kept K3.out HS0.out HS1.out) (hb0 0 (by omega) HS0.out) (hb0 1 (by omega) HS1.out) (.inr rfl) ((L1.out.nw).sb B3.out) (evk_pos HPOS.out _) (fun w' hk' => (own_kept O3.out hk' (fun g hg e => by
    have h1 := own_row O3.out g hg
    have h2 := HB1.out
    rcases e with ⟨_, e⟩ | e <;> omega)).reads) hpN (HT.out.big HPOS.out _ (by have := bz_le HST.out 4 c kmc h (by omega); omega))).mono ?_
  rintro e w4 ⟨rfl, hs, hlg, hkp⟩
  have S4 : Hid (Sp w4 b r 4 (kz r a f c h) false) := hs
  have K4 : Hid (Kp S w w4) := K3.out.trans hkp (fun i hi e => by
    have := B1.out
    rcases e with ⟨e | e, _⟩ | e
    · exact e
    · omega
    · omega)
  have L4 : Hid (LG S w w4 lo (evk L (kz r a f c h).c)) := by
    have e1 : (bz r 4 kmc c h).c + ((Z.ins r (bz r 4 kmc c h) (pg (sn a) (sg a f) r) (pN (sn a) r)).c - (bz r 4 kmc c h).c) = (kz r a f c h).c := by
      have h1 := kz_ge HST.out a c f h
      unfold kz at *
      omega
    rw [← evk_add, e1] at hlg
    cases lo with
    | none => trivial
    | some lb =>
      obtain ⟨_, rv, hl, ho⟩ := hlg
      refine ⟨HL.out.1, rv, hl, fun x hx hlt => ?_⟩
      have := B1.out
      have := K3.out.size
      rcases ho x hx (by omega) with ⟨e | e, _⟩ | e
      · exact e
      · omega
      · omega
  clear hs hlg hkp S3 L1 L3 K1 O3 B3 hb0
  go_wp2
  go_ret2
  have bn := Blk.newAt w4 #[.pointer (some ⟨b, 0, none⟩), .int .i64 st] [.pointer (some ⟨b, 0, none⟩), .int .i64 st] 90 w4.heap.size rfl rfl
  exact ⟨_, b, rfl, B1.out, K4.out.size, ⟨bn, S4.out.below (below_alloc _ _), HST.out⟩, L4.out.below (below_alloc _ _), K4.out.trans (Kp.of_below S (below_alloc _ _)) (fun _ _ e => e)⟩
/-- The sponge of a tag; how many events a tag has. -/
def kt (r a : Nat) (f : Nat → Int) (c : Nat) (h : Nat → Int) (m : Nat) (g : Nat → Int) : Z := Z.ins r (kz r a f c h) g m
theorem ktag_no (st n : Int) (lp p q x xo : Value) (w : World) (h : n < 0 ∨ 65536 < n) :
    Calls Tryz.prog 17 #[lp, .int .i64 st, p, q, x, .int .i64 n, xo] w fun e w' => e = .returned (.tuple #[.slice none 0 0, .int .i64 2]) ∧ w' = w := by
  have HN := hid h
  clear h
  go_enter Tryz.func17, Tryz.ntmps17
  go_wp2_with (go_at_call 42; refine (told_no n _ HN.out).mono ?_; rintro e w' ⟨rfl, rfl⟩)
  go_ret2
  exact ⟨rfl, rfl⟩
theorem ktag_bad (st : Int) (n : Nat) (lp p q x xo : Value) (w : World) (hn : n ≤ 65536) (h1 : ¬ st = 128) (h2 : ¬ st = 256) :
    Calls Tryz.prog 17 #[lp, .int .i64 st, p, q, x, .int .i64 n, xo] w fun e w' => e = .returned (.tuple #[.slice none 0 0, .int .i64 2]) ∧ Below w.heap.size w w' := by
  go_enter Tryz.func17, Tryz.ntmps17
  go_wp2_with (go_at_call 42; refine (told_ok n _ hn).mono ?_; rintro e w' ⟨rfl, rfl⟩)
  refine (knew_bad st _ _ _ _ h1 h2).mono ?_
  rintro e w1 ⟨rfl, hb⟩
  have HB := hid hb
  clear hb
  go_wp2
  go_ret2
  exact ⟨rfl, HB.out⟩
set_option maxRecDepth 4000 in
set_option maxHeartbeats 4000000 in
theorem ktag_ok (st : Int) (r a c m n : Nat) (f h g : Nat → Int) (p q x : Value) (xof : Bool) (lo : Option Nat) (L : List Rn) (S : Nat → Prop) (w : World) (hst : Str st r) (hk : KT w) (hS0 : ¬ S 0) (hS1 : ¬ S 1) (hl : LG S w w lo L) (hpos : Pos L) (hT : tot L ≤ 2305843009100000000 ∧ L.length ≤ 4000000)
    (hp : ∀ w', Kp S w w' → By.RB w' p a f) (hq : ∀ w', Kp S w w' → By.RB w' q c h) (hx : ∀ w', Kp S w w' → By.RB w' x m g) (ha : a ≤ 1000000) (hc : c ≤ 1000000) (hm : m ≤ 1000000) (hn : n ≤ 65536) :
    Calls Tryz.prog 17 #[lpv lo, .int .i64 st, p, q, x, .int .i64 n, .bool xof] w fun e w' => ∃ v, e = .returned (.tuple #[v, .int .i64 0]) ∧ By.Own w' w.heap.size v n (Z.say r (ky r (kt r a f c h m g) n xof)) ∧ LG S w w' lo (evk L (Z.out r (ky r (kt r a f c h m g) n xof) n).c) ∧ Kp S w w' := by
  have HST := hid hst
  have HK := hid hk
  have HS0 := hid hS0
  have HS1 := hid hS1
  have HL := hid hl
  have HPOS := hid hpos
  have HT := hid hT
  have HP := hid hp
  have HQ := hid hq
  have HX := hid hx
  clear hst hk hS0 hS1 hl hpos hT hp hq hx
  go_enter Tryz.func17, Tryz.ntmps17
  go_wp2_with (go_at_call 42; refine (told_ok n _ hn).mono ?_; rintro e w' ⟨rfl, rfl⟩)
  have hT0 : Tiny L := ⟨by have := HT.out.1; omega, by have := HT.out.2; omega⟩
  refine (knew_ok st r a c f h p q lo L S w' HST.out HK.out HS0.out HS1.out HL.out HPOS.out hT0 HP.out HQ.out ha hc).mono ?_
  rintro e w1 ⟨g1, b, rfl, hb, hg1, hmk, hlg, hkp⟩
  have B1 := hid hb
  have G1 := hid hg1
  have M1 := hid hmk
  have L1 := hid hlg
  have K1 := hid hkp
  have Z0 := hid (kz_le HST.out a c f h ha hc)
  have OK0 := hid (kz_ok HST.out a c f h)
  clear hb hg1 hmk hlg hkp hT0
  have hbig : Big (evk L (kz r a f c h).c) := by
    have h1 := HT.out.1
    have h2 := HT.out.2
    have h3 := evk_len L (kz r a f c h).c
    have h4 := Z0.out
    refine ⟨?_, by omega⟩
    rw [evk_tot HPOS.out _ (by omega)]; omega
  have hgb : g1 ≠ b := fun e => by have h1 := M1.out.here; have h2 := M1.out.sp.here; rw [← e] at h2; exact Blk.ne h1 h2 (by decide) rfl
  go_wp2_with fail
  refine (M1.out.write _ _ _ (write_sp b r m 4 x (kz r a f c h) g lo _ (Nb w' S g1) w1 M1.out.sp (HK.out.kept K1.out HS0.out HS1.out) (fun e => nw0 HK.out HS0.out e.1) (fun e => nw1 HK.out HS1.out e.1) ⟨.inr B1.out, fun e => hgb e.symm⟩ (L1.out.but M1.out.here (by decide) (by decide)) (evk_pos HPOS.out _) (fun w2 hk' => HX.out w2 (Kp.nb K1.out hk')) (by omega) hbig)).mono ?_
  rintro e w2 ⟨rfl, hs, hlg, hkp⟩
  have M2 : Hid (Mk w2 g1 b st r (kt r a f c h m g)) := ⟨M1.out.here.kept hkp (fun e => e.2 rfl), hs, HST.out⟩
  have hge := ins_ge (OK0.out.o rfl) g m
  have e1 : (kz r a f c h).c + ((Z.ins r (kz r a f c h) g m).c - (kz r a f c h).c) = (kt r a f c h m g).c := by show _ + (_ - _) = (Z.ins r (kz r a f c h) g m).c; omega
  rw [← evk_add, e1] at hlg
  have L2 := hid (HL.out.butBack hlg K1.out.size)
  have K2 := hid (Kp.nb K1.out hkp)
  have hup := ins_up HST.out OK0.out g m hm
  have hT2 : Tiny (evk L (kt r a f c h m g).c) := by
    have h1 := HT.out.1
    have h2 := HT.out.2
    have h3 := evk_len L (kt r a f c h m g).c
    have h4 := Z0.out
    have h5 : (kt r a f c h m g).c ≤ 50000 := by show (Z.ins r (kz r a f c h) g m).c ≤ _; omega
    refine ⟨?_, by omega⟩
    rw [evk_tot HPOS.out _ (by omega)]; omega
  clear hs hlg hkp hge hup e1 M1 L1 K1 hbig
  go_wp2_with fail
  refine (M2.out.sum lo _ (Nw w' S) n xof (HK.out.kept K2.out HS0.out HS1.out) (nw0 HK.out HS0.out) (nw1 HK.out HS1.out) L2.out.nw (evk_pos HPOS.out _) hT2 hn).mono ?_
  rintro e w3 ⟨v3, rfl, ho, hlg, hkp⟩
  have R1 := hid (own_mono ho K2.out.size)
  have R2 : Hid (LG S w' w3 lo (evk L (Z.out r (ky r (kt r a f c h m g) n xof) n).c)) := by
    have h1 := ke_ge M2.out.sp.ok n xof
    have h2 := out_ge r (ky r (kt r a f c h m g) n xof) n
    have h3 : (ky r (kt r a f c h m g) n xof).c = (ke r (kt r a f c h m g) n xof).c + 1 := rfl
    have e2 : (kt r a f c h m g).c + kN r (kt r a f c h m g) n xof = (Z.out r (ky r (kt r a f c h m g) n xof) n).c := by unfold kN; omega
    rw [← evk_add, e2] at hlg
    exact HL.out.back hlg K2.out.size
  have R3 := hid (Kp.nw K2.out hkp)
  clear ho hlg hkp
  go_wp2
  go_ret2
  exact ⟨_, rfl, R1.out, R2.out, R3.out⟩
end Go.Proofs.YtnhhkoekghjogaaGreatDoor.Kc
