/- KMAC as numbers; what a mac of the program's is. What the calls of a mac of the program's answer. What New, Sum and Tag of the program answer. -/
import Derived.Test.YtpohogpkfdebdaaGreatDoorKj
import Derived.Lib.SlBytesConst
namespace Go.Proofs.YtpohogpkfdebdaaGreatDoor.Kc
open Go.ChangeShapes Go.WideShapes Go.ChangeAt Go.RowKit
open Go.Proofs.YtpohogpkfdebdaaGreatDoor.By Go.Proofs.YtpohogpkfdebdaaGreatDoor.Wd
/-- The name. -/
def kmc : Nat → Int := lst [75, 77, 65, 67]
theorem kmc_b (i : Nat) : 0 ≤ kmc i ∧ kmc i < 256 := lst_bound _ (by decide) i
/-- A ledger with room for many events more. -/
def Tiny (L : List Rn) : Prop := tot L ≤ 2305843009200000000 ∧ L.length ≤ 5000000
theorem Tiny.big {L : List Rn} (h : Tiny L) (hp : Pos L) (c : Nat) (hc : c ≤ 3000000) : Big (evk L c) := by
  have h1 := h.1
  have h2 := h.2
  have h3 := evk_len L c
  refine ⟨?_, by omega⟩
  rw [evk_tot hp c (by omega)]; omega
theorem sfx4 (c : Nat) : sfx 4 c = 4 := if_neg (by omega)
theorem pN_up (m r : Nat) (hr : 1 ≤ r) (hr2 : r ≤ 256) : pN m r ≤ m + 300 := by
  have h3 := (nb_pos r).2
  have h4 := pz_lt m r (by omega)
  unfold pN pn; omega
/-- The sponge that New makes. -/
def kz (r a : Nat) (f : Nat → Int) (c : Nat) (h : Nat → Int) : Z := Z.ins r (bz r 4 kmc c h) (pg (sn a) (sg a f) r) (pN (sn a) r)
/-- What goes in behind a message; the sponge of a tag. -/
def ku (n : Nat) (xof : Bool) : Nat := match xof with | true => 0 | false => 8 * n
def ke (r : Nat) (z : Z) (n : Nat) (xof : Bool) : Z := Z.ins r z (rt (ku n xof)) (nb (ku n xof) + 1)
def ky (r : Nat) (z : Z) (n : Nat) (xof : Bool) : Z := Z.fin r 4 (ke r z n xof)
/-- How many events a tag has. -/
def kN (r : Nat) (z : Z) (n : Nat) (xof : Bool) : Nat := (Z.out r (ky r z n xof) n).c - z.c
section
variable {st : Int} {r : Nat} (hst : Str st r)
include hst
theorem kz_ge (a c : Nat) (f h : Nat → Int) : (bz r 4 kmc c h).c ≤ (kz r a f c h).c := ins_ge ((bz_ok hst 4 c kmc h).o rfl) _ _
theorem kz_le (a c : Nat) (f h : Nat → Int) (ha : a ≤ 1000000) (hc : c ≤ 1000000) : (kz r a f c h).c ≤ 30000 := by
  have h1 := hst.lo
  have h2 := pN_up (sn a) r (by omega) (by omega)
  have h3 := sn_le' a
  exact z2_le hst 4 c kmc h _ _ (by omega) (by omega)
theorem ins_up {z : Z} (hz : z.Ok r false) (g : Nat → Int) (n : Nat) (hn : n ≤ 1000000) : (Z.ins r z g n).c ≤ z.c + 8000 := by
  have h1 := hst.lo
  have h0 := hz.o rfl
  have h2 := ins_c h0 g n
  have h3 := ins_ge h0 g n
  have h4 : (z.p + n) / r ≤ 8000 := by
    rcases hst with ⟨_, rfl⟩ | ⟨_, rfl⟩ <;> omega
  omega
theorem ke_le {z : Z} (hz : z.Ok r false) (n : Nat) (xof : Bool) : (ke r z n xof).c ≤ z.c + 8000 := ins_up hst hz _ _ (by have := (nb_pos (ku n xof)).2; omega)
theorem ky_ok (z : Z) (n : Nat) (xof : Bool) : (ky r z n xof).Ok r true := Z.Ok.fin _ true _ (by have := hst.lo; omega)
theorem kN_le {z : Z} (hz : z.Ok r false) (n : Nat) (xof : Bool) (hn : n ≤ 65536) : kN r z n xof ≤ 80000 := by
  have h1 := ke_le hst hz n xof
  have h2 := out_le r (ky r z n xof) n
  have h3 : (ky r z n xof).c = (ke r z n xof).c + 1 := rfl
  unfold kN; omega
theorem say_kb (z : Z) (n : Nat) (xof : Bool) (i : Nat) : 0 ≤ Z.say r (ky r z n xof) i ∧ Z.say r (ky r z n xof) i < 256 := say_b (ky_ok hst z n xof) (by have := hst.lo; omega) i
end
theorem kN_eq {r : Nat} {z : Z} (hz : z.Ok r false) (n : Nat) (xof : Bool) : ((ke r z n xof).c - z.c) + (1 + ((Z.out r (ky r z n xof) n).c - (ky r z n xof).c)) = kN r z n xof := by
  have h1 : z.c ≤ (ke r z n xof).c := ins_ge (hz.o rfl) _ _
  have h2 := out_ge r (ky r z n xof) n
  have h3 : (ky r z n xof).c = (ke r z n xof).c + 1 := rfl
  unfold kN; omega
/-- A mac of the program's in block g, its sponge in block b. -/
structure Mk (w : World) (g b : Nat) (st : Int) (r : Nat) (z : Z) : Prop where
  here : Blk w g [.pointer (some ⟨b, 0, none⟩), .int .i64 st] 207
  sp : Sp w b r 4 z false
  str : Str st r
theorem Mk.below {w w' : World} {g b : Nat} {st : Int} {r : Nat} {z : Z} (h : Mk w g b st r z) (hb : Below w.heap.size w w') : Mk w' g b st r z := ⟨h.here.below hb, h.sp.below hb, h.str⟩
theorem Mk.kept {S : Nat → Prop} {w w' : World} {g b : Nat} {st : Int} {r : Nat} {z : Z} (h : Mk w g b st r z) (hk : Kp S w w') (h1 : ¬ S g) (h2 : ¬ S b) : Mk w' g b st r z := ⟨h.here.kept hk h1, h.sp.kept hk h2, h.str⟩
/-- No mac. -/
def NoM (w : World) (v : Value) : Prop := v = .pointer none ∨ ∃ g, v = .pointer (some ⟨g, 0, none⟩) ∧ Blk w g [.pointer none, .int .i64 0] 207
theorem NoM.below {w w' : World} {v : Value} (h : NoM w v) (hb : Below w.heap.size w w') : NoM w' v := by
  rcases h with h | ⟨g, e, h⟩
  · exact .inl h
  · exact .inr ⟨g, e, h.below hb⟩
theorem Tiny.mono {L : List Rn} (h : Tiny L) : Big L := ⟨by have := h.1; omega, by have := h.2; omega⟩
end Go.Proofs.YtpohogpkfdebdaaGreatDoor.Kc
namespace Go.Proofs.YtpohogpkfdebdaaGreatDoor.Kc
open Go.ChangeShapes Go.WideShapes Go.ChangeAt Go.RowKit
open Go.Proofs.YtpohogpkfdebdaaGreatDoor.By Go.Proofs.YtpohogpkfdebdaaGreatDoor.Wd
theorem kisNone_mk {w : World} {g b : Nat} {st : Int} {r : Nat} {z : Z} (h : Mk w g b st r z) : Calls Tryz.prog 216 #[.pointer (some ⟨g, 0, none⟩)] w fun e w' => e = .returned (.bool false) ∧ w' = w := by
  have H := hid h
  have c0 := h.here.cell 0 _ rfl
  have hl := h.sp.lo
  have er : ¬ (r : Int) = 0 := by omega
  have er' : ((r : Int) == 0) = false := by rw [beq_eq_false_iff_ne]; omega
  clear h
  go_enter Tryz.func216, Tryz.ntmps216
  go_wp2_with (go_at_call 161; refine (rate_sp _ _ _ _ _ _ H.out.sp).mono ?_; rintro e w ⟨rfl, rfl⟩)
  go_ret
  exact ⟨rfl, rfl⟩
theorem kisNone_no {w : World} {v : Value} (h : NoM w v) : Calls Tryz.prog 216 #[v] w fun e w' => e = .returned (.bool true) ∧ w' = w := by
  rcases h with rfl | ⟨g, rfl, h⟩
  · go_enter Tryz.func216, Tryz.ntmps216
    go_wp2
    go_ret
    exact ⟨rfl, rfl⟩
  · have c0 := h.cell 0 _ rfl
    clear h
    go_enter Tryz.func216, Tryz.ntmps216
    go_wp2_with (go_at_call 161; refine (rate_nil _).mono ?_; rintro e w ⟨rfl, rfl⟩)
    go_ret
    exact ⟨rfl, rfl⟩
section
variable {w : World} {v : Value}
theorem NoM.sum (h : NoM w v) (lp n x : Value) : Calls Tryz.prog 165 #[v, lp, n, x] w fun e w' => e = .returned (.tuple #[.slice none 0 0, .int .i64 1]) ∧ w' = w := by
  have H := hid h
  clear h
  go_enter Tryz.func165, Tryz.ntmps165
  go_wp2_with (go_at_call 216; refine (kisNone_no H.out).mono ?_; rintro e w ⟨rfl, rfl⟩)
  go_ret2
  exact ⟨rfl, rfl⟩
theorem NoM.clone (h : NoM w v) : Calls Tryz.prog 167 #[v] w fun e w' => e = .returned (.tuple #[.pointer none, .int .i64 1]) ∧ w' = w := by
  have H := hid h
  clear h
  go_enter Tryz.func167, Tryz.ntmps167
  go_wp2_with (go_at_call 216; refine (kisNone_no H.out).mono ?_; rintro e w ⟨rfl, rfl⟩)
  go_ret2
  exact ⟨rfl, rfl⟩
theorem NoM.form (h : NoM w v) : Calls Tryz.prog 169 #[v] w fun e w' => e = .returned (.slice none 0 0) ∧ w' = w := by
  have H := hid h
  clear h
  go_enter Tryz.func169, Tryz.ntmps169
  go_wp2_with (go_at_call 216; refine (kisNone_no H.out).mono ?_; rintro e w ⟨rfl, rfl⟩)
  go_ret
  exact ⟨rfl, rfl⟩
end
section
variable {w : World} {g b : Nat} {st : Int} {r : Nat} {z : Z}
/-- Write is the sponge's. -/
theorem Mk.write (h : Mk w g b st r z) (lp x : Value) (R : World → Prop) (hc : Calls Tryz.prog 162 #[.pointer (some ⟨b, 0, none⟩), lp, x] w fun e w' => e = .returned (.int .i64 0) ∧ R w') :
    Calls Tryz.prog 163 #[.pointer (some ⟨g, 0, none⟩), lp, x] w fun e w' => e = .returned (.int .i64 0) ∧ R w' := by
  have H := hid h
  have HC := hid hc
  have c0 := h.here.cell 0 _ rfl
  clear h hc
  go_enter Tryz.func163, Tryz.ntmps163
  go_wp2_with (go_at_call 216; refine (kisNone_mk H.out).mono ?_; rintro e w' ⟨rfl, rfl⟩)
  refine HC.out.mono ?_
  rintro e w1 ⟨rfl, hr⟩
  have HR := hid hr
  clear hr
  go_wp2
  go_ret
  exact ⟨rfl, HR.out⟩
/-- Form is the sponge's. -/
theorem Mk.form (h : Mk w g b st r z) : Calls Tryz.prog 169 #[.pointer (some ⟨g, 0, none⟩)] w fun e w' => e = .returned (.slice (some ⟨w.heap.size, 0, none⟩) 203 203) ∧ Blk w' w.heap.size (bl 203 (fmf z false)) 5 ∧ Below w.heap.size w w' := by
  have H := hid h
  have c0 := h.here.cell 0 _ rfl
  clear h
  go_enter Tryz.func169, Tryz.ntmps169
  go_wp2_with (go_at_call 216; refine (kisNone_mk H.out).mono ?_; rintro e w' ⟨rfl, rfl⟩)
  refine (form_sp _ _ _ _ _ _ H.out.sp).mono ?_
  rintro e w1 ⟨rfl, h1, h2⟩
  have H1 := hid h1
  have H2 := hid h2
  clear h1 h2
  go_wp2
  go_ret
  exact ⟨rfl, H1.out, H2.out⟩
/-- Clone: another mac, another sponge. -/
theorem Mk.clone (h : Mk w g b st r z) : Calls Tryz.prog 167 #[.pointer (some ⟨g, 0, none⟩)] w fun e w' => ∃ g', e = .returned (.tuple #[.pointer (some ⟨g', 0, none⟩), .int .i64 0]) ∧ w.heap.size ≤ g' ∧ Mk w' g' w.heap.size st r z ∧ Below w.heap.size w w' := by
  have H := hid h
  have c0 := h.here.cell 0 _ rfl
  have c1 := h.here.cell 1 _ rfl
  have HT := hid h.str
  clear h
  go_enter Tryz.func167, Tryz.ntmps167
  go_wp2_with (go_at_call 216; refine (kisNone_mk H.out).mono ?_; rintro e w' ⟨rfl, rfl⟩)
  refine (clone_sp _ _ _ _ _ _ H.out.sp).mono ?_
  rintro e w1 ⟨rfl, hs, hb⟩
  have HS1 := hid hs
  have HB1 := hid hb
  have c1' := (H.out.here.below hb).cell 1 _ rfl
  clear hs hb
  go_wp2
  go_ret2
  have bn := Blk.newAt w1 #[.pointer (some ⟨w'.heap.size, 0, none⟩), .int .i64 st] [.pointer (some ⟨w'.heap.size, 0, none⟩), .int .i64 st] 207 w1.heap.size rfl rfl
  exact ⟨_, rfl, HB1.out.size, ⟨bn, HS1.out.below (below_alloc _ _), HT.out⟩, below_next HB1.out (below_alloc _ _)⟩
/-- Wipe, without what is recorded. -/
theorem Mk.wipe (h : Mk w g b st r z) (lo : Option Nat) (L : List Rn) (S : Nat → Prop) (hSg : S g) (hSb : S b) (hl : LG S w w lo L) (hroom : Big L) :
    Calls Tryz.prog 168 #[.pointer (some ⟨g, 0, none⟩), lpv lo] w fun e w' => e = .returned (.int .i64 0) ∧ Blk w' g [.pointer none, .int .i64 0] 207 ∧ NoSp w' b ∧ LG S w w' lo (putL L ⟨8, 203, 1⟩) ∧ Kp S w w' := by
  have H := hid h
  have HG := hid hSg
  have HB := hid hSb
  have HL := hid hl
  have HR := hid hroom
  have c0 := h.here.cell 0 _ rfl
  have c1 := h.here.cell 1 _ rfl
  clear h hSg hSb hl hroom
  go_enter Tryz.func168, Tryz.ntmps168
  go_wp2_with (go_at_call 216; refine (kisNone_mk H.out).mono ?_; rintro e w' ⟨rfl, rfl⟩)
  have hgb : g ≠ b := fun e => by have h1 := H.out.here; have h2 := H.out.sp.here; rw [← e] at h2; exact Blk.ne h1 h2 (by decide) rfl
  have HL0 := hid (show LG (fun j => S j ∧ j ≠ g) w' w' lo L from by
    cases lo with
    | none => trivial
    | some lb =>
      obtain ⟨hs, rv, hl, ho⟩ := HL.out
      have hn := led_apart hl H.out.here (by decide) (by decide)
      exact ⟨⟨hs, fun e => hn (.inl e.symm)⟩, rv, hl, fun x hx hlt => ⟨ho x hx hlt, fun e => hn (.inr (by rw [← e]; exact hx))⟩⟩)
  refine (wipe_sp _ _ _ _ _ lo L (fun j => S j ∧ j ≠ g) w' H.out.sp ⟨HB.out, fun e => hgb e.symm⟩ HL0.out HR.out).mono ?_
  rintro e w1 ⟨rfl, hs, hlg, hkp⟩
  have HS1 := hid hs
  have HG1 := hid (H.out.here.kept hkp (fun e => e.2 rfl))
  have HL1 := hid (show LG S w' w1 lo (putL L ⟨8, 203, 1⟩) from by
    cases lo with
    | none => trivial
    | some lb =>
      obtain ⟨hs, rv, hl, ho⟩ := hlg
      exact ⟨hs.1, rv, hl, fun x hx hlt => (ho x hx hlt).1⟩)
  have HK1 := hid (hkp.mono (fun _ _ e => e.1) : Kp S w' w1)
  clear hs hlg hkp HL0 c0 c1
  have c0 := HG1.out.cell 0 _ rfl
  have c1 := HG1.out.cell 1 _ rfl
  have f0 := HG1.out.frozen 0
  have f1 := HG1.out.frozen 1
  have B2 := hid ((HG1.out.set 0 (.pointer none)).set 1 (.int .i64 0))
  have KK : Kp (fun j => j = g) w1 ((w1.setCell ⟨g, 0, none⟩ (.pointer none)).setCell ⟨g, 1, none⟩ (.int .i64 0)) := (Kp.setCell g 0 _).trans (Kp.setCell g 1 _) (fun _ _ e => e)
  have K2 := hid (HK1.out.trans KK (fun j _ e => by have e' : j = g := e; rw [e']; exact HG.out))
  have L2 := hid (HL1.out.kept KK (fun x e => by have e' : x = g := e; rw [e']; exact ⟨_, _, HG1.out, by decide, by decide⟩))
  have N2 : Hid (NoSp ((w1.setCell ⟨g, 0, none⟩ (.pointer none)).setCell ⟨g, 1, none⟩ (.int .i64 0)) b) := by
    obtain ⟨cs, hc⟩ := HS1.out
    exact ⟨cs, hc.kept KK (fun e => hgb e.symm)⟩
  clear KK
  go_wp2
  go_ret
  exact ⟨rfl, B2.out, N2.out, L2.out, K2.out⟩
end
end Go.Proofs.YtpohogpkfdebdaaGreatDoor.Kc
namespace Go.Proofs.YtpohogpkfdebdaaGreatDoor.Kc
open Go.ChangeShapes Go.WideShapes Go.ChangeAt Go.RowKit
open Go.Proofs.YtpohogpkfdebdaaGreatDoor.By Go.Proofs.YtpohogpkfdebdaaGreatDoor.Wd
theorem told_ok (n : Nat) (w : World) (hn : n ≤ 65536) : Calls Tryz.prog 217 #[.int .i64 n] w fun e w' => e = .returned (.bool true) ∧ w' = w := by
  have n1 : ¬ (n : Int) < 0 := by omega
  have n2 : ¬ (65536 : Int) < n := by omega
  have n3 : (0 : Int) ≤ n := by omega
  have n4 : (n : Int) ≤ 65536 := by omega
  go_enter Tryz.func217, Tryz.ntmps217
  go_wp2
  go_ret
  exact ⟨rfl, rfl⟩
theorem lastOf1 (n : Nat) (xof : Bool) (w : World) (hn : n ≤ 65536) : Calls Tryz.prog 219 #[.int .i64 n, .bool xof] w fun e w' => ∃ v, e = .returned (.tuple #[v, .int .i64 0]) ∧ By.Own w' w.heap.size v (nb (ku n xof) + 1) (rt (ku n xof)) ∧ Below w.heap.size w w' := by
  cases xof with
  | true =>
    go_enter Tryz.func219, Tryz.ntmps219
    go_wp2_with fail
    refine (rightOk 0 w (by omega)).mono ?_
    rintro e w1 ⟨v, rfl, ho, hb⟩
    have HO := hid ho
    have HB := hid hb
    clear ho hb
    go_wp2
    go_ret2
    exact ⟨_, rfl, HO.out, HB.out⟩
  | false =>
    go_enter Tryz.func219, Tryz.ntmps219
    go_wp2_with fail
    refine (rightOk (8 * n) w (by omega)).mono ?_
    rintro e w1 ⟨v, rfl, ho, hb⟩
    have HO := hid ho
    have HB := hid hb
    clear ho hb
    go_wp2
    go_ret2
    exact ⟨_, rfl, HO.out, HB.out⟩
section
variable {w : World} {g b : Nat} {st : Int} {r : Nat} {z : Z}
set_option maxRecDepth 4000 in
set_option maxHeartbeats 2000000 in
theorem Mk.sum (h : Mk w g b st r z) (lo : Option Nat) (L : List Rn) (S : Nat → Prop) (n : Nat) (xof : Bool) (hk : KT w) (hS0 : ¬ S 2) (hS1 : ¬ S 4) (hl : LG S w w lo L) (hpos : Pos L) (hT : Tiny L) (hn : n ≤ 65536) :
    Calls Tryz.prog 165 #[.pointer (some ⟨g, 0, none⟩), lpv lo, .int .i64 n, .bool xof] w fun e w' => ∃ v, e = .returned (.tuple #[v, .int .i64 0]) ∧ By.Own w' w.heap.size v n (Z.say r (ky r z n xof)) ∧ LG S w w' lo (evk L (kN r z n xof)) ∧ Kp S w w' := by
  have H := hid h
  have c0 := h.here.cell 0 _ rfl
  have HST := hid h.str
  have HZ := hid h.sp.ok
  have HK := hid hk
  have HS0 := hid hS0
  have HS1 := hid hS1
  have HL := hid hl
  have HPOS := hid hpos
  have HT := hid hT
  clear h hk hS0 hS1 hl hpos hT
  go_enter Tryz.func165, Tryz.ntmps165
  go_wp2_with (first
    | (go_at_call 216; refine (kisNone_mk H.out).mono ?_; rintro e w' ⟨rfl, rfl⟩)
    | (go_at_call 217; refine (told_ok n _ hn).mono ?_; rintro e w' ⟨rfl, rfl⟩))
  refine (clone_sp _ _ _ _ _ _ H.out.sp).mono ?_
  rintro e w1 ⟨rfl, hs, hb⟩
  have S1 := hid hs
  have B1 := hid hb
  clear hs hb c0
  obtain ⟨bb, eb⟩ : ∃ b, w'.heap.size = b := ⟨_, rfl⟩
  have EB := hid eb
  rw [eb] at S1
  rw [eb]
  clear eb
  go_wp2_with fail
  refine (lastOf1 n xof w1 hn).mono ?_
  rintro e w2 ⟨v2, rfl, ho, hb⟩
  have O2 := hid ho
  have B2 := hid (below_next B1.out hb)
  have S2 := hid (S1.out.below hb)
  have Z1 : Hid (bb < w1.heap.size) := by have := S1.out.here.lt; exact this
  clear ho hb S1
  have hnb : nb (ku n xof) + 1 ≤ 9000000 := by have := (nb_pos (ku n xof)).2; omega
  go_wp2_with fail
  refine (write_sp bb r (nb (ku n xof) + 1) 4 v2 z (rt (ku n xof)) lo L (Sb w' S bb) w2 S2.out (HK.out.below B2.out) (sb_no HS0.out EB.out (by have := kt_lt HK.out; omega)) (sb_no HS1.out EB.out (kt_lt HK.out)) (.inr rfl) (HL.out.sb B2.out) HPOS.out (fun w' hk' => (own_kept O2.out hk' (fun g hg e => by
    have h1 := own_row O2.out g hg
    have h2 := Z1.out
    have h3 := B1.out.size
    rcases e with ⟨_, e⟩ | e <;> omega)).reads) hnb HT.out.mono).mono ?_
  rintro e w3 ⟨rfl, hs, hlg, hkp⟩
  have S3 := hid hs
  have L3 := hid (HL.out.sbBack hlg EB.out B2.out.size)
  have K3 : Hid (Kp S w' w3) := (Kp.of_below S B2.out).trans hkp (fun i hi e => by have := EB.out; rcases e with ⟨e, _⟩ | e; exact e; omega)
  clear hs hlg hkp O2 B2 S2
  have hge : w'.heap.size ≤ bb := Nat.le_of_eq EB.out
  have hcc : (ke r z n xof).c - z.c ≤ 3000000 := by have := ke_le HST.out HZ.out n xof; omega
  go_wp2_with fail
  refine (read_open bb r n 4 _ (ky r z n xof) lo _ (Nw w' S) w3 S3.out (HK.out.kept K3.out HS0.out HS1.out) (nw0 HK.out HS0.out) (nw1 HK.out HS1.out) (.inr hge) L3.out.nw (evk_pos HPOS.out _) hn (HT.out.big HPOS.out _ hcc) _ rfl rfl).mono ?_
  rintro e w4 ⟨gb, rfl, hgb, hs, hbl, hlg, hkp⟩
  have R1 := hid (own_blk hbl (say_kb HST.out z n xof) (show w'.heap.size ≤ gb by have := K3.out.size; omega) (by simp [maxLen]; omega))
  have R2 : Hid (LG S w' w4 lo (evk L (kN r z n xof))) := by
    have hlg2 : LG (Nw w' S) w3 w4 lo (evk L (kN r z n xof)) := by
      rw [← kN_eq HZ.out n xof, evk_add, evk_add]; exact hlg
    exact HL.out.back hlg2 K3.out.size
  have R3 := hid (Kp.nw K3.out hkp)
  clear hs hbl hlg hkp S3 L3
  go_wp2
  go_ret2
  exact ⟨_, rfl, R1.out, R2.out, R3.out⟩
end
end Go.Proofs.YtpohogpkfdebdaaGreatDoor.Kc
