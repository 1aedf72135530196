/- The document's mac: what it is, its events. The document's mac: Form, Sum, Reset, Clone, Wipe. append of bytes to a list that the call owns, at a step of a region that draws its order; no function of the program in it. The document's mac: Write, New, Tag. The document's mac: New, Tag. -/
import Derived.Test.YtbgdjjfonmoemaaDoorVrf4
import Derived.Test.YtbgdjjfonmoemaaDoorVwip
import Derived.Test.YtbgdjjfonmoemaaDoorYa
import Derived.Deep.AppendLies
import Derived.Deep.RegionLaw
import Derived.Test.YtbgdjjfonmoemaaDoorWh
namespace Go.Proofs.YtbgdjjfonmoemaaDoor.Vm
open Go.ChangeShapes Go.WideShapes Go.ChangeAt Go.RowKit
open Go.Proofs.YtbgdjjfonmoemaaDoor.By Go.Proofs.YtbgdjjfonmoemaaDoor.Gf Go.Proofs.YtbgdjjfonmoemaaDoor.Ae
open Go.Proofs.YtbgdjjfonmoemaaDoor.Kc (own_kept own_mono own8_type cat cat_bound wpList_cat below_grow)
theorem rtimes_z (lv : Value) (hl : lv = .pointer none ∨ ∃ b, lv = .pointer (some ⟨b, 0, none⟩)) (k s : Int) (w : World) :
    Calls Tryd.prog 64 #[lv, .agg #[.int .u8 k, .int .i64 s], .int .i64 0] w fun e w' => e = .returned (.tuple #[]) ∧ Below w.heap.size w w' := by
  have b := below_alloc w (.cells #[.int .u8 k, .int .i64 s] 75)
  rcases hl with rfl | ⟨b0, rfl⟩
  · go_enter Tryd.func64, Tryd.ntmps64
    go_wp2
    refine bodyPost_ret (results_none rfl _ _ _) rfl ?_
    exact ⟨rfl, b⟩
  · go_enter Tryd.func64, Tryd.ntmps64
    go_wp2
    refine bodyPost_ret (results_none rfl _ _ _) rfl ?_
    exact ⟨rfl, b⟩
theorem lpv_ptr (lo : Option Nat) : lpv lo = .pointer none ∨ ∃ b, lpv lo = .pointer (some ⟨b, 0, none⟩) := by
  cases lo with
  | none => exact .inl rfl
  | some b => exact .inr ⟨b, rfl⟩
theorem rtimes_lg (S : Nat → Prop) (w0 w : World) (lo : Option Nat) (L : List Rn) (k s : Int) (n : Nat) (hk : 0 ≤ k ∧ k < 256) (hs : 0 ≤ s ∧ s ≤ 1000) (h : RLG S w0 w lo L) (h0 : Kp S w0 w) (hr : tot L + n ≤ 9000000000000000000 ∧ L.length ≤ 10000000) :
    Calls Tryd.prog 64 #[lpv lo, .agg #[.int .u8 k, .int .i64 s], .int .i64 n] w fun e w' => e = .returned (.tuple #[]) ∧ RLG S w0 w' lo (putL L ⟨k, s, (n : Int)⟩) ∧ Kp S w0 w' ∧ Ku w w' := by
  by_cases hn : n = 0
  · subst hn
    rw [show ((0 : Nat) : Int) = 0 from rfl, putL_none]
    refine (rtimes_z (lpv lo) (lpv_ptr lo) k s w).mono ?_
    rintro e w' ⟨rfl, hb⟩
    exact ⟨rfl, h.below hb, h0.trans (Kp.of_below S hb) (fun _ _ e => e), Ku.of_below hb⟩
  · cases lo with
    | none =>
      refine (rtimes0 _ _ k s w rfl).mono ?_
      rintro e w' ⟨rfl, hb⟩
      exact ⟨rfl, trivial, h0.trans (Kp.of_below S hb) (fun _ _ e => e), hb.size, fun g cs t hg _ _ => hg.below hb⟩
    | some lb =>
      obtain ⟨hs1, rv, hl, ho⟩ := h
      refine (refNoteTimes45 lb rv L k s n w hl ⟨hk, ⟨by show -9223372036854775808 ≤ s; omega, by show s ≤ 9223372036854775807; omega⟩, by show -9223372036854775808 ≤ (n : Int) ∧ (n : Int) ≤ 9223372036854775807; have := hr.1; have := tot_nonneg hl.pos; omega⟩ (by omega) (by omega) (by omega)).mono ?_
      rintro e w' ⟨rfl, rv', hl', hkp, hsn⟩
      refine ⟨rfl, ⟨hs1, rv', hl', fun g hg hlt => ?_⟩, h0.trans hkp ?_, hkp.size, fun g cs t hg h1 h2 => hg.kept hkp (rled_apart hl hg h1 h2)⟩
      · rcases hsn with e | e
        · exact ho g (by rw [← e]; exact hg) hlt
        · have := e g hg; have := h0.size; omega
      · rintro i hi (rfl | e)
        · exact hs1
        · exact ho i e hi
/-- The document's mac of a key, told n bytes. -/
structure Rm (w : World) (g k n : Nat) (key m : Nat → Nat) (kv mv : Value) : Prop where
  here : Blk w g [kv, mv, .bool true] 90
  kk : k = 4 ∨ k = 6 ∨ k = 8
  ko : By.Own w 0 kv (4 * k) (cb key)
  mo : By.Own w 0 mv n (cb m)
/-- One that is none. -/
def RnM (w : World) (v : Value) : Prop := v = .pointer none ∨ ∃ g x y, v = .pointer (some ⟨g, 0, none⟩) ∧ Blk w g [x, y, .bool false] 90
theorem own_ku {W W' : World} (h : Ku W W') {base n : Nat} {v : Value} {f : Nat → Int} (ho : By.Own W base v n f) : By.Own W' base v n f := by
  obtain ⟨hf, hl, h' | ⟨g, cap, cur, rfl, hb, hc, h1, h2, h3, h4⟩⟩ := ho
  · exact ⟨hf, hl, .inl h'⟩
  · refine ⟨hf, hl, .inr ⟨g, cap, cur, rfl, hb, ?_, h1, h2, h3, h4⟩⟩
    exact h.2 g cur.toList 5 (by show W.heap[g]? = _; rw [hc]) (by decide) (by decide)
section
variable {w w' : World} {g k n : Nat} {key m : Nat → Nat} {kv mv : Value}
theorem Rm.ku (h : Rm w g k n key m kv mv) (hk : Ku w w') : Rm w' g k n key m kv mv := ⟨hk.2 _ _ _ h.here (by decide) (by decide), h.kk, own_ku hk h.ko, own_ku hk h.mo⟩
theorem Rm.below (h : Rm w g k n key m kv mv) (hb : Below w.heap.size w w') : Rm w' g k n key m kv mv := h.ku (Ku.of_below hb)
theorem RnM.ku {v : Value} (h : RnM w v) (hk : Ku w w') : RnM w' v := by
  rcases h with h | ⟨g, x, y, e, hb⟩
  · exact .inl h
  · exact .inr ⟨g, x, y, e, hk.2 _ _ _ hb (by decide) (by decide)⟩
theorem Rm.c0 (h : Rm w g k n key m kv mv) : w.cell? ⟨g, 0, none⟩ = some kv := h.here.cell 0 _ rfl
theorem Rm.c1 (h : Rm w g k n key m kv mv) : w.cell? ⟨g, 1, none⟩ = some mv := h.here.cell 1 _ rfl
theorem Rm.c2 (h : Rm w g k n key m kv mv) : w.cell? ⟨g, 2, none⟩ = some (.bool true) := h.here.cell 2 _ rfl
theorem Rm.keyb (h : Rm w g k n key m kv mv) (i : Nat) : key i < 256 := Int.ofNat_lt.1 (h.ko.1 i).2
end
theorem ris_rm (g k n : Nat) (key m : Nat → Nat) (kv mv : Value) (w : World) (h : Rm w g k n key m kv mv) : Calls Tryd.prog 46 #[.pointer (some ⟨g, 0, none⟩)] w fun e w' => e = .returned (.bool true) ∧ w' = w := by
  have c := h.c2
  clear h
  go_enter Tryd.func46, Tryd.ntmps46
  go_wp2
  go_ret
  exact ⟨rfl, rfl⟩
theorem ris_rn (v : Value) (w : World) (h : RnM w v) : Calls Tryd.prog 46 #[v] w fun e w' => e = .returned (.bool false) ∧ w' = w := by
  rcases h with rfl | ⟨g, x, y, rfl, hb⟩
  · go_enter Tryd.func46, Tryd.ntmps46
    go_wp2
    go_ret
    exact ⟨rfl, rfl⟩
  · have c := hb.cell 2 _ rfl
    clear hb
    go_enter Tryd.func46, Tryd.ntmps46
    go_wp2
    go_ret
    exact ⟨rfl, rfl⟩
set_option maxHeartbeats 2000000 in
theorem raes (S : Nat → Prop) (w0 w : World) (lo : Option Nat) (L : List Rn) (g k : Nat) (a : Nat) (ka : Option Addr) (kc : Nat) (hk : k ≤ 8) (hc : w.cell? ⟨g, 0, none⟩ = some (.slice ka (4 * k) kc)) (h : RLG S w0 w lo L) (h0 : Kp S w0 w) (hr : tot L + a ≤ 9000000000000000000 ∧ L.length ≤ 10000000) :
    Calls Tryd.prog 43 #[.pointer (some ⟨g, 0, none⟩), lpv lo, .int .i64 a] w fun e w' => e = .returned (.tuple #[]) ∧ RLG S w0 w' lo (evb k L a) ∧ Kp S w0 w' ∧ Ku w w' := by
  have HL := hid h
  have H0 := hid h0
  have HR := hid hr
  clear h h0 hr
  go_enter Tryd.func43, Tryd.ntmps43
  go_wp2_with fail
  refine (rtimes_lg S w0 _ lo L 5 (4 * (k : Int)) a (by omega) (by omega) HL.out H0.out HR.out).mono ?_
  rintro e W3 ⟨rfl, l3, k3, t3⟩
  rw [show (4 * (k : Int)) = ((4 * k : Nat) : Int) from by omega] at l3
  have L3 := hid l3
  have K3 := hid k3
  have T3 := hid t3
  clear l3 k3 t3
  go_wp2_with fail
  go_end0
  exact ⟨rfl, L3.out, K3.out, T3.out⟩
end Go.Proofs.YtbgdjjfonmoemaaDoor.Vm
namespace Go.Proofs.YtbgdjjfonmoemaaDoor.Vm
open Go.ChangeShapes Go.WideShapes Go.ChangeAt Go.RowKit
open Go.Proofs.YtbgdjjfonmoemaaDoor.By Go.Proofs.YtbgdjjfonmoemaaDoor.Gf Go.Proofs.YtbgdjjfonmoemaaDoor.Ae
open Go.Proofs.YtbgdjjfonmoemaaDoor.Kc (own_kept own_mono own8_type cat cat_bound wpList_cat below_grow)
theorem own_ne8 {w : World} {b n x : Nat} {v : Value} {f : Nat → Int} {cs : List Value} {t : TypeId} (h : By.Own w b v n f) (hb : Blk w x cs t) (ht : t ≠ 5) (hx : v.ownBlock = some x) : False := by
  obtain ⟨c1, hc1⟩ := own8_type h hx
  have h2 : Blk w x c1.toList 5 := by show w.heap[x]? = _; rw [hc1]
  exact ht (blk_ty hb h2)
/-- All blocks but g, and but the ledger's, stay. -/
def Kxu (g : Nat) (w w' : World) : Prop := w.heap.size ≤ w'.heap.size ∧ ∀ x cs t, x ≠ g → Blk w x cs t → t ≠ 50 → t ≠ 77 → Blk w' x cs t
theorem Kxu.of_ku {g : Nat} {w w' : World} (h : Ku w w') : Kxu g w w' := ⟨h.1, fun x cs t _ hb h1 h2 => h.2 x cs t hb h1 h2⟩
theorem Kxu.of_kp {g : Nat} {w w' : World} (h : Kp (fun j => j = g) w w') : Kxu g w w' := ⟨h.size, fun _ _ _ hx hb _ _ => hb.kept h hx⟩
theorem Kxu.trans {g : Nat} {a b c : World} (h : Kxu g a b) (k : Kxu g b c) : Kxu g a c := ⟨Nat.le_trans h.1 k.1, fun x cs t hx hb h1 h2 => k.2 x cs t hx (h.2 x cs t hx hb h1 h2) h1 h2⟩
section
variable (g k n : Nat) (key m : Nat → Nat) (kv mv : Value) (w : World)
set_option maxHeartbeats 2000000 in
theorem rform_rm (h : Rm w g k n key m kv mv) (hn : n ≤ 140737488355999) : Calls Tryd.prog 32 #[.pointer (some ⟨g, 0, none⟩)] w fun e w' => ∃ v, e = .returned v ∧ By.Own w' w.heap.size v (fml k) (cb (fmf k (wds k key (3 * k + 28)) n m)) ∧ Below w.heap.size w w' := by
  have c0 := h.c0
  have c1 := h.c1
  have IS := hid (ris_rm g k n key m kv mv w h)
  have h' := h.below (below_drewN w 1)
  have FO := hid (show Calls Tryd.prog 54 #[kv, mv] w.drew fun e w' => ∃ v, e = .returned v ∧ By.Own w' w.heap.size v (fml k) (cb (fmf k (wds k key (3 * k + 28)) n m)) ∧ Below w.drew.heap.size w.drew w' from rFormOf k h.kk key h.keyb kv mv n m w.drew h'.ko.reads h'.mo.reads hn)
  obtain ⟨ka, kc, rfl⟩ := own8_slice h.ko
  obtain ⟨ma, mc, rfl⟩ := own8_slice h.mo
  clear h h'
  go_enter Tryd.func32, Tryd.ntmps32
  go_wp2_with (go_at_call 46; refine IS.out.mono ?_; rintro e w' ⟨rfl, hw'⟩; subst w')
  go_region_law (go_simp; go_at_call 54; refine FO.out.mono ?_; rintro e w2 ⟨v, rfl, ho, hb⟩; have O := hid ho; have B := hid (below_next (below_drewN w 1) hb); clear ho hb)
  all_goals
    go_simp
    go_wp2_with fail
    go_ret
    exact ⟨_, rfl, O.out, B.out⟩
theorem rform_rn (v : Value) (h : RnM w v) : Calls Tryd.prog 32 #[v] w fun e w' => e = .returned (.slice none 0 0) ∧ w' = w := by
  have IS := hid (ris_rn v w h)
  clear h
  go_enter Tryd.func32, Tryd.ntmps32
  go_wp2_with (go_at_call 46; refine IS.out.mono ?_; rintro e w' ⟨rfl, hw'⟩; subst w')
  go_ret
  exact ⟨rfl, rfl⟩
theorem rsum_rn (v lv : Value) (h : RnM w v) : Calls Tryd.prog 23 #[v, lv] w fun e w' => e = .returned (.tuple #[.slice none 0 0, .int .i64 1]) ∧ w' = w := by
  have IS := hid (ris_rn v w h)
  clear h
  go_enter Tryd.func23, Tryd.ntmps23
  go_wp2_with (go_at_call 46; refine IS.out.mono ?_; rintro e w' ⟨rfl, hw'⟩; subst w')
  go_ret2
  exact ⟨rfl, rfl⟩
theorem rreset_rn (v : Value) (h : RnM w v) : Calls Tryd.prog 26 #[v] w fun e w' => e = .returned (.int .i64 1) ∧ w' = w := by
  have IS := hid (ris_rn v w h)
  clear h
  go_enter Tryd.func26, Tryd.ntmps26
  go_wp2_with (go_at_call 46; refine IS.out.mono ?_; rintro e w' ⟨rfl, hw'⟩; subst w')
  go_ret
  exact ⟨rfl, rfl⟩
theorem rclone_rnm (v : Value) (h : RnM w v) : Calls Tryd.prog 28 #[v] w fun e w' => e = .returned (.tuple #[.pointer none, .int .i64 1]) ∧ w' = w := by
  have IS := hid (ris_rn v w h)
  clear h
  go_enter Tryd.func28, Tryd.ntmps28
  go_wp2_with (go_at_call 46; refine IS.out.mono ?_; rintro e w' ⟨rfl, hw'⟩; subst w')
  go_ret2
  exact ⟨rfl, rfl⟩
theorem rwipe_rnm (v lv : Value) (h : RnM w v) : Calls Tryd.prog 30 #[v, lv] w fun e w' => e = .returned (.int .i64 1) ∧ w' = w := by
  have IS := hid (ris_rn v w h)
  clear h
  go_enter Tryd.func30, Tryd.ntmps30
  go_wp2_with (go_at_call 46; refine IS.out.mono ?_; rintro e w' ⟨rfl, hw'⟩; subst w')
  go_ret
  exact ⟨rfl, rfl⟩
theorem rwrite_rnm (v lv pv : Value) (h : RnM w v) : Calls Tryd.prog 21 #[v, lv, pv] w fun e w' => e = .returned (.int .i64 1) ∧ w' = w := by
  have IS := hid (ris_rn v w h)
  clear h
  go_enter Tryd.func21, Tryd.ntmps21
  go_wp2_with (go_at_call 46; refine IS.out.mono ?_; rintro e w' ⟨rfl, hw'⟩; subst w')
  go_ret
  exact ⟨rfl, rfl⟩
theorem rreset_rm (h : Rm w g k n key m kv mv) : Calls Tryd.prog 26 #[.pointer (some ⟨g, 0, none⟩)] w fun e w' => e = .returned (.int .i64 0) ∧ Rm w' g k 0 key nought kv (.slice none 0 0) ∧ Kp (fun j => j = g) w w' := by
  have IS := hid (ris_rm g k n key m kv mv w h)
  have c1 := h.c1
  have f1 := h.here.frozen 1
  have H := hid h
  clear h
  go_enter Tryd.func26, Tryd.ntmps26
  go_wp2_with (go_at_call 46; refine IS.out.mono ?_; rintro e w' ⟨rfl, hw'⟩; subst w')
  go_ret
  have hk := Kp.setCell (w := w) g 1 (.slice none 0 0)
  refine ⟨rfl, ⟨H.out.here.set 1 _, H.out.kk, own_kept H.out.ko hk (fun x hx e => ?_), own_nil _ _ _ (fun _ => by show (0:Int) ≤ ((0:Nat):Int) ∧ ((0:Nat):Int) < 256; decide)⟩, hk⟩
  have e' : x = g := e
  subst e'
  exact own_ne8 H.out.ko H.out.here (by decide) hx
theorem rclone_rm (h : Rm w g k n key m kv mv) : Calls Tryd.prog 28 #[.pointer (some ⟨g, 0, none⟩)] w fun e w' => e = .returned (.tuple #[.pointer (some ⟨w.heap.size, 0, none⟩), .int .i64 0]) ∧ Rm w' w.heap.size k n key m kv mv ∧ Below w.heap.size w w' := by
  have IS := hid (ris_rm g k n key m kv mv w h)
  have c0 := h.c0
  have c1 := h.c1
  have H := hid h
  obtain ⟨ka, kc, rfl⟩ := own8_slice h.ko
  obtain ⟨ma, mc, rfl⟩ := own8_slice h.mo
  clear h
  go_enter Tryd.func28, Tryd.ntmps28
  go_wp2_with (go_at_call 46; refine IS.out.mono ?_; rintro e w' ⟨rfl, hw'⟩; subst w')
  go_region
  all_goals
    go_simp
    go_wp2_with fail
    have hb := below_dr (below_alloc w (.cells #[.slice ka (4 * k) kc, .slice ma n mc, .bool true] 90))
    refine bodyPost_ret (v := .tuple #[.pointer (some ⟨w.heap.size, 0, none⟩), .int .i64 0]) (by simp [results, Tryd.results28, go_sem]) rfl ⟨rfl, ⟨(Blk.newAt w _ [.slice ka (4 * k) kc, .slice ma n mc, .bool true] 90 _ rfl rfl).drewN 1, H.out.kk, own_below H.out.ko hb, own_below H.out.mo hb⟩, hb⟩
variable (S : Nat → Prop) (w0 : World) (lo : Option Nat) (L : List Rn)
set_option maxHeartbeats 2000000 in
theorem rwipe_rm (h : Rm w g k n key m kv mv) (hn : n ≤ 140737488355999) (hl : RLG S w0 w lo L) (h0 : Kp S w0 w) (hr : Room L) (hS : g < w0.heap.size → S g) :
    Calls Tryd.prog 30 #[.pointer (some ⟨g, 0, none⟩), lpv lo] w fun e w' => e = .returned (.int .i64 0) ∧ Blk w' g [kv, mv, .bool false] 90 ∧ RLG S w0 w' lo (putL L ⟨8, ((fml k : Nat) : Int), 1⟩) ∧ Kp S w0 w' ∧ Kxu g w w' := by
  have IS := hid (ris_rm g k n key m kv mv w h)
  have FM := hid (rform_rm g k n key m kv mv w h hn)
  have H := hid h
  have HL := hid hl
  have H0 := hid h0
  have HR := hid hr
  have HS := hid hS
  have hk8 : k ≤ 8 := by have := h.kk; omega
  have hf : ((fml k : Nat) : Int) ≤ 1000 ∧ 0 ≤ ((fml k : Nat) : Int) := by unfold fml; omega
  clear h hl h0 hr hS
  go_enter Tryd.func30, Tryd.ntmps30
  go_wp2_with (go_at_call 46; refine IS.out.mono ?_; rintro e w' ⟨rfl, hw'⟩; subst w')
  refine FM.out.mono ?_
  rintro e w1 ⟨v, rfl, ho, hb⟩
  obtain ⟨va, vc, rfl⟩ := own8_slice ho
  have H1 := hid (H.out.below hb)
  have L1 := hid (HL.out.below hb)
  have K1 := hid (H0.out.trans (Kp.of_below S hb) (fun _ _ e => e))
  have X1 := hid (Ku.of_below hb)
  clear ho hb
  go_wp2_with fail
  refine (rnote_lg S w0 _ lo L 8 ((fml k : Nat) : Int) (by omega) (by omega) L1.out K1.out HR.out).mono ?_
  rintro e W3 ⟨rfl, l3, k3, t3⟩
  have L3 := hid l3
  have K3 := hid k3
  have X3 := hid (X1.out.trans t3)
  have H3 := hid (H1.out.ku t3)
  have c2 := H3.out.c2
  have f2 := H3.out.here.frozen 2
  clear l3 k3 t3
  go_wp2_with fail
  go_ret
  have hk := Kp.setCell (w := W3) g 2 (.bool false)
  refine ⟨rfl, H3.out.here.set 2 _, L3.out.kept hk (fun x hx => by have e : x = g := hx; subst e; exact ⟨_, _, H3.out.here, by decide, by decide⟩), K3.out.trans hk (fun i hi e => ?_), (Kxu.of_ku X3.out).trans (Kxu.of_kp hk)⟩
  have e' : i = g := e
  subst e'
  exact HS.out hi
set_option maxHeartbeats 2000000 in
theorem rsum_rm (h : Rm w g k n key m kv mv) (hn : n ≤ 140737488355999) (hl : RLG S w0 w lo L) (h0 : Kp S w0 w) (hr : tot L + 1 ≤ 9000000000000000000 ∧ L.length ≤ 10000000) :
    Calls Tryd.prog 23 #[.pointer (some ⟨g, 0, none⟩), lpv lo] w fun e w' => ∃ v, e = .returned (.tuple #[v, .int .i64 0]) ∧ By.Own w' w.heap.size v 16 (cb (upto 16 (tgn (wds k key (3 * k + 28)) (k + 6) m n))) ∧ RLG S w0 w' lo (evb k L 1) ∧ Kp S w0 w' ∧ Ku w w' := by
  have IS := hid (ris_rm g k n key m kv mv w h)
  have hk8 : k ≤ 8 := by have := h.kk; omega
  obtain ⟨ka, kc, hkv⟩ := own8_slice h.ko
  have AE := hid (raes S w0 w lo L g k 1 ka kc hk8 (by rw [← hkv]; exact h.c0) hl h0 hr)
  have H := hid h
  clear h hl h0 hr
  go_enter Tryd.func23, Tryd.ntmps23
  go_wp2_with (go_at_call 46; refine IS.out.mono ?_; rintro e w' ⟨rfl, hw'⟩; subst w')
  refine AE.out.mono ?_
  rintro e W3 ⟨rfl, l3, k3, t3⟩
  have H3 := H.out.ku t3
  have c0 := H3.c0
  have c1 := H3.c1
  have h' := H3.below (below_drewN W3 1)
  have OF := hid (show Calls Tryd.prog 49 #[kv, mv] W3.drew fun e w' => ∃ v, e = .returned v ∧ By.Own w' W3.heap.size v 16 (cb (upto 16 (tgn (wds k key (3 * k + 28)) (k + 6) m n))) ∧ Below W3.drew.heap.size W3.drew w' from rOf k H3.kk key H3.keyb kv mv n m W3.drew h'.ko.reads h'.mo.reads hn)
  have L3 := hid l3
  have K3 := hid k3
  have X3 := hid t3
  obtain ⟨ma, mc, hmv⟩ := own8_slice H3.mo
  subst hkv hmv
  clear l3 k3 t3 H3 h' AE
  go_wp2_with fail
  go_region_law (go_simp; go_at_call 49; refine OF.out.mono ?_; rintro e w4 ⟨v, rfl, ho, hb⟩; have O := hid ho; have B := hid (below_next (below_drewN W3 1) hb); clear ho hb)
  all_goals
    go_simp
    go_wp2_with fail
    go_ret2
    exact ⟨_, rfl, own_mono O.out X3.out.1, L3.out.below B.out, K3.out.trans (Kp.of_below S B.out) (fun _ _ e => e), X3.out.trans (Ku.of_below B.out)⟩
end
end Go.Proofs.YtbgdjjfonmoemaaDoor.Vm
namespace Go.Proofs.YtbgdjjfonmoemaaDoor.Vm
open Go.ChangeShapes Go.WideShapes Go.ChangeAt Go.RowKit
open Go.Proofs.YtbgdjjfonmoemaaDoor.By
open Go.Proofs.YtbgdjjfonmoemaaDoor.Kc (cat cat_bound)
theorem step_cat {w : World} {ops : Array Oper} {o : Oper} {a : Act} {K : Act → World → Prop} {Q : Exit → Act → World → Prop} {E : Prop} (hgd : o.guard = none) (s x : Operand)
    (ho : o.op = .call { callee := .builtin .append, args := #[s, x], argTypes := #[22, 22] })
    (base n m : Nat) (v u : Value) (f g : Nat → Int) (hs : a.eval s = v) (hv : By.Own w base v n f) (hx : a.eval x = u) (hr : By.RB w u m g) (hn : n + m ≤ 140737488355328) (hb : base ≤ w.heap.size)
    (h : ∀ v' w', By.Own w' base v' (n + m) (cat n f g) → w.grownBy w' v.ownBlock → K (a.put o.dst v') w') :
    if Region.wanted o (yielded ops a.tmps) = true then Oper.wp Tryd.prog o a w K Q else E := by
  have hw : Region.wanted o (yielded ops a.tmps) = true := by simp [Region.wanted, hgd]
  rw [if_pos hw]
  obtain ⟨hg, ad, cap, rfl, h1, h2, hc⟩ := hr
  obtain ⟨i0, hi, hz0, hz1, hz2⟩ := info_parts info5
  have hcat : bl n f ++ bl m g = bl (n + m) (cat n f g) := bl_append n m f g
  cases ad with
  | none =>
    have hm0 : m = 0 := by rcases hc with ⟨h, _⟩ | ⟨_, _, h, _⟩; exact h; cases h
    have hc0 : cap = 0 := by rcases hc with ⟨_, h⟩ | ⟨_, _, h, _⟩; exact h rfl; cases h
    subst hm0 hc0
    have hrun := run_append_owned_none (P := Tryd.prog) (w := w) base 22 o.type 5 i0 1 Tryd.underlying22 hi v n _ hv.2
    unfold Oper.wp
    simp [execOp, ho, resolve, invoke, builtin, hs, hx, hrun, Result.andThen]
    refine h v w ⟨cat_bound hv.1 hg, ?_⟩ (World.grownBy.refl _ _)
    rw [← hcat]; simpa [bl] using hv.2
  | some ad =>
    have HC : ∀ j u, (bl m g)[j]? = some u → w.cell? (ad.add j) = some u := by
      intro j u hj
      obtain ⟨hj1, rfl⟩ := bl_get_inv _ _ _ _ hj
      rcases hc with ⟨h, _⟩ | ⟨b, off, h, hc⟩
      · omega
      · cases h; rw [By.add_plain]; exact hc j hj1
    refine wp_append_own _ s x 22 ho base 5 i0 (.int .u8 0) 1 1 Tryd.underlying22 hi hz0 hz1 hz2 rfl (by decide) v n (bl n f) hs hv.2 ad m cap (bl m g) hx (by rw [bl_length]; omega) HC (bl_one m g) (by simp [maxLen]; omega) (by omega) hb ?_
    intro v' w' hown hgrow _
    exact h v' w' ⟨cat_bound hv.1 hg, by rw [← hcat]; exact hown⟩ hgrow
end Go.Proofs.YtbgdjjfonmoemaaDoor.Vm
namespace Go.Proofs.YtbgdjjfonmoemaaDoor.Vm
open Go.ChangeShapes Go.WideShapes Go.ChangeAt Go.RowKit
open Go.Proofs.YtbgdjjfonmoemaaDoor.By Go.Proofs.YtbgdjjfonmoemaaDoor.Gf Go.Proofs.YtbgdjjfonmoemaaDoor.Ae
open Go.Proofs.YtbgdjjfonmoemaaDoor.Kc (own_kept own_mono own8_type cat cat_bound wpList_cat below_grow)
theorem cat_ct2 (n : Nat) (m f : Nat → Nat) : cat n (cb m) (cb f) = cb (ct2 n m f) := by
  funext i
  show cat n (cb m) (cb f) i = ((ct2 n m f i : Nat) : Int)
  unfold cat ct2
  split <;> rfl
theorem own_ge {w : World} {b n x : Nat} {v : Value} {f : Nat → Int} (h : By.Own w b v n f) (hx : v.ownBlock = some x) : b ≤ x := by
  obtain ⟨_, _, h' | ⟨g, cap, cur, rfl, hb, _⟩⟩ := h
  · obtain ⟨rfl, _⟩ := h'; simp [Value.ownBlock] at hx
  · simp [Value.ownBlock] at hx; subst hx; exact hb
theorem cat_nil (f g : Nat → Int) : cat 0 f g = g := by
  funext i; unfold cat; rw [if_neg (Nat.not_lt_zero _)]; rfl
section
variable (g k n : Nat) (key m : Nat → Nat) (kv mv : Value) (w : World) (S : Nat → Prop) (w0 : World) (lo : Option Nat) (L : List Rn)
set_option maxRecDepth 8000 in
set_option maxHeartbeats 4000000 in
theorem rwrite_rm (h : Rm w g k n key m kv mv) (q : Nat) (f : Nat → Nat) (a : Option Addr) (cap : Nat) (hp : By.RB w (.slice a q cap) q (cb f)) (hn : n + q ≤ 100000000000000) (hl : RLG S w0 w lo L) (h0 : Kp S w0 w) (hr : tot L ≤ 2305843009213693952 ∧ L.length ≤ 10000000) (hS : g < w0.heap.size → S g) :
    Calls Tryd.prog 21 #[.pointer (some ⟨g, 0, none⟩), lpv lo, .slice a q cap] w fun e w' => ∃ mv', e = .returned (.int .i64 0) ∧ Rm w' g k (n + q) key (ct2 n m f) kv mv' ∧ (∀ x, mv'.ownBlock = some x → w.heap.size ≤ x) ∧ RLG S w0 w' lo (evb k L (nbl (n + q) - nbl n)) ∧ Kp S w0 w' ∧ Kxu g w w' := by
  have IS := hid (ris_rm g k n key m kv mv w h)
  have hk8 : k ≤ 8 := by have := h.kk; omega
  have H := hid h
  have HP := hid hp
  have HL := hid hl
  have H0 := hid h0
  have HR := hid hr
  have HS := hid hS
  have c1 := h.c1
  have f1 := h.here.frozen 1
  have HO := hid h.mo
  obtain ⟨ma, mc, rfl⟩ := own8_slice h.mo
  obtain ⟨ka, kc, hkv⟩ := own8_slice h.ko
  clear h hp hl h0 hr hS
  have BC := hid (rblocks n (by omega))
  have BC2 := hid (rblocks (n + q) (by omega))
  obtain ⟨B, hB⟩ : ∃ B, nbl n = B := ⟨_, rfl⟩
  obtain ⟨B2, hB2⟩ : ∃ B, nbl (n + q) = B := ⟨_, rfl⟩
  rw [hB] at BC
  rw [hB2] at BC2
  obtain ⟨N, hN⟩ : ∃ N, n + q = N := ⟨_, rfl⟩
  have hBB : B ≤ B2 := by rw [← hB, ← hB2]; unfold nbl; omega
  have hB2l : B2 ≤ 100000000000000 := by rw [← hB2]; unfold nbl; omega
  have N0 := hid (own_nil w w.heap.size (cb m) HO.out.1)
  go_enter Tryd.func21, Tryd.ntmps21
  go_wp2_with (first | (go_at_call 46; refine IS.out.mono ?_; rintro e w' ⟨rfl, hw'⟩; subst w') | (go_at_call 47; refine (BC.out _).mono ?_; rintro e w' ⟨rfl, hw'⟩; subst w') | (at_builtin; go_must (refine wpList_cat rfl _ _ rfl w.heap.size 0 n _ _ (cb m) (cb m) rfl N0.out rfl HO.out.reads (by omega) (Nat.le_refl _) ?_)))
  intro v1 w1 hown hgrow
  rw [cat_nil] at hown
  have b1 : Below w.heap.size w w1 := (Kp.of_grown hgrow).below (Nat.le_refl _) (fun k _ e => by simp [Value.ownBlock] at e)
  have O1 := hid hown
  have B1 := hid b1
  have R1 := hid (HP.out.below b1)
  clear hown hgrow b1
  go_wp2_with (at_builtin; go_must (refine wpList_cat rfl _ _ rfl w.heap.size n q _ _ (cb m) (cb f) rfl O1.out rfl R1.out (by omega) B1.out.size ?_))
  intro v2 w2 hown hgrow
  rw [cat_ct2] at hown
  have b2 := below_grow B1.out B1.out.size O1.out hgrow
  have H2 := H.out.below b2
  have O2 := hid hown
  have B2' := hid b2
  have HH := hid H2
  have c1 := H2.c1
  have f1 := H2.here.frozen 1
  obtain ⟨va, vc, rfl⟩ := own8_slice hown
  clear hown hgrow b2 H2
  have hk3 := Kp.setCell (w := w2) g 1 (.slice va N vc)
  have H3 := hid (show Rm (w2.setCell ⟨g, 1, none⟩ (.slice va N vc)) g k N key (ct2 n m f) kv (.slice va N vc) from ⟨HH.out.here.set 1 _, HH.out.kk, own_kept HH.out.ko hk3 (fun x hx e => by have e' : x = g := e; subst e'; exact own_ne8 HH.out.ko HH.out.here (by decide) hx), own_kept (own_mono O2.out (Nat.zero_le _)) hk3 (fun x hx e => by have e' : x = g := e; subst e'; exact own_ne8 O2.out HH.out.here (by decide) hx)⟩)
  have L3 := hid ((HL.out.below B2'.out).kept hk3 (fun x hx => by have e : x = g := hx; subst e; exact ⟨_, _, HH.out.here, by decide, by decide⟩))
  have K3 := hid ((H0.out.trans (Kp.of_below S B2'.out) (fun _ _ e => e)).trans hk3 (fun i hi e => by have e' : i = g := e; subst e'; exact HS.out hi))
  have X3 := hid ((Kxu.of_ku (g := g) (Ku.of_below B2'.out)).trans (Kxu.of_kp hk3))
  have NB := hid (show ∀ x, (Value.slice va N vc).ownBlock = some x → w.heap.size ≤ x from fun x hx => own_ge O2.out hx)
  obtain ⟨W3, hW3⟩ : ∃ x, w2.setCell ⟨g, 1, none⟩ (.slice va N vc) = x := ⟨_, rfl⟩
  rw [hW3] at H3 L3 K3 X3
  clear hk3
  have AE := hid (raes S w0 W3 lo L g k (B2 - B) ka kc hk8 (by rw [← hkv]; exact H3.out.c0) L3.out K3.out ⟨by have := HR.out.1; omega, HR.out.2⟩)
  have d1 := H3.out.c1
  rw [hN] at BC2
  have hsub : ((B2 : Int) + 1) - ((B : Int) + 1) = ((B2 - B : Nat) : Int) := by omega
  obtain ⟨D, hD⟩ : ∃ D, B2 - B = D := ⟨_, rfl⟩
  rw [hD] at hsub AE
  have hB4 : (B2 : Int) ≤ 100000000000000 := by omega
  have hB5 : (B : Int) ≤ 100000000000000 := by omega
  have hDl : D ≤ 100000000000000 := by omega
  go_wp2_with (go_at_call 47; refine (BC2.out _).mono ?_; rintro e w' ⟨rfl, hw'⟩; subst w')
  refine AE.out.mono ?_
  rintro e W4 ⟨rfl, l4, k4, t4⟩
  have L4 := hid l4
  have K4 := hid k4
  have X4 := hid (X3.out.trans (Kxu.of_ku t4))
  have H4 := hid (H3.out.ku t4)
  clear l4 k4 t4 AE d1
  go_wp2_with fail
  go_ret
  refine ⟨_, rfl, by rw [hN]; exact H4.out, NB.out, ?_, K4.out, X4.out⟩
  rw [hN, show nbl N = B2 from by rw [← hN]; exact hB2, hB, hD]
  exact L4.out
end
end Go.Proofs.YtbgdjjfonmoemaaDoor.Vm
namespace Go.Proofs.YtbgdjjfonmoemaaDoor.Vm
open Go.ChangeShapes Go.WideShapes Go.ChangeAt Go.RowKit
open Go.Proofs.YtbgdjjfonmoemaaDoor.By Go.Proofs.YtbgdjjfonmoemaaDoor.Gf Go.Proofs.YtbgdjjfonmoemaaDoor.Ae
open Go.Proofs.YtbgdjjfonmoemaaDoor.Kc (own_kept own_mono own8_type cat cat_bound wpList_cat below_grow)
theorem rcnew_bad (lv : Value) (a : Option Addr) (n cap : Nat) (w : World) (h1 : n ≠ 16) (h2 : n ≠ 24) (h3 : n ≠ 32) : Calls Tryd.prog 16 #[lv, .slice a n cap] w fun e w' => e = .returned (.tuple #[.pointer none, .int .i64 7]) ∧ w' = w := by
  go_enter Tryd.func16, Tryd.ntmps16
  go_wp2_with (go_at_call 41; refine (rright_no n h1 h2 h3 _).mono ?_; rintro e w' ⟨rfl, hw'⟩; subst w')
  go_ret2
  exact ⟨rfl, rfl⟩
theorem nought_c (i : Nat) : 0 ≤ cb nought i ∧ cb nought i < 256 := by show (0:Int) ≤ ((0:Nat):Int) ∧ ((0:Nat):Int) < 256; decide
section
variable (S : Nat → Prop) (w0 w : World) (lo : Option Nat) (L : List Rn) (k : Nat) (hk : k = 4 ∨ k = 6 ∨ k = 8) (key : Nat → Nat) (a : Option Addr) (cap : Nat)
include hk
set_option maxRecDepth 8000 in
set_option maxHeartbeats 4000000 in
theorem rcnew_ok (hv : By.RB w (.slice a (4 * k) cap) (4 * k) (cb key)) (h : RLG S w0 w lo L) (h0 : Kp S w0 w) (hp : Pos L) (hr : tot L ≤ 2305843009213693952 ∧ L.length ≤ 9000000) :
    Calls Tryd.prog 16 #[lpv lo, .slice a (4 * k) cap] w fun e w' => ∃ g kv, e = .returned (.tuple #[.pointer (some ⟨g, 0, none⟩), .int .i64 0]) ∧ Rm w' g k 0 key nought kv (.slice none 0 0) ∧ w.heap.size ≤ g ∧ (∀ x, kv.ownBlock = some x → w.heap.size ≤ x) ∧ RLG S w0 w' lo (evb k (putL L ⟨4, ((4 * k : Nat) : Int), 1⟩) 1) ∧ Kp S w0 w' ∧ Ku w w' := by
  have KK := hid hk
  have hk8 : k ≤ 8 := by omega
  have hk4 : 4 ≤ k := by omega
  have HL := hid h
  have H0 := hid h0
  have HP := hid hp
  have HR := hid hr
  have HV := hid hv
  clear hk h h0 hr hv hp
  have bA := below_alloc w (.cells #[.slice none 0 0, .slice none 0 0, .bool true] 90)
  have gA := Blk.newAt w #[.slice none 0 0, .slice none 0 0, .bool true] [.slice none 0 0, .slice none 0 0, .bool true] 90 _ rfl rfl
  obtain ⟨WA, hWA⟩ : ∃ x, w.alloc (.cells #[.slice none 0 0, .slice none 0 0, .bool true] 90) = x := ⟨_, rfl⟩
  rw [hWA] at bA gA
  obtain ⟨g, hg⟩ : ∃ g, w.heap.size = g := ⟨_, rfl⟩
  rw [hg] at gA
  have c0 := gA.cell 0 _ rfl
  have f0 := gA.frozen 0
  have BA := hid bA
  have GA := hid gA
  have VA := hid (HV.out.below bA)
  have N0 := hid (own_nil WA WA.heap.size (cb key) HV.out.1)
  clear bA gA
  go_enter Tryd.func16, Tryd.ntmps16
  go_wp2_with (first | (go_at_call 41; refine (rright_ok k KK.out _).mono ?_; rintro e w' ⟨rfl, hw'⟩; subst w') | (at_builtin; go_must (refine wpList_cat rfl _ _ rfl WA.heap.size 0 (4 * k) _ _ (cb key) (cb key) rfl N0.out rfl VA.out (by omega) (Nat.le_refl _) ?_)))
  intro v1 w1 hown hgrow
  rw [cat_nil] at hown
  have b1 : Below WA.heap.size WA w1 := (Kp.of_grown hgrow).below (Nat.le_refl _) (fun k _ e => by simp [Value.ownBlock] at e)
  have b1' : Below w.heap.size w w1 := below_next BA.out b1
  have G1 := GA.out.below b1
  have c1 := G1.cell 0 _ rfl
  have f1 := G1.frozen 0
  obtain ⟨ka, kc, rfl⟩ := own8_slice hown
  have hk3 := Kp.setCell (w := w1) g 0 (.slice ka (4 * k) kc)
  have hgw : w.heap.size ≤ g := by omega
  have b3 : Below w.heap.size w (w1.setCell ⟨g, 0, none⟩ (.slice ka (4 * k) kc)) := b1'.trans (hk3.below b1'.size (fun j hj e => by have e' : j = g := e; omega))
  have H3 := hid (show Rm (w1.setCell ⟨g, 0, none⟩ (.slice ka (4 * k) kc)) g k 0 key nought (.slice ka (4 * k) kc) (.slice none 0 0) from ⟨G1.set 0 _, KK.out, own_kept (own_mono hown (Nat.zero_le _)) hk3 (fun x hx e => by have e' : x = g := e; subst e'; exact own_ne8 hown G1 (by decide) hx), own_nil _ _ _ nought_c⟩)
  have NB := hid (show ∀ x, (Value.slice ka (4 * k) kc).ownBlock = some x → w.heap.size ≤ x from fun x hx => Nat.le_trans BA.out.size (own_ge hown hx))
  have B3 := hid b3
  obtain ⟨W3, hW3⟩ : ∃ x, w1.setCell ⟨g, 0, none⟩ (.slice ka (4 * k) kc) = x := ⟨_, rfl⟩
  rw [hW3] at H3 B3
  have L3 := hid (HL.out.below B3.out)
  have K3 := hid (H0.out.trans (Kp.of_below S B3.out) (fun _ _ e => e))
  clear hown hgrow b1 b1' G1 hk3 b3 c0 f0
  go_wp2_with fail
  refine (rnote_lg S w0 _ lo L 4 (4 * (k : Int)) (by omega) (by omega) L3.out K3.out ⟨by have := HR.out.1; omega, by have := HR.out.2; omega⟩).mono ?_
  rintro e W4 ⟨rfl, l4, k4, t4⟩
  rw [show (4 * (k : Int)) = ((4 * k : Nat) : Int) from by omega] at l4
  have L4 := hid l4
  have K4 := hid k4
  have X4 := hid ((Ku.of_below B3.out).trans t4)
  have H4 := hid (H3.out.ku t4)
  have HR4 := hid (show tot (putL L ⟨4, ((4 * k : Nat) : Int), 1⟩) + (1 : Nat) ≤ 9000000000000000000 ∧ (putL L ⟨4, ((4 * k : Nat) : Int), 1⟩).length ≤ 10000000 from ⟨by rw [putL_tot HP.out rfl (by have := HR.out.1; omega)]; have := HR.out.1; omega, by have := (putL_len (L := L) (r := ⟨4, ((4 * k : Nat) : Int), 1⟩)).1; have := HR.out.2; omega⟩)
  clear l4 k4 t4 c1 f1 hW3
  go_wp2_with fail
  refine (raes S w0 W4 lo _ g k 1 ka kc hk8 H4.out.c0 L4.out K4.out HR4.out).mono ?_
  rintro e W5 ⟨rfl, l5, k5, t5⟩
  have L5 := hid l5
  have K5 := hid k5
  have X5 := hid (X4.out.trans t5)
  have H5 := hid (H4.out.ku t5)
  clear l5 k5 t5
  go_wp2_with fail
  go_ret2
  exact ⟨g, _, rfl, H5.out, hgw, NB.out, L5.out, K5.out, X5.out⟩
set_option maxRecDepth 8000 in
set_option maxHeartbeats 4000000 in
theorem rtag_ok (hv : By.RB w (.slice a (4 * k) cap) (4 * k) (cb key)) (q : Nat) (f : Nat → Nat) (pa : Option Addr) (pc : Nat) (hq : ∀ V, Kp S w0 V → Ku w V → By.RB V (.slice pa q pc) q (cb f)) (hql : q ≤ 100000000) (h : RLG S w0 w lo L) (h0 : Kp S w0 w) (hp : Pos L) (hr : Low L) (hr2 : L.length ≤ 9000000) :
    Calls Tryd.prog 34 #[lpv lo, .slice a (4 * k) cap, .slice pa q pc] w fun e w' => ∃ v, e = .returned (.tuple #[v, .int .i64 0]) ∧ By.Own w' w.heap.size v 16 (cb (upto 16 (tgn (wds k key (3 * k + 28)) (k + 6) f q))) ∧ RLG S w0 w' lo (evT k L q) ∧ Kp S w0 w' ∧ Ku w w' := by
  have HL := hid hr
  have HP := hid hp
  have NC := hid (rcnew_ok S w0 w lo L k hk key a cap hv h h0 hp ⟨by have := hr.1; omega, hr2⟩)
  have HQ := hid hq
  have HS := hid h0.size
  have EV := hid (evT_steps hp hr k q (by omega))
  clear hv h h0 hq hr hp
  go_enter Tryd.func34, Tryd.ntmps34
  go_wp2_with fail
  refine NC.out.mono ?_
  rintro e w2 ⟨g, kv, rfl, hm2, hg2, -, hl2, hk2, hu2⟩
  have M2 := hid hm2
  have G2 := hid hg2
  have U2 := hid hu2
  have m1 := hid (Low.mid HP.out HL.out k 1 (by omega))
  have m2 := hid (Low.mid HP.out HL.out k (1 + nbl q) (by unfold nbl; omega))
  have WC := hid (rwrite_rm g k 0 key nought kv (.slice none 0 0) w2 S w0 lo _ hm2 q f pa pc (HQ.out w2 hk2 hu2) (by omega) hl2 hk2 m1.out.2 (fun e => absurd e (by have := HS.out; omega)))
  clear hm2 hg2 hl2 hk2 hu2 NC
  go_wp2_with fail
  refine WC.out.mono ?_
  rintro e w3 ⟨mv, rfl, hm3, -, hl3, hk3, hx3⟩
  have U3 := hid (show Ku w w3 from ⟨Nat.le_trans U2.out.1 hx3.1, fun x cs t hb h1 h2 => hx3.2 x cs t (fun e => by have := hb.lt; have := G2.out; omega) (U2.out.2 x cs t hb h1 h2) h1 h2⟩)
  rw [show nbl 0 = 0 from rfl, Nat.zero_add, Nat.sub_zero] at hl3
  have E3 := hid (evb_add (putL_pos (r := ⟨4, ((4 * k : Nat) : Int), 1⟩) HP.out) k 1 (nbl q) (by rw [putL_tot HP.out rfl (by have := HL.out.1; omega)]; have := HL.out.1; unfold nbl; omega))
  have SC := hid (rsum_rm g k (0 + q) key (ct2 0 nought f) kv mv w3 S w0 lo _ hm3 (by omega) hl3 hk3 (by rw [E3.out]; exact ⟨by have := m2.out.2.1; omega, by have := m2.out.2.2; omega⟩))
  rw [show ct2 0 nought f = f from by funext i; unfold ct2; rw [if_neg (Nat.not_lt_zero _), Nat.sub_zero], Nat.zero_add] at SC
  clear hm3 hl3 hk3 hx3 WC
  go_wp2_with fail
  refine SC.out.mono ?_
  rintro e w4 ⟨v, rfl, ho4, hl4, hk4, hu4⟩
  have O4 := hid (own_mono ho4 U3.out.1)
  have L4 := hid hl4
  have K4 := hid hk4
  have U4 := hid (U3.out.trans hu4)
  rw [EV.out] at L4
  clear ho4 hl4 hk4 hu4 SC
  go_wp2_with fail
  go_ret2
  exact ⟨_, rfl, O4.out, L4.out, K4.out, U4.out⟩
omit hk in
theorem rtag_bad (lv pv : Value) (n : Nat) (h1 : n ≠ 16) (h2 : n ≠ 24) (h3 : n ≠ 32) : Calls Tryd.prog 34 #[lv, .slice a n cap, pv] w fun e w' => e = .returned (.tuple #[.slice none 0 0, .int .i64 7]) ∧ w' = w := by
  go_enter Tryd.func34, Tryd.ntmps34
  go_wp2_with (go_at_call 16; refine (rcnew_bad lv a n cap _ h1 h2 h3).mono ?_; rintro e w' ⟨rfl, hw'⟩; subst w')
  go_ret2
  exact ⟨rfl, rfl⟩
end
end Go.Proofs.YtbgdjjfonmoemaaDoor.Vm
