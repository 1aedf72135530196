/- What the program's permuted, permute, end answer. -/
import Derived.Test.YtnhhkoekghjogaaGreatDoorSgo
namespace Go.Proofs.YtnhhkoekghjogaaGreatDoor.Kc
open Go.ChangeShapes Go.WideShapes Go.ChangeAt Go.RowKit
open Go.Proofs.YtnhhkoekghjogaaGreatDoor.By Go.Proofs.YtnhhkoekghjogaaGreatDoor.Wd
/-- Blocks that are no sponge's and no ledger's stay. -/
def Ks (w w' : World) : Prop := ∀ g cs t, Blk w g cs t → t ≠ 109 → t ≠ 59 → t ≠ 81 → Blk w' g cs t
theorem Kt.below {w w' : World} (hb : Below w.heap.size w w') : Kt w w' := fun _ _ _ h _ _ => h.below hb
theorem Kt.trans {a b c : World} (h : Kt a b) (k : Kt b c) : Kt a c := fun g cs t hg h1 h2 => k g cs t (h g cs t hg h1 h2) h1 h2
set_option maxRecDepth 4000 in
theorem zero_200 : Tryz.zeroCells107 = (bl 200 (fun _ => 0)).toArray := by kernel_rfl
theorem aw_perm {a : Nat → Int} (h : AW a) : AW (perm a) := perm_w h
set_option maxRecDepth 4000 in
set_option maxHeartbeats 4000000 in
theorem permuted1 (S : Nat → Prop) (w0 w : World) (lo : Option Nat) (L : List Rn) (b r : Nat) (sf : Int) (f : Nat → Int) (p : Int) (sh : Bool) (hf : BB f) (h : LG S w0 w lo L) (h0 : Kp S w0 w) (hr : Room L) (hk : KT w0) (s0 : ¬ S 0) (s1 : ¬ S 1) (hb : Blk w b (spc r sf f p sh) 109) :
    Calls Tryz.prog 86 #[lpv lo, .slice (some ⟨b, 2, none⟩) 200 200] w fun e w' => e = .returned (.agg (bl 200 (psp f)).toArray) ∧ LG S w0 w' lo (putL L ⟨3, 200, 1⟩) ∧ Kp S w0 w' ∧ Kt w w' := by
  have hat : ∀ w, (Instr.arrayAt 107 (.slice (some ⟨b, 2, none⟩) 200 200)).run Tryz.prog w = .ok (.pointer (some ⟨b, 2, none⟩)) w := fun w => run_arrayAt w 107 _ 200 _ 200 200 Tryz.underlying107 (Nat.le_refl _)
  have HB := hid hb
  have HF := hid hf
  have HL := hid h
  have HP := hid h0
  have HR := hid hr
  have HK := hid hk
  clear hb hf h h0 hr hk
  have l1 := LDb_run ((HB.out.alloc (.cells Tryz.zeroCells107 107)).range 2 (bl 200 f) (fun j v h => spc_b _ _ _ _ _ j v h)) (bl_length _ _)
  have BE0 := hid (below_alloc w (.cells Tryz.zeroCells107 107))
  have BR0 := hid (Blk.newAt w Tryz.zeroCells107 (bl 200 (fun _ => 0)) 107 w.heap.size rfl zero_200)
  go_enter Tryz.func86, Tryz.ntmps86
  go_wp2_with fail
  refine (from1 f HF.out _).mono ?_
  rintro e w1 ⟨rfl, hb1⟩
  have BE1 := hid (below_next BE0.out hb1)
  have BR1 := hid (BR0.out.below hb1)
  clear hb1 l1 BE0 BR0
  go_wp2_with fail
  refine (permute1 S w0 w1 lo L (fl f) (fl_w HF.out) (HL.out.below BE1.out) (HP.out.trans (Kp.of_below S BE1.out) (fun _ _ e => e)) HR.out HK.out s0 s1).mono ?_
  rintro e w2 ⟨rfl, hl2, hp2, ht2⟩
  have BR2 := hid (ht2 _ _ _ BR1.out (by decide) (by decide))
  have L2 := hid hl2
  have P2 := hid hp2
  have T2 := hid ((Kt.below BE1.out).trans ht2)
  clear hl2 hp2 ht2 BR1
  go_wp2_with fail
  refine (bytes1 (perm (fl f)) (aw_perm (fl_w HF.out)) _).mono ?_
  rintro e w3 ⟨rfl, hb3⟩
  have BR3 := hid (BR2.out.below hb3)
  have L3 := hid (L2.out.below hb3)
  have P3 := hid (P2.out.trans (Kp.of_below S hb3) (fun _ _ e => e))
  have T3 := hid (T2.out.trans (Kt.below hb3))
  clear hb3 L2 P2 T2 BR2
  have x1 := SVb_run (cs := bl 200 (bf (perm (fl f)))) (BR3.out.there 0 200 (by rw [bl_length]; omega)) (bl_length _ _) (bl_one _ _)
  have b4 := BR3.out.put 0 (bl 200 (bf (perm (fl f))))
  rw [put_all _ _ (by rw [bl_length, bl_length])] at b4
  have l4 := hid (LDb_run (b4.range 0 _ (fun j v h => by rw [Nat.zero_add]; exact h)) (bl_length _ _))
  clear b4
  go_wp2
  have hz := P3.out.size
  have hz1 := HP.out.size
  refine bodyPost_ret (v := .agg (bl 200 (bf (perm (fl f)))).toArray) (results_cell1 Tryz.results86 rfl l4.out) rfl ⟨rfl, L3.out.kept (Kp.setCells _ 0 _) (fun g e => by subst e; exact ⟨_, _, BR3.out, by decide, by decide⟩), P3.out.trans (Kp.setCells _ 0 _) (fun i hi e => by omega), fun g cs t hg n1 n2 => (T3.out g cs t hg n1 n2).kept (Kp.setCells _ 0 _) (by have := hg.lt; omega)⟩
set_option maxRecDepth 4000 in
theorem sliceAll (W : World) (b : Nat) : (Instr.sliceAt 107 (.pointer (some ⟨b, 2, none⟩)) none none none).run Tryz.prog W = .ok (.slice (some ⟨b, 2, none⟩) 200 200) W := by
  have hl : Tryz.prog.arrayLen 107 = 200 := by kernel_rfl
  have hs : (sizeOf (Tryz.prog.elem 107)).run Tryz.prog W = .ok 1 W := by kernel_rfl
  have h := run_sliceAt_array_all (P := Tryz.prog) W 107 ⟨b, 2, none⟩ Tryz.underlying107
  rw [h, hs, hl, Result.andThen_ok, slicedAt]
  rfl
set_option maxRecDepth 4000 in
set_option maxHeartbeats 4000000 in
theorem permute_sp (S : Nat → Prop) (w0 w : World) (lo : Option Nat) (L : List Rn) (b r : Nat) (sf : Int) (f : Nat → Int) (p : Int) (sh : Bool) (hf : BB f) (h : LG S w0 w lo L) (h0 : Kp S w0 w) (hr : Room L) (hk : KT w0) (s0 : ¬ S 0) (s1 : ¬ S 1) (hSb : S b) (hb : Blk w b (spc r sf f p sh) 109) :
    Calls Tryz.prog 73 #[.pointer (some ⟨b, 0, none⟩), lpv lo] w fun e w' => e = .returned (.tuple #[]) ∧ Blk w' b (spc r sf (psp f) 0 sh) 109 ∧ LG S w0 w' lo (putL L ⟨3, 200, 1⟩) ∧ Kp S w0 w' ∧ Ks w w' := by
  have HC := hid (permuted1 S w0 w lo L b r sf f p sh hf h h0 hr hk s0 s1 hb)
  have HB := hid hb
  have HS := hid hSb
  have hsl := fun W => sliceAll W b
  clear hf h h0 hr hk s0 s1 hb hSb
  go_enter Tryz.func73, Tryz.ntmps73
  go_wp2_with fail
  refine HC.out.mono ?_
  rintro e w1 ⟨rfl, hl1, hp1, ht1⟩
  have B1 := hid (ht1 _ _ _ HB.out (by decide) (by decide))
  have L1 := hid hl1
  have P1 := hid hp1
  have T1 := hid ht1
  clear hl1 hp1 ht1 HC
  have x1 := SVb_run (cs := bl 200 (psp f)) (B1.out.there 2 200 (by rw [spc_length]; omega)) (bl_length _ _) (bl_one _ _)
  have b2 := B1.out.put 2 (bl 200 (psp f))
  rw [spc_put] at b2
  have x2 := b2.cell 202 _ (spc_p _ _ _ _ _)
  have x3 := b2.frozen 202
  have B2 := hid b2
  clear b2
  go_wp2
  go_end0
  refine ⟨rfl, ?_, ?_, ?_, fun g cs t hg n0 n1 n2 => ?_⟩
  · have := B2.out.set 202 (.int .i64 0)
    rw [spc_setp] at this
    exact this
  · exact (L1.out.kept (Kp.setCells b 2 _) (fun g e => by subst e; exact ⟨_, _, B1.out, by decide, by decide⟩)).kept (Kp.setCell b 202 _) (fun g e => by subst e; exact ⟨_, _, B2.out, by decide, by decide⟩)
  · exact (P1.out.trans (Kp.setCells b 2 _) (fun i _ e => by subst e; exact HS.out)).trans (Kp.setCell b 202 _) (fun i _ e => by have : i = b := e; rw [this]; exact HS.out)
  · have hne : g ≠ b := Blk.ne hg HB.out n0
    exact ((T1.out g cs t hg n1 n2).kept (Kp.setCells b 2 _) hne).kept (Kp.setCell b 202 _) hne
set_option maxRecDepth 4000 in
set_option maxHeartbeats 4000000 in
theorem end1 (S : Nat → Prop) (w0 w : World) (lo : Option Nat) (L : List Rn) (b r : Nat) (sf : Int) (f : Nat → Int) (p : Nat) (hf : BB f) (hp : p < r) (h192 : r ≤ 192) (h : LG S w0 w lo L) (h0 : Kp S w0 w) (hr : Room L) (hk : KT w0) (s0 : ¬ S 0) (s1 : ¬ S 1) (hSb : S b) (hb : Blk w b (spc r sf f p false) 109) :
    Calls Tryz.prog 79 #[.pointer (some ⟨b, 0, none⟩), lpv lo] w fun e w' => e = .returned (.tuple #[]) ∧ Blk w' b (spc r sf (psp (mx (mx f p sf) (r - 1) 128)) 0 true) 109 ∧ LG S w0 w' lo (putL L ⟨3, 200, 1⟩) ∧ Kp S w0 w' := by
  have HB := hid hb
  have HS := hid hSb
  have HL := hid h
  have HP := hid h0
  have HF := hid hf
  have HR := hid hr
  have HK := hid hk
  have hS1 : Hid (¬ S 0 ∧ ¬ S 1) := ⟨s0, s1⟩
  have c0 := hb.cell 0 _ rfl
  have c1 := hb.cell 1 _ rfl
  have cp := hb.cell 202 _ (spc_p _ _ _ _ _)
  have ci := hb.cell (2 + p) _ (spc_at _ _ _ _ _ p (by omega))
  have fi := hb.frozen (2 + p)
  have i1 : p < 200 := by omega
  clear hf h h0 hr hk hb hSb s0 s1
  go_enter Tryz.func79, Tryz.ntmps79
  go_wp2_with fail
  go_region
  have b1 := (HB.out.set (2 + p) (.int .u8 (xb (f p) sf))).drewN 1
  rw [spc_setb _ _ _ _ _ _ _ (by omega)] at b1
  have B1 : Hid (Blk (w.setCell ⟨b, 2 + p, none⟩ (.int .u8 (bits BinOp.xor IntKind.u8 (f p) sf))).drew b (spc r sf (mx f p sf) p false) 109) := b1
  have L1 : Hid (LG S w0 (w.setCell ⟨b, 2 + p, none⟩ (.int .u8 (bits BinOp.xor IntKind.u8 (f p) sf))).drew lo L) := (HL.out.kept (Kp.setCell b (2 + p) _) (fun g e => by subst e; exact ⟨_, _, HB.out, by decide, by decide⟩)).below (below_drewN _ 1)
  have P1 : Hid (Kp S w0 (w.setCell ⟨b, 2 + p, none⟩ (.int .u8 (bits BinOp.xor IntKind.u8 (f p) sf))).drew) := (HP.out.trans (Kp.setCell b (2 + p) _) (fun i _ e => by have : i = b := e; rw [this]; exact HS.out)).trans (Kp.of_below S (below_drewN _ 1)) (fun _ _ e => e)
  obtain ⟨W1, hW1⟩ : ∃ x, (w.setCell ⟨b, 2 + p, none⟩ (.int .u8 (bits BinOp.xor IntKind.u8 (f p) sf))).drew = x := ⟨_, rfl⟩
  rw [hW1] at B1 L1 P1
  rw [hW1]
  clear hW1 b1 c0 c1 cp ci fi HB HL HP
  obtain ⟨f1, hf1⟩ : ∃ x, mx f p sf = x := ⟨_, rfl⟩
  have HF1 : Hid (BB f1) := by rw [← hf1]; exact mx_b HF.out _ _
  rw [hf1] at B1
  have HE1 := hid hf1
  clear hf1 HF
  obtain ⟨q, hq⟩ : ∃ q, r = q + 1 := ⟨r - 1, by omega⟩
  subst hq
  have hq2 : ((q + 1 : Nat) : Int) - 1 = (q : Int) := by omega
  have c0 := B1.out.cell 0 _ rfl
  have ci := B1.out.cell (2 + q) _ (spc_at _ _ _ _ _ q (by omega))
  have fi := B1.out.frozen (2 + q)
  have i2 : q < 200 := by omega
  have hw : IntKind.i64.wrap (((q + 1 : Nat) : Int) - 1) = (q : Int) := by rw [IntKind.wrap_i64]; omega
  go_wp2_with fail
  go_region
  have b2 := (B1.out.set (2 + q) (.int .u8 (xb (f1 q) 128))).drewN 1
  rw [spc_setb _ _ _ _ _ _ _ (by omega)] at b2
  have B2 : Hid (Blk (W1.setCell ⟨b, 2 + q, none⟩ (.int .u8 (bits BinOp.xor IntKind.u8 (f1 q) 128))).drew b (spc (q + 1 : Nat) sf (mx f1 q 128) p false) 109) := b2
  have L2 : Hid (LG S w0 (W1.setCell ⟨b, 2 + q, none⟩ (.int .u8 (bits BinOp.xor IntKind.u8 (f1 q) 128))).drew lo L) := (L1.out.kept (Kp.setCell b (2 + q) _) (fun g e => by subst e; exact ⟨_, _, B1.out, by decide, by decide⟩)).below (below_drewN _ 1)
  have P2 : Hid (Kp S w0 (W1.setCell ⟨b, 2 + q, none⟩ (.int .u8 (bits BinOp.xor IntKind.u8 (f1 q) 128))).drew) := (P1.out.trans (Kp.setCell b (2 + q) _) (fun i _ e => by have : i = b := e; rw [this]; exact HS.out)).trans (Kp.of_below S (below_drewN _ 1)) (fun _ _ e => e)
  obtain ⟨W2, hW2⟩ : ∃ x, (W1.setCell ⟨b, 2 + q, none⟩ (.int .u8 (bits BinOp.xor IntKind.u8 (f1 q) 128))).drew = x := ⟨_, rfl⟩
  rw [hW2] at B2 L2 P2
  rw [hW2]
  clear hW2 b2 c0 ci fi B1 L1 P1
  go_wp2_with fail
  refine (permute_sp S w0 W2 lo L b (q + 1) sf (mx f1 q 128) p false (mx_b HF1.out _ _) L2.out P2.out HR.out HK.out hS1.out.1 hS1.out.2 HS.out B2.out).mono ?_
  rintro e w3 ⟨rfl, hb3, hl3, hp3, -⟩
  have B3 := hid hb3
  have L3 := hid hl3
  have P3 := hid hp3
  have x3 := hb3.cell 203 _ (spc_s _ _ _ _ _)
  have y3 := hb3.frozen 203
  clear hb3 hl3 hp3 B2 L2 P2
  go_wp2
  go_end0
  refine ⟨rfl, ?_, L3.out.kept (Kp.setCell b 203 _) (fun g e => by subst e; exact ⟨_, _, B3.out, by decide, by decide⟩), P3.out.trans (Kp.setCell b 203 _) (fun i _ e => by have : i = b := e; rw [this]; exact HS.out)⟩
  have := B3.out.set 203 (.bool true)
  rw [spc_sets] at this
  rw [show q + 1 - 1 = q from rfl, HE1.out]
  exact this
end Go.Proofs.YtnhhkoekghjogaaGreatDoor.Kc
