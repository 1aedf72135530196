/- What the program's takeIn and tell answer. What the program's permuted, permute, end answer. What a sponge of the program answers: Write. -/
import Derived.Test.YtpohogpkfdebdaaGreatDoorKd
import Derived.Test.YtpohogpkfdebdaaGreatDoorKf
namespace Go.Proofs.YtpohogpkfdebdaaGreatDoor.Kc
open Go.ChangeShapes Go.WideShapes Go.ChangeAt Go.RowKit
open Go.Proofs.YtpohogpkfdebdaaGreatDoor.By Go.Proofs.YtpohogpkfdebdaaGreatDoor.Wd
set_option maxRecDepth 4000 in
theorem slicePR (W : World) (b p r : Nat) (h : p ≤ r) (hr : r ≤ 192) : (Instr.sliceAt 167 (.pointer (some ⟨b, 2, none⟩)) (some (.int .i64 (p : Int))) (some (.int .i64 (r : Int))) none).run Tryz.prog W = .ok (.slice (some ⟨b, 2 + p, none⟩) (r - p) (200 - p)) W := by
  have hl : Tryz.prog.arrayLen 167 = 200 := by kernel_rfl
  have hs : (sizeOf (Tryz.prog.elem 167)).run Tryz.prog W = .ok 1 W := by kernel_rfl
  have h := run_sliceAt_array_lh (P := Tryz.prog) W 167 ⟨b, 2, none⟩ Tryz.underlying167 .i64 .i64 (p : Int) (r : Int) (by omega) (by omega) (by rw [hl]; omega)
  rw [h, hs, hl, Result.andThen_ok, slicedAt, if_neg (by omega), By.add_plain]
  simp only [Result.ok.injEq, Value.slice.injEq, Option.some.injEq, Addr.mk.injEq, and_true, true_and]
  omega
theorem mxs_at (f : Nat → Int) (p : Nat) (g : Nat → Int) (k : Nat) : mxs f p g k (p + k) = f (p + k) := by
  unfold mxs; rw [if_neg (by omega)]
set_option maxRecDepth 4000 in
set_option maxHeartbeats 4000000 in
theorem takeIn1 (b r n pb po cap : Nat) (sf : Int) (f : Nat → Int) (p : Nat) (sh : Bool) (g : Nat → Int) (w : World) (h : Blk w b (spc r sf f p sh) 241) (hp : p < r) (h192 : r ≤ 192) (hr : ∀ w', Kp (fun k => k = b) w w' → ∀ i, i < n → w'.cell? ⟨pb, po + i, none⟩ = some (.int .u8 (g i))) (hcap : n ≤ cap) (hcm : cap ≤ maxLen) :
    Calls Tryz.prog 214 #[.pointer (some ⟨b, 0, none⟩), .slice (some ⟨pb, po, none⟩) n cap] w fun e w' => e = .returned (.int .i64 (Nat.min n (r - p) : Nat)) ∧ Blk w' b (spc r sf (mxs f p g (Nat.min n (r - p))) ((p + Nat.min n (r - p) : Nat) : Int) sh) 241 ∧ Kp (fun k => k = b) w w' := by
  have c0 := h.cell 0 _ rfl
  have cp := h.cell 202 _ (spc_p _ _ _ _ _)
  have hs := fun W => slicePR W b p r (by omega) h192
  have H := hid h
  have HR := hid hr
  have hcm2 : n ≤ maxLen := Nat.le_trans hcap hcm
  clear h hr hcm
  obtain ⟨K, hK⟩ : ∃ K, Nat.min n (r - p) = K := ⟨_, rfl⟩
  have hK1 : K ≤ n := by rw [← hK]; exact Nat.min_le_left _ _
  have hK2 : K ≤ r - p := by rw [← hK]; exact Nat.min_le_right _ _
  have hmn : ∀ (ts : Array TypeId) (t : TypeId) (W : World), (Builtin.min_ ts t #[.int .i64 (n : Int), .int .i64 ((r - p : Nat) : Int)]).run Tryz.prog W = .ok (.int .i64 (K : Int)) W := fun ts t W => by
    rw [run_min_int2]
    congr 2
    rw [← hK]
    show _ = ((min n (r - p) : Nat) : Int)
    split <;> omega
  rw [hK]
  clear hK
  go_enter Tryz.func214, Tryz.ntmps214
  go_wp2_with fail
  go_region
  go_wp2_with fail
  go_loopw [26] (fun i wr => ∃ k : Nat, k ≤ K ∧ i = .int .i64 k ∧ Blk wr b (spc r sf (mxs f p g k) p sh) 241 ∧ Kp (fun k => k = b) w wr) (fun i _ => K - (intOf i).toNat)
  case atStart => exact ⟨0, Nat.zero_le _, rfl, by rw [mxs_zero]; exact H.out.drewN 1, Kp.of_below _ (below_drewN w 1)⟩
  case round =>
    obtain ⟨k, hk, rfl, hb, hkp⟩ := hrel
    clear c0 cp hs hmn
    have B := hid hb
    have HK := hid hkp
    clear hb hkp
    by_cases hlt : k < K
    · have x1 := B.out.cell (2 + (p + k)) _ (spc_at _ _ _ _ _ (p + k) (by omega))
      rw [mxs_at, ← Nat.add_assoc] at x1
      have x2 := HR.out wr HK.out k (by omega)
      have x3 := B.out.frozen (2 + p + k)
      have i1 : k < r - p := by omega
      have i2 : k < n := by omega
      go_wp2_with fail
      go_region
      go_wp2_with fail
      refine ⟨⟨k + 1, by omega, by go_num, ?_, (HK.out.trans (Kp.setCell b _ _) (fun i _ e => e)).trans (Kp.of_below _ (below_drewN _ 1)) (fun _ _ e => e)⟩, by simp [intOf]; omega⟩
      have y := B.out.set (2 + p + k) (.int .u8 (bits BinOp.xor IntKind.u8 (f (p + k)) (g k)))
      rw [Nat.add_assoc, spc_setb _ _ _ _ _ _ _ (by omega)] at y
      rw [mxs_next]
      have e : mx (mxs f p g k) (p + k) (g k) = fun j => if j = p + k then bits BinOp.xor IntKind.u8 (f (p + k)) (g k) else mxs f p g k j := by
        funext j; unfold mx; rw [mxs_at]; rfl
      rw [e, Nat.add_assoc]
      exact y.drewN 1
    · have ek : k = K := by omega
      subst ek
      have x1 := B.out.cell 202 _ (spc_p _ _ _ _ _)
      have x3 := B.out.frozen 202
      have hw : IntKind.i64.wrap ((p : Int) + k) = (p : Int) + k := by rw [IntKind.wrap_i64]; omega
      go_wp2
      go_ret
      refine ⟨rfl, ?_, HK.out.trans (Kp.setCell b 202 _) (fun i _ e => e)⟩
      have := B.out.set 202 (.int .i64 ((p : Int) + k))
      rw [spc_setp] at this
      exact this
theorem copyPR (W : World) (b ob oo n cap p r : Nat) (ty : TypeId) (oc : List Value) (f : Nat → Int) (hob : Blk W ob oc 5) (hol : oo + n ≤ oc.length) (hp : p ≤ r) (h192 : r ≤ 192) (hs : ∀ i, i < 200 → W.cell? ⟨b, 2 + i, none⟩ = some (.int .u8 (f i))) :
    (Builtin.copy_ #[23, 23] ty #[.slice (some ⟨ob, oo, none⟩) n cap, .slice (some ⟨b, 2 + p, none⟩) (r - p) (200 - p)]).run Tryz.prog W = .ok (.int .i64 (Nat.min n (r - p) : Nat)) (W.setCells ob oo (bl (Nat.min n (r - p)) (fun i => f (p + i)))) := by
  have hm1 : Nat.min n (r - p) ≤ n := Nat.min_le_left _ _
  have hm2 : Nat.min n (r - p) ≤ r - p := Nat.min_le_right _ _
  have h := run_copy_cells (P := Tryz.prog) W 23 23 ty 5 ob oo n cap ⟨b, 2 + p, none⟩ (r - p) (200 - p) (bl (Nat.min n (r - p)) (fun i => f (p + i))) Tryz.underlying23 (by kernel_rfl) (by rw [bl_length]; exact Nat.min_comm _ _)
    (fun j v hj => by obtain ⟨hj1, rfl⟩ := bl_get_inv _ _ _ _ hj; rw [By.add_plain, Nat.add_assoc]; exact hs (p + j) (by omega))
    (fun j hj => (hob.there oo n hol j (by rw [bl_length] at hj; omega)).1) (fun j hj => hob.frozen _) (bl_one _ _)
  rw [bl_length] at h
  exact h
set_option maxRecDepth 4000 in
set_option maxHeartbeats 4000000 in
theorem tell1 (b r n ob oo cap : Nat) (sf : Int) (f : Nat → Int) (p : Nat) (sh : Bool) (oc : List Value) (w : World) (h : Blk w b (spc r sf f p sh) 241) (hp : p ≤ r) (h192 : r ≤ 192) (hob : Blk w ob oc 5) (hol : oo + n ≤ oc.length) :
    Calls Tryz.prog 254 #[.pointer (some ⟨b, 0, none⟩), .slice (some ⟨ob, oo, none⟩) n cap] w fun e w' => e = .returned (.int .i64 (Nat.min n (r - p) : Nat)) ∧ Blk w' b (spc r sf f ((p + Nat.min n (r - p) : Nat) : Int) sh) 241 ∧ Blk w' ob (put oc oo (bl (Nat.min n (r - p)) (fun i => f (p + i)))) 5 ∧ Kp (fun k => k = b ∨ k = ob) w w' := by
  have c0 := h.cell 0 _ rfl
  have cp := h.cell 202 _ (spc_p _ _ _ _ _)
  have hs := fun W => slicePR W b p r hp h192
  have hne : b ≠ ob := Blk.ne h hob (by decide)
  have hcp1 := fun ty => copyPR w.drew b ob oo n cap p r ty oc f (hob.drewN 1) hol hp h192 (fun i hi => (h.drewN 1).cell _ _ (spc_at _ _ _ _ _ i hi))
  have H := hid h
  have HO := hid hob
  clear h hob
  obtain ⟨K, hK⟩ : ∃ K, Nat.min n (r - p) = K := ⟨_, rfl⟩
  have hK2 : K ≤ r - p := by rw [← hK]; exact Nat.min_le_right _ _
  rw [hK] at hcp1
  rw [hK]
  clear hK
  go_enter Tryz.func254, Tryz.ntmps254
  go_wp2_with fail
  go_region
  have b1 := hid ((H.out.drewN 1).kept (Kp.setCells ob oo (bl K fun i => f (p + i))) (fun e => hne e))
  have o1 := hid ((HO.out.drewN 1).put oo (bl K fun i => f (p + i)))
  have k1 := hid ((Kp.of_below (fun k => k = b ∨ k = ob) (below_drewN w 1)).trans (Kp.setCells (w := w.drewN 1) ob oo (bl K fun i => f (p + i))) (fun i _ e => .inr e))
  change Hid (Blk (w.drew.setCells ob oo (bl K fun i => f (p + i))) b _ _) at b1
  change Hid (Blk (w.drew.setCells ob oo (bl K fun i => f (p + i))) ob _ _) at o1
  change Hid (Kp _ w (w.drew.setCells ob oo (bl K fun i => f (p + i)))) at k1
  obtain ⟨W1, hW1⟩ : ∃ x, w.drew.setCells ob oo (bl K fun i => f (p + i)) = x := ⟨_, rfl⟩
  rw [hW1] at b1 o1 k1
  rw [hW1]
  clear hW1 hcp1 c0 cp
  have x1 := b1.out.cell 202 _ (spc_p _ _ _ _ _)
  have x3 := b1.out.frozen 202
  have hw : IntKind.i64.wrap ((p : Int) + K) = (p : Int) + K := by rw [IntKind.wrap_i64]; omega
  go_wp2
  go_ret
  refine ⟨rfl, ?_, o1.out.other (fun e => hne e.symm) _ _, k1.out.trans (Kp.setCell b 202 _) (fun i _ e => .inl e)⟩
  have := b1.out.set 202 (.int .i64 ((p : Int) + K))
  rw [spc_setp] at this
  exact this
end Go.Proofs.YtpohogpkfdebdaaGreatDoor.Kc
namespace Go.Proofs.YtpohogpkfdebdaaGreatDoor.Kc
open Go.ChangeShapes Go.WideShapes Go.ChangeAt Go.RowKit
open Go.Proofs.YtpohogpkfdebdaaGreatDoor.By Go.Proofs.YtpohogpkfdebdaaGreatDoor.Wd
/-- Blocks that are no sponge's and no ledger's stay. -/
def Ks (w w' : World) : Prop := ∀ g cs t, Blk w g cs t → t ≠ 241 → t ≠ 89 → t ≠ 78 → Blk w' g cs t
theorem Kt.below {w w' : World} (hb : Below w.heap.size w w') : Kt w w' := fun _ _ _ h _ _ => h.below hb
theorem Kt.trans {a b c : World} (h : Kt a b) (k : Kt b c) : Kt a c := fun g cs t hg h1 h2 => k g cs t (h g cs t hg h1 h2) h1 h2
set_option maxRecDepth 4000 in
theorem zero_200 : Tryz.zeroCells167 = (bl 200 (fun _ => 0)).toArray := by kernel_rfl
theorem aw_perm {a : Nat → Int} (h : AW a) : AW (perm a) := perm_w h
set_option maxRecDepth 4000 in
set_option maxHeartbeats 4000000 in
theorem permuted1 (S : Nat → Prop) (w0 w : World) (lo : Option Nat) (L : List Rn) (b r : Nat) (sf : Int) (f : Nat → Int) (p : Int) (sh : Bool) (hf : BB f) (h : LG S w0 w lo L) (h0 : Kp S w0 w) (hr : Room L) (hk : KT w0) (s0 : ¬ S 2) (s1 : ¬ S 4) (hb : Blk w b (spc r sf f p sh) 241) :
    Calls Tryz.prog 251 #[lpv lo, .slice (some ⟨b, 2, none⟩) 200 200] w fun e w' => e = .returned (.agg (bl 200 (psp f)).toArray) ∧ LG S w0 w' lo (putL L ⟨3, 200, 1⟩) ∧ Kp S w0 w' ∧ Kt w w' := by
  have hat : ∀ w, (Instr.arrayAt 167 (.slice (some ⟨b, 2, none⟩) 200 200)).run Tryz.prog w = .ok (.pointer (some ⟨b, 2, none⟩)) w := fun w => run_arrayAt w 167 _ 200 _ 200 200 Tryz.underlying167 (Nat.le_refl _)
  have HB := hid hb
  have HF := hid hf
  have HL := hid h
  have HP := hid h0
  have HR := hid hr
  have HK := hid hk
  clear hb hf h h0 hr hk
  have l1 := LDb_run ((HB.out.alloc (.cells Tryz.zeroCells167 167)).range 2 (bl 200 f) (fun j v h => spc_b _ _ _ _ _ j v h)) (bl_length _ _)
  have BE0 := hid (below_alloc w (.cells Tryz.zeroCells167 167))
  have BR0 := hid (Blk.newAt w Tryz.zeroCells167 (bl 200 (fun _ => 0)) 167 w.heap.size rfl zero_200)
  go_enter Tryz.func251, Tryz.ntmps251
  go_wp2_with fail
  refine (from1 f HF.out _).mono ?_
  rintro e w1 ⟨rfl, hb1⟩
  have BE1 := hid (below_next BE0.out hb1)
  have BR1 := hid (BR0.out.below hb1)
  clear hb1 l1 BE0 BR0
  go_wp2_with fail
  refine (permute1 S w0 w1 lo L (fl f) (fl_w HF.out) (HL.out.below BE1.out) (HP.out.trans (Kp.of_below S BE1.out) (fun _ _ e => e)) HR.out HK.out s0 s1).mono ?_
  rintro e w2 ⟨rfl, hl2, hp2, ht2⟩
  have BR2 := hid (ht2 _ _ _ BR1.out (by decide) (by decide))
  have L2 := hid hl2
  have P2 := hid hp2
  have T2 := hid ((Kt.below BE1.out).trans ht2)
  clear hl2 hp2 ht2 BR1
  go_wp2_with fail
  refine (bytes1 (perm (fl f)) (aw_perm (fl_w HF.out)) _).mono ?_
  rintro e w3 ⟨rfl, hb3⟩
  have BR3 := hid (BR2.out.below hb3)
  have L3 := hid (L2.out.below hb3)
  have P3 := hid (P2.out.trans (Kp.of_below S hb3) (fun _ _ e => e))
  have T3 := hid (T2.out.trans (Kt.below hb3))
  clear hb3 L2 P2 T2 BR2
  have x1 := SVb_run (cs := bl 200 (bf (perm (fl f)))) (BR3.out.there 0 200 (by rw [bl_length]; omega)) (bl_length _ _) (bl_one _ _)
  have b4 := BR3.out.put 0 (bl 200 (bf (perm (fl f))))
  rw [put_all _ _ (by rw [bl_length, bl_length])] at b4
  have l4 := hid (LDb_run (b4.range 0 _ (fun j v h => by rw [Nat.zero_add]; exact h)) (bl_length _ _))
  clear b4
  go_wp2
  have hz := P3.out.size
  have hz1 := HP.out.size
  refine bodyPost_ret (v := .agg (bl 200 (bf (perm (fl f)))).toArray) (results_cell1 Tryz.results251 rfl l4.out) rfl ⟨rfl, L3.out.kept (Kp.setCells _ 0 _) (fun g e => by subst e; exact ⟨_, _, BR3.out, by decide, by decide⟩), P3.out.trans (Kp.setCells _ 0 _) (fun i hi e => by omega), fun g cs t hg n1 n2 => (T3.out g cs t hg n1 n2).kept (Kp.setCells _ 0 _) (by have := hg.lt; omega)⟩
set_option maxRecDepth 4000 in
theorem sliceAll (W : World) (b : Nat) : (Instr.sliceAt 167 (.pointer (some ⟨b, 2, none⟩)) none none none).run Tryz.prog W = .ok (.slice (some ⟨b, 2, none⟩) 200 200) W := by
  have hl : Tryz.prog.arrayLen 167 = 200 := by kernel_rfl
  have hs : (sizeOf (Tryz.prog.elem 167)).run Tryz.prog W = .ok 1 W := by kernel_rfl
  have h := run_sliceAt_array_all (P := Tryz.prog) W 167 ⟨b, 2, none⟩ Tryz.underlying167
  rw [h, hs, hl, Result.andThen_ok, slicedAt]
  rfl
set_option maxRecDepth 4000 in
set_option maxHeartbeats 4000000 in
theorem permute_sp (S : Nat → Prop) (w0 w : World) (lo : Option Nat) (L : List Rn) (b r : Nat) (sf : Int) (f : Nat → Int) (p : Int) (sh : Bool) (hf : BB f) (h : LG S w0 w lo L) (h0 : Kp S w0 w) (hr : Room L) (hk : KT w0) (s0 : ¬ S 2) (s1 : ¬ S 4) (hSb : S b) (hb : Blk w b (spc r sf f p sh) 241) :
    Calls Tryz.prog 215 #[.pointer (some ⟨b, 0, none⟩), lpv lo] w fun e w' => e = .returned (.tuple #[]) ∧ Blk w' b (spc r sf (psp f) 0 sh) 241 ∧ LG S w0 w' lo (putL L ⟨3, 200, 1⟩) ∧ Kp S w0 w' ∧ Ks w w' := by
  have HC := hid (permuted1 S w0 w lo L b r sf f p sh hf h h0 hr hk s0 s1 hb)
  have HB := hid hb
  have HS := hid hSb
  have hsl := fun W => sliceAll W b
  clear hf h h0 hr hk s0 s1 hb hSb
  go_enter Tryz.func215, Tryz.ntmps215
  go_wp2_with fail
  refine HC.out.mono ?_
  rintro e w1 ⟨rfl, hl1, hp1, ht1⟩
  have B1 := hid (ht1 _ _ _ HB.out (by decide) (by decide))
  have L1 := hid hl1
  have P1 := hid hp1
  have T1 := hid ht1
  clear hl1 hp1 ht1 HC
  have x1 := SVb_run (cs := bl 200 (psp f)) (B1.out.there 2 200 (by rw [spc_length]; omega)) (bl_length _ _) (bl_one _ _)
  have b2 := B1.out.put 2 (bl 200 (psp f))
  rw [spc_put] at b2
  have x2 := b2.cell 202 _ (spc_p _ _ _ _ _)
  have x3 := b2.frozen 202
  have B2 := hid b2
  clear b2
  go_wp2
  go_end0
  refine ⟨rfl, ?_, ?_, ?_, fun g cs t hg n0 n1 n2 => ?_⟩
  · have := B2.out.set 202 (.int .i64 0)
    rw [spc_setp] at this
    exact this
  · exact (L1.out.kept (Kp.setCells b 2 _) (fun g e => by subst e; exact ⟨_, _, B1.out, by decide, by decide⟩)).kept (Kp.setCell b 202 _) (fun g e => by subst e; exact ⟨_, _, B2.out, by decide, by decide⟩)
  · exact (P1.out.trans (Kp.setCells b 2 _) (fun i _ e => by subst e; exact HS.out)).trans (Kp.setCell b 202 _) (fun i _ e => by have : i = b := e; rw [this]; exact HS.out)
  · have hne : g ≠ b := Blk.ne hg HB.out n0
    exact ((T1.out g cs t hg n1 n2).kept (Kp.setCells b 2 _) hne).kept (Kp.setCell b 202 _) hne
set_option maxRecDepth 4000 in
set_option maxHeartbeats 4000000 in
theorem end1 (S : Nat → Prop) (w0 w : World) (lo : Option Nat) (L : List Rn) (b r : Nat) (sf : Int) (f : Nat → Int) (p : Nat) (hf : BB f) (hp : p < r) (h192 : r ≤ 192) (h : LG S w0 w lo L) (h0 : Kp S w0 w) (hr : Room L) (hk : KT w0) (s0 : ¬ S 2) (s1 : ¬ S 4) (hSb : S b) (hb : Blk w b (spc r sf f p false) 241) :
    Calls Tryz.prog 253 #[.pointer (some ⟨b, 0, none⟩), lpv lo] w fun e w' => e = .returned (.tuple #[]) ∧ Blk w' b (spc r sf (psp (mx (mx f p sf) (r - 1) 128)) 0 true) 241 ∧ LG S w0 w' lo (putL L ⟨3, 200, 1⟩) ∧ Kp S w0 w' := by
  have HB := hid hb
  have HS := hid hSb
  have HL := hid h
  have HP := hid h0
  have HF := hid hf
  have HR := hid hr
  have HK := hid hk
  have hS1 : Hid (¬ S 2 ∧ ¬ S 4) := ⟨s0, s1⟩
  have c0 := hb.cell 0 _ rfl
  have c1 := hb.cell 1 _ rfl
  have cp := hb.cell 202 _ (spc_p _ _ _ _ _)
  have ci := hb.cell (2 + p) _ (spc_at _ _ _ _ _ p (by omega))
  have fi := hb.frozen (2 + p)
  have i1 : p < 200 := by omega
  clear hf h h0 hr hk hb hSb s0 s1
  go_enter Tryz.func253, Tryz.ntmps253
  go_wp2_with fail
  go_region
  have b1 := (HB.out.set (2 + p) (.int .u8 (xb (f p) sf))).drewN 1
  rw [spc_setb _ _ _ _ _ _ _ (by omega)] at b1
  have B1 : Hid (Blk (w.setCell ⟨b, 2 + p, none⟩ (.int .u8 (bits BinOp.xor IntKind.u8 (f p) sf))).drew b (spc r sf (mx f p sf) p false) 241) := b1
  have L1 : Hid (LG S w0 (w.setCell ⟨b, 2 + p, none⟩ (.int .u8 (bits BinOp.xor IntKind.u8 (f p) sf))).drew lo L) := (HL.out.kept (Kp.setCell b (2 + p) _) (fun g e => by subst e; exact ⟨_, _, HB.out, by decide, by decide⟩)).below (below_drewN _ 1)
  have P1 : Hid (Kp S w0 (w.setCell ⟨b, 2 + p, none⟩ (.int .u8 (bits BinOp.xor IntKind.u8 (f p) sf))).drew) := (HP.out.trans (Kp.setCell b (2 + p) _) (fun i _ e => by have : i = b := e; rw [this]; exact HS.out)).trans (Kp.of_below S (below_drewN _ 1)) (fun _ _ e => e)
  obtain ⟨W1, hW1⟩ : ∃ x, (w.setCell ⟨b, 2 + p, none⟩ (.int .u8 (bits BinOp.xor IntKind.u8 (f p) sf))).drew = x := ⟨_, rfl⟩
  rw [hW1] at B1 L1 P1
  rw [hW1]
  clear hW1 b1 c0 c1 cp ci fi HB HL HP
  obtain ⟨f1, hf1⟩ : ∃ x, mx f p sf = x := ⟨_, rfl⟩
  have HF1 : Hid (BB f1) := by rw [← hf1]; exact mx_b HF.out _ _
  rw [hf1] at B1
  have HE1 := hid hf1
  clear hf1 HF
  obtain ⟨q, hq⟩ : ∃ q, r = q + 1 := ⟨r - 1, by omega⟩
  subst hq
  have hq2 : ((q + 1 : Nat) : Int) - 1 = (q : Int) := by omega
  have c0 := B1.out.cell 0 _ rfl
  have ci := B1.out.cell (2 + q) _ (spc_at _ _ _ _ _ q (by omega))
  have fi := B1.out.frozen (2 + q)
  have i2 : q < 200 := by omega
  have hw : IntKind.i64.wrap (((q + 1 : Nat) : Int) - 1) = (q : Int) := by rw [IntKind.wrap_i64]; omega
  go_wp2_with fail
  go_region
  have b2 := (B1.out.set (2 + q) (.int .u8 (xb (f1 q) 128))).drewN 1
  rw [spc_setb _ _ _ _ _ _ _ (by omega)] at b2
  have B2 : Hid (Blk (W1.setCell ⟨b, 2 + q, none⟩ (.int .u8 (bits BinOp.xor IntKind.u8 (f1 q) 128))).drew b (spc (q + 1 : Nat) sf (mx f1 q 128) p false) 241) := b2
  have L2 : Hid (LG S w0 (W1.setCell ⟨b, 2 + q, none⟩ (.int .u8 (bits BinOp.xor IntKind.u8 (f1 q) 128))).drew lo L) := (L1.out.kept (Kp.setCell b (2 + q) _) (fun g e => by subst e; exact ⟨_, _, B1.out, by decide, by decide⟩)).below (below_drewN _ 1)
  have P2 : Hid (Kp S w0 (W1.setCell ⟨b, 2 + q, none⟩ (.int .u8 (bits BinOp.xor IntKind.u8 (f1 q) 128))).drew) := (P1.out.trans (Kp.setCell b (2 + q) _) (fun i _ e => by have : i = b := e; rw [this]; exact HS.out)).trans (Kp.of_below S (below_drewN _ 1)) (fun _ _ e => e)
  obtain ⟨W2, hW2⟩ : ∃ x, (W1.setCell ⟨b, 2 + q, none⟩ (.int .u8 (bits BinOp.xor IntKind.u8 (f1 q) 128))).drew = x := ⟨_, rfl⟩
  rw [hW2] at B2 L2 P2
  rw [hW2]
  clear hW2 b2 c0 ci fi B1 L1 P1
  go_wp2_with fail
  refine (permute_sp S w0 W2 lo L b (q + 1) sf (mx f1 q 128) p false (mx_b HF1.out _ _) L2.out P2.out HR.out HK.out hS1.out.1 hS1.out.2 HS.out B2.out).mono ?_
  rintro e w3 ⟨rfl, hb3, hl3, hp3, -⟩
  have B3 := hid hb3
  have L3 := hid hl3
  have P3 := hid hp3
  have x3 := hb3.cell 203 _ (spc_s _ _ _ _ _)
  have y3 := hb3.frozen 203
  clear hb3 hl3 hp3 B2 L2 P2
  go_wp2
  go_end0
  refine ⟨rfl, ?_, L3.out.kept (Kp.setCell b 203 _) (fun g e => by subst e; exact ⟨_, _, B3.out, by decide, by decide⟩), P3.out.trans (Kp.setCell b 203 _) (fun i _ e => by have : i = b := e; rw [this]; exact HS.out)⟩
  have := B3.out.set 203 (.bool true)
  rw [spc_sets] at this
  rw [show q + 1 - 1 = q from rfl, HE1.out]
  exact this
end Go.Proofs.YtpohogpkfdebdaaGreatDoor.Kc
namespace Go.Proofs.YtpohogpkfdebdaaGreatDoor.Kc
open Go.ChangeShapes Go.WideShapes Go.ChangeAt Go.RowKit
open Go.Proofs.YtpohogpkfdebdaaGreatDoor.By Go.Proofs.YtpohogpkfdebdaaGreatDoor.Wd
/-- So many permutations recorded. -/
def evk (L : List Rn) : Nat → List Rn
  | 0 => L
  | c + 1 => putL (evk L c) ⟨3, 200, 1⟩
theorem evk_pos {L : List Rn} (h : Pos L) (c : Nat) : Pos (evk L c) := by
  induction c with
  | zero => exact h
  | succ c ih => exact putL_pos ih
theorem evk_len (L : List Rn) (c : Nat) : (evk L c).length ≤ L.length + c := by
  induction c with
  | zero => exact Nat.le_refl _
  | succ c ih =>
    have := (putL_len (L := evk L c) (r := ⟨3, 200, 1⟩)).1
    show (putL (evk L c) _).length ≤ _
    omega
theorem evk_tot {L : List Rn} (h : Pos L) (c : Nat) (hb : tot L + c ≤ 9000000000000000000) : tot (evk L c) = tot L + c := by
  induction c with
  | zero => show tot L = _; omega
  | succ c ih =>
    show tot (putL (evk L c) _) = _
    rw [putL_tot (evk_pos h c) rfl (by rw [ih (by omega)]; omega), ih (by omega)]; omega
theorem evk_add (L : List Rn) (a b : Nat) : evk L (a + b) = evk (evk L a) b := by
  induction b with
  | zero => rfl
  | succ b ih => show putL (evk L (a + b)) _ = _; rw [ih]; rfl
theorem evk_room {L : List Rn} (h : Pos L) (hb : Big L) (c : Nat) (hc : c ≤ 10000000) : Room (evk L c) := by
  have h1 := hb.1
  have h2 := hb.2
  have h3 := evk_len L c
  refine ⟨?_, by omega⟩
  rw [evk_tot h c (by omega)]; omega
/-- A part of a slice of bytes. -/
def sub (a : Option Addr) (cap : Nat) (l h : Int) : Value := .slice (if cap = l.toNat then a else a.map (·.add (l.toNat * 1))) (h.toNat - l.toNat) (cap - l.toNat)
theorem size5 (w : World) : (sizeOf (Tryz.prog.elem 23)).run Tryz.prog w = .ok 1 w := by kernel_rfl
theorem elem22 : Tryz.prog.underlying 23 = some (.slice (Tryz.prog.elem 23)) := by kernel_rfl
@[go_sem high] theorem sub_l (w : World) (a : Option Addr) (n cap : Nat) (l : Int) (h0 : 0 ≤ l) (h1 : l ≤ n) : (Instr.sliceAt 23 (.slice a n cap) (some (.int .i64 l)) none none).run Tryz.prog w = .ok (sub a cap l n) w := by
  rw [run_sliceAt_slice w 23 _ _ _ _ elem22, run_slice_l w 23 a n cap elem22 .i64 l h0 h1, size5]
  rfl
def slLen : Value → Nat
  | .slice _ n _ => n
  | _ => 0
theorem sub_next (pb p n cap k : Nat) (hn : n ≤ cap) : ∃ A, sub (some ⟨pb, p, none⟩) cap k n = .slice A (n - k) (cap - k) ∧ (k < n → A = some ⟨pb, p + k, none⟩) := by
  refine ⟨if cap = ((k : Int)).toNat then some ⟨pb, p, none⟩ else (some (⟨pb, p, none⟩ : Addr)).map (·.add (((k : Int)).toNat * 1)), by unfold sub; rw [Int.toNat_natCast, Int.toNat_natCast], fun h => ?_⟩
  rw [Int.toNat_natCast, if_neg (by omega), Nat.mul_one, Option.map_some, By.add_plain]
theorem ins_c {r : Nat} {z : Z} (h : z.p < r) (g : Nat → Int) (n : Nat) : (Z.ins r z g n).c - z.c = (z.p + n) / r := by
  rw [(ins_count h g n).1]; exact Nat.add_sub_cancel_left _ _
set_option maxRecDepth 4000 in
set_option maxHeartbeats 4000000 in
theorem write_some (b r n pb po cap : Nat) (sf : Int) (z : Z) (g : Nat → Int) (lo : Option Nat) (L : List Rn) (S : Nat → Prop) (w : World) (hst : Sp w b r sf z false) (hk : KT w) (hS0 : ¬ S 2) (hS1 : ¬ S 4) (hSb : S b) (hl : LG S w w lo L) (hp : Pos L)
    (hr : ∀ w', Kp S w w' → ∀ i, i < n → w'.cell? ⟨pb, po + i, none⟩ = some (.int .u8 (g i))) (hn : 0 < n) (hc : n ≤ cap) (hcap : cap ≤ maxLen) (hmn : n ≤ 9000000) (hroom : Big L) :
    Calls Tryz.prog 162 #[.pointer (some ⟨b, 0, none⟩), lpv lo, .slice (some ⟨pb, po, none⟩) n cap] w fun e w' => e = .returned (.int .i64 0) ∧ Sp w' b r sf (Z.ins r z g n) false ∧ LG S w w' lo (evk L ((Z.ins r z g n).c - z.c)) ∧ Kp S w w' := by
  have h0 := hst.c0
  have h3 := hst.cs
  have H0 := hid hst
  have HK := hid hk
  have HS : Hid (¬ S 2 ∧ ¬ S 4 ∧ S b) := ⟨hS0, hS1, hSb⟩
  have HL := hid hl
  have HP := hid hp
  have HR := hid hr
  have HC := hid hcap
  have HM := hid hroom
  have hr8 := hst.lo
  have hr192 := hst.hi
  clear hst hk hS0 hS1 hSb hl hp hr hcap hroom
  go_enter Tryz.func162, Tryz.ntmps162
  go_wp2_with (go_at_call 213; refine (isNone_sp _ _ r h0 hr8).mono ?_; rintro e w ⟨rfl, rfl⟩)
  go_loopw [2] (fun p wr => ∃ j A, j ≤ n ∧ p = .slice A (n - j) (cap - j) ∧ (j < n → A = some ⟨pb, po + j, none⟩) ∧ Sp wr b r sf (Z.ins r z g j) false ∧ LG S w wr lo (evk L ((Z.ins r z g j).c - z.c)) ∧ Kp S w wr) (fun p _ => slLen p)
  case atStart =>
    refine ⟨0, _, by omega, rfl, fun _ => rfl, H0.out, ?_, Kp.refl _ _⟩
    rw [show (Z.ins r z g 0).c - z.c = 0 from Nat.sub_self _]; exact HL.out
  case round =>
    obtain ⟨j, A, hj, rfl, hA, hst, hlg, hkp⟩ := hrel
    have HS1 := hid hst
    have HLG := hid hlg
    have HKP := hid hkp
    clear hst hlg hkp h0 h3
    by_cases hlt : j < n
    · obtain rfl := hA hlt
      clear hA
      have hp0 : (Z.ins r z g j).p < r := HS1.out.ok.o rfl
      obtain ⟨y, hy⟩ : ∃ y, Z.ins r z g j = y := ⟨_, rfl⟩
      rw [hy] at HS1 HLG hp0
      obtain ⟨K, hK⟩ : ∃ K, Nat.min (n - j) (r - y.p) = K := ⟨_, rfl⟩
      have hK0 : 0 < K := by rw [← hK]; exact Nat.lt_min.2 ⟨by omega, by omega⟩
      have hK1 : K ≤ n - j := by rw [← hK]; exact Nat.min_le_left _ _
      have hK2 : K ≤ r - y.p := by rw [← hK]; exact Nat.min_le_right _ _
      have HT := hid (takeIn1 b r (n - j) pb (po + j) (cap - j) sf y.f y.p false (fun i => g (j + i)) wr HS1.out.here hp0 hr192 (fun w' hw i hi => by rw [Nat.add_assoc]; exact HR.out w' (HKP.out.trans hw (fun k _ e => by rw [e]; exact HS.out.2.2)) (j + i) (by omega)) (by omega) (Nat.le_trans (Nat.sub_le _ _) HC.out))
      rw [hK] at HT
      have hlen : 0 < n - j := by omega
      have HY := hid hy
      have HKK := hid hK
      clear hy hK
      go_wp2_with fail
      refine HT.out.mono ?_
      rintro e w1 ⟨rfl, hb1, hk1⟩
      have B1 := hid hb1
      have K1 := hid (HKP.out.trans hk1 (fun k _ e => by rw [e]; exact HS.out.2.2))
      have L1 := hid (HLG.out.kept hk1 (fun g e => by subst e; exact ⟨_, _, HS1.out.here, by decide, by decide⟩))
      have c0 := hb1.cell 0 _ rfl
      have cp := hb1.cell 202 _ (spc_p _ _ _ _ _)
      clear hb1 hk1 HT
      have hk1' : (K : Int) ≤ ((n - j : Nat) : Int) := by omega
      have HI := hid (ins_add r z g j K)
      by_cases hfull : y.p + K = r
      · have he : ((y.p + K : Nat) : Int) = (r : Int) := by omega
        go_wp2_with fail
        go_region
        have B2 := hid (B1.out.drewN 1)
        have L2 := hid (L1.out.below (below_drewN w1 1))
        have K2 := hid (K1.out.trans (Kp.of_below S (below_drewN w1 1)) (fun _ _ e => e))
        clear B1 L1 K1 c0 cp
        go_wp2_with fail
        refine (permute_sp S w w1.drew lo _ b r sf _ _ false (mxs_b HS1.out.ok.b _ _ _) L2.out K2.out (evk_room HP.out HM.out _ ?_) HK.out HS.out.1 HS.out.2.1 HS.out.2.2 B2.out).mono ?_
        · rw [← HY.out, ins_c (H0.out.ok.o rfl)]
          exact Nat.le_trans (Nat.div_le_self _ _) (by have := H0.out.ok.o rfl; omega)
        rintro e w3 ⟨rfl, hb3, hl3, hp3, -⟩
        have B3 := hid hb3
        have L3 := hid hl3
        have P3 := hid hp3
        clear hb3 hl3 hp3 B2 L2 K2
        go_wp2
        obtain ⟨A, eA, hA⟩ := sub_next pb (po + j) (n - j) (cap - j) K (by omega)
        have e3 : Z.ins r z g (j + K) = ⟨psp (mxs y.f y.p (fun i => g (j + i)) K), 0, y.c + 1⟩ := by rw [HI.out, HY.out, ins_full r y _ K hfull hK0]
        have hc3 : z.c ≤ y.c := by rw [← HY.out, (ins_count (H0.out.ok.o rfl) g j).1]; exact Nat.le_add_right _ _
        refine ⟨⟨j + K, A, by omega, by rw [eA, Nat.sub_sub, Nat.sub_sub], fun h => by rw [hA (by omega), Nat.add_assoc], ⟨by rw [e3]; exact B3.out, H0.out.ok.ins (by omega) g (j + K), H0.out.lo, H0.out.hi, H0.out.sf⟩, ?_, P3.out⟩, by rw [eA]; simp [slLen]; omega⟩
        rw [e3, show y.c + 1 - z.c = (y.c - z.c) + 1 from by omega]
        exact L3.out
      · have he : ¬ ((y.p + K : Nat) : Int) = (r : Int) := by omega
        have he2 : ¬ (y.p : Int) + (K : Int) = (r : Int) := by omega
        go_wp2_with fail
        go_region
        go_wp2_with fail
        obtain ⟨A, eA, hA⟩ := sub_next pb (po + j) (n - j) (cap - j) K (by omega)
        have e3 : Z.ins r z g (j + K) = ⟨mxs y.f y.p (fun i => g (j + i)) K, y.p + K, y.c⟩ := by rw [HI.out, HY.out, ins_part r y _ K (by omega)]
        refine ⟨⟨j + K, A, by omega, by rw [eA, Nat.sub_sub, Nat.sub_sub], fun h => by rw [hA (by omega), Nat.add_assoc], ⟨by rw [e3]; exact B1.out.drewN 1, H0.out.ok.ins (by omega) g (j + K), H0.out.lo, H0.out.hi, H0.out.sf⟩, ?_, K1.out.trans (Kp.of_below S (below_drewN w1 1)) (fun _ _ e => e)⟩, by rw [eA]; simp [slLen]; omega⟩
        rw [e3]
        exact L1.out.below (below_drewN w1 1)
    · have ej : j = n := by omega
      subst ej
      go_wp2
      go_ret
      exact ⟨rfl, HS1.out, HLG.out, HKP.out⟩
theorem write_sp (b r n : Nat) (sf : Int) (v : Value) (z : Z) (g : Nat → Int) (lo : Option Nat) (L : List Rn) (S : Nat → Prop) (w : World) (hst : Sp w b r sf z false) (hk : KT w) (hS0 : ¬ S 2) (hS1 : ¬ S 4) (hSb : S b) (hl : LG S w w lo L) (hp : Pos L)
    (hr : ∀ w', Kp S w w' → By.RB w' v n g) (hmn : n ≤ 9000000) (hroom : Big L) :
    Calls Tryz.prog 162 #[.pointer (some ⟨b, 0, none⟩), lpv lo, v] w fun e w' => e = .returned (.int .i64 0) ∧ Sp w' b r sf (Z.ins r z g n) false ∧ LG S w w' lo (evk L ((Z.ins r z g n).c - z.c)) ∧ Kp S w w' := by
  have h0 := hr w (Kp.refl _ _)
  obtain ⟨_, a, cap, rfl, h1, h2, hc⟩ := h0
  by_cases hn : 0 < n
  · rcases hc with ⟨e, _⟩ | ⟨pb, po, rfl, _⟩
    · omega
    · refine write_some b r n pb po cap sf z g lo L S w hst hk hS0 hS1 hSb hl hp (fun w' hw => ?_) hn h1 h2 hmn hroom
      obtain ⟨_, a', cap', he, _, _, hc⟩ := hr w' hw
      simp only [Value.slice.injEq] at he
      obtain ⟨rfl, _, rfl⟩ := he
      rcases hc with ⟨e, _⟩ | ⟨pb', po', e, hc⟩
      · omega
      · simp only [Option.some.injEq, Addr.mk.injEq] at e
        obtain ⟨rfl, rfl, _⟩ := e
        exact hc
  · have en : n = 0 := by omega
    subst en
    have R : Sp w b r sf (Z.ins r z g 0) false ∧ LG S w w lo (evk L ((Z.ins r z g 0).c - z.c)) ∧ Kp S w w := by
      refine ⟨hst, ?_, Kp.refl _ _⟩
      rw [show (Z.ins r z g 0).c - z.c = 0 from Nat.sub_self _]; exact hl
    have HR := hid R
    have h0 := hst.c0
    have h3 := hst.cs
    have hr8 := hst.lo
    clear R hr hc hl hp hst hk hS0 hS1 hSb hroom h1 h2
    go_enter Tryz.func162, Tryz.ntmps162
    go_wp2_with (go_at_call 213; refine (isNone_sp _ _ r h0 hr8).mono ?_; rintro e w ⟨rfl, rfl⟩)
    refine wp_loop_rounds 1 ?_
    rw [rounds_succ]
    go_wp2
    go_ret
    exact ⟨rfl, HR.out⟩
end Go.Proofs.YtpohogpkfdebdaaGreatDoor.Kc
