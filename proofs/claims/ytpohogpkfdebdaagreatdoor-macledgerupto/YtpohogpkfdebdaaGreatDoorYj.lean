/- A ledger that is handed in, or none: what Note makes of it, told by the blocks that it may turn. A cipher of the program: what isNone, rounds, formSize, KeyLen, Encrypt and Decrypt answer. What the program's Encrypt and Decrypt answer. -/
import Derived.Test.YtpohogpkfdebdaaGreatDoorZr
import Derived.Test.YtpohogpkfdebdaaGreatDoorYf
import Derived.Test.YtpohogpkfdebdaaGreatDoorYg
namespace Go.Proofs.YtpohogpkfdebdaaGreatDoor.Ae
open Go.ChangeShapes Go.WideShapes Go.ChangeAt Go.RowKit
open Go.Proofs.YtpohogpkfdebdaaGreatDoor.By Go.Proofs.YtpohogpkfdebdaaGreatDoor.Gf

/-- A ledger's pointer. -/
def lpv : Option Nat → Value
  | none => .pointer none
  | some b => .pointer (some ⟨b, 0, none⟩)
/-- The ledger (if there is one) has L; of the blocks that were there in w0 it has only such as S names. -/
def LG (S : Nat → Prop) (w0 w : World) (lo : Option Nat) (L : List Rn) : Prop :=
  match lo with
  | none => True
  | some lb => S lb ∧ ∃ rv, Led w lb rv L ∧ ∀ g, rv.ownBlock = some g → g < w0.heap.size → S g
theorem own_type {w : World} {base : Nat} {v : Value} {L : List Rn} (h : Own w base v L) {g : Nat} (hg : v.ownBlock = some g) : ∃ cs, w.heap[g]? = some (.cells cs 78 (0, 0)) := by
  obtain ⟨_, _, h | ⟨g', cap, cur, rfl, _, hc, _⟩⟩ := h
  · obtain ⟨rfl, _⟩ := h; simp [Value.ownBlock] at hg
  · simp [Value.ownBlock] at hg; subst hg; exact ⟨cur, hc⟩
theorem led_apart {w : World} {lb : Nat} {rv : Value} {L : List Rn} (h : Led w lb rv L) {g : Nat} {cs : List Value} {t : TypeId} (hg : Blk w g cs t) (h1 : t ≠ 89) (h2 : t ≠ 78) : ¬ (g = lb ∨ rv.ownBlock = some g) := by
  rintro (e | e)
  · subst e
    have := Option.some.inj (hg.symm.trans h.here)
    simp only [Obj.cells.injEq] at this
    exact h1 this.2.1
  · obtain ⟨c, hc⟩ := own_type h.own e
    have := Option.some.inj (hg.symm.trans hc)
    simp only [Obj.cells.injEq] at this
    exact h2 this.2.1
/-- Blocks that are no ledger's stay. -/
def Kt (w w' : World) : Prop := w.heap.size ≤ w'.heap.size ∧ ∀ g cs t, Blk w g cs t → t ≠ 89 → t ≠ 78 → Blk w' g cs t
theorem LG.kept {S : Nat → Prop} {w0 w w' : World} {lo : Option Nat} {L : List Rn} {T : Nat → Prop} (h : LG S w0 w lo L) (hk : Kp T w w') (hT : ∀ g, T g → ∃ cs t, Blk w g cs t ∧ t ≠ 89 ∧ t ≠ 78) : LG S w0 w' lo L := by
  cases lo with
  | none => exact trivial
  | some lb =>
    obtain ⟨hs, rv, hl, ho⟩ := h
    refine ⟨hs, rv, hl.kept hk (fun e => ?_) (fun g hg e => ?_), ho⟩
    · obtain ⟨cs, t, hb, h1, h2⟩ := hT _ e
      exact led_apart hl hb h1 h2 (.inl rfl)
    · obtain ⟨cs, t, hb, h1, h2⟩ := hT _ e
      exact led_apart hl hb h1 h2 (.inr hg)
theorem LG.below {S : Nat → Prop} {w0 w w' : World} {lo : Option Nat} {L : List Rn} (h : LG S w0 w lo L) (hb : Below w.heap.size w w') : LG S w0 w' lo L := h.kept (Kp.of_below (fun _ => False) hb) (fun _ e => e.elim)
/-- Room for one event more. -/
def Room (L : List Rn) : Prop := tot L ≤ 4611686018427387904 ∧ L.length ≤ 100000000
/-- Room for many. -/
def Big (L : List Rn) : Prop := tot L ≤ 2305843009213693952 ∧ L.length ≤ 10000000
theorem room_len {L : List Rn} (hr : Room L) : (L.length + 1) * 24 ≤ 140737488355328 := by
  have := hr.2; omega
theorem note_lg (S : Nat → Prop) (w0 w : World) (lo : Option Nat) (L : List Rn) (k s : Int) (hk : 0 ≤ k ∧ k < 256) (hs : 0 ≤ s ∧ s ≤ 1000) (h : LG S w0 w lo L) (h0 : Kp S w0 w) (hr : Room L) :
    Calls Tryz.prog 121 #[lpv lo, .agg #[.int .u8 k, .int .i64 s]] w fun e w' => e = .returned (.tuple #[]) ∧ LG S w0 w' lo (putL L ⟨k, s, 1⟩) ∧ Kp S w0 w' ∧ Kt w w' := by
  cases lo with
  | none =>
    refine (note16n k s w).mono ?_
    rintro e w' ⟨rfl, hb⟩
    exact ⟨rfl, trivial, h0.trans (Kp.of_below S hb) (fun _ _ e => e), hb.size, fun g cs t hg _ _ => hg.below hb⟩
  | some lb =>
    obtain ⟨hs1, rv, hl, ho⟩ := h
    have hrl := room_len hr
    have hrt := hr.1
    refine (note16 lb rv L k s w hl ⟨hk, ⟨by show -9223372036854775808 ≤ s; omega, by show s ≤ 9223372036854775807; omega⟩, by show -9223372036854775808 ≤ (1 : Int) ∧ (1 : Int) ≤ 9223372036854775807; omega⟩ (by omega) hrl).mono ?_
    rintro e w' ⟨rfl, rv', hl', hkp, hsn⟩
    refine ⟨rfl, ⟨hs1, rv', hl', fun g hg hlt => ?_⟩, h0.trans hkp ?_, hkp.size, fun g cs t hg h1 h2 => hg.kept hkp (led_apart hl hg h1 h2)⟩
    · rcases hsn with e | e
      · exact ho g (by rw [← e]; exact hg) hlt
      · have := e g hg; have := h0.size; omega
    · rintro i hi (rfl | e)
      · exact hs1
      · exact ho i e hi
theorem Kt.refl (w : World) : Kt w w := ⟨Nat.le_refl _, fun _ _ _ h _ _ => h⟩
theorem Kt.trans {a b c : World} (h : Kt a b) (k : Kt b c) : Kt a c := ⟨Nat.le_trans h.1 k.1, fun g cs t hg h1 h2 => k.2 g cs t (h.2 g cs t hg h1 h2) h1 h2⟩
theorem Kt.of_below {w w' : World} (h : Below w.heap.size w w') : Kt w w' := ⟨h.size, fun _ _ _ hg _ _ => hg.below h⟩
theorem putL_tot {L : List Rn} {r : Rn} (h : Pos L) (hr : r.c = 1) (hb : tot L ≤ 9000000000000000000) : tot (putL L r) = tot L + 1 := by
  rw [tot_put h (by omega) (by omega), hr]
end Go.Proofs.YtpohogpkfdebdaaGreatDoor.Ae
namespace Go.Proofs.YtpohogpkfdebdaaGreatDoor.Ae
open Go.ChangeShapes Go.WideShapes Go.ChangeAt Go.RowKit
open Go.Proofs.YtpohogpkfdebdaaGreatDoor.By Go.Proofs.YtpohogpkfdebdaaGreatDoor.Gf
/-- The cipher in block g: a key of k words, the round keys' bytes ws. -/
structure Ci (w : World) (g k : Nat) (ws : Nat → Nat) : Prop where
  here : Blk w g (cic k ws) 231
  kk : k = 4 ∨ k = 6 ∨ k = 8
  lt : ∀ i, ws i < 256
/-- What is in block g is no cipher. -/
def NoCi (w : World) (g : Nat) : Prop := ∃ cs, Blk w g (.int .i64 0 :: cs) 231
section
variable {w w' : World} {g k : Nat} {ws : Nat → Nat}
theorem Ci.kept {S : Nat → Prop} (h : Ci w g k ws) (hk : Kp S w w') (hn : ¬ S g) : Ci w' g k ws := ⟨h.here.kept hk hn, h.kk, h.lt⟩
theorem Ci.below (h : Ci w g k ws) (hb : Below w.heap.size w w') : Ci w' g k ws := ⟨h.here.below hb, h.kk, h.lt⟩
theorem Ci.c0 (h : Ci w g k ws) : w.cell? ⟨g, 0, none⟩ = some (.int .i64 k) := h.here.cell 0 _ rfl
theorem Ci.glt (h : Ci w g k ws) : g < w.heap.size := h.here.lt
theorem NoCi.c0 (h : NoCi w g) : w.cell? ⟨g, 0, none⟩ = some (.int .i64 0) := by
  obtain ⟨cs, h⟩ := h; exact h.cell 0 _ rfl
theorem NoCi.kept {S : Nat → Prop} (h : NoCi w g) (hk : Kp S w w') (hn : ¬ S g) : NoCi w' g := by
  obtain ⟨cs, h⟩ := h; exact ⟨cs, h.kept hk hn⟩
theorem NoCi.below (h : NoCi w g) (hb : Below w.heap.size w w') : NoCi w' g := by
  obtain ⟨cs, h⟩ := h; exact ⟨cs, h.below hb⟩
end
theorem isNone_ci (g k : Nat) (w : World) (h : w.cell? ⟨g, 0, none⟩ = some (.int .i64 k)) (hk : 1 ≤ k) : Calls Tryz.prog 194 #[.pointer (some ⟨g, 0, none⟩)] w fun e w' => e = .returned (.bool false) ∧ w' = w := by
  have e : ((k : Int) == 0) = false := by rw [beq_eq_false_iff_ne]; omega
  have e2 : ¬ (k : Int) = 0 := by omega
  have e3 : ¬ k = 0 := by omega
  go_enter Tryz.func194, Tryz.ntmps194
  go_wp2
  go_ret
  exact ⟨rfl, rfl⟩
theorem isNone_nil (w : World) : Calls Tryz.prog 194 #[.pointer none] w fun e w' => e = .returned (.bool true) ∧ w' = w := by
  go_enter Tryz.func194, Tryz.ntmps194
  go_wp2
  go_ret
  exact ⟨rfl, rfl⟩
theorem rounds_ci (g k : Nat) (w : World) (h : w.cell? ⟨g, 0, none⟩ = some (.int .i64 k)) (hk : k ≤ 8) : Calls Tryz.prog 196 #[.pointer (some ⟨g, 0, none⟩)] w fun e w' => e = .returned (.int .i64 ((k + 6 : Nat) : Int)) ∧ w' = w := by
  go_enter Tryz.func196, Tryz.ntmps196
  go_wp2
  go_ret
  exact ⟨rfl, rfl⟩
theorem formSize_ci (g k : Nat) (w : World) (h : w.cell? ⟨g, 0, none⟩ = some (.int .i64 k)) (hk : k ≤ 8) : Calls Tryz.prog 249 #[.pointer (some ⟨g, 0, none⟩)] w fun e w' => e = .returned (.int .i64 ((16 * (k + 7) : Nat) : Int)) ∧ w' = w := by
  go_enter Tryz.func249, Tryz.ntmps249
  go_wp2_with (go_at_call 196; refine (rounds_ci g k _ h hk).mono ?_; rintro e w' ⟨rfl, rfl⟩)
  go_ret
  refine ⟨congrArg (fun z => Ending.returned (Value.int IntKind.i64 z)) ?_, rfl⟩
  omega
theorem keyLen_ci (g k : Nat) (w : World) (h : w.cell? ⟨g, 0, none⟩ = some (.int .i64 k)) (h1 : 1 ≤ k) (hk : k ≤ 8) : Calls Tryz.prog 195 #[.pointer (some ⟨g, 0, none⟩)] w fun e w' => e = .returned (.int .i64 ((4 * k : Nat) : Int)) ∧ w' = w := by
  go_enter Tryz.func195, Tryz.ntmps195
  go_wp2_with (go_at_call 194; refine (isNone_ci g k _ h h1).mono ?_; rintro e w' ⟨rfl, rfl⟩)
  go_ret
  exact ⟨by simp, rfl⟩
/-- The tables lie there. -/
def KM (w : World) : Prop := w.rangeAt 0 0 (bl 4 (cb m1))
def KU (w : World) : Prop := w.rangeAt 1 0 (bl 4 (cb m2))
theorem KM.lt {w : World} (h : KM w) : 0 < w.heap.size := block_lt_of_cell (h 0 _ (bl_get 4 _ 0 (by decide)))
theorem KU.lt {w : World} (h : KU w) : 1 < w.heap.size := block_lt_of_cell (h 0 _ (bl_get 4 _ 0 (by decide)))
theorem KM.kept {S : Nat → Prop} {w w' : World} (h : KM w) (hk : Kp S w w') (hn : ¬ S 0) : KM w' := fun j v hv => by
  have e := hk.block 0 h.lt hn
  have := h j v hv
  unfold World.cell? at this ⊢
  simp only at this ⊢
  rw [e]; exact this
theorem KU.kept {S : Nat → Prop} {w w' : World} (h : KU w) (hk : Kp S w w') (hn : ¬ S 1) : KU w' := fun j v hv => by
  have e := hk.block 1 h.lt hn
  have := h j v hv
  unfold World.cell? at this ⊢
  simp only at this ⊢
  rw [e]; exact this
end Go.Proofs.YtpohogpkfdebdaaGreatDoor.Ae
namespace Go.Proofs.YtpohogpkfdebdaaGreatDoor.Ae
open Go.ChangeShapes Go.WideShapes Go.ChangeAt Go.RowKit
open Go.Proofs.YtpohogpkfdebdaaGreatDoor.By Go.Proofs.YtpohogpkfdebdaaGreatDoor.Gf
/-- The block that is worked on, and the answer's place, which is nought; nothing else has turned. -/
structure Wk (V W : World) (p q : Nat) (f : Nat → Nat) : Prop where
  kp : Kp (fun x => x = p ∨ x = q) V W
  b0 : Blk W p (bl 16 (cb f)) 175
  b1 : Blk W q (bl 16 (cb (upto 0 f))) 175
  ne : p ≠ q
  lt : p < V.heap.size
section
variable {V W W' : World} {p q : Nat} {f f' : Nat → Nat}
theorem upto0 (n : Nat) (f g : Nat → Nat) : bl n (cb (upto 0 f)) = bl n (cb (upto 0 g)) := rfl
theorem Wk.ld (h : Wk V W p q f) : (LDb ⟨p, 0, none⟩).run Tryz.prog W = .ok (bv f) W := LDb_run (range0 h.b0) (bl_length _ _)
theorem Wk.below (h : Wk V W p q f) (hb : Below W.heap.size W W') : Wk V W' p q f :=
  ⟨h.kp.trans (Kp.of_below _ hb) (fun _ _ e => e), h.b0.below hb, h.b1.below hb, h.ne, h.lt⟩
theorem Wk.sv (h : Wk V W p q f) (f' : Nat → Nat) : (SVb ⟨p, 0, none⟩ (bv f')).run Tryz.prog W = .ok () (W.setCells p 0 (bl 16 (cb f'))) :=
  SVb_run (h.b0.there 0 16 (by rw [bl_length]; omega)) (bl_length _ _) (bl_one _ _)
theorem Wk.st (h : Wk V W p q f) (f' : Nat → Nat) : Wk V (W.setCells p 0 (bl 16 (cb f'))) p q f' :=
  ⟨h.kp.trans (Kp.setCells p 0 _) (fun _ _ e => .inl e), by
    have b := h.b0.put 0 (bl 16 (cb f'))
    rwa [put_all _ _ (by rw [bl_length, bl_length])] at b, h.b1.kept (Kp.setCells p 0 _) (fun e => h.ne e.symm), h.ne, h.lt⟩
theorem Wk.thru (h : Wk V W p q f) (hb : Blk W' p (bl 16 (cb f')) 175) (hk : Kp (fun k => k = p) W W') : Wk V W' p q f' :=
  ⟨h.kp.trans hk (fun _ _ e => .inl e), hb, h.b1.kept hk (fun e => h.ne e.symm), h.ne, h.lt⟩
theorem Wk.ci {g k : Nat} {ws : Nat → Nat} (h : Wk V W p q f) (hc : Ci V g k ws) (h1 : g < p) (h2 : g < q) : Ci W g k ws := hc.kept h.kp (by omega)
theorem Wk.km (h : Wk V W p q f) (hk : KM V) (h1 : 0 < p) (h2 : 0 < q) : KM W := hk.kept h.kp (by omega)
theorem Wk.ku (h : Wk V W p q f) (hk : KU V) (h1 : 1 < p) (h2 : 1 < q) : KU W := hk.kept h.kp (by omega)
/-- The answer is laid into its place. -/
theorem Wk.out (h : Wk V W p q f) : (SVb ⟨q, 0, none⟩ (bv f)).run Tryz.prog W = .ok () (W.setCells q 0 (bl 16 (cb f))) ∧ (LDb ⟨q, 0, none⟩).run Tryz.prog (W.setCells q 0 (bl 16 (cb f))) = .ok (bv f) (W.setCells q 0 (bl 16 (cb f))) ∧ Kp (fun x => x = p ∨ x = q) V (W.setCells q 0 (bl 16 (cb f))) := by
  refine ⟨SVb_run (h.b1.there 0 16 (by rw [bl_length]; omega)) (bl_length _ _) (bl_one _ _), ?_, h.kp.trans (Kp.setCells q 0 _) (fun _ _ e => .inr e)⟩
  have b := h.b1.put 0 (bl 16 (cb f))
  rw [put_all _ _ (by rw [bl_length, bl_length])] at b
  exact LDb_run (range0 b) (bl_length _ _)
end
set_option maxRecDepth 4000 in
theorem sliceB (W : World) (g : Nat) : (Instr.sliceAt 175 (.pointer (some ⟨g, 0, none⟩)) none none none).run Tryz.prog W = .ok (.slice (some ⟨g, 0, none⟩) 16 16) W := by
  have hl : Tryz.prog.arrayLen 175 = 16 := by kernel_rfl
  have hs : (sizeOf (Tryz.prog.elem 175)).run Tryz.prog W = .ok 1 W := by kernel_rfl
  have h := run_sliceAt_array_all (P := Tryz.prog) W 175 ⟨g, 0, none⟩ Tryz.underlying175
  rw [h, hs, hl, Result.andThen_ok, slicedAt]
  rfl
theorem KM.ld {W : World} (h : KM W) : (LDq ⟨0, 0, none⟩).run Tryz.prog W = .ok (.agg (bl 4 (cb m1)).toArray) W := LDq_run h (bl_length _ _)
theorem results_cell2 {P : Program} {fn : Func} {p q : Tmp} {ty : TypeId} {tmps : Array Value} {w : World} {a : Addr} {v u : Value} (h : fn.results = #[.cell p ty, .tmp q]) (ha : tmps.getD p undef = .pointer (some a)) (hq : tmps.getD q undef = u) (hl : (loadVar ty a).run P w = .ok v w) :
    (results fn tmps).run P w = .ok (.tuple #[v, u]) w := by
  have e1 : tmps[p]?.getD undef = .pointer (some a) := by rw [← ha]; simp [Array.getD_eq_getD_getElem?]
  have e2 : tmps[q]?.getD undef = u := by rw [← hq]; simp [Array.getD_eq_getD_getElem?]
  simp only [results, h]
  simp [e1, e2, asAddr, hl]
set_option maxRecDepth 8000 in
set_option maxHeartbeats 8000000 in
theorem enc_ci (S : Nat → Prop) (w0 w : World) (lo : Option Nat) (L : List Rn) (g k : Nat) (ws b : Nat → Nat) (hb : B16 b) (hc : Ci w g k ws) (h : LG S w0 w lo L) (h0 : Kp S w0 w) (hr : Room L) (hk : KM w0) (s0 : ¬ S 0) :
    Calls Tryz.prog 150 #[.pointer (some ⟨g, 0, none⟩), lpv lo, bv b] w fun e w' => e = .returned (.tuple #[bv (enc ws (k + 6) b), .int .i64 0]) ∧ LG S w0 w' lo (putL L ⟨5, ((4 * k : Nat) : Int), 1⟩) ∧ Kp S w0 w' ∧ Kt w w' := by
  have hk4 : 1 ≤ k := by have := hc.kk; omega
  have hk8 : k ≤ 8 := by have := hc.kk; omega
  have hp : 0 < w.heap.size := Nat.lt_of_lt_of_le hk.lt h0.size
  have bel := hid ((below_alloc w (.cells (bl 16 (cb b)).toArray 175)).alloc (by simp) (.cells (bl 16 (cb (upto 0 b))).toArray 175))
  have bel' := hid (show Below w.heap.size w _ from bel.out)
  have A0 := hid ((Blk.newAt w _ _ 175 _ rfl (rfl : (bl 16 (cb b)).toArray = (bl 16 (cb b)).toArray)).alloc (.cells (bl 16 (cb (upto 0 b))).toArray 175))
  have A1 := hid (Blk.newAt (w.alloc (.cells (bl 16 (cb b)).toArray 175)) _ (bl 16 (cb (upto 0 b))) 175 (w.heap.size + 1) (by simp) rfl)
  have HC := hid (hc.below bel.out)
  have HL := hid (h.below bel.out)
  have HK := hid (h0.trans (Kp.of_below S bel.out) (fun _ _ e => e))
  have HKM := hid hk
  have HR := hid hr
  have HS := hid s0
  have HBB := hid hb
  have hg := hc.glt
  have H0 := hid h0.size
  rw [← zero16 b] at bel A0 A1 HC HL HK
  clear h h0 hk hr s0 hc hb bel'
  unfold bv
  go_enter Tryz.func150, Tryz.ntmps150
  go_wp2_with fail
  generalize ((w.alloc (Obj.cells (bl 16 (cb b)).toArray 175)).alloc (Obj.cells #[Value.int IntKind.u8 0, Value.int IntKind.u8 0, Value.int IntKind.u8 0, Value.int IntKind.u8 0, Value.int IntKind.u8 0, Value.int IntKind.u8 0, Value.int IntKind.u8 0, Value.int IntKind.u8 0, Value.int IntKind.u8 0, Value.int IntKind.u8 0, Value.int IntKind.u8 0, Value.int IntKind.u8 0, Value.int IntKind.u8 0, Value.int IntKind.u8 0, Value.int IntKind.u8 0, Value.int IntKind.u8 0] 175)) = W2 at *
  have c0 := hid HC.out.c0
  refine (isNone_ci g k _ c0.out hk4).mono ?_
  rintro e w' ⟨rfl, hw'⟩
  subst w'
  go_wp2_with fail
  refine (keyLen_ci g k _ c0.out hk4 hk8).mono ?_
  rintro e w' ⟨rfl, hw'⟩
  subst w'
  go_wp2_with fail
  refine (note_lg S w0 _ lo L 5 ((4 * k : Nat) : Int) (by omega) (by omega) HL.out HK.out HR.out).mono ?_
  rintro e W3 ⟨rfl, l3, k3, t3⟩
  have L3 := hid l3
  have K3 := hid k3
  have T3 := hid t3
  have C3 := hid (show Ci W3 g k ws from ⟨t3.2 _ _ _ HC.out.here (by decide) (by decide), HC.out.kk, HC.out.lt⟩)
  have X := hid (show Wk W3 W3 w.heap.size (w.heap.size + 1) b from ⟨Kp.refl _ _, t3.2 _ _ _ A0.out (by decide) (by decide), t3.2 _ _ _ A1.out (by decide) (by decide), by omega, (t3.2 _ _ _ A0.out (by decide) (by decide)).lt⟩)
  have M3 := hid (HKM.out.kept k3 HS.out)
  clear l3 k3 t3 c0 HC HL HK A0 A1 HKM
  have c3 := hid C3.out.c0
  have fin : Hid (∀ W', Kp (fun x => x = w.heap.size ∨ x = w.heap.size + 1) W3 W' → LG S w0 W' lo (putL L ⟨5, ((4 * k : Nat) : Int), 1⟩) ∧ Kp S w0 W' ∧ Kt w W') := fun W' hk => by
    have z0 := H0.out
    have y0 := X.out.b0
    have y1 := X.out.b1
    refine ⟨L3.out.kept hk (fun g e => ?_), K3.out.trans hk (fun i hi e => by omega), Nat.le_trans bel.out.size (Nat.le_trans T3.out.1 hk.size), fun g' cs t hg' h1 h2 => ?_⟩
    · rcases e with rfl | rfl
      · exact ⟨_, _, y0, by decide, by decide⟩
      · exact ⟨_, _, y1, by decide, by decide⟩
    · have hlt := hg'.lt
      exact (T3.out.2 _ _ _ (hg'.below bel.out) h1 h2).kept hk (by omega)
  go_wp2_with fail
  refine (rounds_ci g k _ c3.out hk8).mono ?_
  rintro e w' ⟨rfl, hw'⟩
  subst w'
  obtain ⟨n, en⟩ : ∃ n, k + 6 = n := ⟨_, rfl⟩
  have hn : n ≤ 14 := by omega
  rw [en]
  have EN := hid en
  clear en
  have l1 := X.out.ld
  go_wp2_with fail
  refine (keyed1 g k ws b 0 (by omega) C3.out.lt HBB.out _ C3.out.here).mono ?_
  rintro e W4 ⟨rfl, hb4⟩
  have X4 := hid (X.out.below hb4)
  have s4 := X4.out.sv (adk ws 0 b)
  have X5 := hid (X4.out.st (adk ws 0 b))
  clear hb4 l1 X X4
  go_wp2_with fail
  generalize W4.setCells w.heap.size 0 (bl 16 (cb (adk ws 0 b))) = W5 at *
  clear s4
  go_loopw [9] (fun i wr => ∃ r : Nat, r ≤ n ∧ i = .int .i64 ((r : Int) + 1) ∧ Wk W3 wr w.heap.size (w.heap.size + 1) (encTo ws n b r)) (fun i _ => n + 1 - (intOf i).toNat)
  case atStart => exact ⟨0, Nat.zero_le _, rfl, X5.out⟩
  case round =>
    clear X5
    obtain ⟨r, hrn, rfl, x0⟩ := hrel
    have X0 := hid x0
    clear x0
    have EB := hid (encTo_b C3.out.lt n r HBB.out)
    have ES := hid (show encTo ws n b (r + 1) = rnd ws n (r + 1) (encTo ws n b r) from rfl)
    obtain ⟨f, ef⟩ : ∃ f, encTo ws n b r = f := ⟨_, rfl⟩
    rw [ef] at X0 EB ES
    have EF := hid ef
    clear ef
    by_cases hlt : r < n
    · by_cases hl2 : r + 1 < n
      · have hs1 := fun W => sliceB W w.heap.size
        have hd1 : decide ((r : Int) + 1 ≤ (n : Int)) = true := decide_eq_true (by omega)
        have hd2 : decide ((r : Int) + 1 < (n : Int)) = true := decide_eq_true (by omega)
        go_wp2_with fail
        refine (putBox w.heap.size 16 175 f EB.out (by omega) _ X0.out.b0).mono ?_
        rintro e W6 ⟨rfl, b6, k6⟩
        have X6 := hid (show Wk W3 W6 w.heap.size (w.heap.size + 1) (sub16 f) from X0.out.thru b6 k6)
        have l6 := X6.out.ld
        clear b6 k6 X0 hs1
        go_wp2_with fail
        refine (turned1 (sub16 f) _).mono ?_
        rintro e W7 ⟨rfl, hb7⟩
        have X7 := hid (X6.out.below hb7)
        have s7 := X7.out.sv (trn 1 (sub16 f))
        have X8 := hid (X7.out.st (trn 1 (sub16 f)))
        have l8 := X8.out.ld
        have q8 := (X8.out.km M3.out (by omega) (by omega)).ld
        clear hb7 l6 X6 X7
        go_wp2_with fail
        refine (mult1 m1 (trn 1 (sub16 f)) m1_lt (trn_b 1 (sub16_b f)) _).mono ?_
        rintro e W9 ⟨rfl, hb9⟩
        have X9 := hid (X8.out.below hb9)
        have s9 := X9.out.sv (mix m1 (trn 1 (sub16 f)))
        have Y := hid (X9.out.st (mix m1 (trn 1 (sub16 f))))
        have C9 := hid (Y.out.ci C3.out (by omega) (by omega))
        have l9 := Y.out.ld
        clear hb9 l8 q8 X8 X9
        go_wp2_with fail
        refine (keyed1 g k ws (mix m1 (trn 1 (sub16 f))) (r + 1) (by omega) C3.out.lt (mix_b _ _) _ C9.out.here).mono ?_
        rintro e W10 ⟨rfl, hb10⟩
        have X10 := hid (Y.out.below hb10)
        have s10 := X10.out.sv (adk ws (r + 1) (mix m1 (trn 1 (sub16 f))))
        have Z := hid (X10.out.st (adk ws (r + 1) (mix m1 (trn 1 (sub16 f)))))
        clear hb10 X10 l9 Y
        go_wp2_with fail
        refine ⟨⟨r + 1, by omega, by go_num, ?_⟩, by simp [intOf]; omega⟩
        rw [ES.out]
        unfold rnd
        rw [if_pos hl2]
        exact Z.out
      · have hs1 := fun W => sliceB W w.heap.size
        have hd1 : decide ((r : Int) + 1 ≤ (n : Int)) = true := decide_eq_true (by omega)
        have hd2 : decide ((r : Int) + 1 < (n : Int)) = false := decide_eq_false (by omega)
        go_wp2_with fail
        refine (putBox w.heap.size 16 175 f EB.out (by omega) _ X0.out.b0).mono ?_
        rintro e W6 ⟨rfl, b6, k6⟩
        have X6 := hid (show Wk W3 W6 w.heap.size (w.heap.size + 1) (sub16 f) from X0.out.thru b6 k6)
        have l6 := X6.out.ld
        clear b6 k6 X0 hs1
        go_wp2_with fail
        refine (turned1 (sub16 f) _).mono ?_
        rintro e W7 ⟨rfl, hb7⟩
        have X7 := hid (X6.out.below hb7)
        have s7 := X7.out.sv (trn 1 (sub16 f))
        have X8 := hid (X7.out.st (trn 1 (sub16 f)))
        have l8 := X8.out.ld
        have C9 := hid (X8.out.ci C3.out (by omega) (by omega))
        clear hb7 l6 X6 X7
        go_wp2_with fail
        refine (keyed1 g k ws (trn 1 (sub16 f)) (r + 1) (by omega) C3.out.lt (trn_b 1 (sub16_b f)) _ C9.out.here).mono ?_
        rintro e W10 ⟨rfl, hb10⟩
        have X10 := hid (X8.out.below hb10)
        have s10 := X10.out.sv (adk ws (r + 1) (trn 1 (sub16 f)))
        have Z := hid (X10.out.st (adk ws (r + 1) (trn 1 (sub16 f))))
        clear hb10 X10 l8 X8
        go_wp2_with fail
        refine ⟨⟨r + 1, by omega, by go_num, ?_⟩, by simp [intOf]; omega⟩
        rw [ES.out]
        unfold rnd
        rw [if_neg hl2]
        exact Z.out
    · have er : r = n := by omega
      subst er
      have EQ := hid (show enc ws (k + 6) b = f from by rw [EN.out]; exact EF.out)
      have hd1 : decide ((r : Int) + 1 ≤ (r : Int)) = false := decide_eq_false (by omega)
      have l1 := X0.out.ld
      obtain ⟨s1, lz, kz⟩ := X0.out.out
      have LZ := hid lz
      have KZ := hid kz
      clear lz kz
      go_wp2_with fail
      refine bodyPost_ret ?_ rfl ⟨rfl, fin.out _ KZ.out⟩
      rw [EQ.out]
      exact results_cell2 Tryz.results150 rfl rfl LZ.out
end Go.Proofs.YtpohogpkfdebdaaGreatDoor.Ae
