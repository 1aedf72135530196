/- The program's mac gone on with: bytes copied into what waits; no function of the program in it. -/
import Derived.Test.YtnncgniiceglaabDoorVsum
namespace Go.Proofs.YtnncgniiceglaabDoor.Vm
open Go.ChangeShapes Go.WideShapes Go.ChangeAt Go.RowKit
open Go.Proofs.YtnncgniiceglaabDoor.By Go.Proofs.YtnncgniiceglaabDoor.Gf Go.Proofs.YtnncgniiceglaabDoor.Ae
theorem copy_run (W : World) (b o k A C pb po : Nat) (ty : TypeId) (cells : List Value) (f : Nat → Int) (hb : Blk W b cells 49) (hl : cells.length = 66) (ho : o + k ≤ 16) (hk : k = Nat.min A (16 - o)) (hs : ∀ i, i < k → W.cell? ⟨pb, po + i, none⟩ = some (.int .u8 (f i))) :
    (Builtin.copy_ #[28, 28] ty #[.slice (some ⟨b, 49 + o, none⟩) (16 - o) (16 - o), .slice (some ⟨pb, po, none⟩) A C]).run Tryd.prog W = .ok (.int .i64 k) (W.setCells b (49 + o) (bl k f)) := by
  have h := run_copy_cells (P := Tryd.prog) W 28 28 ty 5 b (49 + o) (16 - o) (16 - o) ⟨pb, po, none⟩ A C (bl k f) Tryd.underlying28 (by kernel_rfl) (by rw [bl_length]; exact hk)
    (fun j v hj => by obtain ⟨hj1, rfl⟩ := bl_get_inv _ _ _ _ hj; rw [By.add_plain]; exact hs j hj1)
    (fun j hj => (hb.there (49 + o) k (by omega) j (by rwa [bl_length] at hj)).1) (fun j hj => hb.frozen _) (bl_one k f)
  rw [bl_length] at h
  exact h
theorem sliceW (b o : Nat) (ho : o < 16) (w : World) : (Instr.sliceAt 34 (.pointer (some ⟨b, 49, none⟩)) (some (.int .i64 o)) none none).run Tryd.prog w = .ok (.slice (some ⟨b, 49 + o, none⟩) (16 - o) (16 - o)) w := by
  have h1 : (o : Int) ≤ 16 := by omega
  have h2 : ¬ 16 = o := by omega
  simp [Instr.sliceAt, go_sem, h1, h2]
def sub (a : Option Addr) (cap : Nat) (l h : Int) : Value := .slice (if cap = l.toNat then a else a.map (·.add (l.toNat * 1))) (h.toNat - l.toNat) (cap - l.toNat)
theorem size5 (w : World) : (sizeOf (Tryd.prog.elem 28)).run Tryd.prog w = .ok 1 w := by kernel_rfl
theorem elem22 : Tryd.prog.underlying 28 = some (.slice (Tryd.prog.elem 28)) := by kernel_rfl
@[go_sem high] theorem sub_l (w : World) (a : Option Addr) (n cap : Nat) (l : Int) (h0 : 0 ≤ l) (h1 : l ≤ n) : (Instr.sliceAt 28 (.slice a n cap) (some (.int .i64 l)) none none).run Tryd.prog w = .ok (sub a cap l n) w := by
  rw [run_sliceAt_slice w 28 _ _ _ _ elem22, run_slice_l w 28 a n cap elem22 .i64 l h0 h1, size5]
  rfl
/-- A slice's length. -/
def slLen : Value → Nat
  | .slice _ n _ => n
  | _ => 0
theorem sub_next (pb p n cap k : Nat) (hn : n ≤ cap) : ∃ A, sub (some ⟨pb, p, none⟩) cap k n = .slice A (n - k) (cap - k) ∧ (k < n → A = some ⟨pb, p + k, none⟩) := by
  refine ⟨if cap = ((k : Int)).toNat then some ⟨pb, p, none⟩ else (some (⟨pb, p, none⟩ : Addr)).map (·.add (((k : Int)).toNat * 1)), by unfold sub; rw [Int.toNat_natCast, Int.toNat_natCast], fun h => ?_⟩
  rw [Int.toNat_natCast, if_neg (by omega), Nat.mul_one, Option.map_some, By.add_plain]
theorem nbl_at {N B c t : Nat} (h : 16 * B + c = N) (h1 : 1 ≤ t) (h2 : c + t ≤ 16) : nbl (N + t) = B ∧ ctn (N + t) = c + t := by
  unfold ctn nbl; omega
theorem full_pure {n j c t : Nat} (hc : ctn (n + j) = 16) (h0 : c = 0) (ht0 : 1 ≤ t) (ht : t ≤ 16) : 16 * (nbl (n + j) + 1) + c = n + j ∧ nbl (n + j + t) - nbl n = nbl (n + j) - nbl n + 1 := by
  subst h0
  have h1 := nbl_ct (n + j)
  have h2 := (nbl_at (N := n + j) (B := nbl (n + j) + 1) (c := 0) (t := t) (by omega) ht0 (by omega)).1
  refine ⟨by omega, ?_⟩
  rw [h2]
  have : nbl n ≤ nbl (n + j) := by unfold nbl; omega
  omega
theorem min_pure {a c t : Nat} (ha : 0 < a) (hc : c < 16) (h : Nat.min a (16 - c) = t) : 0 < t ∧ t ≤ a ∧ t ≤ 16 - c ∧ c + t ≤ 16 := by
  have h1 : t ≤ a := by rw [← h]; exact Nat.min_le_left _ _
  have h2 : t ≤ 16 - c := by rw [← h]; exact Nat.min_le_right _ _
  have h3 : 0 < t := by rw [← h]; exact Nat.lt_min.2 ⟨by omega, by omega⟩
  exact ⟨h3, h1, h2, by omega⟩
/-- On the way through Write: B blocks are enciphered, c bytes wait. -/
structure Rw (S : Nat → Prop) (w0 w : World) (lo : Option Nat) (L : List Rn) (g gc k B c : Nat) (ws M C D : Nat → Nat) (V : World) : Prop where
  here : Blk V g (mcl (.pointer (some ⟨gc, 0, none⟩)) (sk1 ws (k + 6)) (sk2 ws (k + 6)) C D c) 49
  ci : Ci V gc k ws
  ch : E16 C (chn ws (k + 6) M B)
  dd : ∀ i, i < 16 → D i = if i < c then M (16 * B + i) else 0
  lg : LG S w0 V lo L
  kp : Kp S w0 V
  kx : Kx g w V
section
variable {S : Nat → Prop} {w0 w V V' : World} {lo : Option Nat} {L : List Rn} {g gc k B c n : Nat} {ws M C D m : Nat → Nat}
theorem Rw.below (h : Rw S w0 w lo L g gc k B c ws M C D V) (hb : Below V.heap.size V V') : Rw S w0 w lo L g gc k B c ws M C D V' :=
  ⟨h.here.below hb, h.ci.below hb, h.ch, h.dd, h.lg.below hb, h.kp.trans (Kp.of_below S hb) (fun _ _ e => e), Nat.le_trans h.kx.1 hb.size, fun x cs t hx hc h1 h2 => (h.kx.2 x cs t hx hc h1 h2).below hb⟩
theorem Rw.dr (h : Rw S w0 w lo L g gc k B c ws M C D V) : Rw S w0 w lo L g gc k B c ws M C D V.drew := h.below (below_drewN V 1)
/-- The mac's own block is stored to. -/
theorem Rw.own (h : Rw S w0 w lo L g gc k B c ws M C D V) (hk : Kp (fun j => j = g) V V') (hS : g < w0.heap.size → S g) : Ci V' gc k ws ∧ LG S w0 V' lo L ∧ Kp S w0 V' ∧ Kx g w V' := by
  have hne : gc ≠ g := h.ci.here.ne h.here (by decide)
  refine ⟨h.ci.kept hk hne, h.lg.kept hk (fun x e => by have e' : x = g := e; subst e'; exact ⟨_, _, h.here, by decide, by decide⟩), h.kp.trans hk (fun i hi e => by have e' : i = g := e; subst e'; exact hS hi), Nat.le_trans h.kx.1 hk.size, fun x cs t hx hc h1 h2 => (h.kx.2 x cs t hx hc h1 h2).kept hk hx⟩
theorem Rw.of (hm : Mc V g gc k ws n M) (hl : LG S w0 V lo L) (h0 : Kp S w0 V) (hx : Kx g w V) : Rw S w0 w lo L g gc k (nbl n) (ctn n) ws M (chn ws (k + 6) M (nbl n)) (wtn M n) V :=
  ⟨hm.here, hm.ci, E16.refl _, fun _ _ => rfl, hl, h0, hx⟩
theorem Rw.c0 (h : Rw S w0 w lo L g gc k B c ws M C D V) : V.cell? ⟨g, 0, none⟩ = some (.pointer (some ⟨gc, 0, none⟩)) := h.here.cell 0 _ rfl
theorem Rw.cn (h : Rw S w0 w lo L g gc k B c ws M C D V) : V.cell? ⟨g, 65, none⟩ = some (.int .i64 (c : Int)) := h.here.cell 65 _ (mcl_n _ _ _ _ _ _)
theorem Rw.kt (h : Rw S w0 w lo L g gc k B c ws M C D V) {L' : List Rn} (hl : LG S w0 V' lo L') (h0 : Kp S w0 V') (ht : Kt V V') : Rw S w0 w lo L' g gc k B c ws M C D V' :=
  ⟨ht.2 _ _ _ h.here (by decide) (by decide), ⟨ht.2 _ _ _ h.ci.here (by decide) (by decide), h.ci.kk, h.ci.lt⟩, h.ch, h.dd, hl, h0, Nat.le_trans h.kx.1 ht.1, fun x cs t hx hc h1 h2 => ht.2 _ _ _ (h.kx.2 x cs t hx hc h1 h2) h1 h2⟩
theorem Rw.fullx (h : Rw S w0 w lo L g gc k B c ws M C D V) (E : Nat → Nat) :
    (SVb ⟨g, 49, none⟩ (.agg z16.toArray)).run Tryd.prog (V.setCells g 33 (bl 16 (cb E))) = .ok () ((V.setCells g 33 (bl 16 (cb E))).setCells g 49 z16) ∧ ((V.setCells g 33 (bl 16 (cb E))).setCells g 49 z16).frozen? ⟨g, 65, none⟩ = false ∧ ((V.setCells g 33 (bl 16 (cb E))).setCells g 49 z16).cell? ⟨g, 65, none⟩ = some (.int .i64 (c : Int)) := by
  have b1 := h.here.put 33 (bl 16 (cb E))
  rw [put_c] at b1
  have b2 := b1.put 49 z16
  unfold z16 at b2
  rw [put_d _ _ _ _ _ nought _ 0 16 nought (by omega) (fun i hi => by rw [if_pos (by omega)]; rfl)] at b2
  exact ⟨SVb_run (cs := z16) (b1.there 49 16 (by rw [mcl_len]; omega)) z16_len (bl_one _ _), b2.frozen 65, b2.cell 65 _ (mcl_n _ _ _ _ _ _)⟩
theorem Rw.donex (h : Rw S w0 w lo L g gc k B c ws M C D V) (t : Nat) (f : Nat → Nat) (ht : c + t ≤ 16) :
    (V.setCells g (49 + c) (bl t (cb f))).cell? ⟨g, 65, none⟩ = some (.int .i64 (c : Int)) ∧ (V.setCells g (49 + c) (bl t (cb f))).frozen? ⟨g, 65, none⟩ = false := by
  have b6 := h.here.put (49 + c) (bl t (cb f))
  refine ⟨b6.cell 65 _ ?_, b6.frozen 65⟩
  rw [put_get _ _ _ _ (by rw [mcl_len, bl_length]; omega), bl_length, if_neg (by omega), mcl_n]
/-- The copy of a piece. -/
theorem Rw.copy (h : Rw S w0 w lo L g gc k B c ws M C D V) (q j t cap pb po : Nat) (f : Nat → Nat) (hrb : By.RB V (.slice (some ⟨pb, po, none⟩) q cap) q (cb f)) (hc : c < 16) (ht : Nat.min (q - j) (16 - c) = t) (hj : j < q) (ty : TypeId) :
    (Builtin.copy_ #[28, 28] ty #[.slice (some ⟨g, 49 + c, none⟩) (16 - c) (16 - c), .slice (some ⟨pb, po + j, none⟩) (q - j) (cap - j)]).run Tryd.prog V = .ok (.int .i64 t) (V.setCells g (49 + c) (bl t (cb (fun i => f (j + i))))) := by
  have ht1 : t ≤ q - j := by rw [← ht]; exact Nat.min_le_left _ _
  have ht2 : t ≤ 16 - c := by rw [← ht]; exact Nat.min_le_right _ _
  refine copy_run V g c t (q - j) (cap - j) pb (po + j) ty _ (cb (fun i => f (j + i))) h.here (mcl_len _ _ _ _ _ _) (by omega) ht.symm (fun i hi => ?_)
  obtain ⟨_, a', cap', he, _, _, h1 | ⟨b, off, h1, hcell⟩⟩ := hrb
  · omega
  · simp at he
    rw [h1] at he
    simp at he
    obtain ⟨⟨rfl, rfl⟩, rfl⟩ := he
    rw [Nat.add_assoc]; exact hcell (j + i) (by omega)
/-- The full block is enciphered, and what waits is empty. -/
theorem Rw.full (h : Rw S w0 w lo L g gc k B c ws M C D V) (hc : c = 16) (hS : g < w0.heap.size → S g) :
    Rw S w0 w lo L g gc k (B + 1) 0 ws M (enc ws (k + 6) (xr C D)) nought (((V.setCells g 33 (bl 16 (cb (enc ws (k + 6) (xr C D))))).setCells g 49 z16).setCell ⟨g, 65, none⟩ (.int .i64 0)) := by
  have hk : Kp (fun j => j = g) V (((V.setCells g 33 (bl 16 (cb (enc ws (k + 6) (xr C D))))).setCells g 49 z16).setCell ⟨g, 65, none⟩ (.int .i64 0)) := ((Kp.setCells g _ _).trans (Kp.setCells g _ _) (fun _ _ e => e)).trans (Kp.setCell g 65 _) (fun _ _ e => e)
  obtain ⟨a1, a2, a3, a4⟩ := h.own hk hS
  have b1 := ((h.here.put 33 (bl 16 (cb (enc ws (k + 6) (xr C D))))).put 49 z16).set 65 (.int .i64 0)
  rw [put_c] at b1
  unfold z16 at b1
  rw [put_d _ _ _ _ _ nought _ 0 16 nought (by omega) (fun i hi => by rw [if_pos (by omega)]; rfl)] at b1
  have e := mcl_set (.pointer (some ⟨gc, 0, none⟩)) (sk1 ws (k + 6)) (sk2 ws (k + 6)) (enc ws (k + 6) (xr C D)) nought c 0
  rw [show ((0 : Nat) : Int) = 0 from rfl] at e
  rw [e] at b1
  refine ⟨b1, a1, ?_, fun i _ => by rw [if_neg (by omega)]; rfl, a2, a3, a4⟩
  refine enc_e _ _ (xr_e h.ch (fun i hi => ?_))
  rw [h.dd i hi, if_pos (by omega)]; rfl
/-- Bytes are copied, the count is stored. -/
theorem Rw.done (h : Rw S w0 w lo L g gc k B c ws M C D V) (hS : g < w0.heap.size → S g) {N t j : Nat} {f : Nat → Nat} (hN : 16 * B + c = N) (h1 : 1 ≤ t) (h2 : c + t ≤ 16) (hf : ∀ i, i < t → f (j + i) = M (N + i)) (hM : ∀ i, M i < 256) :
    Mc ((V.setCells g (49 + c) (bl t (cb (fun i => f (j + i))))).setCell ⟨g, 65, none⟩ (.int .i64 ((c + t : Nat) : Int))) g gc k ws (N + t) M ∧ LG S w0 ((V.setCells g (49 + c) (bl t (cb (fun i => f (j + i))))).setCell ⟨g, 65, none⟩ (.int .i64 ((c + t : Nat) : Int))) lo L ∧ Kp S w0 ((V.setCells g (49 + c) (bl t (cb (fun i => f (j + i))))).setCell ⟨g, 65, none⟩ (.int .i64 ((c + t : Nat) : Int))) ∧ Kx g w ((V.setCells g (49 + c) (bl t (cb (fun i => f (j + i))))).setCell ⟨g, 65, none⟩ (.int .i64 ((c + t : Nat) : Int))) := by
  obtain ⟨e1, e2⟩ := nbl_at hN h1 h2
  have hk : Kp (fun j => j = g) V ((V.setCells g (49 + c) (bl t (cb (fun i => f (j + i))))).setCell ⟨g, 65, none⟩ (.int .i64 ((c + t : Nat) : Int))) := (Kp.setCells g _ _).trans (Kp.setCell g 65 _) (fun _ _ e => e)
  obtain ⟨a1, a2, a3, a4⟩ := h.own hk hS
  refine ⟨⟨?_, a1, hM⟩, a2, a3, a4⟩
  have b1 := (h.here.put (49 + c) (bl t (cb (fun i => f (j + i))))).set 65 (.int .i64 ((c + t : Nat) : Int))
  rw [put_d _ _ _ _ _ (wtn M (N + t)) _ c t (fun i => f (j + i)) h2 (fun i hi => by
    unfold wtn
    rw [e1, e2]
    by_cases hc : c ≤ i ∧ i < c + t
    · rw [if_pos hc, if_pos hc.2]
      show f (j + (i - c)) = _
      rw [hf _ (by omega), ← hN]
      congr 1; omega
    · rw [if_neg hc, h.dd i hi]
      by_cases hi2 : i < c
      · rw [if_pos hi2, if_pos (by omega)]
      · rw [if_neg hi2, if_neg (by omega)]), mcl_set, mcl_e _ _ (E16.refl _) (E16.refl _) h.ch (E16.refl _)] at b1
  rw [e1, e2]
  exact b1
end
end Go.Proofs.YtnncgniiceglaabDoor.Vm
