/- The document's Encrypt and Decrypt of a block. The document's Decrypt of a block. The document's Form of round keys; its words, one by one. -/
import Derived.Test.YtbgdjjfonmoemaaDoorYl
import Derived.Test.YtbgdjjfonmoemaaDoorYk
import Derived.Test.YtbgdjjfonmoemaaDoorYj
import Derived.Test.YtbgdjjfonmoemaaDoorYa
import Derived.Deep.AppendLies
namespace Go.Proofs.YtbgdjjfonmoemaaDoor.Ae
open Go.ChangeShapes Go.WideShapes Go.ChangeAt Go.RowKit
open Go.Proofs.YtbgdjjfonmoemaaDoor.By Go.Proofs.YtbgdjjfonmoemaaDoor.Gf
theorem Wk.set1 {V W : World} {p q : Nat} {f f' : Nat → Nat} (h : Wk V W p q f) (i : Nat) (x : Int) (e : (bl 16 (cb f)).set i (.int .u8 x) = bl 16 (cb f')) : Wk V (W.setCell ⟨p, i, none⟩ (.int .u8 x)) p q f' :=
  ⟨h.kp.trans (Kp.setCell p i _) (fun _ _ e => .inl e), by rw [← e]; exact h.b0.set i _, h.b1.other (fun e => h.ne e.symm) _ _, h.ne, h.lt⟩
theorem Wk.drew {V W : World} {p q : Nat} {f : Nat → Nat} (h : Wk V W p q f) : Wk V W.drew p q f := h.below (below_drewN W 1)
theorem Wk.ra {V W : World} {p q g n : Nat} {wv : Value} {f ws : Nat → Nat} (h : Wk V W p q f) (hr : RA V g wv n ws) (h1 : g < p) (h2 : g < q) (h3 : ∀ x, wv.ownBlock = some x → x < p ∧ x < q) : RA W g wv n ws :=
  hr.kept h.kp (by omega) (fun x hx => by have := h3 x hx; omega)
theorem wk_new (w : World) (b : Nat → Nat) : Wk ((w.alloc (.cells (bl 16 (cb b)).toArray 82)).alloc (.cells #[Value.int IntKind.u8 0, Value.int IntKind.u8 0, Value.int IntKind.u8 0, Value.int IntKind.u8 0, Value.int IntKind.u8 0, Value.int IntKind.u8 0, Value.int IntKind.u8 0, Value.int IntKind.u8 0, Value.int IntKind.u8 0, Value.int IntKind.u8 0, Value.int IntKind.u8 0, Value.int IntKind.u8 0, Value.int IntKind.u8 0, Value.int IntKind.u8 0, Value.int IntKind.u8 0, Value.int IntKind.u8 0] 82)) ((w.alloc (.cells (bl 16 (cb b)).toArray 82)).alloc (.cells #[Value.int IntKind.u8 0, Value.int IntKind.u8 0, Value.int IntKind.u8 0, Value.int IntKind.u8 0, Value.int IntKind.u8 0, Value.int IntKind.u8 0, Value.int IntKind.u8 0, Value.int IntKind.u8 0, Value.int IntKind.u8 0, Value.int IntKind.u8 0, Value.int IntKind.u8 0, Value.int IntKind.u8 0, Value.int IntKind.u8 0, Value.int IntKind.u8 0, Value.int IntKind.u8 0, Value.int IntKind.u8 0] 82)) w.heap.size (w.heap.size + 1) b :=
  ⟨Kp.refl _ _, (Blk.newAt w _ _ 82 _ rfl rfl).alloc _, Blk.newAt _ _ _ _ _ (by simp) (zero16 b), by omega, by simp; omega⟩
theorem lit_m1 : #[Value.int IntKind.u8 2, Value.int IntKind.u8 3, Value.int IntKind.u8 1, Value.int IntKind.u8 1] = (bl 4 (cb m1)).toArray := rfl
theorem lit_m2 : #[Value.int IntKind.u8 14, Value.int IntKind.u8 11, Value.int IntKind.u8 13, Value.int IntKind.u8 9] = (bl 4 (cb m2)).toArray := rfl
set_option maxRecDepth 8000 in
set_option maxHeartbeats 8000000 in
theorem renc (g n : Nat) (wv : Value) (ws b : Nat → Nat) (hb : B16 b) (w : World) (h : RA w g wv (4 * (n + 1)) ws) (hn : n ≤ 14) : Calls Tryd.prog 67 #[.pointer (some ⟨g, 0, none⟩), bv b] w fun e w' => e = .returned (bv (enc ws n b)) ∧ Below w.heap.size w w' := by
  have hg := h.glt
  have WL := hid h.lt
  have HBB := hid hb
  obtain ⟨qq, cap, ewv, _, hq, _⟩ := h.shape (by omega)
  have HO := hid (show ∀ x, wv.ownBlock = some x → x < w.heap.size ∧ x < w.heap.size + 1 from fun x hx => by rw [ewv] at hx; simp [Value.ownBlock] at hx; omega)
  have X := hid (wk_new w b)
  have R2 := hid (h.below ((below_alloc w (.cells (bl 16 (cb b)).toArray 82)).alloc (by simp) (.cells #[Value.int IntKind.u8 0, Value.int IntKind.u8 0, Value.int IntKind.u8 0, Value.int IntKind.u8 0, Value.int IntKind.u8 0, Value.int IntKind.u8 0, Value.int IntKind.u8 0, Value.int IntKind.u8 0, Value.int IntKind.u8 0, Value.int IntKind.u8 0, Value.int IntKind.u8 0, Value.int IntKind.u8 0, Value.int IntKind.u8 0, Value.int IntKind.u8 0, Value.int IntKind.u8 0, Value.int IntKind.u8 0] 82)))
  have HB2 := hid ((below_alloc w (.cells (bl 16 (cb b)).toArray 82)).alloc (by simp) (.cells #[Value.int IntKind.u8 0, Value.int IntKind.u8 0, Value.int IntKind.u8 0, Value.int IntKind.u8 0, Value.int IntKind.u8 0, Value.int IntKind.u8 0, Value.int IntKind.u8 0, Value.int IntKind.u8 0, Value.int IntKind.u8 0, Value.int IntKind.u8 0, Value.int IntKind.u8 0, Value.int IntKind.u8 0, Value.int IntKind.u8 0, Value.int IntKind.u8 0, Value.int IntKind.u8 0, Value.int IntKind.u8 0] 82))
  clear h hb ewv hq
  have l0 := X.out.ld
  unfold bv
  go_enter Tryd.func67, Tryd.ntmps67
  go_wp2_with fail
  generalize ((w.alloc (Obj.cells (bl 16 (cb b)).toArray 82)).alloc (Obj.cells #[Value.int IntKind.u8 0, Value.int IntKind.u8 0, Value.int IntKind.u8 0, Value.int IntKind.u8 0, Value.int IntKind.u8 0, Value.int IntKind.u8 0, Value.int IntKind.u8 0, Value.int IntKind.u8 0, Value.int IntKind.u8 0, Value.int IntKind.u8 0, Value.int IntKind.u8 0, Value.int IntKind.u8 0, Value.int IntKind.u8 0, Value.int IntKind.u8 0, Value.int IntKind.u8 0, Value.int IntKind.u8 0] 82)) = W2 at *
  refine (radd g n 0 wv ws b HBB.out W2 R2.out (by omega) hn).mono ?_
  rintro e W4 ⟨rfl, hb4⟩
  have X4 := hid (X.out.below hb4)
  have s4 := X4.out.sv (adk ws 0 b)
  have X5 := hid (X4.out.st (adk ws 0 b))
  clear hb4 l0 X X4
  go_wp2_with fail
  generalize W4.setCells w.heap.size 0 (bl 16 (cb (adk ws 0 b))) = W5 at *
  clear s4
  go_loopw [5, 6] (fun i _ wr => ∃ r : Nat, r ≤ n ∧ i = .int .i64 ((r : Int) + 1) ∧ Wk W2 wr w.heap.size (w.heap.size + 1) (encTo ws n b r)) (fun i _ _ => n + 1 - (intOf i).toNat)
  case atStart => exact ⟨0, Nat.zero_le _, rfl, X5.out⟩
  case round =>
    clear X5
    obtain ⟨r, hrn, rfl, x0⟩ := hrel
    have X0 := hid x0
    clear x0
    have EB := hid (encTo_b WL.out n r HBB.out)
    have ES := hid (show encTo ws n b (r + 1) = rnd ws n (r + 1) (encTo ws n b r) from rfl)
    have RD : Hid (∀ W f', Wk W2 W w.heap.size (w.heap.size + 1) f' → Calls Tryd.prog 85 #[.pointer (some ⟨g, 0, none⟩)] W fun e w' => e = .returned (.int .i64 (n : Int)) ∧ w' = W) := fun W f' hw => rrounds g n wv ws W (hw.ra R2.out (by omega) (by omega) HO.out) hn
    have RB : Hid (∀ W f', Wk W2 W w.heap.size (w.heap.size + 1) f' → RA W g wv (4 * (n + 1)) ws) := fun W f' hw => hw.ra R2.out (by omega) (by omega) HO.out
    obtain ⟨f, ef⟩ : ∃ f, encTo ws n b r = f := ⟨_, rfl⟩
    rw [ef] at X0 EB ES
    have EF := hid ef
    clear ef
    by_cases hlt : r < n
    · have hd1 : decide ((r : Int) + 1 ≤ (n : Int)) = true := decide_eq_true (by omega)
      go_wp2_with fail
      refine (RD.out wr f X0.out).mono ?_
      rintro e w' ⟨rfl, hw'⟩
      subst w'
      go_wp2_with fail
      go_loopw [6] (fun i wr => ∃ k : Nat, k ≤ 16 ∧ i = .int .i64 k ∧ Wk W2 wr w.heap.size (w.heap.size + 1) (thru box f k)) (fun i _ => 16 - (intOf i).toNat)
      case atStart =>
        refine ⟨0, by omega, rfl, X0.out.kp, ?_, X0.out.b1, X0.out.ne, X0.out.lt⟩
        rw [thru_zero]; exact X0.out.b0
      case round =>
        clear X0
        obtain ⟨k, hk, rfl, x1⟩ := hrel
        have X1 := hid x1
        clear x1
        by_cases hk16 : k < 16
        · have hd : decide ((k : Int) < 16) = true := decide_eq_true (by omega)
          have x1 := X1.out.b0.cell k _ (bl_get 16 _ k hk16)
          have f1 := X1.out.b0.frozen k
          have hx := EB.out k hk16
          rw [show cb (thru box f k) k = ((f k : Nat) : Int) from congrArg Nat.cast (thru_at box f k)] at x1
          have HS := hid (thru_set box f 16 k)
          obtain ⟨x, ex⟩ : ∃ x, f k = x := ⟨_, rfl⟩
          rw [ex] at x1 hx HS
          clear ex
          have x2 := (RB.out wr _ X1.out).cbx x hx
          have ix : (x : Int) < 256 := by omega
          go_wp2_with fail
          go_region
          all_goals
            go_simp
            go_wp2_with fail
            exact ⟨⟨k + 1, by omega, by go_num, X1.out.drew.set1 k _ HS.out⟩, by simp [intOf]; omega⟩
        · have ek : k = 16 := by omega
          subst ek
          have X6 := hid (show Wk W2 wr w.heap.size (w.heap.size + 1) (sub16 f) from ⟨X1.out.kp, by have h := X1.out.b0; rw [thru_all] at h; exact h, X1.out.b1, X1.out.ne, X1.out.lt⟩)
          have l6 := X6.out.ld
          clear X1
          go_wp2_with fail
          refine (rturned 1 (by omega) (sub16 f) _).mono ?_
          rintro e W7 ⟨rfl, hb7⟩
          have X7 := hid (X6.out.below hb7)
          have s7 := X7.out.sv (trn 1 (sub16 f))
          have X8 := hid (X7.out.st (trn 1 (sub16 f)))
          clear hb7 l6 X6 X7
          go_wp2_with fail
          generalize W7.setCells w.heap.size 0 (bl 16 (cb (trn 1 (sub16 f)))) = W8 at *
          clear s7
          refine (RD.out W8 _ X8.out).mono ?_
          rintro e w' ⟨rfl, hw'⟩
          subst w'
          by_cases hl2 : r + 1 < n
          · have hd2 : decide ((r : Int) + 1 < (n : Int)) = true := decide_eq_true (by omega)
            have l8 := X8.out.ld
            go_wp2_with fail
            refine (rmixed m1 (trn 1 (sub16 f)) m1_lt (trn_b 1 (sub16_b f)) _).mono ?_
            rintro e W9 ⟨rfl, hb9⟩
            have X9 := hid (X8.out.below hb9)
            have s9 := X9.out.sv (mix m1 (trn 1 (sub16 f)))
            have Y := hid (X9.out.st (mix m1 (trn 1 (sub16 f))))
            have l9 := Y.out.ld
            clear hb9 l8 X8 X9
            go_wp2_with fail
            refine (radd g n (r + 1) wv ws (mix m1 (trn 1 (sub16 f))) (mix_b _ _) _ (RB.out _ _ Y.out) (by omega) hn).mono ?_
            rintro e W10 ⟨rfl, hb10⟩
            have X10 := hid (Y.out.below hb10)
            have s10 := X10.out.sv (adk ws (r + 1) (mix m1 (trn 1 (sub16 f))))
            have Z := hid (X10.out.st (adk ws (r + 1) (mix m1 (trn 1 (sub16 f)))))
            clear hb10 X10 l9 Y
            go_wp2_with fail
            refine ⟨⟨r + 1, by omega, by go_num, ?_⟩, by simp [intOf]; omega⟩
            rw [ES.out]
            unfold rnd
            rw [if_pos hl2]
            exact Z.out
          · have hd2 : decide ((r : Int) + 1 < (n : Int)) = false := decide_eq_false (by omega)
            have l8 := X8.out.ld
            go_wp2_with fail
            refine (radd g n (r + 1) wv ws (trn 1 (sub16 f)) (trn_b 1 (sub16_b f)) _ (RB.out _ _ X8.out) (by omega) hn).mono ?_
            rintro e W10 ⟨rfl, hb10⟩
            have X10 := hid (X8.out.below hb10)
            have s10 := X10.out.sv (adk ws (r + 1) (trn 1 (sub16 f)))
            have Z := hid (X10.out.st (adk ws (r + 1) (trn 1 (sub16 f))))
            clear hb10 X10 l8 X8
            go_wp2_with fail
            refine ⟨⟨r + 1, by omega, by go_num, ?_⟩, by simp [intOf]; omega⟩
            rw [ES.out]
            unfold rnd
            rw [if_neg hl2]
            exact Z.out
    · have er : r = n := by omega
      subst er
      have hd1 : decide ((r : Int) + 1 ≤ (r : Int)) = false := decide_eq_false (by omega)
      go_wp2_with fail
      refine (RD.out wr f X0.out).mono ?_
      rintro e w' ⟨rfl, hw'⟩
      subst w'
      have EQ := hid (show enc ws r b = f from EF.out)
      have l1 := X0.out.ld
      obtain ⟨s1, lz, kz⟩ := X0.out.out
      have LZ := hid lz
      have KZ := hid kz
      clear lz kz
      go_wp2_with fail
      refine bodyPost_ret ?_ rfl ⟨rfl, HB2.out.trans (KZ.out.below HB2.out.size (fun x hx e => by omega))⟩
      rw [EQ.out]
      exact results_cell1 Tryd.results67 rfl LZ.out
end Go.Proofs.YtbgdjjfonmoemaaDoor.Ae
namespace Go.Proofs.YtbgdjjfonmoemaaDoor.Ae
open Go.ChangeShapes Go.WideShapes Go.ChangeAt Go.RowKit
open Go.Proofs.YtbgdjjfonmoemaaDoor.By Go.Proofs.YtbgdjjfonmoemaaDoor.Gf
/-- The way back, of the first i bytes of the box. -/
def bkTo (i y : Nat) : Nat := if back y < i then back y else 0
theorem bkTo_set (i : Nat) (hi : i < 256) : (bl 256 (cb (bkTo i))).set (box i) (.int .u8 ((i : Nat) : Int)) = bl 256 (cb (bkTo (i + 1))) := by
  rw [bl_set]
  refine bl_congr _ _ _ (fun y hy => ?_)
  show (if y = box i then ((i : Nat) : Int) else ((bkTo i y : Nat) : Int)) = ((bkTo (i + 1) y : Nat) : Int)
  unfold bkTo
  by_cases e : y = box i
  · rw [if_pos e, e, back_box i hi, if_pos (by omega)]
  · rw [if_neg e]
    have hne : back y ≠ i := fun h => e (by rw [← h, box_back y hy])
    by_cases h : back y < i
    · rw [if_pos h, if_pos (by omega)]
    · rw [if_neg h, if_neg (by omega)]
theorem bkTo_all : bl 256 (cb (bkTo 256)) = bl 256 (cb back) := bl_congr _ _ _ (fun y _ => by show ((bkTo 256 y : Nat) : Int) = ((back y : Nat) : Int); unfold bkTo; rw [if_pos (back_lt y)])
theorem zeroB : Tryd.zeroCells123 = (bl 256 (cb (bkTo 0))).toArray := by
  rw [zero256 nul0]
  congr 1
end Go.Proofs.YtbgdjjfonmoemaaDoor.Ae
namespace Go.Proofs.YtbgdjjfonmoemaaDoor.Ae
open Go.ChangeShapes Go.WideShapes Go.ChangeAt Go.RowKit
open Go.Proofs.YtbgdjjfonmoemaaDoor.By Go.Proofs.YtbgdjjfonmoemaaDoor.Gf
open Go.Proofs.YtbgdjjfonmoemaaDoor.Kc (own_kept own_mono own8_type cat cat_bound wpList_cat below_grow)
theorem bl4c (f : Nat → Nat) : #[Value.int .u8 ((f 0 : Nat) : Int), .int .u8 ((f 1 : Nat) : Int), .int .u8 ((f 2 : Nat) : Int), .int .u8 ((f 3 : Nat) : Int)] = (bl 4 (cb f)).toArray := rfl
set_option maxRecDepth 8000 in
set_option maxHeartbeats 8000000 in
theorem rform (g n : Nat) (wv : Value) (f : Nat → Nat) (hn0 : 0 < n) (hn : n ≤ 100) (w : World) (h : RA w g wv n f) : Calls Tryd.prog 73 #[.pointer (some ⟨g, 0, none⟩)] w fun e w' => ∃ v, e = .returned v ∧ By.Own w' w.heap.size v (4 * n) (cb f) ∧ Below w.heap.size w w' := by
  obtain ⟨i0, hi, hz0, hz1, hz2⟩ := info_parts info5
  obtain ⟨q, cap, rfl, hcap, hq, hqg, hcell⟩ := h.shape hn0
  have H := hid h
  have HQ := hid hcell
  have hg := h.glt
  have HFB := hid (show ∀ i, 0 ≤ cb f i ∧ cb f i < 256 from fun i => ⟨Int.natCast_nonneg _, Int.ofNat_lt.2 (h.lt i)⟩)
  clear h hcell
  go_enter Tryd.func73, Tryd.ntmps73
  go_wp2_with fail
  go_loopw [3, 4] (fun v i wr => ∃ k : Nat, k ≤ n ∧ i = .int .i64 k ∧ By.Own wr w.heap.size v (4 * k) (cb f) ∧ Below w.heap.size w wr) (fun _ i _ => n - (intOf i).toNat)
  case atStart => exact ⟨0, by omega, rfl, own_nil _ _ _ HFB.out, Below.refl _ _⟩
  case round =>
    obtain ⟨k, hk, rfl, o1, hbel⟩ := hrel
    have O1 := hid o1
    have HB := hid hbel
    have c0 := (H.out.below hbel).c0
    clear o1
    by_cases hlt : k < n
    · have hd : decide ((k : Int) < (n : Int)) = true := decide_eq_true (by omega)
      have hk1 : (k : Int) < (n : Int) := by omega
      have xx : ∀ j, j < 4 → wr.cell? ⟨q, k * 4 + j, none⟩ = some (.int .u8 ((f (4 * k + j) : Nat) : Int)) := fun j hj => by
        rw [show k * 4 + j = 4 * k + j from by omega]
        exact (hbel.cell (p := ⟨q, 4 * k + j, none⟩) hq).trans (HQ.out (4 * k + j) (by omega))
      have x0 := xx 0 (by decide)
      have x1 := xx 1 (by decide)
      have x2 := xx 2 (by decide)
      have x3 := xx 3 (by decide)
      clear xx
      have HL := hid (show bl (4 * k) (cb f) ++ bl 4 (cb (fun i => f (4 * k + i))) = bl (4 * (k + 1)) (cb f) from by
        rw [bl_append]
        refine bl_congr _ _ _ (fun i hi => ?_)
        split
        · rfl
        · show ((f (4 * k + (i - 4 * k)) : Nat) : Int) = ((f i : Nat) : Int)
          rw [show 4 * k + (i - 4 * k) = i from by omega])
      have H4 := hid (show bl 4 (cb (fun i => f (4 * k + i))) = [.int .u8 ((f (4 * k + 0) : Nat) : Int), .int .u8 ((f (4 * k + 1) : Nat) : Int), .int .u8 ((f (4 * k + 2) : Nat) : Int), .int .u8 ((f (4 * k + 3) : Nat) : Int)] from rfl)
      obtain ⟨y0, e0⟩ : ∃ y, f (4 * k + 0) = y := ⟨_, rfl⟩
      obtain ⟨y1, e1⟩ : ∃ y, f (4 * k + 1) = y := ⟨_, rfl⟩
      obtain ⟨y2, e2⟩ : ∃ y, f (4 * k + 2) = y := ⟨_, rfl⟩
      obtain ⟨y3, e3⟩ : ∃ y, f (4 * k + 3) = y := ⟨_, rfl⟩
      rw [e0] at x0 H4
      rw [Nat.add_zero] at x0
      rw [e1] at x1 H4
      rw [e2] at x2 H4
      rw [e3] at x3 H4
      rw [H4.out] at HL
      clear e0 e1 e2 e3 hbel H4
      have OA := hid (own_below O1.out (below_alloc wr (.cells #[.int .u8 (y0 : Int), .int .u8 (y1 : Int), .int .u8 (y2 : Int), .int .u8 (y3 : Int)] 5)))
      have HBA := hid (below_next HB.out (below_alloc wr (.cells #[.int .u8 (y0 : Int), .int .u8 (y1 : Int), .int .u8 (y2 : Int), .int .u8 (y3 : Int)] 5)))
      have q3 : Hid (∀ u ∈ [Value.int .u8 (y0 : Int), .int .u8 (y1 : Int), .int .u8 (y2 : Int), .int .u8 (y3 : Int)], u.oneCell' = true) := fun u hu => by
        simp at hu
        rcases hu with rfl | rfl | rfl | rfl <;> rfl
      have q4 : Hid (∀ j u, [Value.int .u8 (y0 : Int), .int .u8 (y1 : Int), .int .u8 (y2 : Int), .int .u8 (y3 : Int)][j]? = some u → (wr.alloc (.cells #[.int .u8 (y0 : Int), .int .u8 (y1 : Int), .int .u8 (y2 : Int), .int .u8 (y3 : Int)] 5)).cell? ((⟨wr.heap.size, 0, none⟩ : Addr).add j) = some u) := fun j u hj => by
        rw [By.add_plain, Nat.zero_add]; exact (Blk.newAt wr _ [Value.int .u8 (y0 : Int), .int .u8 (y1 : Int), .int .u8 (y2 : Int), .int .u8 (y3 : Int)] 5 _ rfl rfl).cell j _ hj
      have q5 : Hid (4 * k + 4 ≤ maxLen) := by show 4 * k + 4 ≤ maxLen; simp only [maxLen]; omega
      have q6 : Hid ((4 * k + 4) * 1 ≤ 140737488355328) := by show (4 * k + 4) * 1 ≤ 140737488355328; omega
      have q7 := hid HBA.out.size
      have KC : Hid (∀ w1, Below w.heap.size w w1 → w1.cell? ⟨g, 0, none⟩ = some (.slice (some ⟨q, 0, none⟩) n cap) ∧ w1.cell? ⟨q, k * 4, none⟩ = some (.int .u8 (y0 : Int)) ∧ w1.cell? ⟨q, k * 4 + 1, none⟩ = some (.int .u8 (y1 : Int)) ∧ w1.cell? ⟨q, k * 4 + 2, none⟩ = some (.int .u8 (y2 : Int)) ∧ w1.cell? ⟨q, k * 4 + 3, none⟩ = some (.int .u8 (y3 : Int))) := fun w1 hb1 => by
        have hw := HB.out
        refine ⟨(H.out.below hb1).c0, ?_, ?_, ?_, ?_⟩
        · exact ((hb1.cell (p := ⟨q, k * 4, none⟩) hq).trans (hw.cell (p := ⟨q, k * 4, none⟩) hq).symm).trans x0
        · exact ((hb1.cell (p := ⟨q, k * 4 + 1, none⟩) hq).trans (hw.cell (p := ⟨q, k * 4 + 1, none⟩) hq).symm).trans x1
        · exact ((hb1.cell (p := ⟨q, k * 4 + 2, none⟩) hq).trans (hw.cell (p := ⟨q, k * 4 + 2, none⟩) hq).symm).trans x2
        · exact ((hb1.cell (p := ⟨q, k * 4 + 3, none⟩) hq).trans (hw.cell (p := ⟨q, k * 4 + 3, none⟩) hq).symm).trans x3
      go_wp2_with fail
      go_region_held3 (fun W => W.cell? ⟨g, 0, none⟩ = some (.slice (some ⟨q, 0, none⟩) n cap) ∧ W.cell? ⟨q, k * 4, none⟩ = some (.int .u8 (y0 : Int)) ∧ W.cell? ⟨q, k * 4 + 1, none⟩ = some (.int .u8 (y1 : Int)) ∧ W.cell? ⟨q, k * 4 + 2, none⟩ = some (.int .u8 (y2 : Int)) ∧ W.cell? ⟨q, k * 4 + 3, none⟩ = some (.int .u8 (y3 : Int))) (go_keep) (first | (refine step_append_lies _ rfl (.tmp 14) (.tmp 47) 22 rfl w.heap.size 5 i0 (.int .u8 0) 1 1 Tryd.underlying22 hi hz0 hz1 hz2 rfl (by decide) _ (4 * k) (bl (4 * k) (cb f)) rfl OA.out.2 ⟨wr.heap.size, 0, none⟩ 4 4 [.int .u8 (y0 : Int), .int .u8 (y1 : Int), .int .u8 (y2 : Int), .int .u8 (y3 : Int)] rfl rfl q4.out q3.out (by decide) q5.out q6.out q7.out _ rfl ?_; intro gq cq w1 hown hgrow hat hltq; have BW := hid (below_grow (below_dr HBA.out) HBA.out.size OA.out hgrow); obtain ⟨kc1, kc2, kc3, kc4, kc5⟩ := KC.out w1 BW.out; have OW := hid hown; clear hown hgrow hat hltq))
      all_goals
        have O3 := hid (show By.Own w1 w.heap.size (.slice (some ⟨gq, 0, none⟩) (4 * k + 4) cq) (4 * (k + 1)) (cb f) from ⟨HFB.out, by rw [← HL.out]; exact OW.out⟩)
        go_simp
        go_wp2_with fail
        exact ⟨⟨k + 1, by omega, by go_num, O3.out, BW.out⟩, by simp [intOf]; omega⟩
    · have ek : k = n := by omega
      subst ek
      have hd : decide ((k : Int) < (k : Int)) = false := decide_eq_false (by omega)
      clear hbel
      go_wp2_with fail
      go_ret
      exact ⟨_, rfl, O1.out, HB.out⟩
end Go.Proofs.YtbgdjjfonmoemaaDoor.Ae
