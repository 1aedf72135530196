/- What the statements' helper that looks whether bytes rise answers (sorted). -/
import Derived.Test.YtpcnkiapbkmjbaaNct
namespace Go.Proofs.Ytpcnkiapbkmjbaa.Nv
open Go.ChangeShapes Go.WideShapes Go.ChangeAt Go.RowKit
open Go.Proofs.Ytpcnkiapbkmjbaa Go.Proofs.Ytpcnkiapbkmjbaa.Tb
/-- 256 numbers as cells. -/
def il (z : Nat → Int) : List Value := (List.range 256).map fun v => Value.int .i64 (z v)
theorem il_get (z : Nat → Int) (v : Nat) (h : v < 256) : (il z)[v]? = some (.int .i64 (z v)) := by simp [il, h]
theorem il_set (z : Nat → Int) (v : Nat) (x : Int) : (il z).set v (.int .i64 x) = il (fun i => if i = v then x else z i) := by
  apply List.ext_getElem?
  intro i
  rw [List.getElem?_set]
  unfold il
  simp only [List.length_map, List.length_range, List.getElem?_map]
  by_cases hi : i < 256
  · rw [List.getElem?_range hi]
    by_cases e : v = i
    · subst e; simp [hi]
    · simp [e, Ne.symm e]
  · rw [List.getElem?_eq_none (by simp; omega)]
    simp; omega
theorem il_congr {z y : Nat → Int} (h : ∀ v, v < 256 → z v = y v) : il z = il y := by
  unfold il
  apply List.map_congr_left
  intro v hv
  rw [h v (List.mem_range.1 hv)]
theorem zc : Try.zeroCells74 = (il fun _ => 0).toArray := by kernel_rfl
@[go_sem high] theorem eqz (w : World) : (Op.equalIn 10000 74 (.agg Try.zeroCells74) (.agg Try.zeroCells74)).run Try.prog w = .ok true w := by kernel_rfl
/-- How often v stands among the first n more in f than in g. -/
def df (f g : Nat → Int) (n v : Nat) : Int := (cn (fun x => decide (x = (v : Int))) f n : Int) - (cn (fun x => decide (x = (v : Int))) g n : Int)
theorem cn_le (p : Int → Bool) (f : Nat → Int) (n : Nat) : cn p f n ≤ n := by
  induction n with
  | zero => exact Nat.le_refl _
  | succ n ih => rw [cn]; split <;> omega
theorem df_bound (f g : Nat → Int) (n v : Nat) : -(n : Int) ≤ df f g n v ∧ df f g n v ≤ n := by
  have h1 := cn_le (fun x => decide (x = (v : Int))) f n
  have h2 := cn_le (fun x => decide (x = (v : Int))) g n
  unfold df; omega
def LDz (a : Addr) : Sem Value := loadVar 74 a
@[go_sem ↓ high] theorem ldz (a : Addr) : loadVar 74 a = LDz a := rfl
theorem infoz : (Try.prog.info? 74).map (·.size) = some 256 := by kernel_rfl
theorem LDz_run {w : World} {g : Nat} {cs : List Value} (h : Blk w g cs 74) (hl : cs.length = 256) : (LDz ⟨g, 0, none⟩).run Try.prog w = .ok (.agg cs.toArray) w :=
  run_loadVar_mid w g 0 _ cs _ (h.range 0 cs (fun _ _ hv => by rw [Nat.zero_add]; exact hv)) Try.underlying74 rfl (by rw [hl]; exact infoz)
theorem il_len (z : Nat → Int) : (il z).length = 256 := by simp [il]
theorem bel2 {w wr : World} (h : Below w.heap.size w wr) (d X Y : Nat) (x y : Value) : Below w.heap.size w (((wr.drewN d).setCell ⟨w.heap.size, X, none⟩ x).setCell ⟨w.heap.size, Y, none⟩ y) :=
  below_set (below_set (below_drew' h d) _ _ _ (Nat.le_refl _) h.size) _ _ _ (Nat.le_refl _) (by simpa [World.setCell] using h.size)
theorem df_next (f g : Nat → Int) (n X Y : Nat) (hX : f n = X) (hY : g n = Y) (v : Nat) : df f g (n + 1) v = df f g n v + (if v = X then 1 else 0) - (if v = Y then 1 else 0) := by
  unfold df
  rw [cn, cn, hX, hY]
  have e1 : ((X : Int) = (v : Int)) ↔ v = X := by omega
  have e2 : ((Y : Int) = (v : Int)) ↔ v = Y := by omega
  simp only [e1, e2, decide_eq_true_eq]
  split <;> split <;> omega
set_option maxRecDepth 100000 in
set_option maxHeartbeats 4000000 in
theorem sorted_walk (v u : Value) (n : Nat) (f g : Nat → Int) (w : World) (hv : By.RB w v n f) (hu : By.RB w u n g) (hn : n ≤ 200) (hr : Rise f n) (hc : ∀ p : Int → Bool, cn p f n = cn p g n) :
    Calls Try.prog 32 #[v, u] w fun e w' => e = .returned (.bool true) ∧ Below w.heap.size w w' := by
  obtain ⟨a0, ca, rfl⟩ := rb_shape hv
  obtain ⟨b0, cb, rfl⟩ := rb_shape hu
  have B0 := hidc (show Blk (w.alloc (.cells Try.zeroCells74 74)) w.heap.size (il (df f g 0)) 74 from Blk.newAt w _ _ _ _ rfl (by rw [zc]; rfl))
  have N0 := hidc (below_alloc w (.cells Try.zeroCells74 74))
  have HV := hidc hv
  have HU := hidc hu
  have HR := hidc hr
  have HC := hidc hc
  clear hv hu hr hc
  go_enter Try.func32, Try.ntmps32
  go_wp2_with fail
  go_loopw [6] (fun i wr => ∃ k : Nat, k ≤ n ∧ i = .int .i64 k ∧ Blk wr w.heap.size (il (df f g k)) 74 ∧ Below w.heap.size w wr) (fun i _ => n - (intOf i).toNat)
  case atStart => exact ⟨0, Nat.zero_le _, rfl, B0.out, N0.out⟩
  case round =>
    obtain ⟨k, hk, rfl, hb, hbel⟩ := hrel
    have BK := hidc hb
    have BE := hidc hbel
    clear hb hbel
    by_cases hlt : k < n
    · obtain ⟨p1, o1, c1, e1, -⟩ := rb_byte HV.out hlt
      obtain ⟨p2, o2, c2, e2, -⟩ := rb_byte HU.out hlt
      simp only [Value.slice.injEq] at e1 e2
      obtain ⟨rfl, -, rfl⟩ := e1
      obtain ⟨rfl, -, rfl⟩ := e2
      have CV := hidc (fun (j : Nat) (hj : j < n) => show wr.cell? ⟨p1, o1 + j, none⟩ = some (.int .u8 (f j)) from by
        obtain ⟨b, o, c, e, x⟩ := rb_byte (HV.out.below BE.out) hj
        simp only [Value.slice.injEq, Option.some.injEq, Addr.mk.injEq] at e
        obtain ⟨⟨rfl, rfl, -⟩, -, -⟩ := e
        exact x)
      have CU := hidc (fun (j : Nat) (hj : j < n) => show wr.cell? ⟨p2, o2 + j, none⟩ = some (.int .u8 (g j)) from by
        obtain ⟨b, o, c, e, x⟩ := rb_byte (HU.out.below BE.out) hj
        simp only [Value.slice.injEq, Option.some.injEq, Addr.mk.injEq] at e
        obtain ⟨⟨rfl, rfl, -⟩, -, -⟩ := e
        exact x)
      have q1 : ¬ p1 = w.heap.size := fun e => by have := HV.out.lt rfl (by omega : 0 < n); omega
      have q2 : ¬ p2 = w.heap.size := fun e => by have := HU.out.lt rfl (by omega : 0 < n); omega
      by_cases hk0 : k = 0
      · have l0n : ¬ 0 < k := by omega
        have l0b : decide (0 < k) = false := decide_eq_false l0n
        clear hk0
        go_wp2_with fail
        go_quiet (fail)
        clear l0n l0b
        obtain ⟨X, hX⟩ : ∃ X : Nat, f k = X := ⟨(f k).toNat, by have := (HV.out.1 k).1; omega⟩
        obtain ⟨Y, hY⟩ : ∃ Y : Nat, g k = Y := ⟨(g k).toNat, by have := (HU.out.1 k).1; omega⟩
        have x1 : (X : Int) < 256 := by have := (HV.out.1 k).2; omega
        have y1 : (Y : Int) < 256 := by have := (HU.out.1 k).2; omega
        have DN := hidc (df_next f g k X Y hX hY)
        have b1 := df_bound f g k X
        have b2 := df_bound f g k Y
        have zx := BK.out.cell X _ (il_get _ X (by omega))
        have zy := BK.out.cell Y _ (il_get _ Y (by omega))
        have fx := BK.out.frozen X
        have fy := BK.out.frozen Y
        have c1 := CV.out k hlt
        have c2 := CU.out k hlt
        rw [hX] at c1
        rw [hY] at c2
        clear hX hY
        have kb : k ≤ 200 := by omega
        by_cases hxy : X = Y
        · subst hxy
          have FIN := hidc (show Blk ((wr.setCell ⟨w.heap.size, X, none⟩ (.int .i64 (df f g k X + 1))).setCell ⟨w.heap.size, X, none⟩ (.int .i64 (df f g k X))) w.heap.size (il (df f g (k + 1))) 74 from by
            have h := (BK.out.set X (.int .i64 (df f g k X + 1))).set X (.int .i64 (df f g k X))
            rw [il_set, il_set] at h
            rw [show il (df f g (k + 1)) = _ from il_congr (fun v _ => ?_)]
            · exact h
            · rw [DN.out v]
              by_cases e : v = X
              · subst e; simp
              · simp [e])
          generalize df f g k X = zX at *
          go_wp2_with fail
          exact ⟨⟨k + 1, by omega, by go_num, FIN.out, bel2 BE.out _ _ _ _ _⟩, by simp [intOf]; omega⟩
        · have ne2 : ¬ Y = X := fun e => hxy e.symm
          have FIN := hidc (show Blk ((wr.setCell ⟨w.heap.size, X, none⟩ (.int .i64 (df f g k X + 1))).setCell ⟨w.heap.size, Y, none⟩ (.int .i64 (df f g k Y - 1))) w.heap.size (il (df f g (k + 1))) 74 from by
            have h := (BK.out.set X (.int .i64 (df f g k X + 1))).set Y (.int .i64 (df f g k Y - 1))
            rw [il_set, il_set] at h
            rw [show il (df f g (k + 1)) = _ from il_congr (fun v _ => ?_)]
            · exact h
            · rw [DN.out v]
              by_cases e : v = Y
              · subst e; simp [ne2]
              · by_cases e2 : v = X
                · subst e2; simp [hxy]
                · simp [e, e2])
          generalize df f g k X = zX at *
          generalize df f g k Y = zY at *
          go_wp2_with fail
          exact ⟨⟨k + 1, by omega, by go_num, FIN.out, bel2 BE.out _ _ _ _ _⟩, by simp [intOf]; omega⟩
      · obtain ⟨d, hd⟩ : ∃ d, k = d + 1 := ⟨k - 1, by omega⟩
        have cd := CV.out d (by omega)
        have ck := CV.out k hlt
        have l0n : 0 < k := by omega
        have l0b : decide (0 < k) = true := decide_eq_true l0n
        have l0 : (0 : Int) < (k : Int) := by omega
        have hw : IntKind.i64.wrap ((k : Int) - 1) = (d : Int) := by rw [IntKind.wrap_i64]; omega
        have l1 : (d : Int) < (n : Int) := by omega
        have l2 : (k : Int) < (n : Int) := by omega
        have hge : decide (f k < f d) = false := decide_eq_false (by have := HR.out d k (by omega) hlt; omega)
        clear hd
        go_wp2_with fail
        go_quiet (fail)
        clear cd ck
        obtain ⟨X, hX⟩ : ∃ X : Nat, f k = X := ⟨(f k).toNat, by have := (HV.out.1 k).1; omega⟩
        obtain ⟨Y, hY⟩ : ∃ Y : Nat, g k = Y := ⟨(g k).toNat, by have := (HU.out.1 k).1; omega⟩
        have x1 : (X : Int) < 256 := by have := (HV.out.1 k).2; omega
        have y1 : (Y : Int) < 256 := by have := (HU.out.1 k).2; omega
        have DN := hidc (df_next f g k X Y hX hY)
        have b1 := df_bound f g k X
        have b2 := df_bound f g k Y
        have zx := BK.out.cell X _ (il_get _ X (by omega))
        have zy := BK.out.cell Y _ (il_get _ Y (by omega))
        have fx := BK.out.frozen X
        have fy := BK.out.frozen Y
        have c1 := CV.out k hlt
        have c2 := CU.out k hlt
        rw [hX] at c1
        rw [hY] at c2
        clear hX hY
        have kb : k ≤ 200 := by omega
        by_cases hxy : X = Y
        · subst hxy
          have FIN := hidc (show Blk ((wr.setCell ⟨w.heap.size, X, none⟩ (.int .i64 (df f g k X + 1))).setCell ⟨w.heap.size, X, none⟩ (.int .i64 (df f g k X))) w.heap.size (il (df f g (k + 1))) 74 from by
            have h := (BK.out.set X (.int .i64 (df f g k X + 1))).set X (.int .i64 (df f g k X))
            rw [il_set, il_set] at h
            rw [show il (df f g (k + 1)) = _ from il_congr (fun v _ => ?_)]
            · exact h
            · rw [DN.out v]
              by_cases e : v = X
              · subst e; simp
              · simp [e])
          generalize df f g k X = zX at *
          go_wp2_with fail
          exact ⟨⟨k + 1, by omega, by go_num, FIN.out, bel2 BE.out _ _ _ _ _⟩, by simp [intOf]; omega⟩
        · have ne2 : ¬ Y = X := fun e => hxy e.symm
          have FIN := hidc (show Blk ((wr.setCell ⟨w.heap.size, X, none⟩ (.int .i64 (df f g k X + 1))).setCell ⟨w.heap.size, Y, none⟩ (.int .i64 (df f g k Y - 1))) w.heap.size (il (df f g (k + 1))) 74 from by
            have h := (BK.out.set X (.int .i64 (df f g k X + 1))).set Y (.int .i64 (df f g k Y - 1))
            rw [il_set, il_set] at h
            rw [show il (df f g (k + 1)) = _ from il_congr (fun v _ => ?_)]
            · exact h
            · rw [DN.out v]
              by_cases e : v = Y
              · subst e; simp [ne2]
              · by_cases e2 : v = X
                · subst e2; simp [hxy]
                · simp [e, e2])
          generalize df f g k X = zX at *
          generalize df f g k Y = zY at *
          go_wp2_with fail
          exact ⟨⟨k + 1, by omega, by go_num, FIN.out, bel2 BE.out _ _ _ _ _⟩, by simp [intOf]; omega⟩
    · obtain rfl : k = n := by omega
      have Z : Hid (il (df f g k) = il fun _ => 0) := hidc (il_congr fun v _ => by unfold df; rw [HC.out]; omega)
      rw [Z.out] at BK
      have LD := LDz_run BK.out (il_len _)
      rw [← zc] at LD
      go_wp2_with fail
      go_ret
      exact ⟨rfl, BE.out⟩
end Go.Proofs.Ytpcnkiapbkmjbaa.Nv
