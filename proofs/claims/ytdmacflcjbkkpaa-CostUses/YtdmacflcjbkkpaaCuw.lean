/- The walk of CostUses: what a kind does not use says nothing. -/
import Derived.Test.YtdmacflcjbkkpaaCaw
import Derived.Test.YtdmacflcjbkkpaaJm
import Derived.Test.YtdmacflcjbkkpaaCpk
import Derived.Test.YtdmacflcjbkkpaaCru
import Derived.Test.YtdmacflcjbkkpaaCcd
import Derived.BigRegion
namespace Go.Proofs.Ytdmacflcjbkkpaa.Co
open Go.ChangeShapes Go.WideShapes Go.ChangeAt Go.RowKit
open Go.Proofs.Ytdmacflcjbkkpaa (RB Own same14 rl)
open Go.Proofs.Ytdmacflcjbkkpaa.Ou (Sk sv sL zS LDk SVk LDk_run SVk_run infok sL_one ps)
open Go.Proofs.Ytdmacflcjbkkpaa.Tb (Blk)
theorem sv_any (w : World) (y s : Sk) : (SVk ⟨w.heap.size, 0, none⟩ (sv s)).run Try.prog (w.alloc (.cells (sL y).toArray 25)) = .ok () (w.alloc (.cells (sL s).toArray 25)) := by
  have h := Blk.newAt w (sL y).toArray (sL y) 25 w.heap.size rfl rfl
  have := run_storeVar_mid (P := Try.prog) _ w.heap.size 0 25 (sL s).toArray (h.there 0 _ (by simp)) (by simpa using infok s) (all_oneCell_toArray (sL_one s))
  refine Eq.trans this ?_
  simp [World.setCells, World.setCell_alloc_at]
theorem ld_any (w : World) (s : Sk) : (LDk ⟨w.heap.size, 0, none⟩).run Try.prog (w.alloc (.cells (sL s).toArray 25)) = .ok (sv s) (w.alloc (.cells (sL s).toArray 25)) :=
  LDk_run (Blk.newAt w _ _ 25 w.heap.size rfl rfl)
theorem rb_cell {w : World} {b off n cap i j : Nat} {f : Nat → Sk} {u : Value} (h : Sx.RB w (.slice (some ⟨b, off, none⟩) n cap) n f) (hi : i < n) (hj : j < 7) (hu : (sL (f i))[j]? = some u) : w.cell? ⟨b, off + i * 7 + j, none⟩ = some u := by
  obtain ⟨a', cap', hv, _, _, h0⟩ := h
  simp only [Value.slice.injEq, true_and] at hv
  obtain ⟨rfl, rfl⟩ := hv
  rcases h0 with ⟨h0, _⟩ | ⟨b', off', e, hc⟩
  · omega
  · simp only [Option.some.injEq, Addr.mk.injEq, and_true] at e
    obtain ⟨rfl, rfl⟩ := e
    rw [Nat.add_assoc]
    exact hc (i * 7 + j) _ (by rw [Sx.sl_get n f i j hi hj]; exact hu)
theorem mx_in {x s : Sk} (hx : SkIn x) (hs : SkIn s) : SkIn (mx x s) := by
  obtain ⟨p1, p2, p3, p4, p5, p6, p7⟩ := hx
  obtain ⟨q1, q2, q3, q4, q5, q6, q7⟩ := hs
  unfold mx
  repeat' split
  all_goals constructor <;> assumption
set_option maxRecDepth 100000 in
set_option maxHeartbeats 8000000 in
theorem uses_w (v : Value) (n : Nat) (f : Nat → Sk) (x : Sk) (w : World) (h : Sx.RB w v n f) (hs : ∀ i, i < n → SkIn (f i)) (hn : (n + 6) * 56 ≤ 140737488355328) (hx : SkIn x) :
    Calls Try.prog 6 #[v, sv x] w fun e w' => e = .returned (.bool true) ∧ Below w.heap.size w w' := by
  obtain ⟨a, c, rfl⟩ := h.isSl
  obtain ⟨xk, xh, xa, xc, xo, xd, xm⟩ := x
  have H := hid h
  have HS := hid hs
  have HX := hid hx
  have HN6 := hid hn
  have n1 : n ≤ 100000000000000 := by omega
  obtain ⟨W0, hW⟩ : ∃ W, w.alloc (.cells #[Value.int .u8 xk, .int .i64 xh, .int .u8 xa, .int .i64 xc, .int .i64 xo, .int .i64 xd, .int .i64 xm] 25) = W := ⟨_, rfl⟩
  have BW : Hid (Below w.heap.size w W0) := by rw [← hW]; exact below_alloc _ _
  have KX : Hid (Blk W0 w.heap.size (sL ⟨xk, xh, xa, xc, xo, xd, xm⟩) 25) := by rw [← hW]; exact Blk.newAt w _ _ _ w.heap.size rfl rfl
  clear h hs hn hx
  go_enter Try.func6, Try.ntmps6
  go_wp2_with fail
  clear hW
  refine (awake_ok _).mono ?_
  rintro e W1 ⟨rfl, hb1⟩
  have B1 := hid (below_next BW.out hb1)
  replace KX := hid (KX.out.below hb1)
  clear hb1 BW
  by_cases hlt : 300 < n
  · have h3 : 300 < (n : Int) := by omega
    go_wp2
    go_ret
    exact ⟨rfl, B1.out⟩
  · have h3 : ¬ 300 < (n : Int) := by omega
    have hn3 : n ≤ 300 := by omega
    go_wp2
    go_loopw [6, 7] (fun s x wr => ∃ k : Nat, k ≤ n ∧ x = .int .i64 k ∧ Sx.Own wr W1.heap.size s k (fun i => mx ⟨xk, xh, xa, xc, xo, xd, xm⟩ (f i)) ∧ Below W1.heap.size W1 wr) (fun _ x _ => n - (RowKit.intOf x).toNat)
    case atStart => exact ⟨0, Nat.zero_le _, rfl, Sx.own_nil _ _ _, Below.refl _ _⟩
    case round =>
      obtain ⟨k, hk, rfl, hr, hbel⟩ := hrel
      have HO := hid hr
      have HB := hid hbel
      clear hr hbel
      by_cases hkn : k < n
      · obtain ⟨b, off, rfl, ld⟩ := H.out.ldB hkn
        have RBk := (H.out.below B1.out).below HB.out
        have cl := fun (j : Nat) (u : Value) (hj : j < 7) (hu : (sL (f k))[j]? = some u) (o : Obj) => rb_cell (RBk.below (below_alloc wr o)) hkn hj hu
        have lw := fun (o : Obj) => ld (wr.alloc o) ((B1.out.trans (Below.mono HB.out B1.out.size)).trans ((below_alloc wr o).mono (by have := B1.out.size; have := HB.out.size; omega)))
        have HYG : Hid ((fun i => mx ⟨xk, xh, xa, xc, xo, xd, xm⟩ (f i)) k = mx ⟨xk, xh, xa, xc, xo, xd, xm⟩ (f k)) := hid rfl
        obtain ⟨s, hs⟩ : ∃ s, f k = s := ⟨_, rfl⟩
        rw [hs] at cl lw HYG
        obtain ⟨sk, sh, sa, sc, so, sd, sm⟩ := s
        have c0 : ∀ o, (wr.alloc o).cell? ⟨b, off + k * 7, none⟩ = some (.int .u8 sk) := cl 0 _ (by omega) rfl
        have c1 := cl 1 _ (by omega) rfl
        have c2 := cl 2 _ (by omega) rfl
        have c3 := cl 3 _ (by omega) rfl
        have c4 := cl 4 _ (by omega) rfl
        have c5 := cl 5 _ (by omega) rfl
        have c6 := cl 6 _ (by omega) rfl
        have lx := LDk_run (KX.out.below HB.out)
        have x3 := fun (o : Obj) => ((KX.out.below HB.out).alloc o).cell 3 _ rfl
        have x6 := fun (o : Obj) => ((KX.out.below HB.out).alloc o).cell 6 _ rfl
        have s1 : (SVk ⟨wr.heap.size, 0, none⟩ (sv ⟨xk, xh, xa, xc, xo, xd, xm⟩)).run Try.prog (wr.alloc (.cells #[.int .u8 0, .int .i64 0, .int .u8 0, .int .i64 0, .int .i64 0, .int .i64 0, .int .i64 0] 25)) = .ok () (wr.alloc (.cells #[.int .u8 xk, .int .i64 xh, .int .u8 xa, .int .i64 xc, .int .i64 xo, .int .i64 xd, .int .i64 xm] 25)) := sv_any wr zS ⟨xk, xh, xa, xc, xo, xd, xm⟩
        clear cl ld RBk hs
        by_cases hk : sk < 1 ∨ 10 < sk
        · have l1 : (LDk ⟨wr.heap.size, 0, none⟩).run Try.prog (wr.alloc (.cells #[.int .u8 sk, .int .i64 xh, .int .u8 xa, .int .i64 xc, .int .i64 xo, .int .i64 xd, .int .i64 xm] 25)) = .ok (sv ⟨sk, xh, xa, xc, xo, xd, xm⟩) (wr.alloc (.cells #[.int .u8 sk, .int .i64 xh, .int .u8 xa, .int .i64 xc, .int .i64 xo, .int .i64 xd, .int .i64 xm] 25)) := ld_any wr ⟨sk, xh, xa, xc, xo, xd, xm⟩
          have k1 : ¬ sk = 1 := by omega
          have k2 : ¬ sk = 2 := by omega
          have k3 : ¬ sk = 3 := by omega
          have k4 : ¬ sk = 4 := by omega
          have k5 : ¬ sk = 5 := by omega
          have k6 : ¬ sk = 6 := by omega
          have k7 : ¬ sk = 7 := by omega
          have k8 : ¬ sk = 8 := by omega
          have k9 : ¬ sk = 9 := by omega
          have k10 : ¬ sk = 10 := by omega
          have BA := hid (below_next HB.out (below_alloc wr (.cells #[.int .u8 sk, .int .i64 xh, .int .u8 xa, .int .i64 xc, .int .i64 xo, .int .i64 xd, .int .i64 xm] 25)))
          have HA := hid (Sx.own_alloc HO.out (.cells #[.int .u8 sk, .int .i64 xh, .int .u8 xa, .int .i64 xc, .int .i64 xo, .int .i64 xd, .int .i64 xm] 25))
          have HY : Hid ((fun i => mx ⟨xk, xh, xa, xc, xo, xd, xm⟩ (f i)) k = ⟨sk, xh, xa, xc, xo, xd, xm⟩) := hid (by rw [HYG.out]; unfold mx; simp only; rw [if_neg (by omega), if_neg (by omega), if_neg (by omega), if_neg (by omega), if_neg (by omega), if_neg (by omega)])
          clear HYG hk
          have HN : Hid ((k + 1) * 56 ≤ 140737488355328) := hid (Nat.le_trans (Nat.mul_le_mul_right 56 (show k + 1 ≤ n + 6 by omega)) HN6.out)
          go_wp2_with (at_builtin; go_must (refine Sx.wpList_pushK rfl _ _ rfl W1.heap.size k _ (fun i => mx ⟨xk, xh, xa, xc, xo, xd, xm⟩ (f i)) ⟨sk, xh, xa, xc, xo, xd, xm⟩ HA.out HN.out HY.out BA.out.size rfl (by show Value.slice (some ⟨wr.heap.size + 1, 0, none⟩) 1 1 = _; simp) ?_))
          intro v' w3 hown hgrow
          have R := hid hown
          have RB3 := hid (Sx.below_push BA.out BA.out.size HA.out hgrow)
          clear hown hgrow HO HB HA BA
          go_wp2
          go_roundw
          case rel => exact ⟨k + 1, by omega, by go_num, R.out, RB3.out⟩
          case measure => simp [RowKit.intOf]; omega
        · rcases ten hk with rfl | rfl | rfl | rfl | rfl | rfl | rfl | rfl | rfl | rfl
          · have l1 : (LDk ⟨wr.heap.size, 0, none⟩).run Try.prog (wr.alloc (.cells #[.int .u8 1, .int .i64 xh, .int .u8 xa, .int .i64 xc, .int .i64 xo, .int .i64 sd, .int .i64 xm] 25)) = .ok (sv ⟨1, xh, xa, xc, xo, sd, xm⟩) (wr.alloc (.cells #[.int .u8 1, .int .i64 xh, .int .u8 xa, .int .i64 xc, .int .i64 xo, .int .i64 sd, .int .i64 xm] 25)) := ld_any wr ⟨1, xh, xa, xc, xo, sd, xm⟩
            have BA := hid (below_next HB.out (below_alloc wr (.cells #[.int .u8 1, .int .i64 xh, .int .u8 xa, .int .i64 xc, .int .i64 xo, .int .i64 sd, .int .i64 xm] 25)))
            have HA := hid (Sx.own_alloc HO.out (.cells #[.int .u8 1, .int .i64 xh, .int .u8 xa, .int .i64 xc, .int .i64 xo, .int .i64 sd, .int .i64 xm] 25))
            have HY : Hid ((fun i => mx ⟨xk, xh, xa, xc, xo, xd, xm⟩ (f i)) k = ⟨1, xh, xa, xc, xo, sd, xm⟩) := hid (by rw [HYG.out]; rfl)
            clear HYG hk
            have HN : Hid ((k + 1) * 56 ≤ 140737488355328) := hid (Nat.le_trans (Nat.mul_le_mul_right 56 (show k + 1 ≤ n + 6 by omega)) HN6.out)
            go_wp2_with (at_builtin; go_must (refine Sx.wpList_pushK rfl _ _ rfl W1.heap.size k _ (fun i => mx ⟨xk, xh, xa, xc, xo, xd, xm⟩ (f i)) ⟨1, xh, xa, xc, xo, sd, xm⟩ HA.out HN.out HY.out BA.out.size rfl (by show Value.slice (some ⟨wr.heap.size + 1, 0, none⟩) 1 1 = _; simp) ?_))
            intro v' w3 hown hgrow
            have R := hid hown
            have RB3 := hid (Sx.below_push BA.out BA.out.size HA.out hgrow)
            clear hown hgrow HO HB HA BA
            go_wp2
            go_roundw
            case rel => exact ⟨k + 1, by omega, by go_num, R.out, RB3.out⟩
            case measure => simp [RowKit.intOf]; omega
          · have l1 : (LDk ⟨wr.heap.size, 0, none⟩).run Try.prog (wr.alloc (.cells #[.int .u8 2, .int .i64 sh, .int .u8 sa, .int .i64 xc, .int .i64 so, .int .i64 sd, .int .i64 xm] 25)) = .ok (sv ⟨2, sh, sa, xc, so, sd, xm⟩) (wr.alloc (.cells #[.int .u8 2, .int .i64 sh, .int .u8 sa, .int .i64 xc, .int .i64 so, .int .i64 sd, .int .i64 xm] 25)) := ld_any wr ⟨2, sh, sa, xc, so, sd, xm⟩
            have BA := hid (below_next HB.out (below_alloc wr (.cells #[.int .u8 2, .int .i64 sh, .int .u8 sa, .int .i64 xc, .int .i64 so, .int .i64 sd, .int .i64 xm] 25)))
            have HA := hid (Sx.own_alloc HO.out (.cells #[.int .u8 2, .int .i64 sh, .int .u8 sa, .int .i64 xc, .int .i64 so, .int .i64 sd, .int .i64 xm] 25))
            have HY : Hid ((fun i => mx ⟨xk, xh, xa, xc, xo, xd, xm⟩ (f i)) k = ⟨2, sh, sa, xc, so, sd, xm⟩) := hid (by rw [HYG.out]; rfl)
            clear HYG hk
            have HN : Hid ((k + 1) * 56 ≤ 140737488355328) := hid (Nat.le_trans (Nat.mul_le_mul_right 56 (show k + 1 ≤ n + 6 by omega)) HN6.out)
            go_wp2_with fail
            go_region
            obtain ⟨V, hV⟩ : ∃ V, (wr.alloc (.cells #[.int .u8 2, .int .i64 sh, .int .u8 sa, .int .i64 xc, .int .i64 so, .int .i64 sd, .int .i64 xm] 25)).drew = V := ⟨_, rfl⟩
            rw [hV]
            have bd : Below (wr.alloc (.cells #[.int .u8 2, .int .i64 sh, .int .u8 sa, .int .i64 xc, .int .i64 so, .int .i64 sd, .int .i64 xm] 25)).heap.size (wr.alloc (.cells #[.int .u8 2, .int .i64 sh, .int .u8 sa, .int .i64 xc, .int .i64 so, .int .i64 sd, .int .i64 xm] 25)) V := by rw [← hV]; exact below_drewN _ 1
            have kf : Blk V wr.heap.size (sL ⟨2, sh, sa, xc, so, sd, xm⟩) 25 := (Blk.newAt wr _ _ 25 wr.heap.size rfl rfl).below (bd)
            have l2 := LDk_run kf
            have BA2 := hid (below_next BA.out (bd))
            have HA2 := hid (Sx.own_below HA.out (bd))
            clear hV bd kf l1
            go_wp2_with (at_builtin; go_must (refine Sx.wpList_pushK rfl _ _ rfl W1.heap.size k _ (fun i => mx ⟨xk, xh, xa, xc, xo, xd, xm⟩ (f i)) ⟨2, sh, sa, xc, so, sd, xm⟩ HA2.out HN.out HY.out BA2.out.size rfl rfl ?_))
            intro v' w3 hown hgrow
            have R := hid hown
            have RB3 := hid (Sx.below_push BA2.out BA2.out.size HA2.out hgrow)
            clear hown hgrow HO HB HA BA HA2 BA2
            go_wp2
            go_roundw
            case rel => exact ⟨k + 1, by omega, by go_num, R.out, RB3.out⟩
            case measure => simp [RowKit.intOf]; omega
          · have l1 : (LDk ⟨wr.heap.size, 0, none⟩).run Try.prog (wr.alloc (.cells #[.int .u8 3, .int .i64 sh, .int .u8 xa, .int .i64 xc, .int .i64 xo, .int .i64 sd, .int .i64 xm] 25)) = .ok (sv ⟨3, sh, xa, xc, xo, sd, xm⟩) (wr.alloc (.cells #[.int .u8 3, .int .i64 sh, .int .u8 xa, .int .i64 xc, .int .i64 xo, .int .i64 sd, .int .i64 xm] 25)) := ld_any wr ⟨3, sh, xa, xc, xo, sd, xm⟩
            have BA := hid (below_next HB.out (below_alloc wr (.cells #[.int .u8 3, .int .i64 sh, .int .u8 xa, .int .i64 xc, .int .i64 xo, .int .i64 sd, .int .i64 xm] 25)))
            have HA := hid (Sx.own_alloc HO.out (.cells #[.int .u8 3, .int .i64 sh, .int .u8 xa, .int .i64 xc, .int .i64 xo, .int .i64 sd, .int .i64 xm] 25))
            have HY : Hid ((fun i => mx ⟨xk, xh, xa, xc, xo, xd, xm⟩ (f i)) k = ⟨3, sh, xa, xc, xo, sd, xm⟩) := hid (by rw [HYG.out]; rfl)
            clear HYG hk
            have HN : Hid ((k + 1) * 56 ≤ 140737488355328) := hid (Nat.le_trans (Nat.mul_le_mul_right 56 (show k + 1 ≤ n + 6 by omega)) HN6.out)
            go_wp2_with fail
            go_region
            obtain ⟨V, hV⟩ : ∃ V, (wr.alloc (.cells #[.int .u8 3, .int .i64 sh, .int .u8 xa, .int .i64 xc, .int .i64 xo, .int .i64 sd, .int .i64 xm] 25)).drew = V := ⟨_, rfl⟩
            rw [hV]
            have bd : Below (wr.alloc (.cells #[.int .u8 3, .int .i64 sh, .int .u8 xa, .int .i64 xc, .int .i64 xo, .int .i64 sd, .int .i64 xm] 25)).heap.size (wr.alloc (.cells #[.int .u8 3, .int .i64 sh, .int .u8 xa, .int .i64 xc, .int .i64 xo, .int .i64 sd, .int .i64 xm] 25)) V := by rw [← hV]; exact below_drewN _ 1
            have kf : Blk V wr.heap.size (sL ⟨3, sh, xa, xc, xo, sd, xm⟩) 25 := (Blk.newAt wr _ _ 25 wr.heap.size rfl rfl).below (bd)
            have l2 := LDk_run kf
            have BA2 := hid (below_next BA.out (bd))
            have HA2 := hid (Sx.own_below HA.out (bd))
            clear hV bd kf l1
            go_wp2_with (at_builtin; go_must (refine Sx.wpList_pushK rfl _ _ rfl W1.heap.size k _ (fun i => mx ⟨xk, xh, xa, xc, xo, xd, xm⟩ (f i)) ⟨3, sh, xa, xc, xo, sd, xm⟩ HA2.out HN.out HY.out BA2.out.size rfl rfl ?_))
            intro v' w3 hown hgrow
            have R := hid hown
            have RB3 := hid (Sx.below_push BA2.out BA2.out.size HA2.out hgrow)
            clear hown hgrow HO HB HA BA HA2 BA2
            go_wp2
            go_roundw
            case rel => exact ⟨k + 1, by omega, by go_num, R.out, RB3.out⟩
            case measure => simp [RowKit.intOf]; omega
          · have l1 : (LDk ⟨wr.heap.size, 0, none⟩).run Try.prog (wr.alloc (.cells #[.int .u8 4, .int .i64 sh, .int .u8 xa, .int .i64 xc, .int .i64 xo, .int .i64 xd, .int .i64 xm] 25)) = .ok (sv ⟨4, sh, xa, xc, xo, xd, xm⟩) (wr.alloc (.cells #[.int .u8 4, .int .i64 sh, .int .u8 xa, .int .i64 xc, .int .i64 xo, .int .i64 xd, .int .i64 xm] 25)) := ld_any wr ⟨4, sh, xa, xc, xo, xd, xm⟩
            have BA := hid (below_next HB.out (below_alloc wr (.cells #[.int .u8 4, .int .i64 sh, .int .u8 xa, .int .i64 xc, .int .i64 xo, .int .i64 xd, .int .i64 xm] 25)))
            have HA := hid (Sx.own_alloc HO.out (.cells #[.int .u8 4, .int .i64 sh, .int .u8 xa, .int .i64 xc, .int .i64 xo, .int .i64 xd, .int .i64 xm] 25))
            have HY : Hid ((fun i => mx ⟨xk, xh, xa, xc, xo, xd, xm⟩ (f i)) k = ⟨4, sh, xa, xc, xo, xd, xm⟩) := hid (by rw [HYG.out]; rfl)
            clear HYG hk
            have HN : Hid ((k + 1) * 56 ≤ 140737488355328) := hid (Nat.le_trans (Nat.mul_le_mul_right 56 (show k + 1 ≤ n + 6 by omega)) HN6.out)
            go_wp2_with (at_builtin; go_must (refine Sx.wpList_pushK rfl _ _ rfl W1.heap.size k _ (fun i => mx ⟨xk, xh, xa, xc, xo, xd, xm⟩ (f i)) ⟨4, sh, xa, xc, xo, xd, xm⟩ HA.out HN.out HY.out BA.out.size rfl (by show Value.slice (some ⟨wr.heap.size + 1, 0, none⟩) 1 1 = _; simp) ?_))
            intro v' w3 hown hgrow
            have R := hid hown
            have RB3 := hid (Sx.below_push BA.out BA.out.size HA.out hgrow)
            clear hown hgrow HO HB HA BA
            go_wp2
            go_roundw
            case rel => exact ⟨k + 1, by omega, by go_num, R.out, RB3.out⟩
            case measure => simp [RowKit.intOf]; omega
          · have l1 : (LDk ⟨wr.heap.size, 0, none⟩).run Try.prog (wr.alloc (.cells #[.int .u8 5, .int .i64 sh, .int .u8 xa, .int .i64 xc, .int .i64 xo, .int .i64 sd, .int .i64 xm] 25)) = .ok (sv ⟨5, sh, xa, xc, xo, sd, xm⟩) (wr.alloc (.cells #[.int .u8 5, .int .i64 sh, .int .u8 xa, .int .i64 xc, .int .i64 xo, .int .i64 sd, .int .i64 xm] 25)) := ld_any wr ⟨5, sh, xa, xc, xo, sd, xm⟩
            have BA := hid (below_next HB.out (below_alloc wr (.cells #[.int .u8 5, .int .i64 sh, .int .u8 xa, .int .i64 xc, .int .i64 xo, .int .i64 sd, .int .i64 xm] 25)))
            have HA := hid (Sx.own_alloc HO.out (.cells #[.int .u8 5, .int .i64 sh, .int .u8 xa, .int .i64 xc, .int .i64 xo, .int .i64 sd, .int .i64 xm] 25))
            have HY : Hid ((fun i => mx ⟨xk, xh, xa, xc, xo, xd, xm⟩ (f i)) k = ⟨5, sh, xa, xc, xo, sd, xm⟩) := hid (by rw [HYG.out]; rfl)
            clear HYG hk
            have HN : Hid ((k + 1) * 56 ≤ 140737488355328) := hid (Nat.le_trans (Nat.mul_le_mul_right 56 (show k + 1 ≤ n + 6 by omega)) HN6.out)
            go_wp2_with fail
            go_region
            obtain ⟨V, hV⟩ : ∃ V, (wr.alloc (.cells #[.int .u8 5, .int .i64 sh, .int .u8 xa, .int .i64 xc, .int .i64 xo, .int .i64 sd, .int .i64 xm] 25)).drew = V := ⟨_, rfl⟩
            rw [hV]
            have bd : Below (wr.alloc (.cells #[.int .u8 5, .int .i64 sh, .int .u8 xa, .int .i64 xc, .int .i64 xo, .int .i64 sd, .int .i64 xm] 25)).heap.size (wr.alloc (.cells #[.int .u8 5, .int .i64 sh, .int .u8 xa, .int .i64 xc, .int .i64 xo, .int .i64 sd, .int .i64 xm] 25)) V := by rw [← hV]; exact below_drewN _ 1
            have kf : Blk V wr.heap.size (sL ⟨5, sh, xa, xc, xo, sd, xm⟩) 25 := (Blk.newAt wr _ _ 25 wr.heap.size rfl rfl).below (bd)
            have l2 := LDk_run kf
            have BA2 := hid (below_next BA.out (bd))
            have HA2 := hid (Sx.own_below HA.out (bd))
            clear hV bd kf l1
            go_wp2_with (at_builtin; go_must (refine Sx.wpList_pushK rfl _ _ rfl W1.heap.size k _ (fun i => mx ⟨xk, xh, xa, xc, xo, xd, xm⟩ (f i)) ⟨5, sh, xa, xc, xo, sd, xm⟩ HA2.out HN.out HY.out BA2.out.size rfl rfl ?_))
            intro v' w3 hown hgrow
            have R := hid hown
            have RB3 := hid (Sx.below_push BA2.out BA2.out.size HA2.out hgrow)
            clear hown hgrow HO HB HA BA HA2 BA2
            go_wp2
            go_roundw
            case rel => exact ⟨k + 1, by omega, by go_num, R.out, RB3.out⟩
            case measure => simp [RowKit.intOf]; omega
          · have l1 : (LDk ⟨wr.heap.size, 0, none⟩).run Try.prog (wr.alloc (.cells #[.int .u8 6, .int .i64 sh, .int .u8 xa, .int .i64 xc, .int .i64 xo, .int .i64 xd, .int .i64 xm] 25)) = .ok (sv ⟨6, sh, xa, xc, xo, xd, xm⟩) (wr.alloc (.cells #[.int .u8 6, .int .i64 sh, .int .u8 xa, .int .i64 xc, .int .i64 xo, .int .i64 xd, .int .i64 xm] 25)) := ld_any wr ⟨6, sh, xa, xc, xo, xd, xm⟩
            have BA := hid (below_next HB.out (below_alloc wr (.cells #[.int .u8 6, .int .i64 sh, .int .u8 xa, .int .i64 xc, .int .i64 xo, .int .i64 xd, .int .i64 xm] 25)))
            have HA := hid (Sx.own_alloc HO.out (.cells #[.int .u8 6, .int .i64 sh, .int .u8 xa, .int .i64 xc, .int .i64 xo, .int .i64 xd, .int .i64 xm] 25))
            have HY : Hid ((fun i => mx ⟨xk, xh, xa, xc, xo, xd, xm⟩ (f i)) k = ⟨6, sh, xa, xc, xo, xd, xm⟩) := hid (by rw [HYG.out]; rfl)
            clear HYG hk
            have HN : Hid ((k + 1) * 56 ≤ 140737488355328) := hid (Nat.le_trans (Nat.mul_le_mul_right 56 (show k + 1 ≤ n + 6 by omega)) HN6.out)
            go_wp2_with (at_builtin; go_must (refine Sx.wpList_pushK rfl _ _ rfl W1.heap.size k _ (fun i => mx ⟨xk, xh, xa, xc, xo, xd, xm⟩ (f i)) ⟨6, sh, xa, xc, xo, xd, xm⟩ HA.out HN.out HY.out BA.out.size rfl (by show Value.slice (some ⟨wr.heap.size + 1, 0, none⟩) 1 1 = _; simp) ?_))
            intro v' w3 hown hgrow
            have R := hid hown
            have RB3 := hid (Sx.below_push BA.out BA.out.size HA.out hgrow)
            clear hown hgrow HO HB HA BA
            go_wp2
            go_roundw
            case rel => exact ⟨k + 1, by omega, by go_num, R.out, RB3.out⟩
            case measure => simp [RowKit.intOf]; omega
          · have l1 : (LDk ⟨wr.heap.size, 0, none⟩).run Try.prog (wr.alloc (.cells #[.int .u8 7, .int .i64 sh, .int .u8 sa, .int .i64 xc, .int .i64 so, .int .i64 sd, .int .i64 sm] 25)) = .ok (sv ⟨7, sh, sa, xc, so, sd, sm⟩) (wr.alloc (.cells #[.int .u8 7, .int .i64 sh, .int .u8 sa, .int .i64 xc, .int .i64 so, .int .i64 sd, .int .i64 sm] 25)) := ld_any wr ⟨7, sh, sa, xc, so, sd, sm⟩
            have s2 : (SVk ⟨wr.heap.size, 0, none⟩ (sv ⟨7, sh, sa, sc, so, sd, sm⟩)).run Try.prog (wr.alloc (.cells #[.int .u8 7, .int .i64 xh, .int .u8 xa, .int .i64 xc, .int .i64 xo, .int .i64 xd, .int .i64 xm] 25)) = .ok () (wr.alloc (.cells #[.int .u8 7, .int .i64 sh, .int .u8 sa, .int .i64 sc, .int .i64 so, .int .i64 sd, .int .i64 sm] 25)) := sv_any wr ⟨7, xh, xa, xc, xo, xd, xm⟩ ⟨7, sh, sa, sc, so, sd, sm⟩
            have BA := hid (below_next HB.out (below_alloc wr (.cells #[.int .u8 7, .int .i64 sh, .int .u8 sa, .int .i64 xc, .int .i64 so, .int .i64 sd, .int .i64 sm] 25)))
            have HA := hid (Sx.own_alloc HO.out (.cells #[.int .u8 7, .int .i64 sh, .int .u8 sa, .int .i64 xc, .int .i64 so, .int .i64 sd, .int .i64 sm] 25))
            have HY : Hid ((fun i => mx ⟨xk, xh, xa, xc, xo, xd, xm⟩ (f i)) k = ⟨7, sh, sa, xc, so, sd, sm⟩) := hid (by rw [HYG.out]; rfl)
            clear HYG hk
            have HN : Hid ((k + 1) * 56 ≤ 140737488355328) := hid (Nat.le_trans (Nat.mul_le_mul_right 56 (show k + 1 ≤ n + 6 by omega)) HN6.out)
            go_wp2_with (at_builtin; go_must (refine Sx.wpList_pushK rfl _ _ rfl W1.heap.size k _ (fun i => mx ⟨xk, xh, xa, xc, xo, xd, xm⟩ (f i)) ⟨7, sh, sa, xc, so, sd, sm⟩ HA.out HN.out HY.out BA.out.size rfl (by show Value.slice (some ⟨wr.heap.size + 1, 0, none⟩) 1 1 = _; simp) ?_))
            intro v' w3 hown hgrow
            have R := hid hown
            have RB3 := hid (Sx.below_push BA.out BA.out.size HA.out hgrow)
            clear hown hgrow HO HB HA BA
            go_wp2
            go_roundw
            case rel => exact ⟨k + 1, by omega, by go_num, R.out, RB3.out⟩
            case measure => simp [RowKit.intOf]; omega
          · have l1 : (LDk ⟨wr.heap.size, 0, none⟩).run Try.prog (wr.alloc (.cells #[.int .u8 8, .int .i64 sh, .int .u8 sa, .int .i64 sc, .int .i64 so, .int .i64 sd, .int .i64 xm] 25)) = .ok (sv ⟨8, sh, sa, sc, so, sd, xm⟩) (wr.alloc (.cells #[.int .u8 8, .int .i64 sh, .int .u8 sa, .int .i64 sc, .int .i64 so, .int .i64 sd, .int .i64 xm] 25)) := ld_any wr ⟨8, sh, sa, sc, so, sd, xm⟩
            have s2 : (SVk ⟨wr.heap.size, 0, none⟩ (sv ⟨8, sh, sa, sc, so, sd, sm⟩)).run Try.prog (wr.alloc (.cells #[.int .u8 8, .int .i64 xh, .int .u8 xa, .int .i64 xc, .int .i64 xo, .int .i64 xd, .int .i64 xm] 25)) = .ok () (wr.alloc (.cells #[.int .u8 8, .int .i64 sh, .int .u8 sa, .int .i64 sc, .int .i64 so, .int .i64 sd, .int .i64 sm] 25)) := sv_any wr ⟨8, xh, xa, xc, xo, xd, xm⟩ ⟨8, sh, sa, sc, so, sd, sm⟩
            have BA := hid (below_next HB.out (below_alloc wr (.cells #[.int .u8 8, .int .i64 sh, .int .u8 sa, .int .i64 sc, .int .i64 so, .int .i64 sd, .int .i64 xm] 25)))
            have HA := hid (Sx.own_alloc HO.out (.cells #[.int .u8 8, .int .i64 sh, .int .u8 sa, .int .i64 sc, .int .i64 so, .int .i64 sd, .int .i64 xm] 25))
            have HY : Hid ((fun i => mx ⟨xk, xh, xa, xc, xo, xd, xm⟩ (f i)) k = ⟨8, sh, sa, sc, so, sd, xm⟩) := hid (by rw [HYG.out]; rfl)
            clear HYG hk
            have HN : Hid ((k + 1) * 56 ≤ 140737488355328) := hid (Nat.le_trans (Nat.mul_le_mul_right 56 (show k + 1 ≤ n + 6 by omega)) HN6.out)
            go_wp2_with (at_builtin; go_must (refine Sx.wpList_pushK rfl _ _ rfl W1.heap.size k _ (fun i => mx ⟨xk, xh, xa, xc, xo, xd, xm⟩ (f i)) ⟨8, sh, sa, sc, so, sd, xm⟩ HA.out HN.out HY.out BA.out.size rfl (by show Value.slice (some ⟨wr.heap.size + 1, 0, none⟩) 1 1 = _; simp) ?_))
            intro v' w3 hown hgrow
            have R := hid hown
            have RB3 := hid (Sx.below_push BA.out BA.out.size HA.out hgrow)
            clear hown hgrow HO HB HA BA
            go_wp2
            go_roundw
            case rel => exact ⟨k + 1, by omega, by go_num, R.out, RB3.out⟩
            case measure => simp [RowKit.intOf]; omega
          · have l1 : (LDk ⟨wr.heap.size, 0, none⟩).run Try.prog (wr.alloc (.cells #[.int .u8 9, .int .i64 sh, .int .u8 xa, .int .i64 xc, .int .i64 xo, .int .i64 xd, .int .i64 xm] 25)) = .ok (sv ⟨9, sh, xa, xc, xo, xd, xm⟩) (wr.alloc (.cells #[.int .u8 9, .int .i64 sh, .int .u8 xa, .int .i64 xc, .int .i64 xo, .int .i64 xd, .int .i64 xm] 25)) := ld_any wr ⟨9, sh, xa, xc, xo, xd, xm⟩
            have BA := hid (below_next HB.out (below_alloc wr (.cells #[.int .u8 9, .int .i64 sh, .int .u8 xa, .int .i64 xc, .int .i64 xo, .int .i64 xd, .int .i64 xm] 25)))
            have HA := hid (Sx.own_alloc HO.out (.cells #[.int .u8 9, .int .i64 sh, .int .u8 xa, .int .i64 xc, .int .i64 xo, .int .i64 xd, .int .i64 xm] 25))
            have HY : Hid ((fun i => mx ⟨xk, xh, xa, xc, xo, xd, xm⟩ (f i)) k = ⟨9, sh, xa, xc, xo, xd, xm⟩) := hid (by rw [HYG.out]; rfl)
            clear HYG hk
            have HN : Hid ((k + 1) * 56 ≤ 140737488355328) := hid (Nat.le_trans (Nat.mul_le_mul_right 56 (show k + 1 ≤ n + 6 by omega)) HN6.out)
            go_wp2_with (at_builtin; go_must (refine Sx.wpList_pushK rfl _ _ rfl W1.heap.size k _ (fun i => mx ⟨xk, xh, xa, xc, xo, xd, xm⟩ (f i)) ⟨9, sh, xa, xc, xo, xd, xm⟩ HA.out HN.out HY.out BA.out.size rfl (by show Value.slice (some ⟨wr.heap.size + 1, 0, none⟩) 1 1 = _; simp) ?_))
            intro v' w3 hown hgrow
            have R := hid hown
            have RB3 := hid (Sx.below_push BA.out BA.out.size HA.out hgrow)
            clear hown hgrow HO HB HA BA
            go_wp2
            go_roundw
            case rel => exact ⟨k + 1, by omega, by go_num, R.out, RB3.out⟩
            case measure => simp [RowKit.intOf]; omega
          · have l1 : (LDk ⟨wr.heap.size, 0, none⟩).run Try.prog (wr.alloc (.cells #[.int .u8 10, .int .i64 sh, .int .u8 xa, .int .i64 xc, .int .i64 xo, .int .i64 xd, .int .i64 xm] 25)) = .ok (sv ⟨10, sh, xa, xc, xo, xd, xm⟩) (wr.alloc (.cells #[.int .u8 10, .int .i64 sh, .int .u8 xa, .int .i64 xc, .int .i64 xo, .int .i64 xd, .int .i64 xm] 25)) := ld_any wr ⟨10, sh, xa, xc, xo, xd, xm⟩
            have BA := hid (below_next HB.out (below_alloc wr (.cells #[.int .u8 10, .int .i64 sh, .int .u8 xa, .int .i64 xc, .int .i64 xo, .int .i64 xd, .int .i64 xm] 25)))
            have HA := hid (Sx.own_alloc HO.out (.cells #[.int .u8 10, .int .i64 sh, .int .u8 xa, .int .i64 xc, .int .i64 xo, .int .i64 xd, .int .i64 xm] 25))
            have HY : Hid ((fun i => mx ⟨xk, xh, xa, xc, xo, xd, xm⟩ (f i)) k = ⟨10, sh, xa, xc, xo, xd, xm⟩) := hid (by rw [HYG.out]; rfl)
            clear HYG hk
            have HN : Hid ((k + 1) * 56 ≤ 140737488355328) := hid (Nat.le_trans (Nat.mul_le_mul_right 56 (show k + 1 ≤ n + 6 by omega)) HN6.out)
            go_wp2_with (at_builtin; go_must (refine Sx.wpList_pushK rfl _ _ rfl W1.heap.size k _ (fun i => mx ⟨xk, xh, xa, xc, xo, xd, xm⟩ (f i)) ⟨10, sh, xa, xc, xo, xd, xm⟩ HA.out HN.out HY.out BA.out.size rfl (by show Value.slice (some ⟨wr.heap.size + 1, 0, none⟩) 1 1 = _; simp) ?_))
            intro v' w3 hown hgrow
            have R := hid hown
            have RB3 := hid (Sx.below_push BA.out BA.out.size HA.out hgrow)
            clear hown hgrow HO HB HA BA
            go_wp2
            go_roundw
            case rel => exact ⟨k + 1, by omega, by go_num, R.out, RB3.out⟩
            case measure => simp [RowKit.intOf]; omega
      · have e : k = n := by omega
        subst e
        have hM := hid HO.out.reads
        have hB := hid (below_next B1.out HB.out)
        have IN : Hid (∀ i, i < k → SkIn (mx ⟨xk, xh, xa, xc, xo, xd, xm⟩ (f i))) := hid fun i hi => mx_in HX.out (HS.out i hi)
        have AL : Hid (∀ i, i < k → ps (f i) = ps (mx ⟨xk, xh, xa, xc, xo, xd, xm⟩ (f i))) := hid fun i _ => (ps_mx _ _).symm
        obtain ⟨g, hg⟩ : ∃ g : Nat → Sk, (fun i => mx ⟨xk, xh, xa, xc, xo, xd, xm⟩ (f i)) = g := ⟨_, rfl⟩
        have hgi : ∀ i, mx ⟨xk, xh, xa, xc, xo, xd, xm⟩ (f i) = g i := fun i => by rw [← hg]
        simp only [hgi] at IN AL
        rw [hg] at hM
        clear hg hgi HO KX
        obtain ⟨a2, c2, rfl⟩ := hM.out.isSl
        have R1 := runs_ok _ k f wr (H.out.below hB.out) HS.out (by omega)
        go_wp2_with fail
        refine R1.mono ?_
        rintro e W2 ⟨u1, rfl, ho1, b2⟩
        have O1 := hid (ho1.base (Nat.zero_le _))
        have B2 := hid (below_next hB.out b2)
        have M2 := hid (hM.out.below b2)
        clear R1 ho1 b2 hB hM
        have R2 := runs_ok _ k g W2 M2.out IN.out (by omega)
        rw [← rws_alike AL.out] at R2
        have LL : Hid ((jn [] (rws P00 (lf f k))).length < 1000000000000000000) := by
          have hl := (jn_rws (lf f k) P00 [] start_ok (fun q hq => by simp at hq) (by rw [lf_len]; simp only [tt]; omega)).2.2
          rw [lf_len] at hl
          simp only [List.length_nil] at hl
          exact hid (by omega)
        obtain ⟨L, hL⟩ : ∃ L, jn [] (rws P00 (lf f k)) = L := ⟨_, rfl⟩
        rw [hL] at R2 O1 LL
        clear hL
        go_wp2_with fail
        refine R2.mono ?_
        rintro e W3 ⟨u2, rfl, ho2, b3⟩
        have O2 := hid (ho2.base (Nat.zero_le _))
        have O3 := hid (O1.out.below b3)
        have B3 := hid (below_next B2.out b3)
        have M3 := hid (M2.out.below b3)
        clear R2 ho2 b3 B2 M2 O1
        have S1 := same14 u1 u2 L L W3 O3.out.reads O2.out.reads LL.out LL.out
        rw [decide_eq_true rfl] at S1
        go_wp2_with fail
        refine S1.mono ?_
        rintro e W4 ⟨rfl, d4, rfl⟩
        have B4 := hid (below_next B3.out (below_drewN W3 d4))
        have M4 := hid (M3.out.below (below_drewN W3 d4))
        clear S1 O2 O3 B3 M3
        obtain ⟨W4, hW4⟩ : ∃ W, W3.drewN d4 = W := ⟨_, rfl⟩
        rw [hW4] at B4 M4
        rw [hW4]
        clear hW4
        have C1 := codes_ok _ k f W4 (H.out.below B4.out) HS.out (by omega)
        go_wp2_with fail
        refine C1.mono ?_
        rintro e W5 ⟨gc, rfl, kc, hgc, b5⟩
        have KC := hid kc
        have B5 := hid (below_next B4.out b5)
        have M5 := hid (M4.out.below b5)
        clear C1 kc hgc b5 B4 M4
        have C2 := codes_ok _ k g W5 M5.out IN.out (by omega)
        go_wp2_with fail
        refine C2.mono ?_
        rintro e W6 ⟨gd, rfl, kd, hgd, b6⟩
        have KD := hid kd
        have KC6 := hid (KC.out.below b6)
        have B6 := hid (below_next B5.out b6)
        clear C2 kd hgd b6 B5 M5 KC
        have SC : Hid (Calls Try.prog 20 #[.slice (some ⟨gc, 0, none⟩) k k, .slice (some ⟨gd, 0, none⟩) k k] W6 fun e w' => e = .returned (.bool true) ∧ Below W6.heap.size W6 w') :=
          samec_ok gc gd k k k (cc f) W6 (fun V hV i hi => (KC6.out.below hV).cell i _ (by rw [List.getElem?_map, List.getElem?_range hi]; rfl)) (fun V hV i hi => (KD.out.below hV).cell i _ (by rw [List.getElem?_map, List.getElem?_range hi, Option.map_some, cc_alike AL.out hi])) (by omega)
        go_wp2_with fail
        refine SC.out.mono ?_
        rintro e W7 ⟨rfl, b7⟩
        have B7 := hid (below_next B6.out b7)
        clear SC b7 B6
        go_wp2
        go_ret
        exact ⟨rfl, B7.out⟩
end Go.Proofs.Ytdmacflcjbkkpaa.Co
