/- The document's codes of an operation on what a handle has. The document's codes of what is derived. The document's codes of an operation on what a handle has, of every kind. -/
import Derived.Test.YtdmacflcjbkkpaaGreatCfn
namespace Go.Proofs.YtdmacflcjbkkpaaGreat.Cd
open Go.Proofs.YtdmacflcjbkkpaaGreat.Co
open Go.ChangeShapes Go.WideShapes Go.ChangeAt Go.RowKit
open Go.Proofs.YtdmacflcjbkkpaaGreat.Ou (Sk sv sL LDk SVk LDk_run SVk_run)
open Go.Proofs.YtdmacflcjbkkpaaGreat.Tb (Blk Blk.newAt put_all Kp.setCells)
/-- What the document knows of a handle, as a value. -/
abbrev dv (h : He) : Value := .agg #[.int .i64 h.key, .int .u8 h.alg, .int .i64 h.out, .int .i64 h.cus, .int .i64 h.msg]
abbrev dL (h : He) : List Value := [.int .i64 h.key, .int .u8 h.alg, .int .i64 h.out, .int .i64 h.cus, .int .i64 h.msg]
def LDd (a : Addr) : Sem Value := loadVar 64 a
def SVd (a : Addr) (v : Value) : Sem Unit := storeVar 64 a v
@[go_sem ↓ high] theorem ldd (a : Addr) : loadVar 64 a = LDd a := rfl
@[go_sem ↓ high] theorem svd (a : Addr) (v : Value) : storeVar 64 a v = SVd a v := rfl
theorem infod (h : He) : (Tryz.prog.info? 64).map (·.size) = some (dL h).length := by kernel_rfl
theorem LDd_run {W : World} {g o : Nat} {h : He} (b : W.rangeAt g o (dL h)) : (LDd ⟨g, o, none⟩).run Tryz.prog W = .ok (dv h) W :=
  run_loadVar_mid W g o _ (dL h) _ b Tryz.underlying64 rfl (infod h)
theorem LDd_blk {W : World} {g : Nat} {h : He} (b : Blk W g (dL h) 64) : (LDd ⟨g, 0, none⟩).run Tryz.prog W = .ok (dv h) W :=
  LDd_run (b.range 0 _ (fun _ _ hv => by rw [Nat.zero_add]; exact hv))
theorem dL_one (h : He) : ∀ u ∈ dL h, u.oneCell' = true := by
  intro u hu
  simp only [dL, List.mem_cons, List.not_mem_nil, or_false] at hu
  rcases hu with rfl | rfl | rfl | rfl | rfl <;> rfl
theorem SVd_at {W : World} {g o : Nat} (h : He) (ht : W.there g o 5) : (SVd ⟨g, o, none⟩ (dv h)).run Tryz.prog W = .ok () (W.setCells g o (dL h)) :=
  run_storeVar_mid W g o _ (dL h).toArray (by simpa using ht) (by simpa using infod h) (all_oneCell_toArray (dL_one h))
theorem SVd_run {W : World} {g : Nat} {cs : List Value} (h : He) (b : Blk W g cs 64) (hl : cs.length = 5) : ∃ W', (SVd ⟨g, 0, none⟩ (dv h)).run Tryz.prog W = .ok () W' ∧ Blk W' g (dL h) 64 ∧ Kp (fun j => j = g) W W' := by
  refine ⟨W.setCells g 0 (dL h), SVd_at h (b.there 0 _ (by simp [hl])), ?_, Kp.setCells g 0 _⟩
  have := b.put 0 (dL h)
  rw [put_all cs (dL h) (by rw [hl]; rfl)] at this
  exact this
/-- One of the four KMACs. -/
def kmq (a : Int) : Bool := decide (4 ≤ a ∧ a ≤ 7)
set_option maxRecDepth 8000 in
set_option maxHeartbeats 1600000 in
theorem Kmac_ok (a : Int) (w : World) : Calls Tryz.prog 112 #[.int .u8 a] w fun e w' => e = .returned (.bool (kmq a)) ∧ w' = w := by
  by_cases h1 : a < 4
  · have E : Hid (kmq a = false) := hid (decide_eq_false (by omega))
    have h2 : ¬ 4 ≤ a := by omega
    go_enter Tryz.func112, Tryz.ntmps112
    go_wp2
    go_ret
    exact ⟨by rw [E.out]; rfl, rfl⟩
  · have h2 : 4 ≤ a := by omega
    by_cases h3 : a ≤ 7
    · have E : Hid (kmq a = true) := hid (decide_eq_true (by omega))
      go_enter Tryz.func112, Tryz.ntmps112
      go_wp2
      go_ret
      exact ⟨by rw [E.out]; rfl, rfl⟩
    · have E : Hid (kmq a = false) := hid (decide_eq_false (by omega))
      go_enter Tryz.func112, Tryz.ntmps112
      go_wp2
      go_ret
      exact ⟨by rw [E.out]; rfl, rfl⟩
set_option maxRecDepth 8000 in
set_option maxHeartbeats 1600000 in
theorem takes_ok (k : Int) (w : World) : Calls Tryz.prog 67 #[.int .u8 k] w fun e w' => e = .returned (.bool (tks k)) ∧ w' = w := by
  by_cases h1 : k = 1
  · subst h1
    go_enter Tryz.func67, Tryz.ntmps67
    go_wp2
    go_ret
    exact ⟨rfl, rfl⟩
  · skip
    by_cases h2 : k = 2
    · subst h2
      go_enter Tryz.func67, Tryz.ntmps67
      go_wp2
      go_ret
      exact ⟨rfl, rfl⟩
    · skip
      by_cases h6 : k = 6
      · subst h6
        go_enter Tryz.func67, Tryz.ntmps67
        go_wp2
        go_ret
        exact ⟨rfl, rfl⟩
      · skip
        by_cases h7 : k = 7
        · subst h7
          go_enter Tryz.func67, Tryz.ntmps67
          go_wp2
          go_ret
          exact ⟨rfl, rfl⟩
        · skip
          by_cases h8 : k = 8
          · subst h8
            go_enter Tryz.func67, Tryz.ntmps67
            go_wp2
            go_ret
            exact ⟨rfl, rfl⟩
          · skip
            go_enter Tryz.func67, Tryz.ntmps67
            go_wp2
            go_ret
            exact ⟨rfl, rfl⟩
/-- The same, number by number. -/
def bgN (a d o key : Int) : Int := if a < 1 ∨ 7 < a then 4 else if a = 3 ∧ key ≠ 16 ∧ key ≠ 24 ∧ key ≠ 32 then 7 else if 0 < d ∧ ¬ (4 ≤ a ∧ a ≤ 7) then 2 else if 64 < d then 9 else if o < 1 ∨ mos a < o then 11 else 0
def drN (k a c o d m : Int) : Int := if sz a = 0 then 4 else if 65536 < d then 9 else if (k = 7 ∧ (65536 < m ∨ 255 * sz a < o)) ∨ (k = 8 ∧ 4294967295 * sz a < o) then 9 else if k = 8 ∧ (c < 1 ∨ 1048576 < c) then 10 else if o < 1 ∨ 512 < o then 7 else 0
set_option maxRecDepth 8000 in
set_option maxHeartbeats 1600000 in
theorem begins_ok (s : Sk) (h : He) (w : World) : Calls Tryz.prog 88 #[sv s, dv h] w fun e w' => e = .returned (.int .i64 (bgC s h)) ∧ Below w.heap.size w w' := by
  obtain ⟨sk, sh, sa, sc, so, sd, sm⟩ := s
  obtain ⟨key, alg, out, cus, msg⟩ := h
  obtain ⟨W, hW⟩ : ∃ W, (w.alloc (.cells #[.int .u8 sk, .int .i64 sh, .int .u8 sa, .int .i64 sc, .int .i64 so, .int .i64 sd, .int .i64 sm] 40)).alloc (.cells #[.int .i64 key, .int .u8 alg, .int .i64 out, .int .i64 cus, .int .i64 msg] 64) = W := ⟨_, rfl⟩
  have BW : Hid (Below w.heap.size w W) := by rw [← hW]; exact below_next (below_alloc _ _) (below_alloc _ _)
  have K0 : Blk W w.heap.size [.int .u8 sk, .int .i64 sh, .int .u8 sa, .int .i64 sc, .int .i64 so, .int .i64 sd, .int .i64 sm] 40 := by rw [← hW]; exact (Blk.newAt w _ _ _ w.heap.size rfl rfl : Blk _ _ [.int .u8 sk, .int .i64 sh, .int .u8 sa, .int .i64 sc, .int .i64 so, .int .i64 sd, .int .i64 sm] 40).alloc _
  have x00 := K0.cell 0 _ rfl
  have x01 := K0.cell 1 _ rfl
  have x02 := K0.cell 2 _ rfl
  have x03 := K0.cell 3 _ rfl
  have x04 := K0.cell 4 _ rfl
  have x05 := K0.cell 5 _ rfl
  have x06 := K0.cell 6 _ rfl
  have l0 := LDk_run (s := ⟨sk, sh, sa, sc, so, sd, sm⟩) K0
  clear K0
  have K1 : Blk W (w.heap.size + 1) [.int .i64 key, .int .u8 alg, .int .i64 out, .int .i64 cus, .int .i64 msg] 64 := by rw [← hW]; exact (Blk.newAt (w.alloc _) _ _ _ (w.heap.size + 1) (by simp) rfl : Blk _ _ [.int .i64 key, .int .u8 alg, .int .i64 out, .int .i64 cus, .int .i64 msg] 64)
  have x10 := K1.cell 0 _ rfl
  have x11 := K1.cell 1 _ rfl
  have x12 := K1.cell 2 _ rfl
  have x13 := K1.cell 3 _ rfl
  have x14 := K1.cell 4 _ rfl
  have l1 := LDd_blk (h := ⟨key, alg, out, cus, msg⟩) K1
  clear K1
  by_cases l1 : sa < 1
  · have E : Hid (bgC ⟨sk, sh, sa, sc, so, sd, sm⟩ ⟨key, alg, out, cus, msg⟩ = 4) := hid (by
      show bgN sa sd so key = 4
      unfold bgN
      rw [if_pos (by omega)])
    go_enter Tryz.func88, Tryz.ntmps88
    go_wp2
    go_ret
    exact ⟨by rw [E.out]; rfl, by first | exact BW.out | exact below_next BW.out (below_drewN _ _) | exact below_next (below_alloc _ _) (below_drewN _ _)⟩
  · by_cases l7 : 7 < sa
    · have E : Hid (bgC ⟨sk, sh, sa, sc, so, sd, sm⟩ ⟨key, alg, out, cus, msg⟩ = 4) := hid (by
        show bgN sa sd so key = 4
        unfold bgN
        rw [if_pos (by omega)])
      go_enter Tryz.func88, Tryz.ntmps88
      go_wp2
      go_ret
      exact ⟨by rw [E.out]; rfl, by first | exact BW.out | exact below_next BW.out (below_drewN _ _) | exact below_next (below_alloc _ _) (below_drewN _ _)⟩
    · by_cases a3 : sa = 3
      · subst a3
        by_cases k16 : key = 16
        · subst k16
          by_cases d0 : 0 < sd
          · have E : Hid (bgC ⟨sk, sh, 3, sc, so, sd, sm⟩ ⟨16, alg, out, cus, msg⟩ = 2) := hid (by
              show bgN 3 sd so 16 = 2
              unfold bgN
              rw [if_neg (by omega), if_neg (by omega), if_pos (by omega)])
            go_enter Tryz.func88, Tryz.ntmps88
            go_wp2_with fail
            refine (Kmac_ok _ _).mono ?_
            rintro e w' ⟨rfl, rfl⟩
            rw [show kmq 3 = false from rfl]
            go_wp2
            go_ret
            exact ⟨by rw [E.out]; rfl, by first | exact BW.out | exact below_next BW.out (below_drewN _ _) | exact below_next (below_alloc _ _) (below_drewN _ _)⟩
          · have d1 : ¬ 64 < sd := by omega
            have M : mos 3 = 16 := by unfold mos; (repeat' split) <;> first | rfl | omega
            by_cases o1 : so < 1
            · have E : Hid (bgC ⟨sk, sh, 3, sc, so, sd, sm⟩ ⟨16, alg, out, cus, msg⟩ = 11) := hid (by
                show bgN 3 sd so 16 = 11
                unfold bgN
                rw [if_neg (by omega), if_neg (by omega), if_neg (by omega), if_neg (by omega), if_pos (by omega)])
              go_enter Tryz.func88, Tryz.ntmps88
              go_wp2
              go_ret
              exact ⟨by rw [E.out]; rfl, by first | exact BW.out | exact below_next BW.out (below_drewN _ _) | exact below_next (below_alloc _ _) (below_drewN _ _)⟩
            · by_cases o2 : 16 < so
              · have E : Hid (bgC ⟨sk, sh, 3, sc, so, sd, sm⟩ ⟨16, alg, out, cus, msg⟩ = 11) := hid (by
                  show bgN 3 sd so 16 = 11
                  unfold bgN
                  rw [if_neg (by omega), if_neg (by omega), if_neg (by omega), if_neg (by omega), if_pos (by omega)])
                go_enter Tryz.func88, Tryz.ntmps88
                go_wp2
                go_ret
                exact ⟨by rw [E.out]; rfl, by first | exact BW.out | exact below_next BW.out (below_drewN _ _) | exact below_next (below_alloc _ _) (below_drewN _ _)⟩
              · have E : Hid (bgC ⟨sk, sh, 3, sc, so, sd, sm⟩ ⟨16, alg, out, cus, msg⟩ = 0) := hid (by
                  show bgN 3 sd so 16 = 0
                  unfold bgN
                  rw [if_neg (by omega), if_neg (by omega), if_neg (by omega), if_neg (by omega), if_neg (by omega)])
                go_enter Tryz.func88, Tryz.ntmps88
                go_wp2
                go_ret
                exact ⟨by rw [E.out]; rfl, by first | exact BW.out | exact below_next BW.out (below_drewN _ _) | exact below_next (below_alloc _ _) (below_drewN _ _)⟩
        · have n16 : (key != 16) = true := bne_iff_ne.2 k16
          by_cases k24 : key = 24
          · subst k24
            by_cases d0 : 0 < sd
            · have E : Hid (bgC ⟨sk, sh, 3, sc, so, sd, sm⟩ ⟨24, alg, out, cus, msg⟩ = 2) := hid (by
                show bgN 3 sd so 24 = 2
                unfold bgN
                rw [if_neg (by omega), if_neg (by omega), if_pos (by omega)])
              go_enter Tryz.func88, Tryz.ntmps88
              go_wp2_with fail
              refine (Kmac_ok _ _).mono ?_
              rintro e w' ⟨rfl, rfl⟩
              rw [show kmq 3 = false from rfl]
              go_wp2
              go_ret
              exact ⟨by rw [E.out]; rfl, by first | exact BW.out | exact below_next BW.out (below_drewN _ _) | exact below_next (below_alloc _ _) (below_drewN _ _)⟩
            · have d1 : ¬ 64 < sd := by omega
              have M : mos 3 = 16 := by unfold mos; (repeat' split) <;> first | rfl | omega
              by_cases o1 : so < 1
              · have E : Hid (bgC ⟨sk, sh, 3, sc, so, sd, sm⟩ ⟨24, alg, out, cus, msg⟩ = 11) := hid (by
                  show bgN 3 sd so 24 = 11
                  unfold bgN
                  rw [if_neg (by omega), if_neg (by omega), if_neg (by omega), if_neg (by omega), if_pos (by omega)])
                go_enter Tryz.func88, Tryz.ntmps88
                go_wp2
                go_ret
                exact ⟨by rw [E.out]; rfl, by first | exact BW.out | exact below_next BW.out (below_drewN _ _) | exact below_next (below_alloc _ _) (below_drewN _ _)⟩
              · by_cases o2 : 16 < so
                · have E : Hid (bgC ⟨sk, sh, 3, sc, so, sd, sm⟩ ⟨24, alg, out, cus, msg⟩ = 11) := hid (by
                    show bgN 3 sd so 24 = 11
                    unfold bgN
                    rw [if_neg (by omega), if_neg (by omega), if_neg (by omega), if_neg (by omega), if_pos (by omega)])
                  go_enter Tryz.func88, Tryz.ntmps88
                  go_wp2
                  go_ret
                  exact ⟨by rw [E.out]; rfl, by first | exact BW.out | exact below_next BW.out (below_drewN _ _) | exact below_next (below_alloc _ _) (below_drewN _ _)⟩
                · have E : Hid (bgC ⟨sk, sh, 3, sc, so, sd, sm⟩ ⟨24, alg, out, cus, msg⟩ = 0) := hid (by
                    show bgN 3 sd so 24 = 0
                    unfold bgN
                    rw [if_neg (by omega), if_neg (by omega), if_neg (by omega), if_neg (by omega), if_neg (by omega)])
                  go_enter Tryz.func88, Tryz.ntmps88
                  go_wp2
                  go_ret
                  exact ⟨by rw [E.out]; rfl, by first | exact BW.out | exact below_next BW.out (below_drewN _ _) | exact below_next (below_alloc _ _) (below_drewN _ _)⟩
          · have n24 : (key != 24) = true := bne_iff_ne.2 k24
            by_cases k32 : key = 32
            · subst k32
              by_cases d0 : 0 < sd
              · have E : Hid (bgC ⟨sk, sh, 3, sc, so, sd, sm⟩ ⟨32, alg, out, cus, msg⟩ = 2) := hid (by
                  show bgN 3 sd so 32 = 2
                  unfold bgN
                  rw [if_neg (by omega), if_neg (by omega), if_pos (by omega)])
                go_enter Tryz.func88, Tryz.ntmps88
                go_wp2_with fail
                refine (Kmac_ok _ _).mono ?_
                rintro e w' ⟨rfl, rfl⟩
                rw [show kmq 3 = false from rfl]
                go_wp2
                go_ret
                exact ⟨by rw [E.out]; rfl, by first | exact BW.out | exact below_next BW.out (below_drewN _ _) | exact below_next (below_alloc _ _) (below_drewN _ _)⟩
              · have d1 : ¬ 64 < sd := by omega
                have M : mos 3 = 16 := by unfold mos; (repeat' split) <;> first | rfl | omega
                by_cases o1 : so < 1
                · have E : Hid (bgC ⟨sk, sh, 3, sc, so, sd, sm⟩ ⟨32, alg, out, cus, msg⟩ = 11) := hid (by
                    show bgN 3 sd so 32 = 11
                    unfold bgN
                    rw [if_neg (by omega), if_neg (by omega), if_neg (by omega), if_neg (by omega), if_pos (by omega)])
                  go_enter Tryz.func88, Tryz.ntmps88
                  go_wp2
                  go_ret
                  exact ⟨by rw [E.out]; rfl, by first | exact BW.out | exact below_next BW.out (below_drewN _ _) | exact below_next (below_alloc _ _) (below_drewN _ _)⟩
                · by_cases o2 : 16 < so
                  · have E : Hid (bgC ⟨sk, sh, 3, sc, so, sd, sm⟩ ⟨32, alg, out, cus, msg⟩ = 11) := hid (by
                      show bgN 3 sd so 32 = 11
                      unfold bgN
                      rw [if_neg (by omega), if_neg (by omega), if_neg (by omega), if_neg (by omega), if_pos (by omega)])
                    go_enter Tryz.func88, Tryz.ntmps88
                    go_wp2
                    go_ret
                    exact ⟨by rw [E.out]; rfl, by first | exact BW.out | exact below_next BW.out (below_drewN _ _) | exact below_next (below_alloc _ _) (below_drewN _ _)⟩
                  · have E : Hid (bgC ⟨sk, sh, 3, sc, so, sd, sm⟩ ⟨32, alg, out, cus, msg⟩ = 0) := hid (by
                      show bgN 3 sd so 32 = 0
                      unfold bgN
                      rw [if_neg (by omega), if_neg (by omega), if_neg (by omega), if_neg (by omega), if_neg (by omega)])
                    go_enter Tryz.func88, Tryz.ntmps88
                    go_wp2
                    go_ret
                    exact ⟨by rw [E.out]; rfl, by first | exact BW.out | exact below_next BW.out (below_drewN _ _) | exact below_next (below_alloc _ _) (below_drewN _ _)⟩
            · have n32 : (key != 32) = true := bne_iff_ne.2 k32
              have E : Hid (bgC ⟨sk, sh, 3, sc, so, sd, sm⟩ ⟨key, alg, out, cus, msg⟩ = 7) := hid (by
                show bgN 3 sd so key = 7
                unfold bgN
                rw [if_neg (by omega), if_pos (by omega)])
              go_enter Tryz.func88, Tryz.ntmps88
              go_wp2
              go_ret
              exact ⟨by rw [E.out]; rfl, by first | exact BW.out | exact below_next BW.out (below_drewN _ _) | exact below_next (below_alloc _ _) (below_drewN _ _)⟩
      · by_cases d0 : 0 < sd
        · by_cases a4 : 4 ≤ sa
          · have KT : kmq sa = true := decide_eq_true (by omega)
            by_cases d1 : 64 < sd
            · have E : Hid (bgC ⟨sk, sh, sa, sc, so, sd, sm⟩ ⟨key, alg, out, cus, msg⟩ = 9) := hid (by
                show bgN sa sd so key = 9
                unfold bgN
                rw [if_neg (by omega), if_neg (by omega), if_neg (by omega), if_pos (by omega)])
              go_enter Tryz.func88, Tryz.ntmps88
              go_wp2_with fail
              refine (Kmac_ok _ _).mono ?_
              rintro e w' ⟨rfl, rfl⟩
              rw [KT]
              go_wp2
              go_ret
              exact ⟨by rw [E.out]; rfl, by first | exact BW.out | exact below_next BW.out (below_drewN _ _) | exact below_next (below_alloc _ _) (below_drewN _ _)⟩
            · have a1 : ¬ sa = 1 := by omega
              have M : mos sa = 64 := by unfold mos; (repeat' split) <;> first | rfl | omega
              by_cases o1 : so < 1
              · have E : Hid (bgC ⟨sk, sh, sa, sc, so, sd, sm⟩ ⟨key, alg, out, cus, msg⟩ = 11) := hid (by
                  show bgN sa sd so key = 11
                  unfold bgN
                  rw [if_neg (by omega), if_neg (by omega), if_neg (by omega), if_neg (by omega), if_pos (by omega)])
                go_enter Tryz.func88, Tryz.ntmps88
                go_wp2_with fail
                refine (Kmac_ok _ _).mono ?_
                rintro e w' ⟨rfl, rfl⟩
                rw [KT]
                go_wp2
                go_ret
                exact ⟨by rw [E.out]; rfl, by first | exact BW.out | exact below_next BW.out (below_drewN _ _) | exact below_next (below_alloc _ _) (below_drewN _ _)⟩
              · by_cases o2 : 64 < so
                · have E : Hid (bgC ⟨sk, sh, sa, sc, so, sd, sm⟩ ⟨key, alg, out, cus, msg⟩ = 11) := hid (by
                    show bgN sa sd so key = 11
                    unfold bgN
                    rw [if_neg (by omega), if_neg (by omega), if_neg (by omega), if_neg (by omega), if_pos (by omega)])
                  go_enter Tryz.func88, Tryz.ntmps88
                  go_wp2_with fail
                  refine (Kmac_ok _ _).mono ?_
                  rintro e w' ⟨rfl, rfl⟩
                  rw [KT]
                  go_wp2
                  go_ret
                  exact ⟨by rw [E.out]; rfl, by first | exact BW.out | exact below_next BW.out (below_drewN _ _) | exact below_next (below_alloc _ _) (below_drewN _ _)⟩
                · have E : Hid (bgC ⟨sk, sh, sa, sc, so, sd, sm⟩ ⟨key, alg, out, cus, msg⟩ = 0) := hid (by
                    show bgN sa sd so key = 0
                    unfold bgN
                    rw [if_neg (by omega), if_neg (by omega), if_neg (by omega), if_neg (by omega), if_neg (by omega)])
                  go_enter Tryz.func88, Tryz.ntmps88
                  go_wp2_with fail
                  refine (Kmac_ok _ _).mono ?_
                  rintro e w' ⟨rfl, rfl⟩
                  rw [KT]
                  go_wp2
                  go_ret
                  exact ⟨by rw [E.out]; rfl, by first | exact BW.out | exact below_next BW.out (below_drewN _ _) | exact below_next (below_alloc _ _) (below_drewN _ _)⟩
          · have KF : kmq sa = false := decide_eq_false (by omega)
            have E : Hid (bgC ⟨sk, sh, sa, sc, so, sd, sm⟩ ⟨key, alg, out, cus, msg⟩ = 2) := hid (by
              show bgN sa sd so key = 2
              unfold bgN
              rw [if_neg (by omega), if_neg (by omega), if_pos (by omega)])
            go_enter Tryz.func88, Tryz.ntmps88
            go_wp2_with fail
            refine (Kmac_ok _ _).mono ?_
            rintro e w' ⟨rfl, rfl⟩
            rw [KF]
            go_wp2
            go_ret
            exact ⟨by rw [E.out]; rfl, by first | exact BW.out | exact below_next BW.out (below_drewN _ _) | exact below_next (below_alloc _ _) (below_drewN _ _)⟩
        · have d1 : ¬ 64 < sd := by omega
          by_cases a1 : sa = 1
          · subst a1
            have M : mos 1 = 32 := by unfold mos; (repeat' split) <;> first | rfl | omega
            by_cases o1 : so < 1
            · have E : Hid (bgC ⟨sk, sh, 1, sc, so, sd, sm⟩ ⟨key, alg, out, cus, msg⟩ = 11) := hid (by
                show bgN 1 sd so key = 11
                unfold bgN
                rw [if_neg (by omega), if_neg (by omega), if_neg (by omega), if_neg (by omega), if_pos (by omega)])
              go_enter Tryz.func88, Tryz.ntmps88
              go_wp2
              go_ret
              exact ⟨by rw [E.out]; rfl, by first | exact BW.out | exact below_next BW.out (below_drewN _ _) | exact below_next (below_alloc _ _) (below_drewN _ _)⟩
            · by_cases o2 : 32 < so
              · have E : Hid (bgC ⟨sk, sh, 1, sc, so, sd, sm⟩ ⟨key, alg, out, cus, msg⟩ = 11) := hid (by
                  show bgN 1 sd so key = 11
                  unfold bgN
                  rw [if_neg (by omega), if_neg (by omega), if_neg (by omega), if_neg (by omega), if_pos (by omega)])
                go_enter Tryz.func88, Tryz.ntmps88
                go_wp2
                go_ret
                exact ⟨by rw [E.out]; rfl, by first | exact BW.out | exact below_next BW.out (below_drewN _ _) | exact below_next (below_alloc _ _) (below_drewN _ _)⟩
              · have E : Hid (bgC ⟨sk, sh, 1, sc, so, sd, sm⟩ ⟨key, alg, out, cus, msg⟩ = 0) := hid (by
                  show bgN 1 sd so key = 0
                  unfold bgN
                  rw [if_neg (by omega), if_neg (by omega), if_neg (by omega), if_neg (by omega), if_neg (by omega)])
                go_enter Tryz.func88, Tryz.ntmps88
                go_wp2
                go_ret
                exact ⟨by rw [E.out]; rfl, by first | exact BW.out | exact below_next BW.out (below_drewN _ _) | exact below_next (below_alloc _ _) (below_drewN _ _)⟩
          · have M : mos sa = 64 := by unfold mos; (repeat' split) <;> first | rfl | omega
            by_cases o1 : so < 1
            · have E : Hid (bgC ⟨sk, sh, sa, sc, so, sd, sm⟩ ⟨key, alg, out, cus, msg⟩ = 11) := hid (by
                show bgN sa sd so key = 11
                unfold bgN
                rw [if_neg (by omega), if_neg (by omega), if_neg (by omega), if_neg (by omega), if_pos (by omega)])
              go_enter Tryz.func88, Tryz.ntmps88
              go_wp2
              go_ret
              exact ⟨by rw [E.out]; rfl, by first | exact BW.out | exact below_next BW.out (below_drewN _ _) | exact below_next (below_alloc _ _) (below_drewN _ _)⟩
            · by_cases o2 : 64 < so
              · have E : Hid (bgC ⟨sk, sh, sa, sc, so, sd, sm⟩ ⟨key, alg, out, cus, msg⟩ = 11) := hid (by
                  show bgN sa sd so key = 11
                  unfold bgN
                  rw [if_neg (by omega), if_neg (by omega), if_neg (by omega), if_neg (by omega), if_pos (by omega)])
                go_enter Tryz.func88, Tryz.ntmps88
                go_wp2
                go_ret
                exact ⟨by rw [E.out]; rfl, by first | exact BW.out | exact below_next BW.out (below_drewN _ _) | exact below_next (below_alloc _ _) (below_drewN _ _)⟩
              · have E : Hid (bgC ⟨sk, sh, sa, sc, so, sd, sm⟩ ⟨key, alg, out, cus, msg⟩ = 0) := hid (by
                  show bgN sa sd so key = 0
                  unfold bgN
                  rw [if_neg (by omega), if_neg (by omega), if_neg (by omega), if_neg (by omega), if_neg (by omega)])
                go_enter Tryz.func88, Tryz.ntmps88
                go_wp2
                go_ret
                exact ⟨by rw [E.out]; rfl, by first | exact BW.out | exact below_next BW.out (below_drewN _ _) | exact below_next (below_alloc _ _) (below_drewN _ _)⟩
end Go.Proofs.YtdmacflcjbkkpaaGreat.Cd
namespace Go.Proofs.YtdmacflcjbkkpaaGreat.Cd
open Go.Proofs.YtdmacflcjbkkpaaGreat.Co
open Go.ChangeShapes Go.WideShapes Go.ChangeAt Go.RowKit
open Go.Proofs.YtdmacflcjbkkpaaGreat.Ou (Sk sv sL LDk SVk LDk_run SVk_run)
open Go.Proofs.YtdmacflcjbkkpaaGreat.Tb (Blk Blk.newAt put_all Kp.setCells)
set_option maxRecDepth 8000 in
set_option maxHeartbeats 1600000 in
theorem derives_ok (s : Sk) (w : World) : Calls Tryz.prog 89 #[sv s] w fun e w' => e = .returned (.int .i64 (drC s)) ∧ Below w.heap.size w w' := by
  obtain ⟨sk, sh, sa, sc, so, sd, sm⟩ := s
  obtain ⟨W, hW⟩ : ∃ W, w.alloc (.cells #[.int .u8 sk, .int .i64 sh, .int .u8 sa, .int .i64 sc, .int .i64 so, .int .i64 sd, .int .i64 sm] 40) = W := ⟨_, rfl⟩
  have BW : Hid (Below w.heap.size w W) := by rw [← hW]; exact below_alloc _ _
  have K0 : Blk W w.heap.size [.int .u8 sk, .int .i64 sh, .int .u8 sa, .int .i64 sc, .int .i64 so, .int .i64 sd, .int .i64 sm] 40 := by rw [← hW]; exact (Blk.newAt w _ _ _ w.heap.size rfl rfl : Blk _ _ [.int .u8 sk, .int .i64 sh, .int .u8 sa, .int .i64 sc, .int .i64 so, .int .i64 sd, .int .i64 sm] 40)
  have x00 := K0.cell 0 _ rfl
  have x01 := K0.cell 1 _ rfl
  have x02 := K0.cell 2 _ rfl
  have x03 := K0.cell 3 _ rfl
  have x04 := K0.cell 4 _ rfl
  have x05 := K0.cell 5 _ rfl
  have x06 := K0.cell 6 _ rfl
  have l0 := LDk_run (s := ⟨sk, sh, sa, sc, so, sd, sm⟩) K0
  clear K0
  by_cases a1 : sa = 1
  · subst a1
    have Z : sz 1 = 32 := rfl
    by_cases d1 : 65536 < sd
    · have E : Hid (drC ⟨sk, sh, 1, sc, so, sd, sm⟩ = 9) := hid (by
        show drN sk 1 sc so sd sm = 9
        unfold drN
        rw [if_neg (by omega), if_pos (by omega)])
      go_enter Tryz.func89, Tryz.ntmps89
      go_wp2_with fail
      refine (Size_ok _ _).mono ?_
      rintro e w' ⟨rfl, d, rfl⟩
      try rw [Z]
      go_wp2
      go_ret
      exact ⟨by rw [E.out]; rfl, by first | exact BW.out | exact below_next BW.out (below_drewN _ _) | exact below_next (below_alloc _ _) (below_drewN _ _)⟩
    · by_cases k7 : sk = 7
      · subst k7
        by_cases m1 : 65536 < sm
        · have E : Hid (drC ⟨7, sh, 1, sc, so, sd, sm⟩ = 9) := hid (by
            show drN 7 1 sc so sd sm = 9
            unfold drN
            rw [if_neg (by omega), if_neg (by omega), if_pos (by omega)])
          go_enter Tryz.func89, Tryz.ntmps89
          go_wp2_with fail
          refine (Size_ok _ _).mono ?_
          rintro e w' ⟨rfl, d, rfl⟩
          try rw [Z]
          go_wp2
          go_ret
          exact ⟨by rw [E.out]; rfl, by first | exact BW.out | exact below_next BW.out (below_drewN _ _) | exact below_next (below_alloc _ _) (below_drewN _ _)⟩
        · by_cases q1 : 8160 < so
          · have E : Hid (drC ⟨7, sh, 1, sc, so, sd, sm⟩ = 9) := hid (by
              show drN 7 1 sc so sd sm = 9
              unfold drN
              rw [if_neg (by omega), if_neg (by omega), if_pos (by omega)])
            go_enter Tryz.func89, Tryz.ntmps89
            go_wp2_with fail
            refine (Size_ok _ _).mono ?_
            rintro e w' ⟨rfl, d, rfl⟩
            try rw [Z]
            go_wp2
            go_ret
            exact ⟨by rw [E.out]; rfl, by first | exact BW.out | exact below_next BW.out (below_drewN _ _) | exact below_next (below_alloc _ _) (below_drewN _ _)⟩
          · by_cases o1 : so < 1
            · have E : Hid (drC ⟨7, sh, 1, sc, so, sd, sm⟩ = 7) := hid (by
                show drN 7 1 sc so sd sm = 7
                unfold drN
                rw [if_neg (by omega), if_neg (by omega), if_neg (by omega), if_neg (by omega), if_pos (by omega)])
              go_enter Tryz.func89, Tryz.ntmps89
              go_wp2_with fail
              refine (Size_ok _ _).mono ?_
              rintro e w' ⟨rfl, d, rfl⟩
              try rw [Z]
              go_wp2
              go_ret
              exact ⟨by rw [E.out]; rfl, by first | exact BW.out | exact below_next BW.out (below_drewN _ _) | exact below_next (below_alloc _ _) (below_drewN _ _)⟩
            · by_cases o2 : 512 < so
              · have E : Hid (drC ⟨7, sh, 1, sc, so, sd, sm⟩ = 7) := hid (by
                  show drN 7 1 sc so sd sm = 7
                  unfold drN
                  rw [if_neg (by omega), if_neg (by omega), if_neg (by omega), if_neg (by omega), if_pos (by omega)])
                go_enter Tryz.func89, Tryz.ntmps89
                go_wp2_with fail
                refine (Size_ok _ _).mono ?_
                rintro e w' ⟨rfl, d, rfl⟩
                try rw [Z]
                go_wp2
                go_ret
                exact ⟨by rw [E.out]; rfl, by first | exact BW.out | exact below_next BW.out (below_drewN _ _) | exact below_next (below_alloc _ _) (below_drewN _ _)⟩
              · have E : Hid (drC ⟨7, sh, 1, sc, so, sd, sm⟩ = 0) := hid (by
                  show drN 7 1 sc so sd sm = 0
                  unfold drN
                  rw [if_neg (by omega), if_neg (by omega), if_neg (by omega), if_neg (by omega), if_neg (by omega)])
                go_enter Tryz.func89, Tryz.ntmps89
                go_wp2_with fail
                refine (Size_ok _ _).mono ?_
                rintro e w' ⟨rfl, d, rfl⟩
                try rw [Z]
                go_wp2
                go_ret
                exact ⟨by rw [E.out]; rfl, by first | exact BW.out | exact below_next BW.out (below_drewN _ _) | exact below_next (below_alloc _ _) (below_drewN _ _)⟩
      · by_cases k8 : sk = 8
        · subst k8
          by_cases q2 : 137438953440 < so
          · have E : Hid (drC ⟨8, sh, 1, sc, so, sd, sm⟩ = 9) := hid (by
              show drN 8 1 sc so sd sm = 9
              unfold drN
              rw [if_neg (by omega), if_neg (by omega), if_pos (by omega)])
            go_enter Tryz.func89, Tryz.ntmps89
            go_wp2_with fail
            refine (Size_ok _ _).mono ?_
            rintro e w' ⟨rfl, d, rfl⟩
            try rw [Z]
            go_wp2
            go_ret
            exact ⟨by rw [E.out]; rfl, by first | exact BW.out | exact below_next BW.out (below_drewN _ _) | exact below_next (below_alloc _ _) (below_drewN _ _)⟩
          · by_cases c1 : sc < 1
            · have E : Hid (drC ⟨8, sh, 1, sc, so, sd, sm⟩ = 10) := hid (by
                show drN 8 1 sc so sd sm = 10
                unfold drN
                rw [if_neg (by omega), if_neg (by omega), if_neg (by omega), if_pos (by omega)])
              go_enter Tryz.func89, Tryz.ntmps89
              go_wp2_with fail
              refine (Size_ok _ _).mono ?_
              rintro e w' ⟨rfl, d, rfl⟩
              try rw [Z]
              go_wp2
              go_ret
              exact ⟨by rw [E.out]; rfl, by first | exact BW.out | exact below_next BW.out (below_drewN _ _) | exact below_next (below_alloc _ _) (below_drewN _ _)⟩
            · by_cases c2 : 1048576 < sc
              · have E : Hid (drC ⟨8, sh, 1, sc, so, sd, sm⟩ = 10) := hid (by
                  show drN 8 1 sc so sd sm = 10
                  unfold drN
                  rw [if_neg (by omega), if_neg (by omega), if_neg (by omega), if_pos (by omega)])
                go_enter Tryz.func89, Tryz.ntmps89
                go_wp2_with fail
                refine (Size_ok _ _).mono ?_
                rintro e w' ⟨rfl, d, rfl⟩
                try rw [Z]
                go_wp2
                go_ret
                exact ⟨by rw [E.out]; rfl, by first | exact BW.out | exact below_next BW.out (below_drewN _ _) | exact below_next (below_alloc _ _) (below_drewN _ _)⟩
              · by_cases o1 : so < 1
                · have E : Hid (drC ⟨8, sh, 1, sc, so, sd, sm⟩ = 7) := hid (by
                    show drN 8 1 sc so sd sm = 7
                    unfold drN
                    rw [if_neg (by omega), if_neg (by omega), if_neg (by omega), if_neg (by omega), if_pos (by omega)])
                  go_enter Tryz.func89, Tryz.ntmps89
                  go_wp2_with fail
                  refine (Size_ok _ _).mono ?_
                  rintro e w' ⟨rfl, d, rfl⟩
                  try rw [Z]
                  go_wp2
                  go_ret
                  exact ⟨by rw [E.out]; rfl, by first | exact BW.out | exact below_next BW.out (below_drewN _ _) | exact below_next (below_alloc _ _) (below_drewN _ _)⟩
                · by_cases o2 : 512 < so
                  · have E : Hid (drC ⟨8, sh, 1, sc, so, sd, sm⟩ = 7) := hid (by
                      show drN 8 1 sc so sd sm = 7
                      unfold drN
                      rw [if_neg (by omega), if_neg (by omega), if_neg (by omega), if_neg (by omega), if_pos (by omega)])
                    go_enter Tryz.func89, Tryz.ntmps89
                    go_wp2_with fail
                    refine (Size_ok _ _).mono ?_
                    rintro e w' ⟨rfl, d, rfl⟩
                    try rw [Z]
                    go_wp2
                    go_ret
                    exact ⟨by rw [E.out]; rfl, by first | exact BW.out | exact below_next BW.out (below_drewN _ _) | exact below_next (below_alloc _ _) (below_drewN _ _)⟩
                  · have E : Hid (drC ⟨8, sh, 1, sc, so, sd, sm⟩ = 0) := hid (by
                      show drN 8 1 sc so sd sm = 0
                      unfold drN
                      rw [if_neg (by omega), if_neg (by omega), if_neg (by omega), if_neg (by omega), if_neg (by omega)])
                    go_enter Tryz.func89, Tryz.ntmps89
                    go_wp2_with fail
                    refine (Size_ok _ _).mono ?_
                    rintro e w' ⟨rfl, d, rfl⟩
                    try rw [Z]
                    go_wp2
                    go_ret
                    exact ⟨by rw [E.out]; rfl, by first | exact BW.out | exact below_next BW.out (below_drewN _ _) | exact below_next (below_alloc _ _) (below_drewN _ _)⟩
        · by_cases o1 : so < 1
          · have E : Hid (drC ⟨sk, sh, 1, sc, so, sd, sm⟩ = 7) := hid (by
              show drN sk 1 sc so sd sm = 7
              unfold drN
              rw [if_neg (by omega), if_neg (by omega), if_neg (by omega), if_neg (by omega), if_pos (by omega)])
            go_enter Tryz.func89, Tryz.ntmps89
            go_wp2_with fail
            refine (Size_ok _ _).mono ?_
            rintro e w' ⟨rfl, d, rfl⟩
            try rw [Z]
            go_wp2
            go_ret
            exact ⟨by rw [E.out]; rfl, by first | exact BW.out | exact below_next BW.out (below_drewN _ _) | exact below_next (below_alloc _ _) (below_drewN _ _)⟩
          · by_cases o2 : 512 < so
            · have E : Hid (drC ⟨sk, sh, 1, sc, so, sd, sm⟩ = 7) := hid (by
                show drN sk 1 sc so sd sm = 7
                unfold drN
                rw [if_neg (by omega), if_neg (by omega), if_neg (by omega), if_neg (by omega), if_pos (by omega)])
              go_enter Tryz.func89, Tryz.ntmps89
              go_wp2_with fail
              refine (Size_ok _ _).mono ?_
              rintro e w' ⟨rfl, d, rfl⟩
              try rw [Z]
              go_wp2
              go_ret
              exact ⟨by rw [E.out]; rfl, by first | exact BW.out | exact below_next BW.out (below_drewN _ _) | exact below_next (below_alloc _ _) (below_drewN _ _)⟩
            · have E : Hid (drC ⟨sk, sh, 1, sc, so, sd, sm⟩ = 0) := hid (by
                show drN sk 1 sc so sd sm = 0
                unfold drN
                rw [if_neg (by omega), if_neg (by omega), if_neg (by omega), if_neg (by omega), if_neg (by omega)])
              go_enter Tryz.func89, Tryz.ntmps89
              go_wp2_with fail
              refine (Size_ok _ _).mono ?_
              rintro e w' ⟨rfl, d, rfl⟩
              try rw [Z]
              go_wp2
              go_ret
              exact ⟨by rw [E.out]; rfl, by first | exact BW.out | exact below_next BW.out (below_drewN _ _) | exact below_next (below_alloc _ _) (below_drewN _ _)⟩
  · by_cases a2 : sa = 2
    · subst a2
      have Z : sz 2 = 64 := rfl
      by_cases d1 : 65536 < sd
      · have E : Hid (drC ⟨sk, sh, 2, sc, so, sd, sm⟩ = 9) := hid (by
          show drN sk 2 sc so sd sm = 9
          unfold drN
          rw [if_neg (by omega), if_pos (by omega)])
        go_enter Tryz.func89, Tryz.ntmps89
        go_wp2_with fail
        refine (Size_ok _ _).mono ?_
        rintro e w' ⟨rfl, d, rfl⟩
        try rw [Z]
        go_wp2
        go_ret
        exact ⟨by rw [E.out]; rfl, by first | exact BW.out | exact below_next BW.out (below_drewN _ _) | exact below_next (below_alloc _ _) (below_drewN _ _)⟩
      · by_cases k7 : sk = 7
        · subst k7
          by_cases m1 : 65536 < sm
          · have E : Hid (drC ⟨7, sh, 2, sc, so, sd, sm⟩ = 9) := hid (by
              show drN 7 2 sc so sd sm = 9
              unfold drN
              rw [if_neg (by omega), if_neg (by omega), if_pos (by omega)])
            go_enter Tryz.func89, Tryz.ntmps89
            go_wp2_with fail
            refine (Size_ok _ _).mono ?_
            rintro e w' ⟨rfl, d, rfl⟩
            try rw [Z]
            go_wp2
            go_ret
            exact ⟨by rw [E.out]; rfl, by first | exact BW.out | exact below_next BW.out (below_drewN _ _) | exact below_next (below_alloc _ _) (below_drewN _ _)⟩
          · by_cases q1 : 16320 < so
            · have E : Hid (drC ⟨7, sh, 2, sc, so, sd, sm⟩ = 9) := hid (by
                show drN 7 2 sc so sd sm = 9
                unfold drN
                rw [if_neg (by omega), if_neg (by omega), if_pos (by omega)])
              go_enter Tryz.func89, Tryz.ntmps89
              go_wp2_with fail
              refine (Size_ok _ _).mono ?_
              rintro e w' ⟨rfl, d, rfl⟩
              try rw [Z]
              go_wp2
              go_ret
              exact ⟨by rw [E.out]; rfl, by first | exact BW.out | exact below_next BW.out (below_drewN _ _) | exact below_next (below_alloc _ _) (below_drewN _ _)⟩
            · by_cases o1 : so < 1
              · have E : Hid (drC ⟨7, sh, 2, sc, so, sd, sm⟩ = 7) := hid (by
                  show drN 7 2 sc so sd sm = 7
                  unfold drN
                  rw [if_neg (by omega), if_neg (by omega), if_neg (by omega), if_neg (by omega), if_pos (by omega)])
                go_enter Tryz.func89, Tryz.ntmps89
                go_wp2_with fail
                refine (Size_ok _ _).mono ?_
                rintro e w' ⟨rfl, d, rfl⟩
                try rw [Z]
                go_wp2
                go_ret
                exact ⟨by rw [E.out]; rfl, by first | exact BW.out | exact below_next BW.out (below_drewN _ _) | exact below_next (below_alloc _ _) (below_drewN _ _)⟩
              · by_cases o2 : 512 < so
                · have E : Hid (drC ⟨7, sh, 2, sc, so, sd, sm⟩ = 7) := hid (by
                    show drN 7 2 sc so sd sm = 7
                    unfold drN
                    rw [if_neg (by omega), if_neg (by omega), if_neg (by omega), if_neg (by omega), if_pos (by omega)])
                  go_enter Tryz.func89, Tryz.ntmps89
                  go_wp2_with fail
                  refine (Size_ok _ _).mono ?_
                  rintro e w' ⟨rfl, d, rfl⟩
                  try rw [Z]
                  go_wp2
                  go_ret
                  exact ⟨by rw [E.out]; rfl, by first | exact BW.out | exact below_next BW.out (below_drewN _ _) | exact below_next (below_alloc _ _) (below_drewN _ _)⟩
                · have E : Hid (drC ⟨7, sh, 2, sc, so, sd, sm⟩ = 0) := hid (by
                    show drN 7 2 sc so sd sm = 0
                    unfold drN
                    rw [if_neg (by omega), if_neg (by omega), if_neg (by omega), if_neg (by omega), if_neg (by omega)])
                  go_enter Tryz.func89, Tryz.ntmps89
                  go_wp2_with fail
                  refine (Size_ok _ _).mono ?_
                  rintro e w' ⟨rfl, d, rfl⟩
                  try rw [Z]
                  go_wp2
                  go_ret
                  exact ⟨by rw [E.out]; rfl, by first | exact BW.out | exact below_next BW.out (below_drewN _ _) | exact below_next (below_alloc _ _) (below_drewN _ _)⟩
        · by_cases k8 : sk = 8
          · subst k8
            by_cases q2 : 274877906880 < so
            · have E : Hid (drC ⟨8, sh, 2, sc, so, sd, sm⟩ = 9) := hid (by
                show drN 8 2 sc so sd sm = 9
                unfold drN
                rw [if_neg (by omega), if_neg (by omega), if_pos (by omega)])
              go_enter Tryz.func89, Tryz.ntmps89
              go_wp2_with fail
              refine (Size_ok _ _).mono ?_
              rintro e w' ⟨rfl, d, rfl⟩
              try rw [Z]
              go_wp2
              go_ret
              exact ⟨by rw [E.out]; rfl, by first | exact BW.out | exact below_next BW.out (below_drewN _ _) | exact below_next (below_alloc _ _) (below_drewN _ _)⟩
            · by_cases c1 : sc < 1
              · have E : Hid (drC ⟨8, sh, 2, sc, so, sd, sm⟩ = 10) := hid (by
                  show drN 8 2 sc so sd sm = 10
                  unfold drN
                  rw [if_neg (by omega), if_neg (by omega), if_neg (by omega), if_pos (by omega)])
                go_enter Tryz.func89, Tryz.ntmps89
                go_wp2_with fail
                refine (Size_ok _ _).mono ?_
                rintro e w' ⟨rfl, d, rfl⟩
                try rw [Z]
                go_wp2
                go_ret
                exact ⟨by rw [E.out]; rfl, by first | exact BW.out | exact below_next BW.out (below_drewN _ _) | exact below_next (below_alloc _ _) (below_drewN _ _)⟩
              · by_cases c2 : 1048576 < sc
                · have E : Hid (drC ⟨8, sh, 2, sc, so, sd, sm⟩ = 10) := hid (by
                    show drN 8 2 sc so sd sm = 10
                    unfold drN
                    rw [if_neg (by omega), if_neg (by omega), if_neg (by omega), if_pos (by omega)])
                  go_enter Tryz.func89, Tryz.ntmps89
                  go_wp2_with fail
                  refine (Size_ok _ _).mono ?_
                  rintro e w' ⟨rfl, d, rfl⟩
                  try rw [Z]
                  go_wp2
                  go_ret
                  exact ⟨by rw [E.out]; rfl, by first | exact BW.out | exact below_next BW.out (below_drewN _ _) | exact below_next (below_alloc _ _) (below_drewN _ _)⟩
                · by_cases o1 : so < 1
                  · have E : Hid (drC ⟨8, sh, 2, sc, so, sd, sm⟩ = 7) := hid (by
                      show drN 8 2 sc so sd sm = 7
                      unfold drN
                      rw [if_neg (by omega), if_neg (by omega), if_neg (by omega), if_neg (by omega), if_pos (by omega)])
                    go_enter Tryz.func89, Tryz.ntmps89
                    go_wp2_with fail
                    refine (Size_ok _ _).mono ?_
                    rintro e w' ⟨rfl, d, rfl⟩
                    try rw [Z]
                    go_wp2
                    go_ret
                    exact ⟨by rw [E.out]; rfl, by first | exact BW.out | exact below_next BW.out (below_drewN _ _) | exact below_next (below_alloc _ _) (below_drewN _ _)⟩
                  · by_cases o2 : 512 < so
                    · have E : Hid (drC ⟨8, sh, 2, sc, so, sd, sm⟩ = 7) := hid (by
                        show drN 8 2 sc so sd sm = 7
                        unfold drN
                        rw [if_neg (by omega), if_neg (by omega), if_neg (by omega), if_neg (by omega), if_pos (by omega)])
                      go_enter Tryz.func89, Tryz.ntmps89
                      go_wp2_with fail
                      refine (Size_ok _ _).mono ?_
                      rintro e w' ⟨rfl, d, rfl⟩
                      try rw [Z]
                      go_wp2
                      go_ret
                      exact ⟨by rw [E.out]; rfl, by first | exact BW.out | exact below_next BW.out (below_drewN _ _) | exact below_next (below_alloc _ _) (below_drewN _ _)⟩
                    · have E : Hid (drC ⟨8, sh, 2, sc, so, sd, sm⟩ = 0) := hid (by
                        show drN 8 2 sc so sd sm = 0
                        unfold drN
                        rw [if_neg (by omega), if_neg (by omega), if_neg (by omega), if_neg (by omega), if_neg (by omega)])
                      go_enter Tryz.func89, Tryz.ntmps89
                      go_wp2_with fail
                      refine (Size_ok _ _).mono ?_
                      rintro e w' ⟨rfl, d, rfl⟩
                      try rw [Z]
                      go_wp2
                      go_ret
                      exact ⟨by rw [E.out]; rfl, by first | exact BW.out | exact below_next BW.out (below_drewN _ _) | exact below_next (below_alloc _ _) (below_drewN _ _)⟩
          · by_cases o1 : so < 1
            · have E : Hid (drC ⟨sk, sh, 2, sc, so, sd, sm⟩ = 7) := hid (by
                show drN sk 2 sc so sd sm = 7
                unfold drN
                rw [if_neg (by omega), if_neg (by omega), if_neg (by omega), if_neg (by omega), if_pos (by omega)])
              go_enter Tryz.func89, Tryz.ntmps89
              go_wp2_with fail
              refine (Size_ok _ _).mono ?_
              rintro e w' ⟨rfl, d, rfl⟩
              try rw [Z]
              go_wp2
              go_ret
              exact ⟨by rw [E.out]; rfl, by first | exact BW.out | exact below_next BW.out (below_drewN _ _) | exact below_next (below_alloc _ _) (below_drewN _ _)⟩
            · by_cases o2 : 512 < so
              · have E : Hid (drC ⟨sk, sh, 2, sc, so, sd, sm⟩ = 7) := hid (by
                  show drN sk 2 sc so sd sm = 7
                  unfold drN
                  rw [if_neg (by omega), if_neg (by omega), if_neg (by omega), if_neg (by omega), if_pos (by omega)])
                go_enter Tryz.func89, Tryz.ntmps89
                go_wp2_with fail
                refine (Size_ok _ _).mono ?_
                rintro e w' ⟨rfl, d, rfl⟩
                try rw [Z]
                go_wp2
                go_ret
                exact ⟨by rw [E.out]; rfl, by first | exact BW.out | exact below_next BW.out (below_drewN _ _) | exact below_next (below_alloc _ _) (below_drewN _ _)⟩
              · have E : Hid (drC ⟨sk, sh, 2, sc, so, sd, sm⟩ = 0) := hid (by
                  show drN sk 2 sc so sd sm = 0
                  unfold drN
                  rw [if_neg (by omega), if_neg (by omega), if_neg (by omega), if_neg (by omega), if_neg (by omega)])
                go_enter Tryz.func89, Tryz.ntmps89
                go_wp2_with fail
                refine (Size_ok _ _).mono ?_
                rintro e w' ⟨rfl, d, rfl⟩
                try rw [Z]
                go_wp2
                go_ret
                exact ⟨by rw [E.out]; rfl, by first | exact BW.out | exact below_next BW.out (below_drewN _ _) | exact below_next (below_alloc _ _) (below_drewN _ _)⟩
    · have Z : sz sa = 0 := by unfold sz; (repeat' split) <;> first | rfl | omega
      have E : Hid (drC ⟨sk, sh, sa, sc, so, sd, sm⟩ = 4) := hid (by
        show drN sk sa sc so sd sm = 4
        unfold drN
        rw [if_pos (by omega)])
      go_enter Tryz.func89, Tryz.ntmps89
      go_wp2_with fail
      refine (Size_ok _ _).mono ?_
      rintro e w' ⟨rfl, d, rfl⟩
      try rw [Z]
      go_wp2
      go_ret
      exact ⟨by rw [E.out]; rfl, by first | exact BW.out | exact below_next BW.out (below_drewN _ _) | exact below_next (below_alloc _ _) (below_drewN _ _)⟩
end Go.Proofs.YtdmacflcjbkkpaaGreat.Cd
namespace Go.Proofs.YtdmacflcjbkkpaaGreat.Cd
open Go.Proofs.YtdmacflcjbkkpaaGreat.Co
open Go.ChangeShapes Go.WideShapes Go.ChangeAt Go.RowKit
open Go.Proofs.YtdmacflcjbkkpaaGreat.Ou (Sk sv sL LDk SVk LDk_run SVk_run)
open Go.Proofs.YtdmacflcjbkkpaaGreat.Tb (Blk Blk.newAt put_all Kp.setCells)
def fitN (k d alg out b r : Int) : Int := if k = 2 then (if alg ≠ 0 then 6 else b) else if k = 3 then (if alg = 0 then 6 else if 65536 < d then 9 else 0) else if k = 4 then (if alg = 0 then 6 else 0) else if k = 5 then (if alg = 0 then 6 else if d ≠ out then 11 else 0)
  else if k = 7 ∨ k = 8 then (if alg ≠ 0 then 6 else r) else if k = 9 then (if alg ≠ 0 then 6 else 0) else 0
set_option maxRecDepth 8000 in
set_option maxHeartbeats 1600000 in
theorem fits_ok (u : Value) (s : Sk) (h : He) (w : World) : Calls Tryz.prog 66 #[u, sv s, dv h] w fun e w' => e = .returned (.int .i64 (fit s h)) ∧ Below w.heap.size w w' := by
  obtain ⟨sk, sh, sa, sc, so, sd, sm⟩ := s
  obtain ⟨key, alg, out, cus, msg⟩ := h
  obtain ⟨W, hW⟩ : ∃ W, (w.alloc (.cells #[.int .u8 sk, .int .i64 sh, .int .u8 sa, .int .i64 sc, .int .i64 so, .int .i64 sd, .int .i64 sm] 40)).alloc (.cells #[.int .i64 key, .int .u8 alg, .int .i64 out, .int .i64 cus, .int .i64 msg] 64) = W := ⟨_, rfl⟩
  have BW : Hid (Below w.heap.size w W) := by rw [← hW]; exact below_next (below_alloc _ _) (below_alloc _ _)
  have K0 : Blk W w.heap.size [.int .u8 sk, .int .i64 sh, .int .u8 sa, .int .i64 sc, .int .i64 so, .int .i64 sd, .int .i64 sm] 40 := by rw [← hW]; exact (Blk.newAt w _ _ _ w.heap.size rfl rfl : Blk _ _ [.int .u8 sk, .int .i64 sh, .int .u8 sa, .int .i64 sc, .int .i64 so, .int .i64 sd, .int .i64 sm] 40).alloc _
  have x00 := K0.cell 0 _ rfl
  have x01 := K0.cell 1 _ rfl
  have x02 := K0.cell 2 _ rfl
  have x03 := K0.cell 3 _ rfl
  have x04 := K0.cell 4 _ rfl
  have x05 := K0.cell 5 _ rfl
  have x06 := K0.cell 6 _ rfl
  have l0 := LDk_run (s := ⟨sk, sh, sa, sc, so, sd, sm⟩) K0
  clear K0
  have K1 : Blk W (w.heap.size + 1) [.int .i64 key, .int .u8 alg, .int .i64 out, .int .i64 cus, .int .i64 msg] 64 := by rw [← hW]; exact (Blk.newAt (w.alloc _) _ _ _ (w.heap.size + 1) (by simp) rfl : Blk _ _ [.int .i64 key, .int .u8 alg, .int .i64 out, .int .i64 cus, .int .i64 msg] 64)
  have x10 := K1.cell 0 _ rfl
  have x11 := K1.cell 1 _ rfl
  have x12 := K1.cell 2 _ rfl
  have x13 := K1.cell 3 _ rfl
  have x14 := K1.cell 4 _ rfl
  have l1 := LDd_blk (h := ⟨key, alg, out, cus, msg⟩) K1
  clear K1
  by_cases k2 : sk = 2
  · subst k2
    by_cases al : alg = 0
    · subst al
      have E : Hid (fit ⟨2, sh, sa, sc, so, sd, sm⟩ ⟨key, 0, out, cus, msg⟩ = bgC ⟨2, sh, sa, sc, so, sd, sm⟩ ⟨key, 0, out, cus, msg⟩) := hid (by
        show fitN 2 sd 0 out (bgC ⟨2, sh, sa, sc, so, sd, sm⟩ ⟨key, 0, out, cus, msg⟩) (drC ⟨2, sh, sa, sc, so, sd, sm⟩) = bgC ⟨2, sh, sa, sc, so, sd, sm⟩ ⟨key, 0, out, cus, msg⟩
        unfold fitN
        rw [if_pos (by omega), if_neg (by omega)])
      go_enter Tryz.func66, Tryz.ntmps66
      go_wp2_with fail
      refine (begins_ok ⟨2, sh, sa, sc, so, sd, sm⟩ ⟨key, 0, out, cus, msg⟩ _).mono ?_
      rintro e w' ⟨rfl, hb⟩
      have B2 := hid (below_next BW.out hb)
      clear hb
      go_wp2
      go_ret
      exact ⟨by rw [E.out]; rfl, by first | exact BW.out | exact B2.out⟩
    · have na : (alg != 0) = true := bne_iff_ne.2 al
      have E : Hid (fit ⟨2, sh, sa, sc, so, sd, sm⟩ ⟨key, alg, out, cus, msg⟩ = 6) := hid (by
        show fitN 2 sd alg out (bgC ⟨2, sh, sa, sc, so, sd, sm⟩ ⟨key, alg, out, cus, msg⟩) (drC ⟨2, sh, sa, sc, so, sd, sm⟩) = 6
        unfold fitN
        rw [if_pos (by omega), if_pos (by omega)])
      go_enter Tryz.func66, Tryz.ntmps66
      go_wp2
      go_ret
      exact ⟨by rw [E.out]; rfl, BW.out⟩
  · by_cases k3 : sk = 3
    · subst k3
      by_cases al : alg = 0
      · subst al
        have E : Hid (fit ⟨3, sh, sa, sc, so, sd, sm⟩ ⟨key, 0, out, cus, msg⟩ = 6) := hid (by
          show fitN 3 sd 0 out (bgC ⟨3, sh, sa, sc, so, sd, sm⟩ ⟨key, 0, out, cus, msg⟩) (drC ⟨3, sh, sa, sc, so, sd, sm⟩) = 6
          unfold fitN
          rw [if_neg (by omega), if_pos (by omega), if_pos (by omega)])
        go_enter Tryz.func66, Tryz.ntmps66
        go_wp2
        go_ret
        exact ⟨by rw [E.out]; rfl, BW.out⟩
      · have na : (alg != 0) = true := bne_iff_ne.2 al
        by_cases d1 : 65536 < sd
        · have E : Hid (fit ⟨3, sh, sa, sc, so, sd, sm⟩ ⟨key, alg, out, cus, msg⟩ = 9) := hid (by
            show fitN 3 sd alg out (bgC ⟨3, sh, sa, sc, so, sd, sm⟩ ⟨key, alg, out, cus, msg⟩) (drC ⟨3, sh, sa, sc, so, sd, sm⟩) = 9
            unfold fitN
            rw [if_neg (by omega), if_pos (by omega), if_neg (by omega), if_pos (by omega)])
          go_enter Tryz.func66, Tryz.ntmps66
          go_wp2
          go_ret
          exact ⟨by rw [E.out]; rfl, BW.out⟩
        · have E : Hid (fit ⟨3, sh, sa, sc, so, sd, sm⟩ ⟨key, alg, out, cus, msg⟩ = 0) := hid (by
            show fitN 3 sd alg out (bgC ⟨3, sh, sa, sc, so, sd, sm⟩ ⟨key, alg, out, cus, msg⟩) (drC ⟨3, sh, sa, sc, so, sd, sm⟩) = 0
            unfold fitN
            rw [if_neg (by omega), if_pos (by omega), if_neg (by omega), if_neg (by omega)])
          go_enter Tryz.func66, Tryz.ntmps66
          go_wp2
          go_ret
          exact ⟨by rw [E.out]; rfl, BW.out⟩
    · by_cases k4 : sk = 4
      · subst k4
        by_cases al : alg = 0
        · subst al
          have E : Hid (fit ⟨4, sh, sa, sc, so, sd, sm⟩ ⟨key, 0, out, cus, msg⟩ = 6) := hid (by
            show fitN 4 sd 0 out (bgC ⟨4, sh, sa, sc, so, sd, sm⟩ ⟨key, 0, out, cus, msg⟩) (drC ⟨4, sh, sa, sc, so, sd, sm⟩) = 6
            unfold fitN
            rw [if_neg (by omega), if_neg (by omega), if_pos (by omega), if_pos (by omega)])
          go_enter Tryz.func66, Tryz.ntmps66
          go_wp2
          go_ret
          exact ⟨by rw [E.out]; rfl, BW.out⟩
        · have na : (alg != 0) = true := bne_iff_ne.2 al
          have E : Hid (fit ⟨4, sh, sa, sc, so, sd, sm⟩ ⟨key, alg, out, cus, msg⟩ = 0) := hid (by
            show fitN 4 sd alg out (bgC ⟨4, sh, sa, sc, so, sd, sm⟩ ⟨key, alg, out, cus, msg⟩) (drC ⟨4, sh, sa, sc, so, sd, sm⟩) = 0
            unfold fitN
            rw [if_neg (by omega), if_neg (by omega), if_pos (by omega), if_neg (by omega)])
          go_enter Tryz.func66, Tryz.ntmps66
          go_wp2
          go_ret
          exact ⟨by rw [E.out]; rfl, BW.out⟩
      · by_cases k5 : sk = 5
        · subst k5
          by_cases al : alg = 0
          · subst al
            have E : Hid (fit ⟨5, sh, sa, sc, so, sd, sm⟩ ⟨key, 0, out, cus, msg⟩ = 6) := hid (by
              show fitN 5 sd 0 out (bgC ⟨5, sh, sa, sc, so, sd, sm⟩ ⟨key, 0, out, cus, msg⟩) (drC ⟨5, sh, sa, sc, so, sd, sm⟩) = 6
              unfold fitN
              rw [if_neg (by omega), if_neg (by omega), if_neg (by omega), if_pos (by omega), if_pos (by omega)])
            go_enter Tryz.func66, Tryz.ntmps66
            go_wp2
            go_ret
            exact ⟨by rw [E.out]; rfl, BW.out⟩
          · have na : (alg != 0) = true := bne_iff_ne.2 al
            by_cases d1 : sd = out
            · have nd : (sd != out) = false := by simp [d1]
              have E : Hid (fit ⟨5, sh, sa, sc, so, sd, sm⟩ ⟨key, alg, out, cus, msg⟩ = 0) := hid (by
                show fitN 5 sd alg out (bgC ⟨5, sh, sa, sc, so, sd, sm⟩ ⟨key, alg, out, cus, msg⟩) (drC ⟨5, sh, sa, sc, so, sd, sm⟩) = 0
                unfold fitN
                rw [if_neg (by omega), if_neg (by omega), if_neg (by omega), if_pos (by omega), if_neg (by omega), if_neg (by omega)])
              clear d1
              go_enter Tryz.func66, Tryz.ntmps66
              go_wp2
              go_ret
              exact ⟨by rw [E.out]; rfl, BW.out⟩
            · have nd : (sd != out) = true := bne_iff_ne.2 d1
              have E : Hid (fit ⟨5, sh, sa, sc, so, sd, sm⟩ ⟨key, alg, out, cus, msg⟩ = 11) := hid (by
                show fitN 5 sd alg out (bgC ⟨5, sh, sa, sc, so, sd, sm⟩ ⟨key, alg, out, cus, msg⟩) (drC ⟨5, sh, sa, sc, so, sd, sm⟩) = 11
                unfold fitN
                rw [if_neg (by omega), if_neg (by omega), if_neg (by omega), if_pos (by omega), if_neg (by omega), if_pos (by omega)])
              go_enter Tryz.func66, Tryz.ntmps66
              go_wp2
              go_ret
              exact ⟨by rw [E.out]; rfl, BW.out⟩
        · by_cases k7 : sk = 7
          · subst k7
            by_cases al : alg = 0
            · subst al
              have E : Hid (fit ⟨7, sh, sa, sc, so, sd, sm⟩ ⟨key, 0, out, cus, msg⟩ = drC ⟨7, sh, sa, sc, so, sd, sm⟩) := hid (by
                show fitN 7 sd 0 out (bgC ⟨7, sh, sa, sc, so, sd, sm⟩ ⟨key, 0, out, cus, msg⟩) (drC ⟨7, sh, sa, sc, so, sd, sm⟩) = drC ⟨7, sh, sa, sc, so, sd, sm⟩
                unfold fitN
                rw [if_neg (by omega), if_neg (by omega), if_neg (by omega), if_neg (by omega), if_pos (by omega), if_neg (by omega)])
              go_enter Tryz.func66, Tryz.ntmps66
              go_wp2_with fail
              refine (derives_ok ⟨7, sh, sa, sc, so, sd, sm⟩ _).mono ?_
              rintro e w' ⟨rfl, hb⟩
              have B2 := hid (below_next BW.out hb)
              clear hb
              go_wp2
              go_ret
              exact ⟨by rw [E.out]; rfl, by first | exact BW.out | exact B2.out⟩
            · have na : (alg != 0) = true := bne_iff_ne.2 al
              have E : Hid (fit ⟨7, sh, sa, sc, so, sd, sm⟩ ⟨key, alg, out, cus, msg⟩ = 6) := hid (by
                show fitN 7 sd alg out (bgC ⟨7, sh, sa, sc, so, sd, sm⟩ ⟨key, alg, out, cus, msg⟩) (drC ⟨7, sh, sa, sc, so, sd, sm⟩) = 6
                unfold fitN
                rw [if_neg (by omega), if_neg (by omega), if_neg (by omega), if_neg (by omega), if_pos (by omega), if_pos (by omega)])
              go_enter Tryz.func66, Tryz.ntmps66
              go_wp2
              go_ret
              exact ⟨by rw [E.out]; rfl, BW.out⟩
          · by_cases k8 : sk = 8
            · subst k8
              by_cases al : alg = 0
              · subst al
                have E : Hid (fit ⟨8, sh, sa, sc, so, sd, sm⟩ ⟨key, 0, out, cus, msg⟩ = drC ⟨8, sh, sa, sc, so, sd, sm⟩) := hid (by
                  show fitN 8 sd 0 out (bgC ⟨8, sh, sa, sc, so, sd, sm⟩ ⟨key, 0, out, cus, msg⟩) (drC ⟨8, sh, sa, sc, so, sd, sm⟩) = drC ⟨8, sh, sa, sc, so, sd, sm⟩
                  unfold fitN
                  rw [if_neg (by omega), if_neg (by omega), if_neg (by omega), if_neg (by omega), if_pos (by omega), if_neg (by omega)])
                go_enter Tryz.func66, Tryz.ntmps66
                go_wp2_with fail
                refine (derives_ok ⟨8, sh, sa, sc, so, sd, sm⟩ _).mono ?_
                rintro e w' ⟨rfl, hb⟩
                have B2 := hid (below_next BW.out hb)
                clear hb
                go_wp2
                go_ret
                exact ⟨by rw [E.out]; rfl, by first | exact BW.out | exact B2.out⟩
              · have na : (alg != 0) = true := bne_iff_ne.2 al
                have E : Hid (fit ⟨8, sh, sa, sc, so, sd, sm⟩ ⟨key, alg, out, cus, msg⟩ = 6) := hid (by
                  show fitN 8 sd alg out (bgC ⟨8, sh, sa, sc, so, sd, sm⟩ ⟨key, alg, out, cus, msg⟩) (drC ⟨8, sh, sa, sc, so, sd, sm⟩) = 6
                  unfold fitN
                  rw [if_neg (by omega), if_neg (by omega), if_neg (by omega), if_neg (by omega), if_pos (by omega), if_pos (by omega)])
                go_enter Tryz.func66, Tryz.ntmps66
                go_wp2
                go_ret
                exact ⟨by rw [E.out]; rfl, BW.out⟩
            · by_cases k9 : sk = 9
              · subst k9
                by_cases al : alg = 0
                · subst al
                  have E : Hid (fit ⟨9, sh, sa, sc, so, sd, sm⟩ ⟨key, 0, out, cus, msg⟩ = 0) := hid (by
                    show fitN 9 sd 0 out (bgC ⟨9, sh, sa, sc, so, sd, sm⟩ ⟨key, 0, out, cus, msg⟩) (drC ⟨9, sh, sa, sc, so, sd, sm⟩) = 0
                    unfold fitN
                    rw [if_neg (by omega), if_neg (by omega), if_neg (by omega), if_neg (by omega), if_neg (by omega), if_pos (by omega), if_neg (by omega)])
                  go_enter Tryz.func66, Tryz.ntmps66
                  go_wp2
                  go_ret
                  exact ⟨by rw [E.out]; rfl, BW.out⟩
                · have na : (alg != 0) = true := bne_iff_ne.2 al
                  have E : Hid (fit ⟨9, sh, sa, sc, so, sd, sm⟩ ⟨key, alg, out, cus, msg⟩ = 6) := hid (by
                    show fitN 9 sd alg out (bgC ⟨9, sh, sa, sc, so, sd, sm⟩ ⟨key, alg, out, cus, msg⟩) (drC ⟨9, sh, sa, sc, so, sd, sm⟩) = 6
                    unfold fitN
                    rw [if_neg (by omega), if_neg (by omega), if_neg (by omega), if_neg (by omega), if_neg (by omega), if_pos (by omega), if_pos (by omega)])
                  go_enter Tryz.func66, Tryz.ntmps66
                  go_wp2
                  go_ret
                  exact ⟨by rw [E.out]; rfl, BW.out⟩
              · have E : Hid (fit ⟨sk, sh, sa, sc, so, sd, sm⟩ ⟨key, alg, out, cus, msg⟩ = 0) := hid (by
                  show fitN sk sd alg out (bgC ⟨sk, sh, sa, sc, so, sd, sm⟩ ⟨key, alg, out, cus, msg⟩) (drC ⟨sk, sh, sa, sc, so, sd, sm⟩) = 0
                  unfold fitN
                  rw [if_neg (by omega), if_neg (by omega), if_neg (by omega), if_neg (by omega), if_neg (by omega), if_neg (by omega)])
                go_enter Tryz.func66, Tryz.ntmps66
                go_wp2
                go_ret
                exact ⟨by rw [E.out]; rfl, BW.out⟩
end Go.Proofs.YtdmacflcjbkkpaaGreat.Cd
