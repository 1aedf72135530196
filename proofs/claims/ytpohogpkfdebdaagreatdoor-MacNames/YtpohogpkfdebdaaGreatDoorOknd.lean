/- kinds: each algorithm's Kind. -/
import Derived.Test.YtpohogpkfdebdaaGreatDoorOh
namespace Go.Proofs.YtpohogpkfdebdaaGreatDoor.Oc
open Go.ChangeShapes Go.WideShapes Go.ChangeAt Go.RowKit
open Go.Proofs.YtpohogpkfdebdaaGreatDoor.By
open Go.Proofs.YtpohogpkfdebdaaGreatDoor.Sh (Blk size_alloc)
open Go.Proofs.YtpohogpkfdebdaaGreatDoor.Dg (BB LG lpv Lt Tl IsMk MB)
theorem nil_ne {t : TypeId} {A B : Array TypeId} {v : Bool} (hu : Tryz.prog.underlying t = some (.func A B v)) (w : World) : (binOp .neq t .nilFunc .nilFunc).run Tryz.prog w = .ok (.bool false) w := by
  have e : (Op.equal t .nilFunc .nilFunc).run Tryz.prog w = .ok true w := eq_nn hu _ w
  simp only [binOp, Sem.run_bind, e]
  rfl
theorem unk_ne (k : Nat) (h : k = 0 ∨ 8 ≤ k) : ¬ (k : Int) = 1 ∧ ¬ (k : Int) = 2 ∧ ¬ (k : Int) = 3 ∧ ¬ (k : Int) = 4 ∧ ¬ (k : Int) = 5 ∧ ¬ (k : Int) = 6 ∧ ¬ (k : Int) = 7 := by omega
set_option maxRecDepth 20000 in
set_option maxHeartbeats 16000000 in
theorem kinds1 (w : World) : Calls Tryz.prog 39 #[] w fun e w' => e = .returned (.bool true) ∧ Below w.heap.size w w' := by
  go_enter Tryz.func39, Tryz.ntmps39
  go_wp2_with fail
  go_loopw [1] (fun av wr => ∃ k : Nat, k ≤ 256 ∧ av = .int .i64 k ∧ Below w.heap.size w wr) (fun av _ => 256 - (intOf av).toNat)
  case atStart => exact ⟨0, Nat.zero_le _, rfl, Below.refl _ _⟩
  case round =>
    obtain ⟨k, hk, rfl, hb⟩ := hrel
    have B := hid hb
    clear hb
    by_cases hlt : k < 256
    · by_cases hu : k = 0 ∨ 8 ≤ k
      · obtain ⟨n1, n2, n3, n4, n5, n6, n7⟩ := unk_ne k hu
        have OB := hid (fun W => of_bad (k : Int) n1 n2 n3 n4 n5 n6 n7 W)
        unfold nokind at OB
        have KN := hid (fun W => show Calls Tryz.prog 57 #[.int .u8 (k : Int)] W (fun e w' => e = .returned (.bool false) ∧ w' = W) from by have := rknown k W; rwa [decide_eq_false (show ¬ (1 ≤ k ∧ k ≤ 7) by omega)] at this)
        have hw8 : (k : Int) % 256 = k := by omega
        have NN := fun W => nil_ne Tryz.underlying108 W
        clear n1 n2 n3 n4 n5 n6 n7 hu
        go_wp2_with fail
        refine (OB.out wr).mono ?_
        rintro e w1 ⟨rfl, hb1⟩
        have B1 := hid (below_next B.out hb1)
        clear hb1 OB
        go_wp2_with (go_at_call 57; refine (KN.out _).mono ?_; rintro e w' ⟨rfl, rfl⟩)
        refine ⟨⟨k + 1, by omega, by go_num, below_next B1.out (below_alloc _ _)⟩, by simp [intOf]; omega⟩
      · have hcase : k = 1 ∨ k = 2 ∨ k = 3 ∨ k = 4 ∨ k = 5 ∨ k = 6 ∨ k = 7 := by omega
        have FN := fun f W => fn_nil Tryz.underlying108 (.func f) #[] #[] W
        clear hu hk
        rcases hcase with rfl | rfl | rfl | rfl | rfl | rfl | rfl
        · have KN := hid (fun W => show Calls Tryz.prog 57 #[.int .u8 1] W (fun e w' => e = .returned (.bool true) ∧ w' = W) from rknown 1 W)
          have MN := hid (fun W => show Calls Tryz.prog 60 #[.int .u8 1] W (fun e w' => e = .returned (.int .i64 32) ∧ w' = W) from rmost 1 W)
          have CN := hid (fun W => show Calls Tryz.prog 59 #[.int .u8 1] W (fun e w' => e = .returned (.bool false) ∧ w' = W) from rcust 1 W)
          have KY := hid (fun n W => show Calls Tryz.prog 58 #[.int .u8 1, .int .i64 n] W (fun e w' => e = .returned (.bool (decide (0 ≤ n))) ∧ w' = W) from rkey 1 n W)
          go_wp2_with fail
          refine (of_1 wr).mono ?_
          rintro e w1 ⟨rfl, hb1⟩
          have B1 := hid (below_next B.out (below_next hb1 (below_alloc w1 (.cells #[.int .u8 1, .int .i64 32, .bool false, .func (.func 89) #[] #[]] 110))))
          have BK := hid (Blk.new w1 [.int .u8 1, .int .i64 32, .bool false, .func (.func 89) #[] #[]] 110)
          clear hb1
          go_wp2_with (first
            | (go_at_call 57; refine (KN.out _).mono ?_; rintro e w' ⟨rfl, rfl⟩)
            | (go_at_call 60; refine (MN.out _).mono ?_; rintro e w' ⟨rfl, rfl⟩)
            | fail)
          obtain ⟨W2, hW2⟩ : ∃ x, w1.alloc (.cells #[.int .u8 1, .int .i64 32, .bool false, .func (.func 89) #[] #[]] 110) = x := ⟨_, rfl⟩
          have bk := BK.out
          rw [show ([.int .u8 1, .int .i64 32, .bool false, .func (.func 89) #[] #[]] : List Value).toArray = #[.int .u8 1, .int .i64 32, .bool false, .func (.func 89) #[] #[]] from rfl, hW2] at bk
          rw [hW2] at B1 ⊢
          obtain ⟨kb, hkb⟩ : ∃ kb, w1.heap.size = kb := ⟨_, rfl⟩
          rw [hkb] at bk ⊢
          have B2 := hid B1.out
          have K2 := hid bk
          have c0 := bk.cell 0 _ rfl
          have c1 := bk.cell 1 _ rfl
          have c2 := bk.cell 2 _ rfl
          have c3 := bk.cell 3 _ rfl
          clear hW2 hkb bk BK B1 B
          go_region_held3 (fun W => W.cell? ⟨kb, 0, none⟩ = some (.int .u8 1) ∧ W.cell? ⟨kb, 1, none⟩ = some (.int .i64 32) ∧ W.cell? ⟨kb, 2, none⟩ = some (.bool false) ∧ W.cell? ⟨kb, 3, none⟩ = some (.func (.func 89) #[] #[])) (go_keep) (first
            | (go_at_call 60; refine (MN.out _).mono ?_; rintro e w' ⟨rfl, rfl⟩)
            | (go_at_call 59; refine (CN.out _).mono ?_; rintro e w' ⟨rfl, rfl⟩))
          go_wp2_with fail
          clear c0 c1 c2 c3
          go_loopw [5] (fun nv wx => ∃ m : Nat, m ≤ 41 ∧ nv = .int .i64 ((m : Int) - 1) ∧ Below w.heap.size w wx ∧ Blk wx kb [.int .u8 1, .int .i64 32, .bool false, .func (.func 89) #[] #[]] 110) (fun nv _ => (40 - intOf nv).toNat)
          case atStart => exact ⟨0, Nat.zero_le _, rfl, below_next B2.out (below_drewN W2 1), K2.out⟩
          case round =>
            obtain ⟨m, hm, rfl, hbx, hkx⟩ := hrel
            have BX := hid hbx
            have KX := hid hkx
            clear hbx hkx
            by_cases hlm : m < 41
            · obtain ⟨n, hn⟩ : ∃ n : Int, (m : Int) - 1 = n := ⟨_, rfl⟩
              have hn40 : n < 40 := by omega
              have HN := hid hn
              have LN := hid (fun W => len_1 n W)
              have YN := hid (fun W => KY.out n W)
              rw [hn]
              have c3 := KX.out.cell 3 _ rfl
              generalize decide (0 ≤ n) = bb at *
              clear hn
              go_wp2_with (first
                | (go_at_call 89; refine (LN.out _).mono ?_; rintro e w' ⟨rfl, rfl⟩)
                | (go_at_call 58; refine (YN.out _).mono ?_; rintro e w' ⟨rfl, rfl⟩))
              have hw : wrap64 (n + 1) = ((m + 1 : Nat) : Int) - 1 := by have := HN.out; unfold wrap64; omega
              refine ⟨⟨m + 1, by omega, by rw [hw], BX.out, KX.out⟩, ?_⟩
              have := HN.out
              rw [hw]
              simp only [intOf]
              omega
            · have em : m = 41 := by omega
              subst em
              go_wp2_with fail
              exact ⟨⟨2, by decide, rfl, BX.out⟩, by simp [intOf]⟩
        · have KN := hid (fun W => show Calls Tryz.prog 57 #[.int .u8 2] W (fun e w' => e = .returned (.bool true) ∧ w' = W) from rknown 2 W)
          have MN := hid (fun W => show Calls Tryz.prog 60 #[.int .u8 2] W (fun e w' => e = .returned (.int .i64 64) ∧ w' = W) from rmost 2 W)
          have CN := hid (fun W => show Calls Tryz.prog 59 #[.int .u8 2] W (fun e w' => e = .returned (.bool false) ∧ w' = W) from rcust 2 W)
          have KY := hid (fun n W => show Calls Tryz.prog 58 #[.int .u8 2, .int .i64 n] W (fun e w' => e = .returned (.bool (decide (0 ≤ n))) ∧ w' = W) from rkey 2 n W)
          go_wp2_with fail
          refine (of_2 wr).mono ?_
          rintro e w1 ⟨rfl, hb1⟩
          have B1 := hid (below_next B.out (below_next hb1 (below_alloc w1 (.cells #[.int .u8 2, .int .i64 64, .bool false, .func (.func 89) #[] #[]] 110))))
          have BK := hid (Blk.new w1 [.int .u8 2, .int .i64 64, .bool false, .func (.func 89) #[] #[]] 110)
          clear hb1
          go_wp2_with (first
            | (go_at_call 57; refine (KN.out _).mono ?_; rintro e w' ⟨rfl, rfl⟩)
            | (go_at_call 60; refine (MN.out _).mono ?_; rintro e w' ⟨rfl, rfl⟩)
            | fail)
          obtain ⟨W2, hW2⟩ : ∃ x, w1.alloc (.cells #[.int .u8 2, .int .i64 64, .bool false, .func (.func 89) #[] #[]] 110) = x := ⟨_, rfl⟩
          have bk := BK.out
          rw [show ([.int .u8 2, .int .i64 64, .bool false, .func (.func 89) #[] #[]] : List Value).toArray = #[.int .u8 2, .int .i64 64, .bool false, .func (.func 89) #[] #[]] from rfl, hW2] at bk
          rw [hW2] at B1 ⊢
          obtain ⟨kb, hkb⟩ : ∃ kb, w1.heap.size = kb := ⟨_, rfl⟩
          rw [hkb] at bk ⊢
          have B2 := hid B1.out
          have K2 := hid bk
          have c0 := bk.cell 0 _ rfl
          have c1 := bk.cell 1 _ rfl
          have c2 := bk.cell 2 _ rfl
          have c3 := bk.cell 3 _ rfl
          clear hW2 hkb bk BK B1 B
          go_region_held3 (fun W => W.cell? ⟨kb, 0, none⟩ = some (.int .u8 2) ∧ W.cell? ⟨kb, 1, none⟩ = some (.int .i64 64) ∧ W.cell? ⟨kb, 2, none⟩ = some (.bool false) ∧ W.cell? ⟨kb, 3, none⟩ = some (.func (.func 89) #[] #[])) (go_keep) (first
            | (go_at_call 60; refine (MN.out _).mono ?_; rintro e w' ⟨rfl, rfl⟩)
            | (go_at_call 59; refine (CN.out _).mono ?_; rintro e w' ⟨rfl, rfl⟩))
          go_wp2_with fail
          clear c0 c1 c2 c3
          go_loopw [5] (fun nv wx => ∃ m : Nat, m ≤ 41 ∧ nv = .int .i64 ((m : Int) - 1) ∧ Below w.heap.size w wx ∧ Blk wx kb [.int .u8 2, .int .i64 64, .bool false, .func (.func 89) #[] #[]] 110) (fun nv _ => (40 - intOf nv).toNat)
          case atStart => exact ⟨0, Nat.zero_le _, rfl, below_next B2.out (below_drewN W2 1), K2.out⟩
          case round =>
            obtain ⟨m, hm, rfl, hbx, hkx⟩ := hrel
            have BX := hid hbx
            have KX := hid hkx
            clear hbx hkx
            by_cases hlm : m < 41
            · obtain ⟨n, hn⟩ : ∃ n : Int, (m : Int) - 1 = n := ⟨_, rfl⟩
              have hn40 : n < 40 := by omega
              have HN := hid hn
              have LN := hid (fun W => len_1 n W)
              have YN := hid (fun W => KY.out n W)
              rw [hn]
              have c3 := KX.out.cell 3 _ rfl
              generalize decide (0 ≤ n) = bb at *
              clear hn
              go_wp2_with (first
                | (go_at_call 89; refine (LN.out _).mono ?_; rintro e w' ⟨rfl, rfl⟩)
                | (go_at_call 58; refine (YN.out _).mono ?_; rintro e w' ⟨rfl, rfl⟩))
              have hw : wrap64 (n + 1) = ((m + 1 : Nat) : Int) - 1 := by have := HN.out; unfold wrap64; omega
              refine ⟨⟨m + 1, by omega, by rw [hw], BX.out, KX.out⟩, ?_⟩
              have := HN.out
              rw [hw]
              simp only [intOf]
              omega
            · have em : m = 41 := by omega
              subst em
              go_wp2_with fail
              exact ⟨⟨3, by decide, rfl, BX.out⟩, by simp [intOf]⟩
        · have KN := hid (fun W => show Calls Tryz.prog 57 #[.int .u8 3] W (fun e w' => e = .returned (.bool true) ∧ w' = W) from rknown 3 W)
          have MN := hid (fun W => show Calls Tryz.prog 60 #[.int .u8 3] W (fun e w' => e = .returned (.int .i64 16) ∧ w' = W) from rmost 3 W)
          have CN := hid (fun W => show Calls Tryz.prog 59 #[.int .u8 3] W (fun e w' => e = .returned (.bool false) ∧ w' = W) from rcust 3 W)
          have KY := hid (fun n W => show Calls Tryz.prog 58 #[.int .u8 3, .int .i64 n] W (fun e w' => e = .returned (.bool (decide (n = 16 ∨ n = 24 ∨ n = 32))) ∧ w' = W) from rkey 3 n W)
          go_wp2_with fail
          refine (of_3 wr).mono ?_
          rintro e w1 ⟨rfl, hb1⟩
          have B1 := hid (below_next B.out (below_next hb1 (below_alloc w1 (.cells #[.int .u8 3, .int .i64 16, .bool false, .func (.func 90) #[] #[]] 110))))
          have BK := hid (Blk.new w1 [.int .u8 3, .int .i64 16, .bool false, .func (.func 90) #[] #[]] 110)
          clear hb1
          go_wp2_with (first
            | (go_at_call 57; refine (KN.out _).mono ?_; rintro e w' ⟨rfl, rfl⟩)
            | (go_at_call 60; refine (MN.out _).mono ?_; rintro e w' ⟨rfl, rfl⟩)
            | fail)
          obtain ⟨W2, hW2⟩ : ∃ x, w1.alloc (.cells #[.int .u8 3, .int .i64 16, .bool false, .func (.func 90) #[] #[]] 110) = x := ⟨_, rfl⟩
          have bk := BK.out
          rw [show ([.int .u8 3, .int .i64 16, .bool false, .func (.func 90) #[] #[]] : List Value).toArray = #[.int .u8 3, .int .i64 16, .bool false, .func (.func 90) #[] #[]] from rfl, hW2] at bk
          rw [hW2] at B1 ⊢
          obtain ⟨kb, hkb⟩ : ∃ kb, w1.heap.size = kb := ⟨_, rfl⟩
          rw [hkb] at bk ⊢
          have B2 := hid B1.out
          have K2 := hid bk
          have c0 := bk.cell 0 _ rfl
          have c1 := bk.cell 1 _ rfl
          have c2 := bk.cell 2 _ rfl
          have c3 := bk.cell 3 _ rfl
          clear hW2 hkb bk BK B1 B
          go_region_held3 (fun W => W.cell? ⟨kb, 0, none⟩ = some (.int .u8 3) ∧ W.cell? ⟨kb, 1, none⟩ = some (.int .i64 16) ∧ W.cell? ⟨kb, 2, none⟩ = some (.bool false) ∧ W.cell? ⟨kb, 3, none⟩ = some (.func (.func 90) #[] #[])) (go_keep) (first
            | (go_at_call 60; refine (MN.out _).mono ?_; rintro e w' ⟨rfl, rfl⟩)
            | (go_at_call 59; refine (CN.out _).mono ?_; rintro e w' ⟨rfl, rfl⟩))
          go_wp2_with fail
          clear c0 c1 c2 c3
          go_loopw [5] (fun nv wx => ∃ m : Nat, m ≤ 41 ∧ nv = .int .i64 ((m : Int) - 1) ∧ Below w.heap.size w wx ∧ Blk wx kb [.int .u8 3, .int .i64 16, .bool false, .func (.func 90) #[] #[]] 110) (fun nv _ => (40 - intOf nv).toNat)
          case atStart => exact ⟨0, Nat.zero_le _, rfl, below_next B2.out (below_drewN W2 1), K2.out⟩
          case round =>
            obtain ⟨m, hm, rfl, hbx, hkx⟩ := hrel
            have BX := hid hbx
            have KX := hid hkx
            clear hbx hkx
            by_cases hlm : m < 41
            · obtain ⟨n, hn⟩ : ∃ n : Int, (m : Int) - 1 = n := ⟨_, rfl⟩
              have hn40 : n < 40 := by omega
              have HN := hid hn
              have LN := hid (fun W => len_3 n W)
              have YN := hid (fun W => KY.out n W)
              rw [hn]
              have c3 := KX.out.cell 3 _ rfl
              generalize decide (n = 16 ∨ n = 24 ∨ n = 32) = bb at *
              clear hn
              go_wp2_with (first
                | (go_at_call 90; refine (LN.out _).mono ?_; rintro e w' ⟨rfl, rfl⟩)
                | (go_at_call 58; refine (YN.out _).mono ?_; rintro e w' ⟨rfl, rfl⟩))
              have hw : wrap64 (n + 1) = ((m + 1 : Nat) : Int) - 1 := by have := HN.out; unfold wrap64; omega
              refine ⟨⟨m + 1, by omega, by rw [hw], BX.out, KX.out⟩, ?_⟩
              have := HN.out
              rw [hw]
              simp only [intOf]
              omega
            · have em : m = 41 := by omega
              subst em
              go_wp2_with fail
              exact ⟨⟨4, by decide, rfl, BX.out⟩, by simp [intOf]⟩
        · have KN := hid (fun W => show Calls Tryz.prog 57 #[.int .u8 4] W (fun e w' => e = .returned (.bool true) ∧ w' = W) from rknown 4 W)
          have MN := hid (fun W => show Calls Tryz.prog 60 #[.int .u8 4] W (fun e w' => e = .returned (.int .i64 64) ∧ w' = W) from rmost 4 W)
          have CN := hid (fun W => show Calls Tryz.prog 59 #[.int .u8 4] W (fun e w' => e = .returned (.bool true) ∧ w' = W) from rcust 4 W)
          have KY := hid (fun n W => show Calls Tryz.prog 58 #[.int .u8 4, .int .i64 n] W (fun e w' => e = .returned (.bool (decide (0 ≤ n))) ∧ w' = W) from rkey 4 n W)
          go_wp2_with fail
          refine (of_4 wr).mono ?_
          rintro e w1 ⟨rfl, hb1⟩
          have B1 := hid (below_next B.out (below_next hb1 (below_alloc w1 (.cells #[.int .u8 4, .int .i64 64, .bool true, .func (.func 89) #[] #[]] 110))))
          have BK := hid (Blk.new w1 [.int .u8 4, .int .i64 64, .bool true, .func (.func 89) #[] #[]] 110)
          clear hb1
          go_wp2_with (first
            | (go_at_call 57; refine (KN.out _).mono ?_; rintro e w' ⟨rfl, rfl⟩)
            | (go_at_call 60; refine (MN.out _).mono ?_; rintro e w' ⟨rfl, rfl⟩)
            | fail)
          obtain ⟨W2, hW2⟩ : ∃ x, w1.alloc (.cells #[.int .u8 4, .int .i64 64, .bool true, .func (.func 89) #[] #[]] 110) = x := ⟨_, rfl⟩
          have bk := BK.out
          rw [show ([.int .u8 4, .int .i64 64, .bool true, .func (.func 89) #[] #[]] : List Value).toArray = #[.int .u8 4, .int .i64 64, .bool true, .func (.func 89) #[] #[]] from rfl, hW2] at bk
          rw [hW2] at B1 ⊢
          obtain ⟨kb, hkb⟩ : ∃ kb, w1.heap.size = kb := ⟨_, rfl⟩
          rw [hkb] at bk ⊢
          have B2 := hid B1.out
          have K2 := hid bk
          have c0 := bk.cell 0 _ rfl
          have c1 := bk.cell 1 _ rfl
          have c2 := bk.cell 2 _ rfl
          have c3 := bk.cell 3 _ rfl
          clear hW2 hkb bk BK B1 B
          go_region_held3 (fun W => W.cell? ⟨kb, 0, none⟩ = some (.int .u8 4) ∧ W.cell? ⟨kb, 1, none⟩ = some (.int .i64 64) ∧ W.cell? ⟨kb, 2, none⟩ = some (.bool true) ∧ W.cell? ⟨kb, 3, none⟩ = some (.func (.func 89) #[] #[])) (go_keep) (first
            | (go_at_call 60; refine (MN.out _).mono ?_; rintro e w' ⟨rfl, rfl⟩)
            | (go_at_call 59; refine (CN.out _).mono ?_; rintro e w' ⟨rfl, rfl⟩))
          go_wp2_with fail
          clear c0 c1 c2 c3
          go_loopw [5] (fun nv wx => ∃ m : Nat, m ≤ 41 ∧ nv = .int .i64 ((m : Int) - 1) ∧ Below w.heap.size w wx ∧ Blk wx kb [.int .u8 4, .int .i64 64, .bool true, .func (.func 89) #[] #[]] 110) (fun nv _ => (40 - intOf nv).toNat)
          case atStart => exact ⟨0, Nat.zero_le _, rfl, below_next B2.out (below_drewN W2 1), K2.out⟩
          case round =>
            obtain ⟨m, hm, rfl, hbx, hkx⟩ := hrel
            have BX := hid hbx
            have KX := hid hkx
            clear hbx hkx
            by_cases hlm : m < 41
            · obtain ⟨n, hn⟩ : ∃ n : Int, (m : Int) - 1 = n := ⟨_, rfl⟩
              have hn40 : n < 40 := by omega
              have HN := hid hn
              have LN := hid (fun W => len_1 n W)
              have YN := hid (fun W => KY.out n W)
              rw [hn]
              have c3 := KX.out.cell 3 _ rfl
              generalize decide (0 ≤ n) = bb at *
              clear hn
              go_wp2_with (first
                | (go_at_call 89; refine (LN.out _).mono ?_; rintro e w' ⟨rfl, rfl⟩)
                | (go_at_call 58; refine (YN.out _).mono ?_; rintro e w' ⟨rfl, rfl⟩))
              have hw : wrap64 (n + 1) = ((m + 1 : Nat) : Int) - 1 := by have := HN.out; unfold wrap64; omega
              refine ⟨⟨m + 1, by omega, by rw [hw], BX.out, KX.out⟩, ?_⟩
              have := HN.out
              rw [hw]
              simp only [intOf]
              omega
            · have em : m = 41 := by omega
              subst em
              go_wp2_with fail
              exact ⟨⟨5, by decide, rfl, BX.out⟩, by simp [intOf]⟩
        · have KN := hid (fun W => show Calls Tryz.prog 57 #[.int .u8 5] W (fun e w' => e = .returned (.bool true) ∧ w' = W) from rknown 5 W)
          have MN := hid (fun W => show Calls Tryz.prog 60 #[.int .u8 5] W (fun e w' => e = .returned (.int .i64 64) ∧ w' = W) from rmost 5 W)
          have CN := hid (fun W => show Calls Tryz.prog 59 #[.int .u8 5] W (fun e w' => e = .returned (.bool true) ∧ w' = W) from rcust 5 W)
          have KY := hid (fun n W => show Calls Tryz.prog 58 #[.int .u8 5, .int .i64 n] W (fun e w' => e = .returned (.bool (decide (0 ≤ n))) ∧ w' = W) from rkey 5 n W)
          go_wp2_with fail
          refine (of_5 wr).mono ?_
          rintro e w1 ⟨rfl, hb1⟩
          have B1 := hid (below_next B.out (below_next hb1 (below_alloc w1 (.cells #[.int .u8 5, .int .i64 64, .bool true, .func (.func 89) #[] #[]] 110))))
          have BK := hid (Blk.new w1 [.int .u8 5, .int .i64 64, .bool true, .func (.func 89) #[] #[]] 110)
          clear hb1
          go_wp2_with (first
            | (go_at_call 57; refine (KN.out _).mono ?_; rintro e w' ⟨rfl, rfl⟩)
            | (go_at_call 60; refine (MN.out _).mono ?_; rintro e w' ⟨rfl, rfl⟩)
            | fail)
          obtain ⟨W2, hW2⟩ : ∃ x, w1.alloc (.cells #[.int .u8 5, .int .i64 64, .bool true, .func (.func 89) #[] #[]] 110) = x := ⟨_, rfl⟩
          have bk := BK.out
          rw [show ([.int .u8 5, .int .i64 64, .bool true, .func (.func 89) #[] #[]] : List Value).toArray = #[.int .u8 5, .int .i64 64, .bool true, .func (.func 89) #[] #[]] from rfl, hW2] at bk
          rw [hW2] at B1 ⊢
          obtain ⟨kb, hkb⟩ : ∃ kb, w1.heap.size = kb := ⟨_, rfl⟩
          rw [hkb] at bk ⊢
          have B2 := hid B1.out
          have K2 := hid bk
          have c0 := bk.cell 0 _ rfl
          have c1 := bk.cell 1 _ rfl
          have c2 := bk.cell 2 _ rfl
          have c3 := bk.cell 3 _ rfl
          clear hW2 hkb bk BK B1 B
          go_region_held3 (fun W => W.cell? ⟨kb, 0, none⟩ = some (.int .u8 5) ∧ W.cell? ⟨kb, 1, none⟩ = some (.int .i64 64) ∧ W.cell? ⟨kb, 2, none⟩ = some (.bool true) ∧ W.cell? ⟨kb, 3, none⟩ = some (.func (.func 89) #[] #[])) (go_keep) (first
            | (go_at_call 60; refine (MN.out _).mono ?_; rintro e w' ⟨rfl, rfl⟩)
            | (go_at_call 59; refine (CN.out _).mono ?_; rintro e w' ⟨rfl, rfl⟩))
          go_wp2_with fail
          clear c0 c1 c2 c3
          go_loopw [5] (fun nv wx => ∃ m : Nat, m ≤ 41 ∧ nv = .int .i64 ((m : Int) - 1) ∧ Below w.heap.size w wx ∧ Blk wx kb [.int .u8 5, .int .i64 64, .bool true, .func (.func 89) #[] #[]] 110) (fun nv _ => (40 - intOf nv).toNat)
          case atStart => exact ⟨0, Nat.zero_le _, rfl, below_next B2.out (below_drewN W2 1), K2.out⟩
          case round =>
            obtain ⟨m, hm, rfl, hbx, hkx⟩ := hrel
            have BX := hid hbx
            have KX := hid hkx
            clear hbx hkx
            by_cases hlm : m < 41
            · obtain ⟨n, hn⟩ : ∃ n : Int, (m : Int) - 1 = n := ⟨_, rfl⟩
              have hn40 : n < 40 := by omega
              have HN := hid hn
              have LN := hid (fun W => len_1 n W)
              have YN := hid (fun W => KY.out n W)
              rw [hn]
              have c3 := KX.out.cell 3 _ rfl
              generalize decide (0 ≤ n) = bb at *
              clear hn
              go_wp2_with (first
                | (go_at_call 89; refine (LN.out _).mono ?_; rintro e w' ⟨rfl, rfl⟩)
                | (go_at_call 58; refine (YN.out _).mono ?_; rintro e w' ⟨rfl, rfl⟩))
              have hw : wrap64 (n + 1) = ((m + 1 : Nat) : Int) - 1 := by have := HN.out; unfold wrap64; omega
              refine ⟨⟨m + 1, by omega, by rw [hw], BX.out, KX.out⟩, ?_⟩
              have := HN.out
              rw [hw]
              simp only [intOf]
              omega
            · have em : m = 41 := by omega
              subst em
              go_wp2_with fail
              exact ⟨⟨6, by decide, rfl, BX.out⟩, by simp [intOf]⟩
        · have KN := hid (fun W => show Calls Tryz.prog 57 #[.int .u8 6] W (fun e w' => e = .returned (.bool true) ∧ w' = W) from rknown 6 W)
          have MN := hid (fun W => show Calls Tryz.prog 60 #[.int .u8 6] W (fun e w' => e = .returned (.int .i64 64) ∧ w' = W) from rmost 6 W)
          have CN := hid (fun W => show Calls Tryz.prog 59 #[.int .u8 6] W (fun e w' => e = .returned (.bool true) ∧ w' = W) from rcust 6 W)
          have KY := hid (fun n W => show Calls Tryz.prog 58 #[.int .u8 6, .int .i64 n] W (fun e w' => e = .returned (.bool (decide (0 ≤ n))) ∧ w' = W) from rkey 6 n W)
          go_wp2_with fail
          refine (of_6 wr).mono ?_
          rintro e w1 ⟨rfl, hb1⟩
          have B1 := hid (below_next B.out (below_next hb1 (below_alloc w1 (.cells #[.int .u8 6, .int .i64 64, .bool true, .func (.func 89) #[] #[]] 110))))
          have BK := hid (Blk.new w1 [.int .u8 6, .int .i64 64, .bool true, .func (.func 89) #[] #[]] 110)
          clear hb1
          go_wp2_with (first
            | (go_at_call 57; refine (KN.out _).mono ?_; rintro e w' ⟨rfl, rfl⟩)
            | (go_at_call 60; refine (MN.out _).mono ?_; rintro e w' ⟨rfl, rfl⟩)
            | fail)
          obtain ⟨W2, hW2⟩ : ∃ x, w1.alloc (.cells #[.int .u8 6, .int .i64 64, .bool true, .func (.func 89) #[] #[]] 110) = x := ⟨_, rfl⟩
          have bk := BK.out
          rw [show ([.int .u8 6, .int .i64 64, .bool true, .func (.func 89) #[] #[]] : List Value).toArray = #[.int .u8 6, .int .i64 64, .bool true, .func (.func 89) #[] #[]] from rfl, hW2] at bk
          rw [hW2] at B1 ⊢
          obtain ⟨kb, hkb⟩ : ∃ kb, w1.heap.size = kb := ⟨_, rfl⟩
          rw [hkb] at bk ⊢
          have B2 := hid B1.out
          have K2 := hid bk
          have c0 := bk.cell 0 _ rfl
          have c1 := bk.cell 1 _ rfl
          have c2 := bk.cell 2 _ rfl
          have c3 := bk.cell 3 _ rfl
          clear hW2 hkb bk BK B1 B
          go_region_held3 (fun W => W.cell? ⟨kb, 0, none⟩ = some (.int .u8 6) ∧ W.cell? ⟨kb, 1, none⟩ = some (.int .i64 64) ∧ W.cell? ⟨kb, 2, none⟩ = some (.bool true) ∧ W.cell? ⟨kb, 3, none⟩ = some (.func (.func 89) #[] #[])) (go_keep) (first
            | (go_at_call 60; refine (MN.out _).mono ?_; rintro e w' ⟨rfl, rfl⟩)
            | (go_at_call 59; refine (CN.out _).mono ?_; rintro e w' ⟨rfl, rfl⟩))
          go_wp2_with fail
          clear c0 c1 c2 c3
          go_loopw [5] (fun nv wx => ∃ m : Nat, m ≤ 41 ∧ nv = .int .i64 ((m : Int) - 1) ∧ Below w.heap.size w wx ∧ Blk wx kb [.int .u8 6, .int .i64 64, .bool true, .func (.func 89) #[] #[]] 110) (fun nv _ => (40 - intOf nv).toNat)
          case atStart => exact ⟨0, Nat.zero_le _, rfl, below_next B2.out (below_drewN W2 1), K2.out⟩
          case round =>
            obtain ⟨m, hm, rfl, hbx, hkx⟩ := hrel
            have BX := hid hbx
            have KX := hid hkx
            clear hbx hkx
            by_cases hlm : m < 41
            · obtain ⟨n, hn⟩ : ∃ n : Int, (m : Int) - 1 = n := ⟨_, rfl⟩
              have hn40 : n < 40 := by omega
              have HN := hid hn
              have LN := hid (fun W => len_1 n W)
              have YN := hid (fun W => KY.out n W)
              rw [hn]
              have c3 := KX.out.cell 3 _ rfl
              generalize decide (0 ≤ n) = bb at *
              clear hn
              go_wp2_with (first
                | (go_at_call 89; refine (LN.out _).mono ?_; rintro e w' ⟨rfl, rfl⟩)
                | (go_at_call 58; refine (YN.out _).mono ?_; rintro e w' ⟨rfl, rfl⟩))
              have hw : wrap64 (n + 1) = ((m + 1 : Nat) : Int) - 1 := by have := HN.out; unfold wrap64; omega
              refine ⟨⟨m + 1, by omega, by rw [hw], BX.out, KX.out⟩, ?_⟩
              have := HN.out
              rw [hw]
              simp only [intOf]
              omega
            · have em : m = 41 := by omega
              subst em
              go_wp2_with fail
              exact ⟨⟨7, by decide, rfl, BX.out⟩, by simp [intOf]⟩
        · have KN := hid (fun W => show Calls Tryz.prog 57 #[.int .u8 7] W (fun e w' => e = .returned (.bool true) ∧ w' = W) from rknown 7 W)
          have MN := hid (fun W => show Calls Tryz.prog 60 #[.int .u8 7] W (fun e w' => e = .returned (.int .i64 64) ∧ w' = W) from rmost 7 W)
          have CN := hid (fun W => show Calls Tryz.prog 59 #[.int .u8 7] W (fun e w' => e = .returned (.bool true) ∧ w' = W) from rcust 7 W)
          have KY := hid (fun n W => show Calls Tryz.prog 58 #[.int .u8 7, .int .i64 n] W (fun e w' => e = .returned (.bool (decide (0 ≤ n))) ∧ w' = W) from rkey 7 n W)
          go_wp2_with fail
          refine (of_7 wr).mono ?_
          rintro e w1 ⟨rfl, hb1⟩
          have B1 := hid (below_next B.out (below_next hb1 (below_alloc w1 (.cells #[.int .u8 7, .int .i64 64, .bool true, .func (.func 89) #[] #[]] 110))))
          have BK := hid (Blk.new w1 [.int .u8 7, .int .i64 64, .bool true, .func (.func 89) #[] #[]] 110)
          clear hb1
          go_wp2_with (first
            | (go_at_call 57; refine (KN.out _).mono ?_; rintro e w' ⟨rfl, rfl⟩)
            | (go_at_call 60; refine (MN.out _).mono ?_; rintro e w' ⟨rfl, rfl⟩)
            | fail)
          obtain ⟨W2, hW2⟩ : ∃ x, w1.alloc (.cells #[.int .u8 7, .int .i64 64, .bool true, .func (.func 89) #[] #[]] 110) = x := ⟨_, rfl⟩
          have bk := BK.out
          rw [show ([.int .u8 7, .int .i64 64, .bool true, .func (.func 89) #[] #[]] : List Value).toArray = #[.int .u8 7, .int .i64 64, .bool true, .func (.func 89) #[] #[]] from rfl, hW2] at bk
          rw [hW2] at B1 ⊢
          obtain ⟨kb, hkb⟩ : ∃ kb, w1.heap.size = kb := ⟨_, rfl⟩
          rw [hkb] at bk ⊢
          have B2 := hid B1.out
          have K2 := hid bk
          have c0 := bk.cell 0 _ rfl
          have c1 := bk.cell 1 _ rfl
          have c2 := bk.cell 2 _ rfl
          have c3 := bk.cell 3 _ rfl
          clear hW2 hkb bk BK B1 B
          go_region_held3 (fun W => W.cell? ⟨kb, 0, none⟩ = some (.int .u8 7) ∧ W.cell? ⟨kb, 1, none⟩ = some (.int .i64 64) ∧ W.cell? ⟨kb, 2, none⟩ = some (.bool true) ∧ W.cell? ⟨kb, 3, none⟩ = some (.func (.func 89) #[] #[])) (go_keep) (first
            | (go_at_call 60; refine (MN.out _).mono ?_; rintro e w' ⟨rfl, rfl⟩)
            | (go_at_call 59; refine (CN.out _).mono ?_; rintro e w' ⟨rfl, rfl⟩))
          go_wp2_with fail
          clear c0 c1 c2 c3
          go_loopw [5] (fun nv wx => ∃ m : Nat, m ≤ 41 ∧ nv = .int .i64 ((m : Int) - 1) ∧ Below w.heap.size w wx ∧ Blk wx kb [.int .u8 7, .int .i64 64, .bool true, .func (.func 89) #[] #[]] 110) (fun nv _ => (40 - intOf nv).toNat)
          case atStart => exact ⟨0, Nat.zero_le _, rfl, below_next B2.out (below_drewN W2 1), K2.out⟩
          case round =>
            obtain ⟨m, hm, rfl, hbx, hkx⟩ := hrel
            have BX := hid hbx
            have KX := hid hkx
            clear hbx hkx
            by_cases hlm : m < 41
            · obtain ⟨n, hn⟩ : ∃ n : Int, (m : Int) - 1 = n := ⟨_, rfl⟩
              have hn40 : n < 40 := by omega
              have HN := hid hn
              have LN := hid (fun W => len_1 n W)
              have YN := hid (fun W => KY.out n W)
              rw [hn]
              have c3 := KX.out.cell 3 _ rfl
              generalize decide (0 ≤ n) = bb at *
              clear hn
              go_wp2_with (first
                | (go_at_call 89; refine (LN.out _).mono ?_; rintro e w' ⟨rfl, rfl⟩)
                | (go_at_call 58; refine (YN.out _).mono ?_; rintro e w' ⟨rfl, rfl⟩))
              have hw : wrap64 (n + 1) = ((m + 1 : Nat) : Int) - 1 := by have := HN.out; unfold wrap64; omega
              refine ⟨⟨m + 1, by omega, by rw [hw], BX.out, KX.out⟩, ?_⟩
              have := HN.out
              rw [hw]
              simp only [intOf]
              omega
            · have em : m = 41 := by omega
              subst em
              go_wp2_with fail
              exact ⟨⟨8, by decide, rfl, BX.out⟩, by simp [intOf]⟩
    · have ek : k = 256 := by omega
      subst ek
      go_wp2
      go_ret
      exact ⟨rfl, B.out⟩
end Go.Proofs.YtpohogpkfdebdaaGreatDoor.Oc
