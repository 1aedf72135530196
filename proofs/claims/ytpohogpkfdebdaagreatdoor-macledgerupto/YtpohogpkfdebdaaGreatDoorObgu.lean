/- begun: a case that may be, of any one. -/
import Derived.Test.YtpohogpkfdebdaaGreatDoorOh
import Derived.Test.YtpohogpkfdebdaaGreatDoorZmb
namespace Go.Proofs.YtpohogpkfdebdaaGreatDoor.Oc
open Go.ChangeShapes Go.WideShapes Go.ChangeAt Go.RowKit
open Go.Proofs.YtpohogpkfdebdaaGreatDoor.By
open Go.Proofs.YtpohogpkfdebdaaGreatDoor.Sh (Blk size_alloc)
open Go.Proofs.YtpohogpkfdebdaaGreatDoor.Dg (BB LG lpv Lt Tl IsMk MB)
set_option maxRecDepth 20000 in
theorem pick_n (i : Int) (n : Nat) (hn : 0 < n) (hn2 : n ≤ 1000000) (w : World) : Calls Tryz.prog 35 #[.int .i64 i, .int .i64 (n : Int)] w fun e w' => (∃ r : Nat, e = .returned (.int .i64 (r : Int)) ∧ r < n) ∧ w' = w := by
  have hn0 : ¬ (n : Int) = 0 := by omega
  have hn1 : ((n : Int) == 0) = false := beq_eq_false_iff_ne.2 hn0
  have hm1 : ¬ (n : Int) = -1 := by omega
  have ht := Int.tmod_lt_of_pos i (show (0 : Int) < n by omega)
  have ht2 : -(n : Int) < i.tmod n := by
    have := Int.natAbs_tmod i n
    have h2 : i.natAbs % (n : Int).natAbs < n := by
      have : (n : Int).natAbs = n := Int.natAbs_natCast n
      rw [this]; exact Nat.mod_lt _ hn
    omega
  have w1 : IntKind.i64.wrap (i.tmod n) = i.tmod n := by rw [IntKind.wrap_i64]; omega
  by_cases hneg : i.tmod n < 0
  · have w2 : IntKind.i64.wrap (i.tmod n + n) = i.tmod n + n := by rw [IntKind.wrap_i64]; omega
    go_enter Tryz.func35, Tryz.ntmps35
    go_wp2
    go_ret
    refine ⟨⟨(i.tmod n + n).toNat, ?_, by omega⟩, rfl⟩
    rw [show (((i.tmod n + n).toNat : Nat) : Int) = i.tmod n + n by omega]
    rfl
  · go_enter Tryz.func35, Tryz.ntmps35
    go_wp2
    go_ret
    refine ⟨⟨(i.tmod n).toNat, ?_, by omega⟩, rfl⟩
    rw [show (((i.tmod n).toNat : Nat) : Int) = i.tmod n by omega]
    rfl
theorem make_n (n : Nat) (hn : n ≤ 1000) (w : World) : (Instr.makeSlice 23 (.int .i64 n) (.int .i64 n)).run Tryz.prog w = .ok (.slice (some ⟨w.heap.size, 0, none⟩) n n) (w.alloc (.cells (bl n (fun _ => 0)).toArray 5)) := by
  obtain ⟨i0, hi, hz0, hz1, hz2⟩ := info_parts info5
  have hr := run_make (P := Tryz.prog) w 23 5 i0 (.int .u8 0) Tryz.underlying23 hi hz0 .i64 .i64 n n (by omega) (by omega) (by rw [hz2]; omega) (by omega)
  have e : madeCells #[Value.int .u8 0] n = (bl n (fun _ => 0)).toArray := by rw [← bl_zero]
  simp only [Int.toNat_natCast, hz1, Nat.mul_one, Value.cells, e] at hr
  exact hr
theorem put_bl (N k : Nat) (g : Nat → Int) (hk : k ≤ N) : Sh.put (bl N fun _ => 0) 0 (bl k g) = bl N (fun i => if i < k then g i else 0) := by
  apply List.ext_getElem?
  intro i
  rw [Sh.put_get _ _ _ _ (by rw [bl_length, bl_length]; omega), bl_length]
  by_cases h1 : i < k
  · rw [if_pos (by omega), Nat.sub_zero, bl_get _ _ _ h1, bl_get _ _ _ (by omega), if_pos h1]
  · rw [if_neg (by omega)]
    by_cases h2 : i < N
    · rw [bl_get _ _ _ h2, bl_get _ _ _ h2, if_neg h1]
    · rw [List.getElem?_eq_none (by rw [bl_length]; omega), List.getElem?_eq_none (by rw [bl_length]; omega)]
/-- copy into a list of noughts. -/
theorem copy_any (W : World) (G N : Nat) (a : Option Addr) (n cap : Nat) (g : Nat → Int) (hG : Blk W G (bl N (fun _ => 0)) 5) (hr : By.RB W (.slice a n cap) n g) : ∃ (k : Nat) (W' : World) (f : Nat → Int), (∀ ty, (Builtin.copy_ #[23, 23] ty #[.slice (some ⟨G, 0, none⟩) N N, .slice a n cap]).run Tryz.prog W = .ok (.int .i64 k) W') ∧ Blk W' G (bl N f) 5 ∧ BB f ∧ Kp (fun j => j = G) W W' := by
  by_cases hn : n = 0
  · subst hn
    refine ⟨0, W, fun _ => 0, fun ty => ?_, hG, fun _ => ⟨Int.le_refl 0, Int.lt_of_le_of_lt (Int.le_refl 0) (by decide : (0 : Int) < 256)⟩, Kp.refl _ _⟩
    exact run_copy_none (P := Tryz.prog) W 23 23 ty 5 (some ⟨G, 0, none⟩) a N N 0 cap Tryz.underlying23 (by kernel_rfl) (Nat.zero_min _)
  · obtain ⟨b, o, c, e, hc⟩ := rb_some hr (by omega)
    simp only [Value.slice.injEq, true_and] at e
    obtain ⟨rfl, rfl⟩ := e
    obtain ⟨hg, a', c', e', _, _, h0 | ⟨b', o', rfl, hcell⟩⟩ := hr
    · omega
    · simp only [Value.slice.injEq, Option.some.injEq, Addr.mk.injEq, true_and] at e'
      obtain ⟨⟨rfl, rfl, -⟩, rfl⟩ := e'
      obtain ⟨k, hk⟩ : ∃ k, k = Nat.min n N := ⟨_, rfl⟩
      have hkn : k ≤ n := by rw [hk]; exact Nat.min_le_left _ _
      have hkN : k ≤ N := by rw [hk]; exact Nat.min_le_right _ _
      refine ⟨k, _, fun i => if i < k then g i else 0, fun ty => Dg.copy_new W W G N k n cap b o ty g rfl hG hk (fun i hi => hcell i (by omega)), ?_, fun i => ?_, Sh.Kp.setCells _ _ _⟩
      · have := hG.put 0 (bl k g)
        rwa [show Sh.put (bl N fun _ => 0) 0 (bl k g) = bl N (fun i => if i < k then g i else 0) from put_bl N k g hkN] at this
      · show 0 ≤ (if i < k then g i else 0) ∧ (if i < k then g i else 0) < 256
        split
        · exact hg i
        · decide
theorem far_k {z n : Nat} (h : z = n + 1 + 1 + 1) : ¬ (z = n + 1 + 1 ∨ z = n + 1) := by omega
theorem far_j {j n : Nat} (h : j < n) (e : j = n + 1 + 1 ∨ j = n + 1) : False := by omega
theorem code_zero (a n c r : Nat) (ha : 1 ≤ a ∧ a ≤ 7) (hk : keyOk a n = true) (hc : c = 0 ∨ (cust a = true ∧ c ≤ 64)) (hr : r < most a) : code a n c (1 + (r : Int)) = 0 := by
  unfold code
  rw [if_neg (by omega), if_neg (by rw [hk]; decide), if_neg (fun h => ?_), if_neg (by rcases hc with hc | hc <;> omega), if_neg (by omega)]
  rcases hc with hc | hc
  · omega
  · rw [hc.1] at h; exact absurd h.2 (by decide)
theorem rb_of_blk {w : World} {g n : Nat} {f : Nat → Int} (h : Blk w g (bl n f) 5) (hf : BB f) (hn : n ≤ maxLen) : By.RB w (.slice (some ⟨g, 0, none⟩) n n) n f := ⟨hf, _, _, rfl, Nat.le_refl _, hn, .inr ⟨g, 0, rfl, fun i hi => by rw [Nat.zero_add]; exact h.cell i _ (bl_get n f i hi)⟩⟩
theorem most_pos (a : Nat) : 0 < most a := by
  unfold most
  by_cases h1 : a = 1
  · rw [if_pos h1]; decide
  · rw [if_neg h1]
    by_cases h3 : a = 3
    · rw [if_pos h3]; decide
    · rw [if_neg h3]; decide
theorem lt_256 {a : Nat} (h : 1 ≤ a ∧ a ≤ 7) : a < 256 := by omega
theorem out_ok {r : Nat} (h : r < 65) : -9223372036854775808 ≤ 1 + (r : Int) ∧ 1 + (r : Int) < 9223372036854775808 := by omega
theorem pmin_d (ts : Array TypeId) (t : TypeId) (x y d : Nat) (h : min x y = d) (w : World) : (Builtin.min_ ts t #[.int .i64 x, .int .i64 y]).run Tryz.prog w = .ok (.int .i64 d) w := by
  rw [run_min_int2 w ts t .i64 .i64 x y]
  congr 2
  split <;> omega
theorem fin4 (W : World) (O R : Nat) (x a b c d : Value) : Kp (fun j => j = O ∨ j = R) W (((((W.setCell ⟨O, 3, none⟩ x).setCell ⟨R, 0, none⟩ a).setCell ⟨R, 1, none⟩ b).setCell ⟨R, 2, none⟩ c).setCell ⟨R, 3, none⟩ d) :=
  (((((Kp.setCell O 3 x).mono (T := fun j => j = O ∨ j = R) (fun _ _ e => .inl e)).trans (Kp.setCell R 0 a) (fun _ _ e => .inr e)).trans (Kp.setCell R 1 b) (fun _ _ e => .inr e)).trans (Kp.setCell R 2 c) (fun _ _ e => .inr e)).trans (Kp.setCell R 3 d) (fun _ _ e => .inr e)
set_option maxRecDepth 20000 in
set_option maxHeartbeats 4000000 in
theorem begun1 (q : CE) (w : World) (hq : q.Ok w) : Calls Tryz.prog 26 #[.agg #[.int .u8 (q.al : Int), .slice q.ka q.kn q.kc, .slice q.ca q.cn q.cc, .int .i64 q.out]] w fun e w' => ∃ p : CE, e = .returned (.agg (cel p).toArray) ∧ p.Ok w' ∧ code p.al p.kn p.cn p.out = 0 ∧ p.kn ≤ max q.kn 32 ∧ p.cn ≤ 64 ∧ Below w.heap.size w w' := by
  have HQ := hid hq
  have hal := hq.al
  obtain ⟨A, hA, hA1⟩ : ∃ A : Nat, A = 1 + q.al % 7 ∧ 1 ≤ A ∧ A ≤ 7 := ⟨_, rfl, by omega, by omega⟩
  have eA : 1 + (q.al : Int) % 7 = (A : Int) := by omega
  clear hq hA
  by_cases h3 : A = 3
  · subst h3
    have hm : q.kn % 3 = 0 ∨ q.kn % 3 = 1 ∨ q.kn % 3 = 2 := by omega
    rcases hm with hm | hm | hm
    · have ek : (q.kn : Int) % 3 = 0 := by omega
      have hmk : ∀ W : World, (Instr.makeSlice 23 (.int .i64 16) (.int .i64 16)).run Tryz.prog W = .ok (.slice (some ⟨W.heap.size, 0, none⟩) 16 16) (W.alloc (.cells (bl 16 (fun _ => 0)).toArray 5)) := fun W => make_n 16 (by decide) W
      have b0 := below_next (below_next (below_alloc w (.cells #[.int .u8 (q.al : Int), .slice q.ka q.kn q.kc, .slice q.ca q.cn q.cc, .int .i64 q.out] 25)) (below_alloc _ (.cells #[.int .u8 0, .slice none 0 0, .slice none 0 0, .int .i64 0] 25))) (below_alloc _ (.cells #[.int .u8 3, .slice q.ka q.kn q.kc, .slice none 0 0, .int .i64 0] 25))
      have F0 : Blk (((w.alloc (.cells #[.int .u8 (q.al : Int), .slice q.ka q.kn q.kc, .slice q.ca q.cn q.cc, .int .i64 q.out] 25)).alloc (.cells #[.int .u8 0, .slice none 0 0, .slice none 0 0, .int .i64 0] 25)).alloc (.cells #[.int .u8 3, .slice q.ka q.kn q.kc, .slice none 0 0, .int .i64 0] 25)) w.heap.size (cel q) 25 := ((Blk.new w (cel q) 25).alloc _).alloc _
      have R0 : Blk (((w.alloc (.cells #[.int .u8 (q.al : Int), .slice q.ka q.kn q.kc, .slice q.ca q.cn q.cc, .int .i64 q.out] 25)).alloc (.cells #[.int .u8 0, .slice none 0 0, .slice none 0 0, .int .i64 0] 25)).alloc (.cells #[.int .u8 3, .slice q.ka q.kn q.kc, .slice none 0 0, .int .i64 0] 25)) (w.heap.size + 1) [.int .u8 0, .slice none 0 0, .slice none 0 0, .int .i64 0] 25 := (Blk.newAt (w.alloc _) _ _ _ _ (size_alloc _ _).symm rfl).alloc _
      have O0 : Blk (((w.alloc (.cells #[.int .u8 (q.al : Int), .slice q.ka q.kn q.kc, .slice q.ca q.cn q.cc, .int .i64 q.out] 25)).alloc (.cells #[.int .u8 0, .slice none 0 0, .slice none 0 0, .int .i64 0] 25)).alloc (.cells #[.int .u8 3, .slice q.ka q.kn q.kc, .slice none 0 0, .int .i64 0] 25)) (w.heap.size + 1 + 1) [.int .u8 3, .slice q.ka q.kn q.kc, .slice none 0 0, .int .i64 0] 25 := Blk.newAt ((w.alloc _).alloc _) _ _ _ _ (by rw [size_alloc, size_alloc]) rfl
      have z0 : (((w.alloc (.cells #[.int .u8 (q.al : Int), .slice q.ka q.kn q.kc, .slice q.ca q.cn q.cc, .int .i64 q.out] 25)).alloc (.cells #[.int .u8 0, .slice none 0 0, .slice none 0 0, .int .i64 0] 25)).alloc (.cells #[.int .u8 3, .slice q.ka q.kn q.kc, .slice none 0 0, .int .i64 0] 25)).heap.size = w.heap.size + 1 + 1 + 1 := by rw [size_alloc, size_alloc, size_alloc]
      obtain ⟨W3, hW3⟩ : ∃ x, (((w.alloc (.cells #[.int .u8 (q.al : Int), .slice q.ka q.kn q.kc, .slice q.ca q.cn q.cc, .int .i64 q.out] 25)).alloc (.cells #[.int .u8 0, .slice none 0 0, .slice none 0 0, .int .i64 0] 25)).alloc (.cells #[.int .u8 3, .slice q.ka q.kn q.kc, .slice none 0 0, .int .i64 0] 25)) = x := ⟨_, rfl⟩
      have HW3 := hid hW3
      rw [hW3] at b0 F0 R0 O0 z0
      have K0 := Blk.new W3 (bl 16 (fun _ => 0)) 5
      have b1 := below_alloc W3 (.cells (bl 16 (fun _ => 0)).toArray 5)
      obtain ⟨k, W5, f, hcp, hKey, hf, hK5⟩ := copy_any _ W3.heap.size 16 q.ka q.kn q.kc q.f K0 (HQ.out.rk.below (below_next b0 b1))
      have nK : ∀ {g cs}, Blk (W3.alloc (.cells (bl 16 (fun _ => 0)).toArray 5)) g cs 25 → ¬ g = W3.heap.size := fun h => Blk.ne h K0 (by decide)
      have F5 := hid ((F0.below b1).kept hK5 (nK (F0.below b1)))
      have R5 := hid ((R0.below b1).kept hK5 (nK (R0.below b1)))
      have O5 := hid ((O0.below b1).kept hK5 (nK (O0.below b1)))
      have B5 := hid (show Below w.heap.size w W5 from (below_next b0 b1).trans (hK5.below (by have := (below_next b0 b1).size; exact this) (fun j hj e => by have : j = W3.heap.size := e; omega)))
      have KK := hid hKey
      have HF := hid hf
      have HZ := hid z0
      have c1 := F5.out.cell 1 _ rfl
      have c3 := F5.out.cell 3 _ rfl
      have d0 := O5.out.cell 0 _ rfl
      have d1 := O5.out.cell 1 _ rfl
      have d2 := O5.out.cell 2 _ rfl
      have d3 := O5.out.cell 3 _ rfl
      have e1' := O5.out.frozen 1
      have e3' := O5.out.frozen 3
      rw [z0] at hcp
      clear b0 F0 R0 O0 K0 b1 hKey hf hK5 nK hW3 z0
      go_enter Tryz.func26, Tryz.ntmps26
      go_wp2_with fail
      rw [HW3.out, hcp]
      have C3 := hid (fun W => show Calls Tryz.prog 59 #[.int .u8 3] W (fun e w' => e = .returned (.bool false) ∧ w' = W) from rcust 3 W)
      have M3 := hid (fun W => show Calls Tryz.prog 60 #[.int .u8 3] W (fun e w' => e = .returned (.int .i64 16) ∧ w' = W) from rmost 3 W)
      have P3 := hid (fun W => show Calls Tryz.prog 35 #[.int .i64 q.out, .int .i64 16] W (fun e w' => (∃ r : Nat, e = .returned (.int .i64 (r : Int)) ∧ r < 16) ∧ w' = W) from pick_n q.out 16 (by decide) (by decide) W)
      clear HW3 hmk
      go_wp2_with (first
        | (go_at_call 59; refine (C3.out _).mono ?_; rintro e w' ⟨rfl, rfl⟩)
        | (go_at_call 60; refine (M3.out _).mono ?_; rintro e w' ⟨rfl, rfl⟩)
        | (go_at_call 35; refine (P3.out _).mono ?_; rintro e w' ⟨⟨r, rfl, hr⟩, rfl⟩))
      obtain ⟨W6, hW6⟩ : ∃ x, W5.setCell ⟨w.heap.size + 1 + 1, 1, none⟩ (.slice (some ⟨w.heap.size + 1 + 1 + 1, 0, none⟩) 16 16) = x := ⟨_, rfl⟩
      rw [hW6]
      have O6 := O5.out.set 1 (.slice (some ⟨w.heap.size + 1 + 1 + 1, 0, none⟩) 16 16)
      have F6 := F5.out.other (g' := w.heap.size + 1 + 1) (by omega) 1 (.slice (some ⟨w.heap.size + 1 + 1 + 1, 0, none⟩) 16 16)
      have R6 := R5.out.other (g' := w.heap.size + 1 + 1) (by omega) 1 (.slice (some ⟨w.heap.size + 1 + 1 + 1, 0, none⟩) 16 16)
      rw [hW6] at O6 F6 R6
      clear c1 c3 d0 d1 d2 d3 e1' e3' hcp
      have c3 := F6.cell 3 _ rfl
      have d0 := O6.cell 0 _ rfl
      have d1 := O6.cell 1 _ rfl
      have d2 := O6.cell 2 _ rfl
      have d3 := O6.cell 3 _ rfl
      have e3' := O6.frozen 3
      have q0 := R6.cell 0 _ rfl
      have q1 := R6.cell 1 _ rfl
      have q2 := R6.cell 2 _ rfl
      have q3 := R6.cell 3 _ rfl
      have p0 := R6.frozen 0
      have p1 := R6.frozen 1
      have p2 := R6.frozen 2
      have p3 := R6.frozen 3
      have HW6 := hid hW6
      have HO6 := hid O6
      have HR6 := hid R6
      clear hW6 O6 F6 R6
      go_region_law (first
        | (go_simp; go_at_call 60; refine (M3.out _).mono ?_; rintro e w' ⟨rfl, rfl⟩)
        | (go_simp; go_at_call 35; refine (P3.out _).mono ?_; rintro e w' ⟨⟨r, rfl, hr⟩, rfl⟩))
      all_goals
        go_simp
        go_wp2_with fail
        have hw : IntKind.i64.wrap (1 + (r : Int)) = 1 + (r : Int) := by rw [IntKind.wrap_i64]; omega
        have k6 := fin4 W6 (w.heap.size + 1 + 1) (w.heap.size + 1) (.int .i64 (1 + (r : Int))) (.int .u8 3) (.slice (some ⟨w.heap.size + 1 + 1 + 1, 0, none⟩) 16 16) (.slice none 0 0) (.int .i64 (1 + (r : Int)))
        have k5 : Kp (fun j => j = w.heap.size + 1 + 1 ∨ j = w.heap.size + 1) W5 W6 := by rw [← HW6.out]; exact (Kp.setCell _ _ _).mono (fun _ _ e => .inl e)
        have kk := (k5.trans k6 (fun _ _ e => e)).trans (Kp.of_below (fun j => j = w.heap.size + 1 + 1 ∨ j = w.heap.size + 1) (below_drewN _ 1)) (fun _ _ e => e)
        refine bodyPost_ret (v := .agg (cel ⟨3, 1 + (r : Int), some ⟨w.heap.size + 1 + 1 + 1, 0, none⟩, 16, 16, none, 0, 0, f, fun _ => 0⟩).toArray) ?_ rfl ⟨_, rfl, ?_, ?_, ?_, ?_, ?_⟩
        · simp [results, go_sem, q0, q1, q2, q3, hw]
          rfl
        · have K9 := KK.out.kept kk (far_k HZ.out)
          rw [HZ.out] at K9
          exact ⟨rb_of_blk K9 HF.out (show (16 : Nat) ≤ maxLen by decide), rb_none _ _ (fun _ => ⟨Int.le_refl 0, by show (0 : Int) < 256; decide⟩), by show (16 : Nat) ≤ _; decide, Nat.zero_le _, by show (3 : Nat) < 256; decide, by show _ ≤ 1 + (r : Int) ∧ 1 + (r : Int) < _; omega⟩
        · exact code_zero 3 16 0 r (by decide) (by decide) (by decide) hr
        · show (16 : Nat) ≤ max q.kn 32; omega
        · exact Nat.zero_le _
        · exact B5.out.trans (kk.below B5.out.size (fun j hj e => far_j hj e))
    · have ek : (q.kn : Int) % 3 = 1 := by omega
      have hmk : ∀ W : World, (Instr.makeSlice 23 (.int .i64 24) (.int .i64 24)).run Tryz.prog W = .ok (.slice (some ⟨W.heap.size, 0, none⟩) 24 24) (W.alloc (.cells (bl 24 (fun _ => 0)).toArray 5)) := fun W => make_n 24 (by decide) W
      have b0 := below_next (below_next (below_alloc w (.cells #[.int .u8 (q.al : Int), .slice q.ka q.kn q.kc, .slice q.ca q.cn q.cc, .int .i64 q.out] 25)) (below_alloc _ (.cells #[.int .u8 0, .slice none 0 0, .slice none 0 0, .int .i64 0] 25))) (below_alloc _ (.cells #[.int .u8 3, .slice q.ka q.kn q.kc, .slice none 0 0, .int .i64 0] 25))
      have F0 : Blk (((w.alloc (.cells #[.int .u8 (q.al : Int), .slice q.ka q.kn q.kc, .slice q.ca q.cn q.cc, .int .i64 q.out] 25)).alloc (.cells #[.int .u8 0, .slice none 0 0, .slice none 0 0, .int .i64 0] 25)).alloc (.cells #[.int .u8 3, .slice q.ka q.kn q.kc, .slice none 0 0, .int .i64 0] 25)) w.heap.size (cel q) 25 := ((Blk.new w (cel q) 25).alloc _).alloc _
      have R0 : Blk (((w.alloc (.cells #[.int .u8 (q.al : Int), .slice q.ka q.kn q.kc, .slice q.ca q.cn q.cc, .int .i64 q.out] 25)).alloc (.cells #[.int .u8 0, .slice none 0 0, .slice none 0 0, .int .i64 0] 25)).alloc (.cells #[.int .u8 3, .slice q.ka q.kn q.kc, .slice none 0 0, .int .i64 0] 25)) (w.heap.size + 1) [.int .u8 0, .slice none 0 0, .slice none 0 0, .int .i64 0] 25 := (Blk.newAt (w.alloc _) _ _ _ _ (size_alloc _ _).symm rfl).alloc _
      have O0 : Blk (((w.alloc (.cells #[.int .u8 (q.al : Int), .slice q.ka q.kn q.kc, .slice q.ca q.cn q.cc, .int .i64 q.out] 25)).alloc (.cells #[.int .u8 0, .slice none 0 0, .slice none 0 0, .int .i64 0] 25)).alloc (.cells #[.int .u8 3, .slice q.ka q.kn q.kc, .slice none 0 0, .int .i64 0] 25)) (w.heap.size + 1 + 1) [.int .u8 3, .slice q.ka q.kn q.kc, .slice none 0 0, .int .i64 0] 25 := Blk.newAt ((w.alloc _).alloc _) _ _ _ _ (by rw [size_alloc, size_alloc]) rfl
      have z0 : (((w.alloc (.cells #[.int .u8 (q.al : Int), .slice q.ka q.kn q.kc, .slice q.ca q.cn q.cc, .int .i64 q.out] 25)).alloc (.cells #[.int .u8 0, .slice none 0 0, .slice none 0 0, .int .i64 0] 25)).alloc (.cells #[.int .u8 3, .slice q.ka q.kn q.kc, .slice none 0 0, .int .i64 0] 25)).heap.size = w.heap.size + 1 + 1 + 1 := by rw [size_alloc, size_alloc, size_alloc]
      obtain ⟨W3, hW3⟩ : ∃ x, (((w.alloc (.cells #[.int .u8 (q.al : Int), .slice q.ka q.kn q.kc, .slice q.ca q.cn q.cc, .int .i64 q.out] 25)).alloc (.cells #[.int .u8 0, .slice none 0 0, .slice none 0 0, .int .i64 0] 25)).alloc (.cells #[.int .u8 3, .slice q.ka q.kn q.kc, .slice none 0 0, .int .i64 0] 25)) = x := ⟨_, rfl⟩
      have HW3 := hid hW3
      rw [hW3] at b0 F0 R0 O0 z0
      have K0 := Blk.new W3 (bl 24 (fun _ => 0)) 5
      have b1 := below_alloc W3 (.cells (bl 24 (fun _ => 0)).toArray 5)
      obtain ⟨k, W5, f, hcp, hKey, hf, hK5⟩ := copy_any _ W3.heap.size 24 q.ka q.kn q.kc q.f K0 (HQ.out.rk.below (below_next b0 b1))
      have nK : ∀ {g cs}, Blk (W3.alloc (.cells (bl 24 (fun _ => 0)).toArray 5)) g cs 25 → ¬ g = W3.heap.size := fun h => Blk.ne h K0 (by decide)
      have F5 := hid ((F0.below b1).kept hK5 (nK (F0.below b1)))
      have R5 := hid ((R0.below b1).kept hK5 (nK (R0.below b1)))
      have O5 := hid ((O0.below b1).kept hK5 (nK (O0.below b1)))
      have B5 := hid (show Below w.heap.size w W5 from (below_next b0 b1).trans (hK5.below (by have := (below_next b0 b1).size; exact this) (fun j hj e => by have : j = W3.heap.size := e; omega)))
      have KK := hid hKey
      have HF := hid hf
      have HZ := hid z0
      have c1 := F5.out.cell 1 _ rfl
      have c3 := F5.out.cell 3 _ rfl
      have d0 := O5.out.cell 0 _ rfl
      have d1 := O5.out.cell 1 _ rfl
      have d2 := O5.out.cell 2 _ rfl
      have d3 := O5.out.cell 3 _ rfl
      have e1' := O5.out.frozen 1
      have e3' := O5.out.frozen 3
      rw [z0] at hcp
      clear b0 F0 R0 O0 K0 b1 hKey hf hK5 nK hW3 z0
      go_enter Tryz.func26, Tryz.ntmps26
      go_wp2_with fail
      rw [HW3.out, hcp]
      have C3 := hid (fun W => show Calls Tryz.prog 59 #[.int .u8 3] W (fun e w' => e = .returned (.bool false) ∧ w' = W) from rcust 3 W)
      have M3 := hid (fun W => show Calls Tryz.prog 60 #[.int .u8 3] W (fun e w' => e = .returned (.int .i64 16) ∧ w' = W) from rmost 3 W)
      have P3 := hid (fun W => show Calls Tryz.prog 35 #[.int .i64 q.out, .int .i64 16] W (fun e w' => (∃ r : Nat, e = .returned (.int .i64 (r : Int)) ∧ r < 16) ∧ w' = W) from pick_n q.out 16 (by decide) (by decide) W)
      clear HW3 hmk
      go_wp2_with (first
        | (go_at_call 59; refine (C3.out _).mono ?_; rintro e w' ⟨rfl, rfl⟩)
        | (go_at_call 60; refine (M3.out _).mono ?_; rintro e w' ⟨rfl, rfl⟩)
        | (go_at_call 35; refine (P3.out _).mono ?_; rintro e w' ⟨⟨r, rfl, hr⟩, rfl⟩))
      obtain ⟨W6, hW6⟩ : ∃ x, W5.setCell ⟨w.heap.size + 1 + 1, 1, none⟩ (.slice (some ⟨w.heap.size + 1 + 1 + 1, 0, none⟩) 24 24) = x := ⟨_, rfl⟩
      rw [hW6]
      have O6 := O5.out.set 1 (.slice (some ⟨w.heap.size + 1 + 1 + 1, 0, none⟩) 24 24)
      have F6 := F5.out.other (g' := w.heap.size + 1 + 1) (by omega) 1 (.slice (some ⟨w.heap.size + 1 + 1 + 1, 0, none⟩) 24 24)
      have R6 := R5.out.other (g' := w.heap.size + 1 + 1) (by omega) 1 (.slice (some ⟨w.heap.size + 1 + 1 + 1, 0, none⟩) 24 24)
      rw [hW6] at O6 F6 R6
      clear c1 c3 d0 d1 d2 d3 e1' e3' hcp
      have c3 := F6.cell 3 _ rfl
      have d0 := O6.cell 0 _ rfl
      have d1 := O6.cell 1 _ rfl
      have d2 := O6.cell 2 _ rfl
      have d3 := O6.cell 3 _ rfl
      have e3' := O6.frozen 3
      have q0 := R6.cell 0 _ rfl
      have q1 := R6.cell 1 _ rfl
      have q2 := R6.cell 2 _ rfl
      have q3 := R6.cell 3 _ rfl
      have p0 := R6.frozen 0
      have p1 := R6.frozen 1
      have p2 := R6.frozen 2
      have p3 := R6.frozen 3
      have HW6 := hid hW6
      have HO6 := hid O6
      have HR6 := hid R6
      clear hW6 O6 F6 R6
      go_region_law (first
        | (go_simp; go_at_call 60; refine (M3.out _).mono ?_; rintro e w' ⟨rfl, rfl⟩)
        | (go_simp; go_at_call 35; refine (P3.out _).mono ?_; rintro e w' ⟨⟨r, rfl, hr⟩, rfl⟩))
      all_goals
        go_simp
        go_wp2_with fail
        have hw : IntKind.i64.wrap (1 + (r : Int)) = 1 + (r : Int) := by rw [IntKind.wrap_i64]; omega
        have k6 := fin4 W6 (w.heap.size + 1 + 1) (w.heap.size + 1) (.int .i64 (1 + (r : Int))) (.int .u8 3) (.slice (some ⟨w.heap.size + 1 + 1 + 1, 0, none⟩) 24 24) (.slice none 0 0) (.int .i64 (1 + (r : Int)))
        have k5 : Kp (fun j => j = w.heap.size + 1 + 1 ∨ j = w.heap.size + 1) W5 W6 := by rw [← HW6.out]; exact (Kp.setCell _ _ _).mono (fun _ _ e => .inl e)
        have kk := (k5.trans k6 (fun _ _ e => e)).trans (Kp.of_below (fun j => j = w.heap.size + 1 + 1 ∨ j = w.heap.size + 1) (below_drewN _ 1)) (fun _ _ e => e)
        refine bodyPost_ret (v := .agg (cel ⟨3, 1 + (r : Int), some ⟨w.heap.size + 1 + 1 + 1, 0, none⟩, 24, 24, none, 0, 0, f, fun _ => 0⟩).toArray) ?_ rfl ⟨_, rfl, ?_, ?_, ?_, ?_, ?_⟩
        · simp [results, go_sem, q0, q1, q2, q3, hw]
          rfl
        · have K9 := KK.out.kept kk (far_k HZ.out)
          rw [HZ.out] at K9
          exact ⟨rb_of_blk K9 HF.out (show (24 : Nat) ≤ maxLen by decide), rb_none _ _ (fun _ => ⟨Int.le_refl 0, by show (0 : Int) < 256; decide⟩), by show (24 : Nat) ≤ _; decide, Nat.zero_le _, by show (3 : Nat) < 256; decide, by show _ ≤ 1 + (r : Int) ∧ 1 + (r : Int) < _; omega⟩
        · exact code_zero 3 24 0 r (by decide) (by decide) (by decide) hr
        · show (24 : Nat) ≤ max q.kn 32; omega
        · exact Nat.zero_le _
        · exact B5.out.trans (kk.below B5.out.size (fun j hj e => far_j hj e))
    · have ek : (q.kn : Int) % 3 = 2 := by omega
      have hmk : ∀ W : World, (Instr.makeSlice 23 (.int .i64 32) (.int .i64 32)).run Tryz.prog W = .ok (.slice (some ⟨W.heap.size, 0, none⟩) 32 32) (W.alloc (.cells (bl 32 (fun _ => 0)).toArray 5)) := fun W => make_n 32 (by decide) W
      have b0 := below_next (below_next (below_alloc w (.cells #[.int .u8 (q.al : Int), .slice q.ka q.kn q.kc, .slice q.ca q.cn q.cc, .int .i64 q.out] 25)) (below_alloc _ (.cells #[.int .u8 0, .slice none 0 0, .slice none 0 0, .int .i64 0] 25))) (below_alloc _ (.cells #[.int .u8 3, .slice q.ka q.kn q.kc, .slice none 0 0, .int .i64 0] 25))
      have F0 : Blk (((w.alloc (.cells #[.int .u8 (q.al : Int), .slice q.ka q.kn q.kc, .slice q.ca q.cn q.cc, .int .i64 q.out] 25)).alloc (.cells #[.int .u8 0, .slice none 0 0, .slice none 0 0, .int .i64 0] 25)).alloc (.cells #[.int .u8 3, .slice q.ka q.kn q.kc, .slice none 0 0, .int .i64 0] 25)) w.heap.size (cel q) 25 := ((Blk.new w (cel q) 25).alloc _).alloc _
      have R0 : Blk (((w.alloc (.cells #[.int .u8 (q.al : Int), .slice q.ka q.kn q.kc, .slice q.ca q.cn q.cc, .int .i64 q.out] 25)).alloc (.cells #[.int .u8 0, .slice none 0 0, .slice none 0 0, .int .i64 0] 25)).alloc (.cells #[.int .u8 3, .slice q.ka q.kn q.kc, .slice none 0 0, .int .i64 0] 25)) (w.heap.size + 1) [.int .u8 0, .slice none 0 0, .slice none 0 0, .int .i64 0] 25 := (Blk.newAt (w.alloc _) _ _ _ _ (size_alloc _ _).symm rfl).alloc _
      have O0 : Blk (((w.alloc (.cells #[.int .u8 (q.al : Int), .slice q.ka q.kn q.kc, .slice q.ca q.cn q.cc, .int .i64 q.out] 25)).alloc (.cells #[.int .u8 0, .slice none 0 0, .slice none 0 0, .int .i64 0] 25)).alloc (.cells #[.int .u8 3, .slice q.ka q.kn q.kc, .slice none 0 0, .int .i64 0] 25)) (w.heap.size + 1 + 1) [.int .u8 3, .slice q.ka q.kn q.kc, .slice none 0 0, .int .i64 0] 25 := Blk.newAt ((w.alloc _).alloc _) _ _ _ _ (by rw [size_alloc, size_alloc]) rfl
      have z0 : (((w.alloc (.cells #[.int .u8 (q.al : Int), .slice q.ka q.kn q.kc, .slice q.ca q.cn q.cc, .int .i64 q.out] 25)).alloc (.cells #[.int .u8 0, .slice none 0 0, .slice none 0 0, .int .i64 0] 25)).alloc (.cells #[.int .u8 3, .slice q.ka q.kn q.kc, .slice none 0 0, .int .i64 0] 25)).heap.size = w.heap.size + 1 + 1 + 1 := by rw [size_alloc, size_alloc, size_alloc]
      obtain ⟨W3, hW3⟩ : ∃ x, (((w.alloc (.cells #[.int .u8 (q.al : Int), .slice q.ka q.kn q.kc, .slice q.ca q.cn q.cc, .int .i64 q.out] 25)).alloc (.cells #[.int .u8 0, .slice none 0 0, .slice none 0 0, .int .i64 0] 25)).alloc (.cells #[.int .u8 3, .slice q.ka q.kn q.kc, .slice none 0 0, .int .i64 0] 25)) = x := ⟨_, rfl⟩
      have HW3 := hid hW3
      rw [hW3] at b0 F0 R0 O0 z0
      have K0 := Blk.new W3 (bl 32 (fun _ => 0)) 5
      have b1 := below_alloc W3 (.cells (bl 32 (fun _ => 0)).toArray 5)
      obtain ⟨k, W5, f, hcp, hKey, hf, hK5⟩ := copy_any _ W3.heap.size 32 q.ka q.kn q.kc q.f K0 (HQ.out.rk.below (below_next b0 b1))
      have nK : ∀ {g cs}, Blk (W3.alloc (.cells (bl 32 (fun _ => 0)).toArray 5)) g cs 25 → ¬ g = W3.heap.size := fun h => Blk.ne h K0 (by decide)
      have F5 := hid ((F0.below b1).kept hK5 (nK (F0.below b1)))
      have R5 := hid ((R0.below b1).kept hK5 (nK (R0.below b1)))
      have O5 := hid ((O0.below b1).kept hK5 (nK (O0.below b1)))
      have B5 := hid (show Below w.heap.size w W5 from (below_next b0 b1).trans (hK5.below (by have := (below_next b0 b1).size; exact this) (fun j hj e => by have : j = W3.heap.size := e; omega)))
      have KK := hid hKey
      have HF := hid hf
      have HZ := hid z0
      have c1 := F5.out.cell 1 _ rfl
      have c3 := F5.out.cell 3 _ rfl
      have d0 := O5.out.cell 0 _ rfl
      have d1 := O5.out.cell 1 _ rfl
      have d2 := O5.out.cell 2 _ rfl
      have d3 := O5.out.cell 3 _ rfl
      have e1' := O5.out.frozen 1
      have e3' := O5.out.frozen 3
      rw [z0] at hcp
      clear b0 F0 R0 O0 K0 b1 hKey hf hK5 nK hW3 z0
      go_enter Tryz.func26, Tryz.ntmps26
      go_wp2_with fail
      rw [HW3.out, hcp]
      have C3 := hid (fun W => show Calls Tryz.prog 59 #[.int .u8 3] W (fun e w' => e = .returned (.bool false) ∧ w' = W) from rcust 3 W)
      have M3 := hid (fun W => show Calls Tryz.prog 60 #[.int .u8 3] W (fun e w' => e = .returned (.int .i64 16) ∧ w' = W) from rmost 3 W)
      have P3 := hid (fun W => show Calls Tryz.prog 35 #[.int .i64 q.out, .int .i64 16] W (fun e w' => (∃ r : Nat, e = .returned (.int .i64 (r : Int)) ∧ r < 16) ∧ w' = W) from pick_n q.out 16 (by decide) (by decide) W)
      clear HW3 hmk
      go_wp2_with (first
        | (go_at_call 59; refine (C3.out _).mono ?_; rintro e w' ⟨rfl, rfl⟩)
        | (go_at_call 60; refine (M3.out _).mono ?_; rintro e w' ⟨rfl, rfl⟩)
        | (go_at_call 35; refine (P3.out _).mono ?_; rintro e w' ⟨⟨r, rfl, hr⟩, rfl⟩))
      obtain ⟨W6, hW6⟩ : ∃ x, W5.setCell ⟨w.heap.size + 1 + 1, 1, none⟩ (.slice (some ⟨w.heap.size + 1 + 1 + 1, 0, none⟩) 32 32) = x := ⟨_, rfl⟩
      rw [hW6]
      have O6 := O5.out.set 1 (.slice (some ⟨w.heap.size + 1 + 1 + 1, 0, none⟩) 32 32)
      have F6 := F5.out.other (g' := w.heap.size + 1 + 1) (by omega) 1 (.slice (some ⟨w.heap.size + 1 + 1 + 1, 0, none⟩) 32 32)
      have R6 := R5.out.other (g' := w.heap.size + 1 + 1) (by omega) 1 (.slice (some ⟨w.heap.size + 1 + 1 + 1, 0, none⟩) 32 32)
      rw [hW6] at O6 F6 R6
      clear c1 c3 d0 d1 d2 d3 e1' e3' hcp
      have c3 := F6.cell 3 _ rfl
      have d0 := O6.cell 0 _ rfl
      have d1 := O6.cell 1 _ rfl
      have d2 := O6.cell 2 _ rfl
      have d3 := O6.cell 3 _ rfl
      have e3' := O6.frozen 3
      have q0 := R6.cell 0 _ rfl
      have q1 := R6.cell 1 _ rfl
      have q2 := R6.cell 2 _ rfl
      have q3 := R6.cell 3 _ rfl
      have p0 := R6.frozen 0
      have p1 := R6.frozen 1
      have p2 := R6.frozen 2
      have p3 := R6.frozen 3
      have HW6 := hid hW6
      have HO6 := hid O6
      have HR6 := hid R6
      clear hW6 O6 F6 R6
      go_region_law (first
        | (go_simp; go_at_call 60; refine (M3.out _).mono ?_; rintro e w' ⟨rfl, rfl⟩)
        | (go_simp; go_at_call 35; refine (P3.out _).mono ?_; rintro e w' ⟨⟨r, rfl, hr⟩, rfl⟩))
      all_goals
        go_simp
        go_wp2_with fail
        have hw : IntKind.i64.wrap (1 + (r : Int)) = 1 + (r : Int) := by rw [IntKind.wrap_i64]; omega
        have k6 := fin4 W6 (w.heap.size + 1 + 1) (w.heap.size + 1) (.int .i64 (1 + (r : Int))) (.int .u8 3) (.slice (some ⟨w.heap.size + 1 + 1 + 1, 0, none⟩) 32 32) (.slice none 0 0) (.int .i64 (1 + (r : Int)))
        have k5 : Kp (fun j => j = w.heap.size + 1 + 1 ∨ j = w.heap.size + 1) W5 W6 := by rw [← HW6.out]; exact (Kp.setCell _ _ _).mono (fun _ _ e => .inl e)
        have kk := (k5.trans k6 (fun _ _ e => e)).trans (Kp.of_below (fun j => j = w.heap.size + 1 + 1 ∨ j = w.heap.size + 1) (below_drewN _ 1)) (fun _ _ e => e)
        refine bodyPost_ret (v := .agg (cel ⟨3, 1 + (r : Int), some ⟨w.heap.size + 1 + 1 + 1, 0, none⟩, 32, 32, none, 0, 0, f, fun _ => 0⟩).toArray) ?_ rfl ⟨_, rfl, ?_, ?_, ?_, ?_, ?_⟩
        · simp [results, go_sem, q0, q1, q2, q3, hw]
          rfl
        · have K9 := KK.out.kept kk (far_k HZ.out)
          rw [HZ.out] at K9
          exact ⟨rb_of_blk K9 HF.out (show (32 : Nat) ≤ maxLen by decide), rb_none _ _ (fun _ => ⟨Int.le_refl 0, by show (0 : Int) < 256; decide⟩), by show (32 : Nat) ≤ _; decide, Nat.zero_le _, by show (3 : Nat) < 256; decide, by show _ ≤ 1 + (r : Int) ∧ 1 + (r : Int) < _; omega⟩
        · exact code_zero 3 32 0 r (by decide) (by decide) (by decide) hr
        · show (32 : Nat) ≤ max q.kn 32; omega
        · exact Nat.zero_le _
        · exact B5.out.trans (kk.below B5.out.size (fun j hj e => far_j hj e))
  · have g3 : ((A : Int) == 3) = false := by rw [beq_eq_false_iff_ne]; omega
    have k3 : ¬ (A : Int) = 3 := by omega
    have hm1 : 0 < most A := most_pos A
    have M3 := hid (fun W => rmost A W)
    have P3 := hid (fun W => pick_n q.out (most A) hm1 (by have := most_64 A; omega) W)
    have hko : keyOk A q.kn = true := by unfold keyOk; rw [if_neg h3]; exact decide_eq_true (by omega)
    have m64 := most_64 A
    have b0 := below_next (below_next (below_alloc w (.cells #[.int .u8 (q.al : Int), .slice q.ka q.kn q.kc, .slice q.ca q.cn q.cc, .int .i64 q.out] 25)) (below_alloc _ (.cells #[.int .u8 0, .slice none 0 0, .slice none 0 0, .int .i64 0] 25))) (below_alloc _ (.cells #[.int .u8 (A : Int), .slice q.ka q.kn q.kc, .slice none 0 0, .int .i64 0] 25))
    have F0 : Blk (((w.alloc (.cells #[.int .u8 (q.al : Int), .slice q.ka q.kn q.kc, .slice q.ca q.cn q.cc, .int .i64 q.out] 25)).alloc (.cells #[.int .u8 0, .slice none 0 0, .slice none 0 0, .int .i64 0] 25)).alloc (.cells #[.int .u8 (A : Int), .slice q.ka q.kn q.kc, .slice none 0 0, .int .i64 0] 25)) w.heap.size (cel q) 25 := ((Blk.new w (cel q) 25).alloc _).alloc _
    have R0 : Blk (((w.alloc (.cells #[.int .u8 (q.al : Int), .slice q.ka q.kn q.kc, .slice q.ca q.cn q.cc, .int .i64 q.out] 25)).alloc (.cells #[.int .u8 0, .slice none 0 0, .slice none 0 0, .int .i64 0] 25)).alloc (.cells #[.int .u8 (A : Int), .slice q.ka q.kn q.kc, .slice none 0 0, .int .i64 0] 25)) (w.heap.size + 1) [.int .u8 0, .slice none 0 0, .slice none 0 0, .int .i64 0] 25 := (Blk.newAt (w.alloc _) _ _ _ _ (size_alloc _ _).symm rfl).alloc _
    have O0 : Blk (((w.alloc (.cells #[.int .u8 (q.al : Int), .slice q.ka q.kn q.kc, .slice q.ca q.cn q.cc, .int .i64 q.out] 25)).alloc (.cells #[.int .u8 0, .slice none 0 0, .slice none 0 0, .int .i64 0] 25)).alloc (.cells #[.int .u8 (A : Int), .slice q.ka q.kn q.kc, .slice none 0 0, .int .i64 0] 25)) (w.heap.size + 1 + 1) [.int .u8 (A : Int), .slice q.ka q.kn q.kc, .slice none 0 0, .int .i64 0] 25 := Blk.newAt ((w.alloc _).alloc _) _ _ _ _ (by rw [size_alloc, size_alloc]) rfl
    obtain ⟨W3, hW3⟩ : ∃ x, (((w.alloc (.cells #[.int .u8 (q.al : Int), .slice q.ka q.kn q.kc, .slice q.ca q.cn q.cc, .int .i64 q.out] 25)).alloc (.cells #[.int .u8 0, .slice none 0 0, .slice none 0 0, .int .i64 0] 25)).alloc (.cells #[.int .u8 (A : Int), .slice q.ka q.kn q.kc, .slice none 0 0, .int .i64 0] 25)) = x := ⟨_, rfl⟩
    rw [hW3] at b0 F0 R0 O0
    have HW3 := hid hW3
    have B3 := hid b0
    have F3 := hid F0
    have R3 := hid R0
    have O3 := hid O0
    clear b0 F0 R0 O0 hW3
    by_cases h4 : cust A = true
    · have C3 := hid (fun W => show Calls Tryz.prog 59 #[.int .u8 (A : Int)] W (fun e w' => e = .returned (.bool true) ∧ w' = W) from by have := rcust A W; rwa [h4] at this)
      obtain ⟨d, hd⟩ : ∃ d, min 64 q.cn = d := ⟨_, rfl⟩
      have hdn : d ≤ q.cn := by omega
      have hd64 : d ≤ 64 := by omega
      have hcap := rb_cap HQ.out.rc
      have hdc : (d : Int) ≤ (q.cc : Int) := by omega
      have hmin : ∀ (ts : Array TypeId) (t : TypeId) (w : World), (Builtin.min_ ts t #[.int .i64 64, .int .i64 (q.cn : Int)]).run Tryz.prog w = .ok (.int .i64 d) w := fun ts t w => pmin_d ts t 64 q.cn d hd w
      clear hd
      go_enter Tryz.func26, Tryz.ntmps26
      go_wp2_with (first
        | (go_at_call 59; refine (C3.out _).mono ?_; rintro e w' ⟨rfl, rfl⟩))
      have B6 := below_next (below_next (below_alloc w (.cells #[.int .u8 (q.al : Int), .slice q.ka q.kn q.kc, .slice q.ca q.cn q.cc, .int .i64 q.out] 25)) (below_alloc _ (.cells #[.int .u8 0, .slice none 0 0, .slice none 0 0, .int .i64 0] 25))) (below_alloc _ (.cells #[.int .u8 (A : Int), .slice q.ka q.kn q.kc, .slice q.ca d q.cc, .int .i64 0] 25))
      have F6 : Blk (((w.alloc (.cells #[.int .u8 (q.al : Int), .slice q.ka q.kn q.kc, .slice q.ca q.cn q.cc, .int .i64 q.out] 25)).alloc (.cells #[.int .u8 0, .slice none 0 0, .slice none 0 0, .int .i64 0] 25)).alloc (.cells #[.int .u8 (A : Int), .slice q.ka q.kn q.kc, .slice q.ca d q.cc, .int .i64 0] 25)) w.heap.size (cel q) 25 := ((Blk.new w (cel q) 25).alloc _).alloc _
      have R6 : Blk (((w.alloc (.cells #[.int .u8 (q.al : Int), .slice q.ka q.kn q.kc, .slice q.ca q.cn q.cc, .int .i64 q.out] 25)).alloc (.cells #[.int .u8 0, .slice none 0 0, .slice none 0 0, .int .i64 0] 25)).alloc (.cells #[.int .u8 (A : Int), .slice q.ka q.kn q.kc, .slice q.ca d q.cc, .int .i64 0] 25)) (w.heap.size + 1) [.int .u8 0, .slice none 0 0, .slice none 0 0, .int .i64 0] 25 := (Blk.newAt (w.alloc _) _ _ _ _ (size_alloc _ _).symm rfl).alloc _
      have O6 : Blk (((w.alloc (.cells #[.int .u8 (q.al : Int), .slice q.ka q.kn q.kc, .slice q.ca q.cn q.cc, .int .i64 q.out] 25)).alloc (.cells #[.int .u8 0, .slice none 0 0, .slice none 0 0, .int .i64 0] 25)).alloc (.cells #[.int .u8 (A : Int), .slice q.ka q.kn q.kc, .slice q.ca d q.cc, .int .i64 0] 25)) (w.heap.size + 1 + 1) [.int .u8 (A : Int), .slice q.ka q.kn q.kc, .slice q.ca d q.cc, .int .i64 0] 25 := Blk.newAt ((w.alloc _).alloc _) _ _ _ _ (by rw [size_alloc, size_alloc]) rfl
      obtain ⟨W6, hW6⟩ : ∃ x, (((w.alloc (.cells #[.int .u8 (q.al : Int), .slice q.ka q.kn q.kc, .slice q.ca q.cn q.cc, .int .i64 q.out] 25)).alloc (.cells #[.int .u8 0, .slice none 0 0, .slice none 0 0, .int .i64 0] 25)).alloc (.cells #[.int .u8 (A : Int), .slice q.ka q.kn q.kc, .slice q.ca d q.cc, .int .i64 0] 25)) = x := ⟨_, rfl⟩
      rw [hW6] at B6 F6 R6 O6
      rw [hW6]
      have c3 := F6.cell 3 _ rfl
      have d0 := O6.cell 0 _ rfl
      have d1 := O6.cell 1 _ rfl
      have d2 := O6.cell 2 _ rfl
      have d3 := O6.cell 3 _ rfl
      have e3' := O6.frozen 3
      have q0 := R6.cell 0 _ rfl
      have q1 := R6.cell 1 _ rfl
      have q2 := R6.cell 2 _ rfl
      have q3 := R6.cell 3 _ rfl
      have p0 := R6.frozen 0
      have p1 := R6.frozen 1
      have p2 := R6.frozen 2
      have p3 := R6.frozen 3
      clear hW6 O6 F6 R6 hmin
      generalize hmo : most A = mo at *
      have HMO := hid hmo
      clear hmo
      go_region_law (first
        | (go_simp; go_at_call 60; refine (M3.out _).mono ?_; rintro e w' ⟨rfl, rfl⟩)
        | (go_simp; go_at_call 35; refine (P3.out _).mono ?_; rintro e w' ⟨⟨r, rfl, hr⟩, rfl⟩))
      all_goals
        go_simp
        go_wp2_with fail
        have hw : IntKind.i64.wrap (1 + (r : Int)) = 1 + (r : Int) := by rw [IntKind.wrap_i64]; omega
        have k6 := fin4 W6 (w.heap.size + 1 + 1) (w.heap.size + 1) (.int .i64 (1 + (r : Int))) (.int .u8 (A : Int)) (.slice q.ka q.kn q.kc) (.slice q.ca d q.cc) (.int .i64 (1 + (r : Int)))
        have kk := k6.trans (Kp.of_below (fun j => j = w.heap.size + 1 + 1 ∨ j = w.heap.size + 1) (below_drewN _ 1)) (fun _ _ e => e)
        have BF := B6.trans (kk.below B6.size (fun j hj e => far_j hj e))
        refine bodyPost_ret (v := .agg (cel ⟨A, 1 + (r : Int), q.ka, q.kn, q.kc, q.ca, d, q.cc, q.f, q.h⟩).toArray) ?_ rfl ⟨_, rfl, ⟨HQ.out.rk.below BF, (HQ.out.rc.below BF).first d hdn, HQ.out.lk, Nat.le_trans hdn HQ.out.lc, lt_256 hA1, out_ok (show r < 65 by omega)⟩, code_zero A q.kn d r hA1 hko (.inr ⟨h4, hd64⟩) (by rw [HMO.out]; exact hr), Nat.le_max_left _ _, hd64, BF⟩
        · simp [results, go_sem, q0, q1, q2, q3, hw]
          rfl
    · have C3 := hid (fun W => show Calls Tryz.prog 59 #[.int .u8 (A : Int)] W (fun e w' => e = .returned (.bool false) ∧ w' = W) from by have := rcust A W; rwa [show cust A = false by cases h : cust A; rfl; exact absurd h h4] at this)
      go_enter Tryz.func26, Tryz.ntmps26
      go_wp2_with (first
        | (go_at_call 59; refine (C3.out _).mono ?_; rintro e w' ⟨rfl, rfl⟩))
      rw [HW3.out]
      have c3 := F3.out.cell 3 _ rfl
      have d0 := O3.out.cell 0 _ rfl
      have d1 := O3.out.cell 1 _ rfl
      have d2 := O3.out.cell 2 _ rfl
      have d3 := O3.out.cell 3 _ rfl
      have e3' := O3.out.frozen 3
      have q0 := R3.out.cell 0 _ rfl
      have q1 := R3.out.cell 1 _ rfl
      have q2 := R3.out.cell 2 _ rfl
      have q3 := R3.out.cell 3 _ rfl
      have p0 := R3.out.frozen 0
      have p1 := R3.out.frozen 1
      have p2 := R3.out.frozen 2
      have p3 := R3.out.frozen 3
      generalize hmo : most A = mo at *
      have HMO := hid hmo
      clear hmo
      go_region_law (first
        | (go_simp; go_at_call 60; refine (M3.out _).mono ?_; rintro e w' ⟨rfl, rfl⟩)
        | (go_simp; go_at_call 35; refine (P3.out _).mono ?_; rintro e w' ⟨⟨r, rfl, hr⟩, rfl⟩))
      all_goals
        go_simp
        go_wp2_with fail
        have hw : IntKind.i64.wrap (1 + (r : Int)) = 1 + (r : Int) := by rw [IntKind.wrap_i64]; omega
        have k6 := fin4 W3 (w.heap.size + 1 + 1) (w.heap.size + 1) (.int .i64 (1 + (r : Int))) (.int .u8 (A : Int)) (.slice q.ka q.kn q.kc) (.slice none 0 0) (.int .i64 (1 + (r : Int)))
        have kk := k6.trans (Kp.of_below (fun j => j = w.heap.size + 1 + 1 ∨ j = w.heap.size + 1) (below_drewN _ 1)) (fun _ _ e => e)
        have BF := B3.out.trans (kk.below B3.out.size (fun j hj e => far_j hj e))
        refine bodyPost_ret (v := .agg (cel ⟨A, 1 + (r : Int), q.ka, q.kn, q.kc, none, 0, 0, q.f, fun _ => 0⟩).toArray) ?_ rfl ⟨_, rfl, ⟨HQ.out.rk.below BF, rb_none _ _ (fun _ => ⟨Int.le_refl 0, by show (0 : Int) < 256; decide⟩), HQ.out.lk, Nat.zero_le _, lt_256 hA1, out_ok (show r < 65 by omega)⟩, code_zero A q.kn 0 r hA1 hko (.inl rfl) (by rw [HMO.out]; exact hr), Nat.le_max_left _ _, Nat.zero_le _, BF⟩
        · simp [results, go_sem, q0, q1, q2, q3, hw]
          rfl
end Go.Proofs.YtpohogpkfdebdaaGreatDoor.Oc
