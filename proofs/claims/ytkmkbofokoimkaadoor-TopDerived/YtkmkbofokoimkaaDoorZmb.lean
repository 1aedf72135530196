/- The program's blockKey and begun, of either hash function. The program's begun, of either hash function. -/
import Derived.Test.YtkmkbofokoimkaaDoorZma
import Derived.Test.YtkmkbofokoimkaaDoorZgm
import Derived.Laws.IdiomCopy
namespace Go.Proofs.YtkmkbofokoimkaaDoor.Dg
open Go.ChangeShapes Go.WideShapes Go.ChangeAt Go.RowKit
open Go.Proofs.YtkmkbofokoimkaaDoor.By
open Go.Proofs.YtkmkbofokoimkaaDoor.Sh (Blk size_alloc)
theorem own_blk8 {w : World} {base g n : Nat} {f : Nat → Int} (h : Blk w g (bl n f) 5) (hf : ∀ i, 0 ≤ f i ∧ f i < 256) (hb : base ≤ g) (hn : n ≤ maxLen) : By.Own w base (.slice (some ⟨g, 0, none⟩) n n) n f :=
  ⟨hf, by rw [bl_length, Nat.mul_one], .inr ⟨g, n, (bl n f).toArray, rfl, hb, h, Nat.le_refl _, hn, by simp [bl_length], by simp [List.take_of_length_le, bl_length]⟩⟩
def nof : Nat → Int := fun _ => 0
theorem nof_b : BB nof := fun _ => by unfold nof; decide
theorem bl_put (n k : Nat) (g : Nat → Int) (hk : k ≤ n) : Sh.put (bl n nof) 0 (bl k g) = bl n (cat k g nof) := by
  apply List.ext_getElem?
  intro i
  rw [Sh.put_get _ _ _ _ (by rw [bl_length, bl_length]; omega), bl_length]
  by_cases h : i < k
  · rw [if_pos ⟨Nat.zero_le _, by omega⟩, Nat.sub_zero, bl_get _ _ _ h, bl_get _ _ _ (by omega)]
    show _ = some (Value.int .u8 (if i < k then g i else nof (i - k)))
    rw [if_pos h]
  · rw [if_neg (by omega)]
    by_cases h2 : i < n
    · rw [bl_get _ _ _ h2, bl_get _ _ _ h2]
      show _ = some (Value.int .u8 (if i < k then g i else nof (i - k)))
      rw [if_neg h]
      rfl
    · rw [List.getElem?_eq_none (by rw [bl_length]; omega), List.getElem?_eq_none (by rw [bl_length]; omega)]
theorem copy_new (W W' : World) (G N k A C pb po : Nat) (ty : TypeId) (g : Nat → Int) (hW : W' = W) (hG : Blk W G (bl N nof) 5) (hk : k = Nat.min A N) (hs : ∀ i, i < k → W.cell? ⟨pb, po + i, none⟩ = some (.int .u8 (g i))) :
    (Builtin.copy_ #[22, 22] ty #[.slice (some ⟨G, 0, none⟩) N N, .slice (some ⟨pb, po, none⟩) A C]).run Tryd.prog W' = .ok (.int .i64 k) (W.setCells G 0 (bl k g)) := by
  subst hW
  have hkN : k ≤ N := by rw [hk]; exact Nat.min_le_right _ _
  have h := run_copy_cells (P := Tryd.prog) W' 22 22 ty 5 G 0 N N ⟨pb, po, none⟩ A C (bl k g) Tryd.underlying22 (by kernel_rfl) (by rw [bl_length]; exact hk)
    (fun j v hj => by obtain ⟨hj1, rfl⟩ := bl_get_inv _ _ _ _ hj; rw [By.add_plain]; exact hs j hj1)
    (fun j hj => (hG.there 0 N (by rw [bl_length]; omega) j (by rw [bl_length] at hj; omega)).1) (fun j hj => hG.frozen _) (bl_one k g)
  rw [bl_length] at h
  exact h
theorem cat_kb (a : Bool) (n : Nat) (g : Nat → Int) (h : ¬ bk a < n) (i : Nat) : cat n g nof i = kb a n g i := by
  show (if i < n then g i else nof (i - n)) = _
  unfold kb
  rw [if_neg h]
  split <;> rfl
theorem ke_long (a : Bool) (L : List Rn) (n : Nat) (h : bk a < n) : ke a L n = evs a L (n / bk a + last a n) := if_pos h
theorem ke_short (a : Bool) (L : List Rn) (n : Nat) (h : ¬ bk a < n) : ke a L n = L := if_neg h
theorem cat_kbl (a : Bool) (n : Nat) (g : Nat → Int) (h : bk a < n) (i : Nat) : cat (sz a) (dig a n g) nof i = kb a n g i := by
  show (if i < sz a then dig a n g i else nof (i - sz a)) = _
  unfold kb
  rw [if_pos h]
  split <;> rfl
theorem make64n (w : World) : (Instr.makeSlice 22 (.int .i64 64) (.int .i64 64)).run Tryd.prog w = .ok (.slice (some ⟨w.heap.size, 0, none⟩) 64 64) (w.alloc (.cells (bl 64 nof).toArray 5)) := by kernel_rfl
set_option maxRecDepth 8000 in
set_option maxHeartbeats 2000000 in
theorem blockKey256 (n : Nat) (v : Value) (g : Nat → Int) (lo : Option Nat) (L : List Rn) (S : Nat → Prop) (w : World) (hk : KT w) (hS0 : ¬ S 0) (hS1 : ¬ S 1) (hl : LG S w w lo L) (hp : Pos L)
    (hr : ∀ w', Kp S w w' → By.RB w' v n g) (hn : n ≤ 140737488353328) (hroom : tq L ≤ 2200000000000) :
    Calls Tryd.prog 21 #[lpv lo, .agg #[.int .u8 1, .int .i64 32, .int .i64 64, .int .u8 1, .int .i64 64, .func (.func 29) #[] #[], .func (.func 30) #[] #[]], v] w fun e w' => ∃ u, e = .returned u ∧ By.Own w' w.heap.size u 64 (kb false n g) ∧ LG S w w' lo (ke false L n) ∧ Kp S w w' := by
  have HC := hid (fun w1 (hb : Below w.heap.size w w1) => show Calls Tryd.prog 30 #[lpv lo, v] w1 (fun e w' => ∃ u, e = .returned u ∧ By.Own w' w1.heap.size u 32 (dig false n g) ∧ LG S w w' lo (evs false L (n / bk false + last false n)) ∧ Kp S w w' ∧ Kp (fun j => S j ∧ j < w.heap.size) w1 w') from by
    refine (dsumF false n v g lo L (fun j => S j ∧ j < w.heap.size) w1 (hk.below hb) (fun e => hS0 e.1) (fun e => hS1 e.1) (hl.start hb (fun _ hi h => ⟨h, hi⟩)) hp (fun w' h' => hr w' ((Kp.of_below S hb).trans h' (fun _ _ e => e.1))) hn hroom).mono ?_
    rintro e w' ⟨u, rfl, h1, h2, h3⟩
    exact ⟨u, rfl, h1, Sg.LG.back h2 hl hb.size (fun _ _ h => h.1), (Kp.of_below S hb).trans h3 (fun _ _ e => e.1), h3⟩)
  have HR := hid hr
  have HL := hid hl
  obtain ⟨hg, A, cap, rfl, -⟩ := hr w (Kp.refl _ _)
  have hmk := make64n
  clear hk hS0 hS1 hl hp hr hroom
  by_cases hlong : 64 < n
  · have hlong' : (64 : Int) < n := by omega
    go_enter Tryd.func21, Tryd.ntmps21
    go_wp2_with fail
    refine (HC.out _ (below_alloc w _)).mono ?_
    rintro e w1 ⟨u, rfl, h1, h2, h3, h4⟩
    have U1 := hid h1
    have L1 := hid h2
    have K1 := hid h3
    have hh := (Sh.Blk.new w [.int .u8 1, .int .i64 32, .int .i64 64, .int .u8 1, .int .i64 64, .func (.func 29) #[] #[], .func (.func 30) #[] #[]] 52).kept h4 (fun e => by have := e.2; omega)
    have c2 := hh.cell 2 _ rfl
    have x2 := hh.lt
    clear h1 h2 h3 h4 HC HR hh
    obtain ⟨ga, gc, rfl, hcell⟩ := own_cells U1.out (by decide)
    have hcp := fun ty => copy_new (w1.alloc (.cells (bl 64 nof).toArray 5)) _ w1.heap.size 64 32 32 gc ga 0 ty (dig false n g) rfl (Sh.Blk.new w1 _ _) rfl (fun i hi => by
      rw [Nat.zero_add, (below_alloc w1 _).cell (p := ⟨ga, i, none⟩) (own_lt U1.out ga rfl)]; exact hcell i hi)
    have R := hid (show By.Own ((w1.alloc (.cells (bl 64 nof).toArray 5)).setCells w1.heap.size 0 (bl 32 (dig false n g))) w.heap.size (.slice (some ⟨w1.heap.size, 0, none⟩) 64 64) 64 (kb false n g) from by
      have b1 := (Sh.Blk.new w1 (bl 64 nof) 5).put 0 (bl 32 (dig false n g))
      rw [bl_put _ _ _ (by decide)] at b1
      exact own_congr (own_blk8 b1 (Sg.cat_bound (dig_b _ _ _) nof_b) K1.out.size (by decide)) (kb_b hg) (fun i _ => cat_kbl false n g hlong i))
    have BQ : Below w1.heap.size w1 ((w1.alloc (.cells (bl 64 nof).toArray 5)).setCells w1.heap.size 0 (bl 32 (dig false n g))) := ((Kp.of_below (fun j => j = w1.heap.size) (below_alloc w1 (.cells (bl 64 nof).toArray 5))).trans (Sh.Kp.setCells w1.heap.size 0 (bl 32 (dig false n g))) (fun _ _ e => e)).below (Nat.le_refl _) (fun k hk e => by have : k = w1.heap.size := e; omega)
    have LQ := hid (L1.out.below BQ)
    have Q := hid (K1.out.trans (Kp.of_below S BQ) (fun _ _ e => e))
    clear BQ
    go_wp2
    go_ret
    exact ⟨_, rfl, R.out, by rw [ke_long false L n hlong]; exact LQ.out, Q.out⟩
  · have hlong' : ¬ (64 : Int) < n := by omega
    obtain ⟨W1, hW1⟩ : ∃ x, w.alloc (.cells #[.int .u8 1, .int .i64 32, .int .i64 64, .int .u8 1, .int .i64 64, .func (.func 29) #[] #[], .func (.func 30) #[] #[]] 52) = x := ⟨_, rfl⟩
    have b1 : Below w.heap.size w W1 := by rw [← hW1]; exact below_alloc w _
    have s1 : W1.heap.size = w.heap.size + 1 := by rw [← hW1]; exact size_alloc w _
    have hh : Blk W1 w.heap.size [.int .u8 1, .int .i64 32, .int .i64 64, .int .u8 1, .int .i64 64, .func (.func 29) #[] #[], .func (.func 30) #[] #[]] 52 := by rw [← hW1]; exact Sh.Blk.new w _ _
    have c2 := hh.cell 2 _ rfl
    have x2 := hh.lt
    clear HC hh
    have key : ∀ W2 : World, (W2 = W1.alloc (.cells (bl 64 nof).toArray 5) ∧ n = 0) ∨ (W2 = (W1.alloc (.cells (bl 64 nof).toArray 5)).setCells W1.heap.size 0 (bl n g)) → Hid (By.Own W2 w.heap.size (.slice (some ⟨W1.heap.size, 0, none⟩) 64 64) 64 (kb false n g) ∧ LG S w W2 lo L ∧ Kp S w W2) := by
      intro W2 h2
      have b2 : Below W1.heap.size W1 W2 := by
        rcases h2 with ⟨rfl, _⟩ | rfl
        · exact below_alloc W1 _
        · exact ((Kp.of_below (fun j => j = W1.heap.size) (below_alloc W1 (.cells (bl 64 nof).toArray 5))).trans (Sh.Kp.setCells W1.heap.size 0 (bl n g)) (fun _ _ e => e)).below (Nat.le_refl _) (fun k hk e => by have : k = W1.heap.size := e; omega)
      have b3 := below_next b1 b2
      refine ⟨?_, HL.out.below b3, Kp.of_below S b3⟩
      rcases h2 with ⟨rfl, h0⟩ | rfl
      · exact own_congr (own_blk8 (Sh.Blk.new W1 (bl 64 nof) 5) nof_b b1.size (by decide)) (kb_b hg) (fun i _ => by rw [← cat_kb false n g hlong i, h0]; rfl)
      · have q := (Sh.Blk.new W1 (bl 64 nof) 5).put 0 (bl n g)
        rw [bl_put _ _ _ (by omega)] at q
        exact own_congr (own_blk8 q (Sg.cat_bound hg nof_b) b1.size (by decide)) (kb_b hg) (fun i _ => cat_kb false n g hlong i)
    have fin : ∀ W2, Hid (By.Own W2 w.heap.size (.slice (some ⟨W1.heap.size, 0, none⟩) 64 64) 64 (kb false n g) ∧ LG S w W2 lo L ∧ Kp S w W2) → ∃ u, Ending.returned (.slice (some ⟨W1.heap.size, 0, none⟩) 64 64) = .returned u ∧ By.Own W2 w.heap.size u 64 (kb false n g) ∧ LG S w W2 lo (ke false L n) ∧ Kp S w W2 := fun W2 h => ⟨_, rfl, h.out.1, by rw [ke_short false L n hlong]; exact h.out.2.1, h.out.2.2⟩
    have FN := hid fin
    clear fin b1 s1
    by_cases h0 : n = 0
    · subst h0
      have K2 := key _ (.inl ⟨rfl, rfl⟩)
      clear key HR
      have hcp := fun (W : World) ty => run_copy_none (P := Tryd.prog) W 22 22 ty 5 (some ⟨W1.heap.size, 0, none⟩) A 64 64 0 cap Tryd.underlying22 (by kernel_rfl) rfl
      go_enter Tryd.func21, Tryd.ntmps21
      go_wp2_with fail
      go_ret
      exact FN.out _ K2
    · have hr2 := HR.out (W1.alloc (.cells (bl 64 nof).toArray 5)) (Kp.of_below S (below_next (by rw [← hW1]; exact below_alloc w _) (below_alloc W1 _)))
      obtain ⟨_, A', cap', hv, _, _, ⟨e0, _⟩ | ⟨pb, po, rfl, hcell⟩⟩ := hr2
      · exact absurd e0 h0
      · simp only [Value.slice.injEq, true_and] at hv
        obtain ⟨rfl, rfl⟩ := hv
        have K2 := key _ (.inr rfl)
        clear key HR
        have hcp := fun ty => copy_new (W1.alloc (.cells (bl 64 nof).toArray 5)) _ W1.heap.size 64 n n cap pb po ty g rfl (Sh.Blk.new W1 _ _) (by unfold Nat.min; omega) hcell
        clear hcell
        go_enter Tryd.func21, Tryd.ntmps21
        go_wp2_with fail
        go_ret
        exact FN.out _ K2
theorem make128n (w : World) : (Instr.makeSlice 22 (.int .i64 128) (.int .i64 128)).run Tryd.prog w = .ok (.slice (some ⟨w.heap.size, 0, none⟩) 128 128) (w.alloc (.cells (bl 128 nof).toArray 5)) := by kernel_rfl
set_option maxRecDepth 8000 in
set_option maxHeartbeats 2000000 in
theorem blockKey512 (n : Nat) (v : Value) (g : Nat → Int) (lo : Option Nat) (L : List Rn) (S : Nat → Prop) (w : World) (hk : KT w) (hS0 : ¬ S 0) (hS1 : ¬ S 1) (hl : LG S w w lo L) (hp : Pos L)
    (hr : ∀ w', Kp S w w' → By.RB w' v n g) (hn : n ≤ 140737488353328) (hroom : tq L ≤ 2200000000000) :
    Calls Tryd.prog 21 #[lpv lo, .agg #[.int .u8 2, .int .i64 64, .int .i64 128, .int .u8 2, .int .i64 128, .func (.func 31) #[] #[], .func (.func 32) #[] #[]], v] w fun e w' => ∃ u, e = .returned u ∧ By.Own w' w.heap.size u 128 (kb true n g) ∧ LG S w w' lo (ke true L n) ∧ Kp S w w' := by
  have HC := hid (fun w1 (hb : Below w.heap.size w w1) => show Calls Tryd.prog 32 #[lpv lo, v] w1 (fun e w' => ∃ u, e = .returned u ∧ By.Own w' w1.heap.size u 64 (dig true n g) ∧ LG S w w' lo (evs true L (n / bk true + last true n)) ∧ Kp S w w' ∧ Kp (fun j => S j ∧ j < w.heap.size) w1 w') from by
    refine (dsumF true n v g lo L (fun j => S j ∧ j < w.heap.size) w1 (hk.below hb) (fun e => hS0 e.1) (fun e => hS1 e.1) (hl.start hb (fun _ hi h => ⟨h, hi⟩)) hp (fun w' h' => hr w' ((Kp.of_below S hb).trans h' (fun _ _ e => e.1))) hn hroom).mono ?_
    rintro e w' ⟨u, rfl, h1, h2, h3⟩
    exact ⟨u, rfl, h1, Sg.LG.back h2 hl hb.size (fun _ _ h => h.1), (Kp.of_below S hb).trans h3 (fun _ _ e => e.1), h3⟩)
  have HR := hid hr
  have HL := hid hl
  obtain ⟨hg, A, cap, rfl, -⟩ := hr w (Kp.refl _ _)
  have hmk := make128n
  clear hk hS0 hS1 hl hp hr hroom
  by_cases hlong : 128 < n
  · have hlong' : (128 : Int) < n := by omega
    go_enter Tryd.func21, Tryd.ntmps21
    go_wp2_with fail
    refine (HC.out _ (below_alloc w _)).mono ?_
    rintro e w1 ⟨u, rfl, h1, h2, h3, h4⟩
    have U1 := hid h1
    have L1 := hid h2
    have K1 := hid h3
    have hh := (Sh.Blk.new w [.int .u8 2, .int .i64 64, .int .i64 128, .int .u8 2, .int .i64 128, .func (.func 31) #[] #[], .func (.func 32) #[] #[]] 52).kept h4 (fun e => by have := e.2; omega)
    have c2 := hh.cell 2 _ rfl
    have x2 := hh.lt
    clear h1 h2 h3 h4 HC HR hh
    obtain ⟨ga, gc, rfl, hcell⟩ := own_cells U1.out (by decide)
    have hcp := fun ty => copy_new (w1.alloc (.cells (bl 128 nof).toArray 5)) _ w1.heap.size 128 64 64 gc ga 0 ty (dig true n g) rfl (Sh.Blk.new w1 _ _) rfl (fun i hi => by
      rw [Nat.zero_add, (below_alloc w1 _).cell (p := ⟨ga, i, none⟩) (own_lt U1.out ga rfl)]; exact hcell i hi)
    have R := hid (show By.Own ((w1.alloc (.cells (bl 128 nof).toArray 5)).setCells w1.heap.size 0 (bl 64 (dig true n g))) w.heap.size (.slice (some ⟨w1.heap.size, 0, none⟩) 128 128) 128 (kb true n g) from by
      have b1 := (Sh.Blk.new w1 (bl 128 nof) 5).put 0 (bl 64 (dig true n g))
      rw [bl_put _ _ _ (by decide)] at b1
      exact own_congr (own_blk8 b1 (Sg.cat_bound (dig_b _ _ _) nof_b) K1.out.size (by decide)) (kb_b hg) (fun i _ => cat_kbl true n g hlong i))
    have BQ : Below w1.heap.size w1 ((w1.alloc (.cells (bl 128 nof).toArray 5)).setCells w1.heap.size 0 (bl 64 (dig true n g))) := ((Kp.of_below (fun j => j = w1.heap.size) (below_alloc w1 (.cells (bl 128 nof).toArray 5))).trans (Sh.Kp.setCells w1.heap.size 0 (bl 64 (dig true n g))) (fun _ _ e => e)).below (Nat.le_refl _) (fun k hk e => by have : k = w1.heap.size := e; omega)
    have LQ := hid (L1.out.below BQ)
    have Q := hid (K1.out.trans (Kp.of_below S BQ) (fun _ _ e => e))
    clear BQ
    go_wp2
    go_ret
    exact ⟨_, rfl, R.out, by rw [ke_long true L n hlong]; exact LQ.out, Q.out⟩
  · have hlong' : ¬ (128 : Int) < n := by omega
    obtain ⟨W1, hW1⟩ : ∃ x, w.alloc (.cells #[.int .u8 2, .int .i64 64, .int .i64 128, .int .u8 2, .int .i64 128, .func (.func 31) #[] #[], .func (.func 32) #[] #[]] 52) = x := ⟨_, rfl⟩
    have b1 : Below w.heap.size w W1 := by rw [← hW1]; exact below_alloc w _
    have s1 : W1.heap.size = w.heap.size + 1 := by rw [← hW1]; exact size_alloc w _
    have hh : Blk W1 w.heap.size [.int .u8 2, .int .i64 64, .int .i64 128, .int .u8 2, .int .i64 128, .func (.func 31) #[] #[], .func (.func 32) #[] #[]] 52 := by rw [← hW1]; exact Sh.Blk.new w _ _
    have c2 := hh.cell 2 _ rfl
    have x2 := hh.lt
    clear HC hh
    have key : ∀ W2 : World, (W2 = W1.alloc (.cells (bl 128 nof).toArray 5) ∧ n = 0) ∨ (W2 = (W1.alloc (.cells (bl 128 nof).toArray 5)).setCells W1.heap.size 0 (bl n g)) → Hid (By.Own W2 w.heap.size (.slice (some ⟨W1.heap.size, 0, none⟩) 128 128) 128 (kb true n g) ∧ LG S w W2 lo L ∧ Kp S w W2) := by
      intro W2 h2
      have b2 : Below W1.heap.size W1 W2 := by
        rcases h2 with ⟨rfl, _⟩ | rfl
        · exact below_alloc W1 _
        · exact ((Kp.of_below (fun j => j = W1.heap.size) (below_alloc W1 (.cells (bl 128 nof).toArray 5))).trans (Sh.Kp.setCells W1.heap.size 0 (bl n g)) (fun _ _ e => e)).below (Nat.le_refl _) (fun k hk e => by have : k = W1.heap.size := e; omega)
      have b3 := below_next b1 b2
      refine ⟨?_, HL.out.below b3, Kp.of_below S b3⟩
      rcases h2 with ⟨rfl, h0⟩ | rfl
      · exact own_congr (own_blk8 (Sh.Blk.new W1 (bl 128 nof) 5) nof_b b1.size (by decide)) (kb_b hg) (fun i _ => by rw [← cat_kb true n g hlong i, h0]; rfl)
      · have q := (Sh.Blk.new W1 (bl 128 nof) 5).put 0 (bl n g)
        rw [bl_put _ _ _ (by omega)] at q
        exact own_congr (own_blk8 q (Sg.cat_bound hg nof_b) b1.size (by decide)) (kb_b hg) (fun i _ => cat_kb true n g hlong i)
    have fin : ∀ W2, Hid (By.Own W2 w.heap.size (.slice (some ⟨W1.heap.size, 0, none⟩) 128 128) 128 (kb true n g) ∧ LG S w W2 lo L ∧ Kp S w W2) → ∃ u, Ending.returned (.slice (some ⟨W1.heap.size, 0, none⟩) 128 128) = .returned u ∧ By.Own W2 w.heap.size u 128 (kb true n g) ∧ LG S w W2 lo (ke true L n) ∧ Kp S w W2 := fun W2 h => ⟨_, rfl, h.out.1, by rw [ke_short true L n hlong]; exact h.out.2.1, h.out.2.2⟩
    have FN := hid fin
    clear fin b1 s1
    by_cases h0 : n = 0
    · subst h0
      have K2 := key _ (.inl ⟨rfl, rfl⟩)
      clear key HR
      have hcp := fun (W : World) ty => run_copy_none (P := Tryd.prog) W 22 22 ty 5 (some ⟨W1.heap.size, 0, none⟩) A 128 128 0 cap Tryd.underlying22 (by kernel_rfl) rfl
      go_enter Tryd.func21, Tryd.ntmps21
      go_wp2_with fail
      go_ret
      exact FN.out _ K2
    · have hr2 := HR.out (W1.alloc (.cells (bl 128 nof).toArray 5)) (Kp.of_below S (below_next (by rw [← hW1]; exact below_alloc w _) (below_alloc W1 _)))
      obtain ⟨_, A', cap', hv, _, _, ⟨e0, _⟩ | ⟨pb, po, rfl, hcell⟩⟩ := hr2
      · exact absurd e0 h0
      · simp only [Value.slice.injEq, true_and] at hv
        obtain ⟨rfl, rfl⟩ := hv
        have K2 := key _ (.inr rfl)
        clear key HR
        have hcp := fun ty => copy_new (W1.alloc (.cells (bl 128 nof).toArray 5)) _ W1.heap.size 128 n n cap pb po ty g rfl (Sh.Blk.new W1 _ _) (by unfold Nat.min; omega) hcell
        clear hcell
        go_enter Tryd.func21, Tryd.ntmps21
        go_wp2_with fail
        go_ret
        exact FN.out _ K2
end Go.Proofs.YtkmkbofokoimkaaDoor.Dg
namespace Go.Proofs.YtkmkbofokoimkaaDoor.Dg
open Go.ChangeShapes Go.WideShapes Go.ChangeAt Go.RowKit
open Go.Proofs.YtkmkbofokoimkaaDoor.By
open Go.Proofs.YtkmkbofokoimkaaDoor.Sh (Blk size_alloc)
theorem catn_zero (f : Nat → Int) (N : Nat) : bl N (cat 0 f nof) = bl N nof := bl_congr N _ _ (fun _ _ => rfl)
theorem catn_next (f : Nat → Int) (N k : Nat) : (bl N (cat k f nof)).set k (.int .u8 (f k)) = bl N (cat (k + 1) f nof) := by
  rw [bl_set]
  apply bl_congr
  intro i _
  show (if i = k then f k else if i < k then f i else nof (i - k)) = if i < k + 1 then f i else nof (i - (k + 1))
  by_cases h1 : i = k
  · rw [if_pos h1, if_pos (by omega), h1]
  · rw [if_neg h1]
    by_cases h2 : i < k
    · rw [if_pos h2, if_pos (by omega)]
    · rw [if_neg h2, if_neg (by omega)]; rfl
theorem catn_all (f : Nat → Int) (N : Nat) : bl N (cat N f nof) = bl N f := bl_congr N _ _ (fun _ hi => if_pos hi)
theorem newC256 (w : World) : Calls Tryd.prog 29 #[] w fun e w' => ∃ b, w.heap.size ≤ b ∧ e = .returned (.iface 76 (.agg #[.pointer (some ⟨b, 0, none⟩)])) ∧ IsD w' b false (some (0, fun _ => 0)) ∧ Below w.heap.size w w' := dnew false w
set_option maxRecDepth 8000 in
set_option maxHeartbeats 2000000 in
theorem begun256 (A : Option Addr) (cap : Nat) (x : Int) (K : Nat → Int) (lo : Option Nat) (L : List Rn) (S : Nat → Prop) (w : World) (hk : KT w) (hS0 : ¬ S 0) (hS1 : ¬ S 1) (hl : LG S w w lo L) (hp : Pos L)
    (hr : By.RB w (.slice A 64 cap) 64 K) (hroom : tq L ≤ 4399500000000) :
    Calls Tryd.prog 22 #[lpv lo, .agg #[.int .u8 1, .int .i64 32, .int .i64 64, .int .u8 1, .int .i64 64, .func (.func 29) #[] #[], .func (.func 30) #[] #[]], .slice A 64 cap, .int .u8 x] w fun e w' => ∃ b, w.heap.size ≤ b ∧ e = .returned (.iface 76 (.agg #[.pointer (some ⟨b, 0, none⟩)])) ∧ IsD w' b false (some (64, msk x K)) ∧ LG S w w' lo (evs false L 1) ∧ Kp S w w' := by
  have hmk := make64n
  obtain ⟨hKb, A', cap', hv, _, _, ⟨e0, _⟩ | ⟨pb, po, rfl, hcell⟩⟩ := hr
  · cases e0
  simp only [Value.slice.injEq, true_and] at hv
  obtain ⟨rfl, rfl⟩ := hv
  have hpl : pb < w.heap.size := block_lt_of_cell (hcell 0 (by omega))
  obtain ⟨W1, hW1⟩ : ∃ x, w.alloc (.cells #[.int .u8 1, .int .i64 32, .int .i64 64, .int .u8 1, .int .i64 64, .func (.func 29) #[] #[], .func (.func 30) #[] #[]] 52) = x := ⟨_, rfl⟩
  have b1 : Below w.heap.size w W1 := by rw [← hW1]; exact below_alloc w _
  have s1 : W1.heap.size = w.heap.size + 1 := by rw [← hW1]; exact size_alloc w _
  have hh : Blk W1 w.heap.size [.int .u8 1, .int .i64 32, .int .i64 64, .int .u8 1, .int .i64 64, .func (.func 29) #[] #[], .func (.func 30) #[] #[]] 52 := by rw [← hW1]; exact Sh.Blk.new w _ _
  have HH := hid hh
  have HL := hid hl
  have HC := hid hcell
  have HK := hid hk
  have HP := hid hp
  have B1 := hid b1
  have n1 := hid (Sh.Blk.new W1 (bl 64 nof) 5)
  have a1 := hid (below_alloc W1 (.cells (bl 64 nof).toArray 5))
  rw [s1] at n1 a1
  clear hh hl hk hp b1 hcell
  go_enter Tryd.func22, Tryd.ntmps22
  go_wp2_with fail
  go_loopw [18] (fun i wr => ∃ k : Nat, k ≤ 64 ∧ i = .int .i64 k ∧ Blk wr (w.heap.size + 1) (bl 64 (cat k (msk x K) nof)) 5 ∧ Below (w.heap.size + 1) W1 wr) (fun i _ => 64 - (intOf i).toNat)
  case atStart => exact ⟨0, Nat.zero_le _, rfl, by rw [catn_zero]; exact n1.out, a1.out⟩
  case round =>
    clear n1 a1
    obtain ⟨k, hk, rfl, hb, hbel⟩ := hrel
    have B := hid hb
    have BE := hid hbel
    clear hb hbel
    by_cases hlt : k < 64
    · have x1 := HC.out k hlt
      rw [← B1.out.cell (p := ⟨pb, po + k, none⟩) hpl, ← BE.out.cell (p := ⟨pb, po + k, none⟩) (by show pb < _; omega)] at x1
      have x3 := B.out.frozen k
      have x4 : wr.cell? ⟨w.heap.size + 1, k, none⟩ = some (.int .u8 (cat k (msk x K) nof k)) := B.out.cell k _ (bl_get _ _ _ hlt)
      have hlt' : (k : Int) < 64 := by omega
      go_wp2_with fail
      refine ⟨⟨k + 1, by omega, by go_num, ?_, BE.out.trans ((Kp.setCell (w.heap.size + 1) k _).below (by have := BE.out.size; omega) (fun j hj e => by have : j = w.heap.size + 1 := e; omega))⟩, by simp [intOf]; omega⟩
      have y := B.out.set k (.int .u8 (msk x K k))
      rw [catn_next] at y
      exact y
    · obtain rfl : k = 64 := by omega
      have B2 := hid (catn_all (msk x K) 64 ▸ B.out)
      have be : Below W1.heap.size W1 wr := by rw [s1]; exact BE.out
      have c5 := (HH.out.below be).cell 5 _ rfl
      have s2 := hid be.size
      have BW := hid (below_next B1.out be)
      clear be B BE
      go_wp2_with fail
      refine (newC256 wr).mono ?_
      rintro e w2 ⟨b, hbb, rfl, hs, hb⟩
      have D2 := hid hs
      have C2 := hid hb
      clear hs hb
      have bw2 := hid (below_next BW.out C2.out)
      have hz := hid (show w.heap.size + 1 < b by have := s2.out; have := B2.out.lt; omega)
      have S2 := hid (show By.Own w2 0 (.slice (some ⟨w.heap.size + 1, 0, none⟩) 64 64) 64 (msk x K) from own_blk8 (B2.out.below C2.out) (msk_b _ _) (Nat.zero_le _) (by decide))
      go_wp2_with fail
      refine (dwrite false b 0 64 _ (fun _ => 0) (msk x K) lo L (fun j => j = b ∨ (S j ∧ j < w.heap.size)) _ D2.out (HK.out.below bw2.out) (fun e => e.elim (fun e => by have := hz.out; omega) (fun e => hS0 e.1)) (fun e => e.elim (fun e => by have := hz.out; have := HK.out.lt; omega) (fun e => hS1 e.1)) (.inl rfl) (HL.out.start bw2.out (fun _ hi h => .inr ⟨h, hi⟩)) HP.out
        (fun w' h' => (own_blk8 ((B2.out.below C2.out).kept h' (fun e => e.elim (fun e => by have := hz.out; omega) (fun e => by have := e.2; omega))) (msk_b _ _) (Nat.zero_le _) (by decide)).reads) (by omega) (by omega)).mono ?_
      rintro e w3 ⟨rfl, h1, h2, h3⟩
      have R1 := hid (show IsD w3 b false (some (64, msk x K)) from by rw [Nat.zero_add, show cat 0 (fun _ => 0) (msk x K) = msk x K from Sg.cat0 _ _] at h1; exact h1)
      have R2 := hid (show LG S w w3 lo (evs false L 1) from Sg.LG.back h2 HL.out bw2.out.size (fun i hi h => h.elim (fun e => by have := hz.out; omega) (fun e => e.1)))
      have R3 := hid (show Kp S w w3 from (Kp.of_below S bw2.out).trans h3 (fun i hi h => h.elim (fun e => by have := hz.out; omega) (fun e => e.1)))
      clear h1 h2 h3
      go_wp2
      go_ret
      exact ⟨b, by have := hz.out; omega, rfl, R1.out, R2.out, R3.out⟩
theorem newC512 (w : World) : Calls Tryd.prog 31 #[] w fun e w' => ∃ b, w.heap.size ≤ b ∧ e = .returned (.iface 81 (.agg #[.pointer (some ⟨b, 0, none⟩)])) ∧ IsD w' b true (some (0, fun _ => 0)) ∧ Below w.heap.size w w' := dnew true w
set_option maxRecDepth 8000 in
set_option maxHeartbeats 2000000 in
theorem begun512 (A : Option Addr) (cap : Nat) (x : Int) (K : Nat → Int) (lo : Option Nat) (L : List Rn) (S : Nat → Prop) (w : World) (hk : KT w) (hS0 : ¬ S 0) (hS1 : ¬ S 1) (hl : LG S w w lo L) (hp : Pos L)
    (hr : By.RB w (.slice A 128 cap) 128 K) (hroom : tq L ≤ 4399500000000) :
    Calls Tryd.prog 22 #[lpv lo, .agg #[.int .u8 2, .int .i64 64, .int .i64 128, .int .u8 2, .int .i64 128, .func (.func 31) #[] #[], .func (.func 32) #[] #[]], .slice A 128 cap, .int .u8 x] w fun e w' => ∃ b, w.heap.size ≤ b ∧ e = .returned (.iface 81 (.agg #[.pointer (some ⟨b, 0, none⟩)])) ∧ IsD w' b true (some (128, msk x K)) ∧ LG S w w' lo (evs true L 1) ∧ Kp S w w' := by
  have hmk := make128n
  obtain ⟨hKb, A', cap', hv, _, _, ⟨e0, _⟩ | ⟨pb, po, rfl, hcell⟩⟩ := hr
  · cases e0
  simp only [Value.slice.injEq, true_and] at hv
  obtain ⟨rfl, rfl⟩ := hv
  have hpl : pb < w.heap.size := block_lt_of_cell (hcell 0 (by omega))
  obtain ⟨W1, hW1⟩ : ∃ x, w.alloc (.cells #[.int .u8 2, .int .i64 64, .int .i64 128, .int .u8 2, .int .i64 128, .func (.func 31) #[] #[], .func (.func 32) #[] #[]] 52) = x := ⟨_, rfl⟩
  have b1 : Below w.heap.size w W1 := by rw [← hW1]; exact below_alloc w _
  have s1 : W1.heap.size = w.heap.size + 1 := by rw [← hW1]; exact size_alloc w _
  have hh : Blk W1 w.heap.size [.int .u8 2, .int .i64 64, .int .i64 128, .int .u8 2, .int .i64 128, .func (.func 31) #[] #[], .func (.func 32) #[] #[]] 52 := by rw [← hW1]; exact Sh.Blk.new w _ _
  have HH := hid hh
  have HL := hid hl
  have HC := hid hcell
  have HK := hid hk
  have HP := hid hp
  have B1 := hid b1
  have n1 := hid (Sh.Blk.new W1 (bl 128 nof) 5)
  have a1 := hid (below_alloc W1 (.cells (bl 128 nof).toArray 5))
  rw [s1] at n1 a1
  clear hh hl hk hp b1 hcell
  go_enter Tryd.func22, Tryd.ntmps22
  go_wp2_with fail
  go_loopw [18] (fun i wr => ∃ k : Nat, k ≤ 128 ∧ i = .int .i64 k ∧ Blk wr (w.heap.size + 1) (bl 128 (cat k (msk x K) nof)) 5 ∧ Below (w.heap.size + 1) W1 wr) (fun i _ => 128 - (intOf i).toNat)
  case atStart => exact ⟨0, Nat.zero_le _, rfl, by rw [catn_zero]; exact n1.out, a1.out⟩
  case round =>
    clear n1 a1
    obtain ⟨k, hk, rfl, hb, hbel⟩ := hrel
    have B := hid hb
    have BE := hid hbel
    clear hb hbel
    by_cases hlt : k < 128
    · have x1 := HC.out k hlt
      rw [← B1.out.cell (p := ⟨pb, po + k, none⟩) hpl, ← BE.out.cell (p := ⟨pb, po + k, none⟩) (by show pb < _; omega)] at x1
      have x3 := B.out.frozen k
      have x4 : wr.cell? ⟨w.heap.size + 1, k, none⟩ = some (.int .u8 (cat k (msk x K) nof k)) := B.out.cell k _ (bl_get _ _ _ hlt)
      have hlt' : (k : Int) < 128 := by omega
      go_wp2_with fail
      refine ⟨⟨k + 1, by omega, by go_num, ?_, BE.out.trans ((Kp.setCell (w.heap.size + 1) k _).below (by have := BE.out.size; omega) (fun j hj e => by have : j = w.heap.size + 1 := e; omega))⟩, by simp [intOf]; omega⟩
      have y := B.out.set k (.int .u8 (msk x K k))
      rw [catn_next] at y
      exact y
    · obtain rfl : k = 128 := by omega
      have B2 := hid (catn_all (msk x K) 128 ▸ B.out)
      have be : Below W1.heap.size W1 wr := by rw [s1]; exact BE.out
      have c5 := (HH.out.below be).cell 5 _ rfl
      have s2 := hid be.size
      have BW := hid (below_next B1.out be)
      clear be B BE
      go_wp2_with fail
      refine (newC512 wr).mono ?_
      rintro e w2 ⟨b, hbb, rfl, hs, hb⟩
      have D2 := hid hs
      have C2 := hid hb
      clear hs hb
      have bw2 := hid (below_next BW.out C2.out)
      have hz := hid (show w.heap.size + 1 < b by have := s2.out; have := B2.out.lt; omega)
      have S2 := hid (show By.Own w2 0 (.slice (some ⟨w.heap.size + 1, 0, none⟩) 128 128) 128 (msk x K) from own_blk8 (B2.out.below C2.out) (msk_b _ _) (Nat.zero_le _) (by decide))
      go_wp2_with fail
      refine (dwrite true b 0 128 _ (fun _ => 0) (msk x K) lo L (fun j => j = b ∨ (S j ∧ j < w.heap.size)) _ D2.out (HK.out.below bw2.out) (fun e => e.elim (fun e => by have := hz.out; omega) (fun e => hS0 e.1)) (fun e => e.elim (fun e => by have := hz.out; have := HK.out.lt; omega) (fun e => hS1 e.1)) (.inl rfl) (HL.out.start bw2.out (fun _ hi h => .inr ⟨h, hi⟩)) HP.out
        (fun w' h' => (own_blk8 ((B2.out.below C2.out).kept h' (fun e => e.elim (fun e => by have := hz.out; omega) (fun e => by have := e.2; omega))) (msk_b _ _) (Nat.zero_le _) (by decide)).reads) (by omega) (by omega)).mono ?_
      rintro e w3 ⟨rfl, h1, h2, h3⟩
      have R1 := hid (show IsD w3 b true (some (128, msk x K)) from by rw [Nat.zero_add, show cat 0 (fun _ => 0) (msk x K) = msk x K from Sg.cat0 _ _] at h1; exact h1)
      have R2 := hid (show LG S w w3 lo (evs true L 1) from Sg.LG.back h2 HL.out bw2.out.size (fun i hi h => h.elim (fun e => by have := hz.out; omega) (fun e => e.1)))
      have R3 := hid (show Kp S w w3 from (Kp.of_below S bw2.out).trans h3 (fun i hi h => h.elim (fun e => by have := hz.out; omega) (fun e => e.1)))
      clear h1 h2 h3
      go_wp2
      go_ret
      exact ⟨b, by have := hz.out; omega, rfl, R1.out, R2.out, R3.out⟩
end Go.Proofs.YtkmkbofokoimkaaDoor.Dg
