/- The program's blockKey and begun, of either hash function. The program's begun, of either hash function. The program's New: a mac of either algorithm, and of none. -/
import Derived.Test.YtpohogpkfdebdaaGreatDoorZga
import Derived.Laws.IdiomCopy
import Derived.Deep.RegionHeld3
namespace Go.Proofs.YtpohogpkfdebdaaGreatDoor.Dg
open Go.ChangeShapes Go.WideShapes Go.ChangeAt Go.RowKit
open Go.Proofs.YtpohogpkfdebdaaGreatDoor.By
open Go.Proofs.YtpohogpkfdebdaaGreatDoor.Sh (Blk size_alloc)
theorem own_blk8 {w : World} {base g n : Nat} {f : Nat → Int} (h : Blk w g (bl n f) 5) (hf : ∀ i, 0 ≤ f i ∧ f i < 256) (hb : base ≤ g) (hn : n ≤ maxLen) : By.Own w base (.slice (some ⟨g, 0, none⟩) n n) n f :=
  ⟨hf, by rw [bl_length, Nat.mul_one], .inr ⟨g, n, (bl n f).toArray, rfl, hb, h, Nat.le_refl _, hn, by simp [bl_length], by simp [List.take_of_length_le, bl_length]⟩⟩
def nof : Nat → Int := fun _ => 0
theorem nof_b : BB nof := fun _ => by unfold nof; decide
theorem bl_put (n k : Nat) (g : Nat → Int) (hk : k ≤ n) : Sh.put (bl n nof) 0 (bl k g) = bl n (cat k g nof) := by
  apply List.ext_getElem?
  intro i
  rw [Sh.put_get _ _ _ _ (by rw [bl_length, bl_length]; omega), bl_length]
  by_cases h : i < k
  · rw [if_pos ⟨Nat.zero_le _, by omega⟩, Nat.sub_zero, bl_get _ _ _ h, bl_get _ _ _ (by omega)]
    show _ = some (Value.int .u8 (if i < k then g i else nof (i - k)))
    rw [if_pos h]
  · rw [if_neg (by omega)]
    by_cases h2 : i < n
    · rw [bl_get _ _ _ h2, bl_get _ _ _ h2]
      show _ = some (Value.int .u8 (if i < k then g i else nof (i - k)))
      rw [if_neg h]
      rfl
    · rw [List.getElem?_eq_none (by rw [bl_length]; omega), List.getElem?_eq_none (by rw [bl_length]; omega)]
theorem copy_new (W W' : World) (G N k A C pb po : Nat) (ty : TypeId) (g : Nat → Int) (hW : W' = W) (hG : Blk W G (bl N nof) 5) (hk : k = Nat.min A N) (hs : ∀ i, i < k → W.cell? ⟨pb, po + i, none⟩ = some (.int .u8 (g i))) :
    (Builtin.copy_ #[23, 23] ty #[.slice (some ⟨G, 0, none⟩) N N, .slice (some ⟨pb, po, none⟩) A C]).run Tryz.prog W' = .ok (.int .i64 k) (W.setCells G 0 (bl k g)) := by
  subst hW
  have hkN : k ≤ N := by rw [hk]; exact Nat.min_le_right _ _
  have h := run_copy_cells (P := Tryz.prog) W' 23 23 ty 5 G 0 N N ⟨pb, po, none⟩ A C (bl k g) Tryz.underlying23 (by kernel_rfl) (by rw [bl_length]; exact hk)
    (fun j v hj => by obtain ⟨hj1, rfl⟩ := bl_get_inv _ _ _ _ hj; rw [By.add_plain]; exact hs j hj1)
    (fun j hj => (hG.there 0 N (by rw [bl_length]; omega) j (by rw [bl_length] at hj; omega)).1) (fun j hj => hG.frozen _) (bl_one k g)
  rw [bl_length] at h
  exact h
theorem cat_kb (a : Bool) (n : Nat) (g : Nat → Int) (h : ¬ bk a < n) (i : Nat) : cat n g nof i = kb a n g i := by
  show (if i < n then g i else nof (i - n)) = _
  unfold kb
  rw [if_neg h]
  split <;> rfl
theorem ke_long (a : Bool) (L : List Rn) (n : Nat) (h : bk a < n) : ke a L n = evs a L (n / bk a + last a n) := if_pos h
theorem ke_short (a : Bool) (L : List Rn) (n : Nat) (h : ¬ bk a < n) : ke a L n = L := if_neg h
theorem cat_kbl (a : Bool) (n : Nat) (g : Nat → Int) (h : bk a < n) (i : Nat) : cat (sz a) (dig a n g) nof i = kb a n g i := by
  show (if i < sz a then dig a n g i else nof (i - sz a)) = _
  unfold kb
  rw [if_pos h]
  split <;> rfl
theorem make64n (w : World) : (Instr.makeSlice 23 (.int .i64 64) (.int .i64 64)).run Tryz.prog w = .ok (.slice (some ⟨w.heap.size, 0, none⟩) 64 64) (w.alloc (.cells (bl 64 nof).toArray 5)) := by kernel_rfl
set_option maxRecDepth 8000 in
set_option maxHeartbeats 2000000 in
theorem blockKey256 (n : Nat) (v : Value) (g : Nat → Int) (lo : Option Nat) (L : List Rn) (S : Nat → Prop) (w : World) (hk : KT w) (hS0 : ¬ S 1) (hS1 : ¬ S 3) (hl : LG S w w lo L) (hp : Pos L)
    (hr : ∀ w', Kp S w w' → By.RB w' v n g) (hn : n ≤ 140737488353328) (hroom : tq L ≤ 2200000000000) :
    Calls Tryz.prog 141 #[lpv lo, .agg #[.int .u8 1, .int .i64 32, .int .i64 64, .int .u8 1, .int .i64 64, .func (.func 188) #[] #[], .func (.func 189) #[] #[]], v] w fun e w' => ∃ u, e = .returned u ∧ By.Own w' w.heap.size u 64 (kb false n g) ∧ LG S w w' lo (ke false L n) ∧ Kp S w w' := by
  have HC := hid (fun w1 (hb : Below w.heap.size w w1) => show Calls Tryz.prog 189 #[lpv lo, v] w1 (fun e w' => ∃ u, e = .returned u ∧ By.Own w' w1.heap.size u 32 (dig false n g) ∧ LG S w w' lo (evs false L (n / bk false + last false n)) ∧ Kp S w w' ∧ Kp (fun j => S j ∧ j < w.heap.size) w1 w') from by
    refine (dsumF false n v g lo L (fun j => S j ∧ j < w.heap.size) w1 (hk.below hb) (fun e => hS0 e.1) (fun e => hS1 e.1) (hl.start hb (fun _ hi h => ⟨h, hi⟩)) hp (fun w' h' => hr w' ((Kp.of_below S hb).trans h' (fun _ _ e => e.1))) hn hroom).mono ?_
    rintro e w' ⟨u, rfl, h1, h2, h3⟩
    exact ⟨u, rfl, h1, Sg.LG.back h2 hl hb.size (fun _ _ h => h.1), (Kp.of_below S hb).trans h3 (fun _ _ e => e.1), h3⟩)
  have HR := hid hr
  have HL := hid hl
  obtain ⟨hg, A, cap, rfl, -⟩ := hr w (Kp.refl _ _)
  have hmk := make64n
  clear hk hS0 hS1 hl hp hr hroom
  by_cases hlong : 64 < n
  · have hlong' : (64 : Int) < n := by omega
    go_enter Tryz.func141, Tryz.ntmps141
    go_wp2_with fail
    refine (HC.out _ (below_alloc w _)).mono ?_
    rintro e w1 ⟨u, rfl, h1, h2, h3, h4⟩
    have U1 := hid h1
    have L1 := hid h2
    have K1 := hid h3
    have hh := (Sh.Blk.new w [.int .u8 1, .int .i64 32, .int .i64 64, .int .u8 1, .int .i64 64, .func (.func 188) #[] #[], .func (.func 189) #[] #[]] 184).kept h4 (fun e => by have := e.2; omega)
    have c2 := hh.cell 2 _ rfl
    have x2 := hh.lt
    clear h1 h2 h3 h4 HC HR hh
    obtain ⟨ga, gc, rfl, hcell⟩ := own_cells U1.out (by decide)
    have hcp := fun ty => copy_new (w1.alloc (.cells (bl 64 nof).toArray 5)) _ w1.heap.size 64 32 32 gc ga 0 ty (dig false n g) rfl (Sh.Blk.new w1 _ _) rfl (fun i hi => by
      rw [Nat.zero_add, (below_alloc w1 _).cell (p := ⟨ga, i, none⟩) (own_lt U1.out ga rfl)]; exact hcell i hi)
    have R := hid (show By.Own ((w1.alloc (.cells (bl 64 nof).toArray 5)).setCells w1.heap.size 0 (bl 32 (dig false n g))) w.heap.size (.slice (some ⟨w1.heap.size, 0, none⟩) 64 64) 64 (kb false n g) from by
      have b1 := (Sh.Blk.new w1 (bl 64 nof) 5).put 0 (bl 32 (dig false n g))
      rw [bl_put _ _ _ (by decide)] at b1
      exact own_congr (own_blk8 b1 (Sg.cat_bound (dig_b _ _ _) nof_b) K1.out.size (by decide)) (kb_b hg) (fun i _ => cat_kbl false n g hlong i))
    have BQ : Below w1.heap.size w1 ((w1.alloc (.cells (bl 64 nof).toArray 5)).setCells w1.heap.size 0 (bl 32 (dig false n g))) := ((Kp.of_below (fun j => j = w1.heap.size) (below_alloc w1 (.cells (bl 64 nof).toArray 5))).trans (Sh.Kp.setCells w1.heap.size 0 (bl 32 (dig false n g))) (fun _ _ e => e)).below (Nat.le_refl _) (fun k hk e => by have : k = w1.heap.size := e; omega)
    have LQ := hid (L1.out.below BQ)
    have Q := hid (K1.out.trans (Kp.of_below S BQ) (fun _ _ e => e))
    clear BQ
    go_wp2
    go_ret
    exact ⟨_, rfl, R.out, by rw [ke_long false L n hlong]; exact LQ.out, Q.out⟩
  · have hlong' : ¬ (64 : Int) < n := by omega
    obtain ⟨W1, hW1⟩ : ∃ x, w.alloc (.cells #[.int .u8 1, .int .i64 32, .int .i64 64, .int .u8 1, .int .i64 64, .func (.func 188) #[] #[], .func (.func 189) #[] #[]] 184) = x := ⟨_, rfl⟩
    have b1 : Below w.heap.size w W1 := by rw [← hW1]; exact below_alloc w _
    have s1 : W1.heap.size = w.heap.size + 1 := by rw [← hW1]; exact size_alloc w _
    have hh : Blk W1 w.heap.size [.int .u8 1, .int .i64 32, .int .i64 64, .int .u8 1, .int .i64 64, .func (.func 188) #[] #[], .func (.func 189) #[] #[]] 184 := by rw [← hW1]; exact Sh.Blk.new w _ _
    have c2 := hh.cell 2 _ rfl
    have x2 := hh.lt
    clear HC hh
    have key : ∀ W2 : World, (W2 = W1.alloc (.cells (bl 64 nof).toArray 5) ∧ n = 0) ∨ (W2 = (W1.alloc (.cells (bl 64 nof).toArray 5)).setCells W1.heap.size 0 (bl n g)) → Hid (By.Own W2 w.heap.size (.slice (some ⟨W1.heap.size, 0, none⟩) 64 64) 64 (kb false n g) ∧ LG S w W2 lo L ∧ Kp S w W2) := by
      intro W2 h2
      have b2 : Below W1.heap.size W1 W2 := by
        rcases h2 with ⟨rfl, _⟩ | rfl
        · exact below_alloc W1 _
        · exact ((Kp.of_below (fun j => j = W1.heap.size) (below_alloc W1 (.cells (bl 64 nof).toArray 5))).trans (Sh.Kp.setCells W1.heap.size 0 (bl n g)) (fun _ _ e => e)).below (Nat.le_refl _) (fun k hk e => by have : k = W1.heap.size := e; omega)
      have b3 := below_next b1 b2
      refine ⟨?_, HL.out.below b3, Kp.of_below S b3⟩
      rcases h2 with ⟨rfl, h0⟩ | rfl
      · exact own_congr (own_blk8 (Sh.Blk.new W1 (bl 64 nof) 5) nof_b b1.size (by decide)) (kb_b hg) (fun i _ => by rw [← cat_kb false n g hlong i, h0]; rfl)
      · have q := (Sh.Blk.new W1 (bl 64 nof) 5).put 0 (bl n g)
        rw [bl_put _ _ _ (by omega)] at q
        exact own_congr (own_blk8 q (Sg.cat_bound hg nof_b) b1.size (by decide)) (kb_b hg) (fun i _ => cat_kb false n g hlong i)
    have fin : ∀ W2, Hid (By.Own W2 w.heap.size (.slice (some ⟨W1.heap.size, 0, none⟩) 64 64) 64 (kb false n g) ∧ LG S w W2 lo L ∧ Kp S w W2) → ∃ u, Ending.returned (.slice (some ⟨W1.heap.size, 0, none⟩) 64 64) = .returned u ∧ By.Own W2 w.heap.size u 64 (kb false n g) ∧ LG S w W2 lo (ke false L n) ∧ Kp S w W2 := fun W2 h => ⟨_, rfl, h.out.1, by rw [ke_short false L n hlong]; exact h.out.2.1, h.out.2.2⟩
    have FN := hid fin
    clear fin b1 s1
    by_cases h0 : n = 0
    · subst h0
      have K2 := key _ (.inl ⟨rfl, rfl⟩)
      clear key HR
      have hcp := fun (W : World) ty => run_copy_none (P := Tryz.prog) W 23 23 ty 5 (some ⟨W1.heap.size, 0, none⟩) A 64 64 0 cap Tryz.underlying23 (by kernel_rfl) rfl
      go_enter Tryz.func141, Tryz.ntmps141
      go_wp2_with fail
      go_ret
      exact FN.out _ K2
    · have hr2 := HR.out (W1.alloc (.cells (bl 64 nof).toArray 5)) (Kp.of_below S (below_next (by rw [← hW1]; exact below_alloc w _) (below_alloc W1 _)))
      obtain ⟨_, A', cap', hv, _, _, ⟨e0, _⟩ | ⟨pb, po, rfl, hcell⟩⟩ := hr2
      · exact absurd e0 h0
      · simp only [Value.slice.injEq, true_and] at hv
        obtain ⟨rfl, rfl⟩ := hv
        have K2 := key _ (.inr rfl)
        clear key HR
        have hcp := fun ty => copy_new (W1.alloc (.cells (bl 64 nof).toArray 5)) _ W1.heap.size 64 n n cap pb po ty g rfl (Sh.Blk.new W1 _ _) (by unfold Nat.min; omega) hcell
        clear hcell
        go_enter Tryz.func141, Tryz.ntmps141
        go_wp2_with fail
        go_ret
        exact FN.out _ K2
theorem make128n (w : World) : (Instr.makeSlice 23 (.int .i64 128) (.int .i64 128)).run Tryz.prog w = .ok (.slice (some ⟨w.heap.size, 0, none⟩) 128 128) (w.alloc (.cells (bl 128 nof).toArray 5)) := by kernel_rfl
set_option maxRecDepth 8000 in
set_option maxHeartbeats 2000000 in
theorem blockKey512 (n : Nat) (v : Value) (g : Nat → Int) (lo : Option Nat) (L : List Rn) (S : Nat → Prop) (w : World) (hk : KT w) (hS0 : ¬ S 1) (hS1 : ¬ S 3) (hl : LG S w w lo L) (hp : Pos L)
    (hr : ∀ w', Kp S w w' → By.RB w' v n g) (hn : n ≤ 140737488353328) (hroom : tq L ≤ 2200000000000) :
    Calls Tryz.prog 141 #[lpv lo, .agg #[.int .u8 2, .int .i64 64, .int .i64 128, .int .u8 2, .int .i64 128, .func (.func 190) #[] #[], .func (.func 191) #[] #[]], v] w fun e w' => ∃ u, e = .returned u ∧ By.Own w' w.heap.size u 128 (kb true n g) ∧ LG S w w' lo (ke true L n) ∧ Kp S w w' := by
  have HC := hid (fun w1 (hb : Below w.heap.size w w1) => show Calls Tryz.prog 191 #[lpv lo, v] w1 (fun e w' => ∃ u, e = .returned u ∧ By.Own w' w1.heap.size u 64 (dig true n g) ∧ LG S w w' lo (evs true L (n / bk true + last true n)) ∧ Kp S w w' ∧ Kp (fun j => S j ∧ j < w.heap.size) w1 w') from by
    refine (dsumF true n v g lo L (fun j => S j ∧ j < w.heap.size) w1 (hk.below hb) (fun e => hS0 e.1) (fun e => hS1 e.1) (hl.start hb (fun _ hi h => ⟨h, hi⟩)) hp (fun w' h' => hr w' ((Kp.of_below S hb).trans h' (fun _ _ e => e.1))) hn hroom).mono ?_
    rintro e w' ⟨u, rfl, h1, h2, h3⟩
    exact ⟨u, rfl, h1, Sg.LG.back h2 hl hb.size (fun _ _ h => h.1), (Kp.of_below S hb).trans h3 (fun _ _ e => e.1), h3⟩)
  have HR := hid hr
  have HL := hid hl
  obtain ⟨hg, A, cap, rfl, -⟩ := hr w (Kp.refl _ _)
  have hmk := make128n
  clear hk hS0 hS1 hl hp hr hroom
  by_cases hlong : 128 < n
  · have hlong' : (128 : Int) < n := by omega
    go_enter Tryz.func141, Tryz.ntmps141
    go_wp2_with fail
    refine (HC.out _ (below_alloc w _)).mono ?_
    rintro e w1 ⟨u, rfl, h1, h2, h3, h4⟩
    have U1 := hid h1
    have L1 := hid h2
    have K1 := hid h3
    have hh := (Sh.Blk.new w [.int .u8 2, .int .i64 64, .int .i64 128, .int .u8 2, .int .i64 128, .func (.func 190) #[] #[], .func (.func 191) #[] #[]] 184).kept h4 (fun e => by have := e.2; omega)
    have c2 := hh.cell 2 _ rfl
    have x2 := hh.lt
    clear h1 h2 h3 h4 HC HR hh
    obtain ⟨ga, gc, rfl, hcell⟩ := own_cells U1.out (by decide)
    have hcp := fun ty => copy_new (w1.alloc (.cells (bl 128 nof).toArray 5)) _ w1.heap.size 128 64 64 gc ga 0 ty (dig true n g) rfl (Sh.Blk.new w1 _ _) rfl (fun i hi => by
      rw [Nat.zero_add, (below_alloc w1 _).cell (p := ⟨ga, i, none⟩) (own_lt U1.out ga rfl)]; exact hcell i hi)
    have R := hid (show By.Own ((w1.alloc (.cells (bl 128 nof).toArray 5)).setCells w1.heap.size 0 (bl 64 (dig true n g))) w.heap.size (.slice (some ⟨w1.heap.size, 0, none⟩) 128 128) 128 (kb true n g) from by
      have b1 := (Sh.Blk.new w1 (bl 128 nof) 5).put 0 (bl 64 (dig true n g))
      rw [bl_put _ _ _ (by decide)] at b1
      exact own_congr (own_blk8 b1 (Sg.cat_bound (dig_b _ _ _) nof_b) K1.out.size (by decide)) (kb_b hg) (fun i _ => cat_kbl true n g hlong i))
    have BQ : Below w1.heap.size w1 ((w1.alloc (.cells (bl 128 nof).toArray 5)).setCells w1.heap.size 0 (bl 64 (dig true n g))) := ((Kp.of_below (fun j => j = w1.heap.size) (below_alloc w1 (.cells (bl 128 nof).toArray 5))).trans (Sh.Kp.setCells w1.heap.size 0 (bl 64 (dig true n g))) (fun _ _ e => e)).below (Nat.le_refl _) (fun k hk e => by have : k = w1.heap.size := e; omega)
    have LQ := hid (L1.out.below BQ)
    have Q := hid (K1.out.trans (Kp.of_below S BQ) (fun _ _ e => e))
    clear BQ
    go_wp2
    go_ret
    exact ⟨_, rfl, R.out, by rw [ke_long true L n hlong]; exact LQ.out, Q.out⟩
  · have hlong' : ¬ (128 : Int) < n := by omega
    obtain ⟨W1, hW1⟩ : ∃ x, w.alloc (.cells #[.int .u8 2, .int .i64 64, .int .i64 128, .int .u8 2, .int .i64 128, .func (.func 190) #[] #[], .func (.func 191) #[] #[]] 184) = x := ⟨_, rfl⟩
    have b1 : Below w.heap.size w W1 := by rw [← hW1]; exact below_alloc w _
    have s1 : W1.heap.size = w.heap.size + 1 := by rw [← hW1]; exact size_alloc w _
    have hh : Blk W1 w.heap.size [.int .u8 2, .int .i64 64, .int .i64 128, .int .u8 2, .int .i64 128, .func (.func 190) #[] #[], .func (.func 191) #[] #[]] 184 := by rw [← hW1]; exact Sh.Blk.new w _ _
    have c2 := hh.cell 2 _ rfl
    have x2 := hh.lt
    clear HC hh
    have key : ∀ W2 : World, (W2 = W1.alloc (.cells (bl 128 nof).toArray 5) ∧ n = 0) ∨ (W2 = (W1.alloc (.cells (bl 128 nof).toArray 5)).setCells W1.heap.size 0 (bl n g)) → Hid (By.Own W2 w.heap.size (.slice (some ⟨W1.heap.size, 0, none⟩) 128 128) 128 (kb true n g) ∧ LG S w W2 lo L ∧ Kp S w W2) := by
      intro W2 h2
      have b2 : Below W1.heap.size W1 W2 := by
        rcases h2 with ⟨rfl, _⟩ | rfl
        · exact below_alloc W1 _
        · exact ((Kp.of_below (fun j => j = W1.heap.size) (below_alloc W1 (.cells (bl 128 nof).toArray 5))).trans (Sh.Kp.setCells W1.heap.size 0 (bl n g)) (fun _ _ e => e)).below (Nat.le_refl _) (fun k hk e => by have : k = W1.heap.size := e; omega)
      have b3 := below_next b1 b2
      refine ⟨?_, HL.out.below b3, Kp.of_below S b3⟩
      rcases h2 with ⟨rfl, h0⟩ | rfl
      · exact own_congr (own_blk8 (Sh.Blk.new W1 (bl 128 nof) 5) nof_b b1.size (by decide)) (kb_b hg) (fun i _ => by rw [← cat_kb true n g hlong i, h0]; rfl)
      · have q := (Sh.Blk.new W1 (bl 128 nof) 5).put 0 (bl n g)
        rw [bl_put _ _ _ (by omega)] at q
        exact own_congr (own_blk8 q (Sg.cat_bound hg nof_b) b1.size (by decide)) (kb_b hg) (fun i _ => cat_kb true n g hlong i)
    have fin : ∀ W2, Hid (By.Own W2 w.heap.size (.slice (some ⟨W1.heap.size, 0, none⟩) 128 128) 128 (kb true n g) ∧ LG S w W2 lo L ∧ Kp S w W2) → ∃ u, Ending.returned (.slice (some ⟨W1.heap.size, 0, none⟩) 128 128) = .returned u ∧ By.Own W2 w.heap.size u 128 (kb true n g) ∧ LG S w W2 lo (ke true L n) ∧ Kp S w W2 := fun W2 h => ⟨_, rfl, h.out.1, by rw [ke_short true L n hlong]; exact h.out.2.1, h.out.2.2⟩
    have FN := hid fin
    clear fin b1 s1
    by_cases h0 : n = 0
    · subst h0
      have K2 := key _ (.inl ⟨rfl, rfl⟩)
      clear key HR
      have hcp := fun (W : World) ty => run_copy_none (P := Tryz.prog) W 23 23 ty 5 (some ⟨W1.heap.size, 0, none⟩) A 128 128 0 cap Tryz.underlying23 (by kernel_rfl) rfl
      go_enter Tryz.func141, Tryz.ntmps141
      go_wp2_with fail
      go_ret
      exact FN.out _ K2
    · have hr2 := HR.out (W1.alloc (.cells (bl 128 nof).toArray 5)) (Kp.of_below S (below_next (by rw [← hW1]; exact below_alloc w _) (below_alloc W1 _)))
      obtain ⟨_, A', cap', hv, _, _, ⟨e0, _⟩ | ⟨pb, po, rfl, hcell⟩⟩ := hr2
      · exact absurd e0 h0
      · simp only [Value.slice.injEq, true_and] at hv
        obtain ⟨rfl, rfl⟩ := hv
        have K2 := key _ (.inr rfl)
        clear key HR
        have hcp := fun ty => copy_new (W1.alloc (.cells (bl 128 nof).toArray 5)) _ W1.heap.size 128 n n cap pb po ty g rfl (Sh.Blk.new W1 _ _) (by unfold Nat.min; omega) hcell
        clear hcell
        go_enter Tryz.func141, Tryz.ntmps141
        go_wp2_with fail
        go_ret
        exact FN.out _ K2
end Go.Proofs.YtpohogpkfdebdaaGreatDoor.Dg
namespace Go.Proofs.YtpohogpkfdebdaaGreatDoor.Dg
open Go.ChangeShapes Go.WideShapes Go.ChangeAt Go.RowKit
open Go.Proofs.YtpohogpkfdebdaaGreatDoor.By
open Go.Proofs.YtpohogpkfdebdaaGreatDoor.Sh (Blk size_alloc)
theorem catn_zero (f : Nat → Int) (N : Nat) : bl N (cat 0 f nof) = bl N nof := bl_congr N _ _ (fun _ _ => rfl)
theorem catn_next (f : Nat → Int) (N k : Nat) : (bl N (cat k f nof)).set k (.int .u8 (f k)) = bl N (cat (k + 1) f nof) := by
  rw [bl_set]
  apply bl_congr
  intro i _
  show (if i = k then f k else if i < k then f i else nof (i - k)) = if i < k + 1 then f i else nof (i - (k + 1))
  by_cases h1 : i = k
  · rw [if_pos h1, if_pos (by omega), h1]
  · rw [if_neg h1]
    by_cases h2 : i < k
    · rw [if_pos h2, if_pos (by omega)]
    · rw [if_neg h2, if_neg (by omega)]; rfl
theorem catn_all (f : Nat → Int) (N : Nat) : bl N (cat N f nof) = bl N f := bl_congr N _ _ (fun _ hi => if_pos hi)
theorem newC256 (w : World) : Calls Tryz.prog 188 #[] w fun e w' => ∃ b, w.heap.size ≤ b ∧ e = .returned (.iface 261 (.agg #[.pointer (some ⟨b, 0, none⟩)])) ∧ IsD w' b false (some (0, fun _ => 0)) ∧ Below w.heap.size w w' := dnew false w
set_option maxRecDepth 8000 in
set_option maxHeartbeats 2000000 in
theorem begun256 (A : Option Addr) (cap : Nat) (x : Int) (K : Nat → Int) (lo : Option Nat) (L : List Rn) (S : Nat → Prop) (w : World) (hk : KT w) (hS0 : ¬ S 1) (hS1 : ¬ S 3) (hl : LG S w w lo L) (hp : Pos L)
    (hr : By.RB w (.slice A 64 cap) 64 K) (hroom : tq L ≤ 4399500000000) :
    Calls Tryz.prog 142 #[lpv lo, .agg #[.int .u8 1, .int .i64 32, .int .i64 64, .int .u8 1, .int .i64 64, .func (.func 188) #[] #[], .func (.func 189) #[] #[]], .slice A 64 cap, .int .u8 x] w fun e w' => ∃ b, w.heap.size ≤ b ∧ e = .returned (.iface 261 (.agg #[.pointer (some ⟨b, 0, none⟩)])) ∧ IsD w' b false (some (64, msk x K)) ∧ LG S w w' lo (evs false L 1) ∧ Kp S w w' := by
  have hmk := make64n
  obtain ⟨hKb, A', cap', hv, _, _, ⟨e0, _⟩ | ⟨pb, po, rfl, hcell⟩⟩ := hr
  · cases e0
  simp only [Value.slice.injEq, true_and] at hv
  obtain ⟨rfl, rfl⟩ := hv
  have hpl : pb < w.heap.size := block_lt_of_cell (hcell 0 (by omega))
  obtain ⟨W1, hW1⟩ : ∃ x, w.alloc (.cells #[.int .u8 1, .int .i64 32, .int .i64 64, .int .u8 1, .int .i64 64, .func (.func 188) #[] #[], .func (.func 189) #[] #[]] 184) = x := ⟨_, rfl⟩
  have b1 : Below w.heap.size w W1 := by rw [← hW1]; exact below_alloc w _
  have s1 : W1.heap.size = w.heap.size + 1 := by rw [← hW1]; exact size_alloc w _
  have hh : Blk W1 w.heap.size [.int .u8 1, .int .i64 32, .int .i64 64, .int .u8 1, .int .i64 64, .func (.func 188) #[] #[], .func (.func 189) #[] #[]] 184 := by rw [← hW1]; exact Sh.Blk.new w _ _
  have HH := hid hh
  have HL := hid hl
  have HC := hid hcell
  have HK := hid hk
  have HP := hid hp
  have B1 := hid b1
  have n1 := hid (Sh.Blk.new W1 (bl 64 nof) 5)
  have a1 := hid (below_alloc W1 (.cells (bl 64 nof).toArray 5))
  rw [s1] at n1 a1
  clear hh hl hk hp b1 hcell
  go_enter Tryz.func142, Tryz.ntmps142
  go_wp2_with fail
  go_loopw [18] (fun i wr => ∃ k : Nat, k ≤ 64 ∧ i = .int .i64 k ∧ Blk wr (w.heap.size + 1) (bl 64 (cat k (msk x K) nof)) 5 ∧ Below (w.heap.size + 1) W1 wr) (fun i _ => 64 - (intOf i).toNat)
  case atStart => exact ⟨0, Nat.zero_le _, rfl, by rw [catn_zero]; exact n1.out, a1.out⟩
  case round =>
    clear n1 a1
    obtain ⟨k, hk, rfl, hb, hbel⟩ := hrel
    have B := hid hb
    have BE := hid hbel
    clear hb hbel
    by_cases hlt : k < 64
    · have x1 := HC.out k hlt
      rw [← B1.out.cell (p := ⟨pb, po + k, none⟩) hpl, ← BE.out.cell (p := ⟨pb, po + k, none⟩) (by show pb < _; omega)] at x1
      have x3 := B.out.frozen k
      have x4 : wr.cell? ⟨w.heap.size + 1, k, none⟩ = some (.int .u8 (cat k (msk x K) nof k)) := B.out.cell k _ (bl_get _ _ _ hlt)
      have hlt' : (k : Int) < 64 := by omega
      go_wp2_with fail
      refine ⟨⟨k + 1, by omega, by go_num, ?_, BE.out.trans ((Kp.setCell (w.heap.size + 1) k _).below (by have := BE.out.size; omega) (fun j hj e => by have : j = w.heap.size + 1 := e; omega))⟩, by simp [intOf]; omega⟩
      have y := B.out.set k (.int .u8 (msk x K k))
      rw [catn_next] at y
      exact y
    · obtain rfl : k = 64 := by omega
      have B2 := hid (catn_all (msk x K) 64 ▸ B.out)
      have be : Below W1.heap.size W1 wr := by rw [s1]; exact BE.out
      have c5 := (HH.out.below be).cell 5 _ rfl
      have s2 := hid be.size
      have BW := hid (below_next B1.out be)
      clear be B BE
      go_wp2_with fail
      refine (newC256 wr).mono ?_
      rintro e w2 ⟨b, hbb, rfl, hs, hb⟩
      have D2 := hid hs
      have C2 := hid hb
      clear hs hb
      have bw2 := hid (below_next BW.out C2.out)
      have hz := hid (show w.heap.size + 1 < b by have := s2.out; have := B2.out.lt; omega)
      have S2 := hid (show By.Own w2 0 (.slice (some ⟨w.heap.size + 1, 0, none⟩) 64 64) 64 (msk x K) from own_blk8 (B2.out.below C2.out) (msk_b _ _) (Nat.zero_le _) (by decide))
      go_wp2_with fail
      refine (dwrite false b 0 64 _ (fun _ => 0) (msk x K) lo L (fun j => j = b ∨ (S j ∧ j < w.heap.size)) _ D2.out (HK.out.below bw2.out) (fun e => e.elim (fun e => by have := hz.out; omega) (fun e => hS0 e.1)) (fun e => e.elim (fun e => by have := hz.out; have := HK.out.lt; omega) (fun e => hS1 e.1)) (.inl rfl) (HL.out.start bw2.out (fun _ hi h => .inr ⟨h, hi⟩)) HP.out
        (fun w' h' => (own_blk8 ((B2.out.below C2.out).kept h' (fun e => e.elim (fun e => by have := hz.out; omega) (fun e => by have := e.2; omega))) (msk_b _ _) (Nat.zero_le _) (by decide)).reads) (by omega) (by omega)).mono ?_
      rintro e w3 ⟨rfl, h1, h2, h3⟩
      have R1 := hid (show IsD w3 b false (some (64, msk x K)) from by rw [Nat.zero_add, show cat 0 (fun _ => 0) (msk x K) = msk x K from Sg.cat0 _ _] at h1; exact h1)
      have R2 := hid (show LG S w w3 lo (evs false L 1) from Sg.LG.back h2 HL.out bw2.out.size (fun i hi h => h.elim (fun e => by have := hz.out; omega) (fun e => e.1)))
      have R3 := hid (show Kp S w w3 from (Kp.of_below S bw2.out).trans h3 (fun i hi h => h.elim (fun e => by have := hz.out; omega) (fun e => e.1)))
      clear h1 h2 h3
      go_wp2
      go_ret
      exact ⟨b, by have := hz.out; omega, rfl, R1.out, R2.out, R3.out⟩
theorem newC512 (w : World) : Calls Tryz.prog 190 #[] w fun e w' => ∃ b, w.heap.size ≤ b ∧ e = .returned (.iface 266 (.agg #[.pointer (some ⟨b, 0, none⟩)])) ∧ IsD w' b true (some (0, fun _ => 0)) ∧ Below w.heap.size w w' := dnew true w
set_option maxRecDepth 8000 in
set_option maxHeartbeats 2000000 in
theorem begun512 (A : Option Addr) (cap : Nat) (x : Int) (K : Nat → Int) (lo : Option Nat) (L : List Rn) (S : Nat → Prop) (w : World) (hk : KT w) (hS0 : ¬ S 1) (hS1 : ¬ S 3) (hl : LG S w w lo L) (hp : Pos L)
    (hr : By.RB w (.slice A 128 cap) 128 K) (hroom : tq L ≤ 4399500000000) :
    Calls Tryz.prog 142 #[lpv lo, .agg #[.int .u8 2, .int .i64 64, .int .i64 128, .int .u8 2, .int .i64 128, .func (.func 190) #[] #[], .func (.func 191) #[] #[]], .slice A 128 cap, .int .u8 x] w fun e w' => ∃ b, w.heap.size ≤ b ∧ e = .returned (.iface 266 (.agg #[.pointer (some ⟨b, 0, none⟩)])) ∧ IsD w' b true (some (128, msk x K)) ∧ LG S w w' lo (evs true L 1) ∧ Kp S w w' := by
  have hmk := make128n
  obtain ⟨hKb, A', cap', hv, _, _, ⟨e0, _⟩ | ⟨pb, po, rfl, hcell⟩⟩ := hr
  · cases e0
  simp only [Value.slice.injEq, true_and] at hv
  obtain ⟨rfl, rfl⟩ := hv
  have hpl : pb < w.heap.size := block_lt_of_cell (hcell 0 (by omega))
  obtain ⟨W1, hW1⟩ : ∃ x, w.alloc (.cells #[.int .u8 2, .int .i64 64, .int .i64 128, .int .u8 2, .int .i64 128, .func (.func 190) #[] #[], .func (.func 191) #[] #[]] 184) = x := ⟨_, rfl⟩
  have b1 : Below w.heap.size w W1 := by rw [← hW1]; exact below_alloc w _
  have s1 : W1.heap.size = w.heap.size + 1 := by rw [← hW1]; exact size_alloc w _
  have hh : Blk W1 w.heap.size [.int .u8 2, .int .i64 64, .int .i64 128, .int .u8 2, .int .i64 128, .func (.func 190) #[] #[], .func (.func 191) #[] #[]] 184 := by rw [← hW1]; exact Sh.Blk.new w _ _
  have HH := hid hh
  have HL := hid hl
  have HC := hid hcell
  have HK := hid hk
  have HP := hid hp
  have B1 := hid b1
  have n1 := hid (Sh.Blk.new W1 (bl 128 nof) 5)
  have a1 := hid (below_alloc W1 (.cells (bl 128 nof).toArray 5))
  rw [s1] at n1 a1
  clear hh hl hk hp b1 hcell
  go_enter Tryz.func142, Tryz.ntmps142
  go_wp2_with fail
  go_loopw [18] (fun i wr => ∃ k : Nat, k ≤ 128 ∧ i = .int .i64 k ∧ Blk wr (w.heap.size + 1) (bl 128 (cat k (msk x K) nof)) 5 ∧ Below (w.heap.size + 1) W1 wr) (fun i _ => 128 - (intOf i).toNat)
  case atStart => exact ⟨0, Nat.zero_le _, rfl, by rw [catn_zero]; exact n1.out, a1.out⟩
  case round =>
    clear n1 a1
    obtain ⟨k, hk, rfl, hb, hbel⟩ := hrel
    have B := hid hb
    have BE := hid hbel
    clear hb hbel
    by_cases hlt : k < 128
    · have x1 := HC.out k hlt
      rw [← B1.out.cell (p := ⟨pb, po + k, none⟩) hpl, ← BE.out.cell (p := ⟨pb, po + k, none⟩) (by show pb < _; omega)] at x1
      have x3 := B.out.frozen k
      have x4 : wr.cell? ⟨w.heap.size + 1, k, none⟩ = some (.int .u8 (cat k (msk x K) nof k)) := B.out.cell k _ (bl_get _ _ _ hlt)
      have hlt' : (k : Int) < 128 := by omega
      go_wp2_with fail
      refine ⟨⟨k + 1, by omega, by go_num, ?_, BE.out.trans ((Kp.setCell (w.heap.size + 1) k _).below (by have := BE.out.size; omega) (fun j hj e => by have : j = w.heap.size + 1 := e; omega))⟩, by simp [intOf]; omega⟩
      have y := B.out.set k (.int .u8 (msk x K k))
      rw [catn_next] at y
      exact y
    · obtain rfl : k = 128 := by omega
      have B2 := hid (catn_all (msk x K) 128 ▸ B.out)
      have be : Below W1.heap.size W1 wr := by rw [s1]; exact BE.out
      have c5 := (HH.out.below be).cell 5 _ rfl
      have s2 := hid be.size
      have BW := hid (below_next B1.out be)
      clear be B BE
      go_wp2_with fail
      refine (newC512 wr).mono ?_
      rintro e w2 ⟨b, hbb, rfl, hs, hb⟩
      have D2 := hid hs
      have C2 := hid hb
      clear hs hb
      have bw2 := hid (below_next BW.out C2.out)
      have hz := hid (show w.heap.size + 1 < b by have := s2.out; have := B2.out.lt; omega)
      have S2 := hid (show By.Own w2 0 (.slice (some ⟨w.heap.size + 1, 0, none⟩) 128 128) 128 (msk x K) from own_blk8 (B2.out.below C2.out) (msk_b _ _) (Nat.zero_le _) (by decide))
      go_wp2_with fail
      refine (dwrite true b 0 128 _ (fun _ => 0) (msk x K) lo L (fun j => j = b ∨ (S j ∧ j < w.heap.size)) _ D2.out (HK.out.below bw2.out) (fun e => e.elim (fun e => by have := hz.out; omega) (fun e => hS0 e.1)) (fun e => e.elim (fun e => by have := hz.out; have := HK.out.lt; omega) (fun e => hS1 e.1)) (.inl rfl) (HL.out.start bw2.out (fun _ hi h => .inr ⟨h, hi⟩)) HP.out
        (fun w' h' => (own_blk8 ((B2.out.below C2.out).kept h' (fun e => e.elim (fun e => by have := hz.out; omega) (fun e => by have := e.2; omega))) (msk_b _ _) (Nat.zero_le _) (by decide)).reads) (by omega) (by omega)).mono ?_
      rintro e w3 ⟨rfl, h1, h2, h3⟩
      have R1 := hid (show IsD w3 b true (some (128, msk x K)) from by rw [Nat.zero_add, show cat 0 (fun _ => 0) (msk x K) = msk x K from Sg.cat0 _ _] at h1; exact h1)
      have R2 := hid (show LG S w w3 lo (evs true L 1) from Sg.LG.back h2 HL.out bw2.out.size (fun i hi h => h.elim (fun e => by have := hz.out; omega) (fun e => e.1)))
      have R3 := hid (show Kp S w w3 from (Kp.of_below S bw2.out).trans h3 (fun i hi h => h.elim (fun e => by have := hz.out; omega) (fun e => e.1)))
      clear h1 h2 h3
      go_wp2
      go_ret
      exact ⟨b, by have := hz.out; omega, rfl, R1.out, R2.out, R3.out⟩
end Go.Proofs.YtpohogpkfdebdaaGreatDoor.Dg
namespace Go.Proofs.YtpohogpkfdebdaaGreatDoor.Dg
open Go.ChangeShapes Go.WideShapes Go.ChangeAt Go.RowKit
open Go.Proofs.YtpohogpkfdebdaaGreatDoor.By
open Go.Proofs.YtpohogpkfdebdaaGreatDoor.Sh (Blk size_alloc)
theorem evsP (a : Bool) {L : List Rn} (h : Pos L) (n : Nat) : Pos (evs a L n) := by
  cases a
  · exact Sh.evs256_pos h n
  · exact Sg.evs512_pos h n
theorem evsT (a : Bool) {L : List Rn} (h : Pos L) (n : Nat) (hb : tq L + n ≤ 5800000000000) : tq (evs a L n) ≤ tq L + n := by
  cases a
  · exact Sh.evs256_tot h n hb
  · exact Sg.evs512_tq h n hb
theorem keP (a : Bool) {L : List Rn} (h : Pos L) (n : Nat) : Pos (ke a L n) := by
  unfold ke; split
  · exact evsP a h _
  · exact h
theorem bk_div (a : Bool) (n : Nat) : n / bk a ≤ n / 64 := by
  cases a
  · exact Nat.le_refl _
  · show n / 128 ≤ n / 64; omega
theorem keT (a : Bool) {L : List Rn} (h : Pos L) (n : Nat) (hn : n ≤ 140737488353328) (hb : tq L ≤ 2200000000000) : tq (ke a L n) ≤ tq L + (n / 64 : Nat) + 2 := by
  have h1 := bk_div a n
  have h2 := (last_le a n).1
  unfold ke; split
  · have := evsT a h (n / bk a + last a n) (by omega); omega
  · omega
theorem own_sl {w : World} {base n : Nat} {v : Value} {f : Nat → Int} (h : By.Own w base v n f) : ∃ a c, v = .slice a n c := by
  obtain ⟨_, a, c, rfl, _⟩ := h.reads
  exact ⟨a, c, rfl⟩
theorem IsD.congr {W : World} {b m : Nat} {a : Bool} {f g : Nat → Int} (h : IsD W b a (some (m, f))) (hg : BB g) (e : ∀ i, i < m → f i = g i) : IsD W b a (some (m, g)) := by
  cases a
  · exact Sh.St.congr h hg e
  · exact Sg.St.congr h hg e
/-- What New holds between its calls. -/
structure NS (a : Bool) (S : Nat → Prop) (w : World) (lo : Option Nat) (L : List Rn) (hb mb : Nat) (cs : List Value) (u : Value) (K : Nat → Int) (W : World) : Prop where
  kp : Kp S w W
  lg : LG S w W lo L
  h : Blk W hb (hc a) 184
  m : Blk W mb cs 192
  u : By.Own W w.heap.size u (bk a) K
  zm : w.heap.size ≤ mb
section
variable {a : Bool} {S : Nat → Prop} {w W W' : World} {lo : Option Nat} {L : List Rn} {hb mb : Nat} {cs : List Value} {u : Value} {K : Nat → Int}
theorem NS.below (h : NS a S w lo L hb mb cs u K W) (hw : Below W.heap.size W W') : NS a S w lo L hb mb cs u K W' :=
  ⟨h.kp.trans (Kp.of_below S hw) (fun _ _ e => e), h.lg.below hw, h.h.below hw, h.m.below hw, own_below h.u hw, h.zm⟩
theorem NS.set (h : NS a S w lo L hb mb cs u K W) (i : Nat) (x : Value) : NS a S w lo L hb mb (cs.set i x) u K (W.setCell ⟨mb, i, none⟩ x) := by
  have hk : Kp (fun k => k = mb) W (W.setCell ⟨mb, i, none⟩ x) := Kp.setCell mb i x
  have hz := h.zm
  refine ⟨h.kp.trans hk (fun j hj e => by have : j = mb := e; omega), Sg.LG.kept h.lg hk (fun j e => ⟨cs, 192, (by rw [show j = mb from e]; exact h.m), by decide, by decide⟩), h.h.kept hk (fun e => Blk.ne h.h h.m (by decide) e), h.m.set i x, Sg.own_kept h.u hk (fun g hg e => ?_), h.zm⟩
  obtain ⟨c, hc⟩ := Sg.own8_type h.u hg
  exact Blk.ne (show Blk W g c.toList 5 from by show W.heap[g]? = _; rw [hc]) h.m (by decide) e
theorem NS.isd (h : NS a S w lo L hb mb cs u K W) {b : Nat} {k : SK} {c : Bool} (hd : IsD W b c k) (i : Nat) (x : Value) : IsD (W.setCell ⟨mb, i, none⟩ x) b c k := by
  obtain ⟨cs', hc⟩ := hd.blk
  exact hd.kept (Kp.setCell mb i x) (fun e => Blk.ne hc h.m (by cases c <;> decide) e)
end
theorem nsBegun256 {S : Nat → Prop} {w W : World} {lo : Option Nat} {L L0 : List Rn} {hb mb : Nat} {cs : List Value} {ua : Option Addr} {uc : Nat} {K : Nat → Int} (h : NS false S w lo L hb mb cs (.slice ua 64 uc) K W) (x : Int) (hk : KT w) (hl0 : LG S w w lo L0) (hS0 : ¬ S 1) (hS1 : ¬ S 3) (hp : Pos L) (hroom : tq L ≤ 4399500000000) :
    Calls Tryz.prog 142 #[lpv lo, .agg #[.int .u8 1, .int .i64 32, .int .i64 64, .int .u8 1, .int .i64 64, .func (.func 188) #[] #[], .func (.func 189) #[] #[]], .slice ua 64 uc, .int .u8 x] W fun e w' => ∃ b, W.heap.size ≤ b ∧ e = .returned (.iface 261 (.agg #[.pointer (some ⟨b, 0, none⟩)])) ∧ IsD w' b false (some (64, msk x K)) ∧ NS false S w lo (evs false L 1) hb mb cs (.slice ua 64 uc) K w' ∧ Kl W w' := by
  obtain ⟨T, l1, hT, hTS⟩ := LG.own h.lg
  have hlt := hk.lt
  refine (begun256 ua uc x K lo L T W (hk.kept h.kp hS0 hS1) (fun e => hS0 (hTS 1 (by omega) e)) (fun e => hS1 (hTS 3 (by omega) e)) l1 hp h.u.reads hroom).mono ?_
  rintro e w' ⟨b, hb, rfl, hd, hl, hk'⟩
  have kl : Kl W w' := ⟨T, hk', hT⟩
  exact ⟨b, hb, rfl, hd, ⟨h.kp.trans hk' hTS, Sg.LG.back hl hl0 h.kp.size hTS, kl.blk h.h (by decide), kl.blk h.m (by decide), kl.own h.u, h.zm⟩, kl⟩
theorem copyC256 (b m : Nat) (f : Nat → Int) (w : World) (h : IsD w b false (some (m, f))) : Calls Tryz.prog 335 #[.agg #[.pointer (some ⟨b, 0, none⟩)]] w fun e w' => ∃ c, w.heap.size ≤ c ∧ e = .returned (.iface 261 (.agg #[.pointer (some ⟨c, 0, none⟩)])) ∧ IsD w' c false (some (m, f)) ∧ Below w.heap.size w w' := dcopy false b m f w h
set_option maxRecDepth 8000 in
set_option maxHeartbeats 4000000 in
theorem new256 (n : Nat) (v : Value) (g : Nat → Int) (lo : Option Nat) (L : List Rn) (S : Nat → Prop) (w : World) (hk : KT w) (hS0 : ¬ S 1) (hS1 : ¬ S 3) (hl : LG S w w lo L) (hp : Pos L)
    (hr : ∀ w', Kp S w w' → By.RB w' v n g) (hn : n ≤ 140737488353328) (hroom : tq L ≤ 2200000000000) :
    Calls Tryz.prog 115 #[lpv lo, .int .u8 1, v] w fun e w' => ∃ b b0 b1 b2, e = .returned (.tuple #[.pointer (some ⟨b, 0, none⟩), .int .i64 0]) ∧ IsMk w' b ⟨false, kb false n g, 0, nof, b0, b1, b2⟩ ∧ (w.heap.size ≤ b ∧ w.heap.size ≤ b0 ∧ w.heap.size ≤ b1 ∧ w.heap.size ≤ b2) ∧ LG S w w' lo (kev false L n) ∧ Kp S w w' := by
  have HR := hid hr
  have HL := hid hl
  have HK := hid hk
  have HP := hid hp
  have KP := hid (keP false hp n)
  have KT1 := keT false hp n hn (by omega)
  have KP1 := hid (evsP false KP.out 1)
  have KT2 := evsT false KP.out 1 (by omega)
  clear hr hl hk hp
  have nS : ∀ j, w.heap.size ≤ j → ¬ (S j ∧ j < w.heap.size) := fun j hj e => by have := e.2; omega
  go_enter Tryz.func115, Tryz.ntmps115
  go_wp2_with fail
  refine (of256 _).mono ?_
  rintro e w1 ⟨rfl, hb⟩
  obtain ⟨W1, hW1⟩ : ∃ x, w1.alloc (.cells #[.int .u8 1, .int .i64 32, .int .i64 64, .int .u8 1, .int .i64 64, .func (.func 188) #[] #[], .func (.func 189) #[] #[]] 184) = x := ⟨_, rfl⟩
  have b1 := hid (show Below w.heap.size w W1 from by rw [← hW1]; exact below_next hb (below_alloc w1 _))
  have h1 := hid (show Blk W1 w1.heap.size [.int .u8 1, .int .i64 32, .int .i64 64, .int .u8 1, .int .i64 64, .func (.func 188) #[] #[], .func (.func 189) #[] #[]] 184 from by rw [← hW1]; exact Sh.Blk.new w1 _ _)
  have z1 := hid hb.size
  have l1 := ldH (range0 h1.out) rfl
  clear hb
  go_wp2_with fail
  refine (blockKey256 n v g lo L (fun j => S j ∧ j < w.heap.size) W1 (HK.out.below b1.out) (fun e => hS0 e.1) (fun e => hS1 e.1) (HL.out.start b1.out (fun _ hi h => ⟨h, hi⟩)) HP.out (fun w' h' => HR.out w' ((Kp.of_below S b1.out).trans h' (fun _ _ e => e.1))) hn (by omega)).mono ?_
  rintro e w2 ⟨u, rfl, hu, hl2, hk2⟩
  have h2 := hid (h1.out.kept hk2 (nS _ z1.out))
  have c2 := h2.out.cell 1 _ rfl
  have N2 := hid (show Kp S w w2 ∧ LG S w w2 lo (ke false L n) ∧ By.Own w2 w.heap.size u 64 (kb false n g) from ⟨(Kp.of_below S b1.out).trans hk2 (fun _ _ e => e.1), Sg.LG.back hl2 HL.out b1.out.size (fun _ _ h => h.1), Sg.own_mono hu b1.out.size⟩)
  clear hu hl2 hk2 h1 l1 HR hW1
  obtain ⟨W3, hW3⟩ : ∃ x, w2.alloc (.cells #[.int .i64 32, .nilIface, .nilIface, .nilIface] 192) = x := ⟨_, rfl⟩
  have b3 : Below w2.heap.size w2 W3 := by rw [← hW3]; exact below_alloc w2 _
  have N3 := hid (show NS false S w lo (ke false L n) w1.heap.size w2.heap.size [.int .i64 32, .nilIface, .nilIface, .nilIface] u (kb false n g) W3 from ⟨N2.out.1.trans (Kp.of_below S b3) (fun _ _ e => e), N2.out.2.1.below b3, h2.out.below b3, (by rw [← hW3]; exact Sh.Blk.new w2 _ _), own_below N2.out.2.2 b3, N2.out.1.size⟩)
  clear N2 b3 h2
  obtain ⟨ua, uc, rfl⟩ := own_sl N3.out.u
  have l3 := ldH (range0 (show Blk W3.drew w1.heap.size [.int .u8 1, .int .i64 32, .int .i64 64, .int .u8 1, .int .i64 64, .func (.func 188) #[] #[], .func (.func 189) #[] #[]] 184 from N3.out.h)) rfl
  have cm := N3.out.m.cell 1 _ rfl
  have fm := N3.out.m.frozen 1
  go_upto_region 6 with fail
  go_region_held3 (fun W => (LDH ⟨w1.heap.size, 0, none⟩).run Tryz.prog W = .ok (.agg #[.int .u8 1, .int .i64 32, .int .i64 64, .int .u8 1, .int .i64 64, .func (.func 188) #[] #[], .func (.func 189) #[] #[]]) W) (assumption) (first
    | (go_at_call 142; go_must (refine (nsBegun256 (N3.out.below (below_drewN W3 1)) 54 HK.out HL.out hS0 hS1 KP.out (by omega)).mono ?_; rintro e w4 ⟨b0, hb0, rfl, hd0, hn4, hkl⟩; have Z0 := hid (show W3.heap.size ≤ b0 from hb0); have N5 := hid (hn4.set 1 (.iface 261 (.agg #[.pointer (some ⟨b0, 0, none⟩)]))); have D5 := hid (hn4.isd hd0 1 (.iface 261 (.agg #[.pointer (some ⟨b0, 0, none⟩)]))); have y0 : (LDH ⟨w1.heap.size, 0, none⟩).run Tryz.prog w4 = .ok (.agg #[.int .u8 1, .int .i64 32, .int .i64 64, .int .u8 1, .int .i64 64, .func (.func 188) #[] #[], .func (.func 189) #[] #[]]) w4 := ldH (range0 hn4.h) rfl; have y3 : (LDH ⟨w1.heap.size, 0, none⟩).run Tryz.prog (w4.setCell ⟨w2.heap.size, 1, none⟩ (.iface 261 (.agg #[.pointer (some ⟨b0, 0, none⟩)]))) = .ok (.agg #[.int .u8 1, .int .i64 32, .int .i64 64, .int .u8 1, .int .i64 64, .func (.func 188) #[] #[], .func (.func 189) #[] #[]]) (w4.setCell ⟨w2.heap.size, 1, none⟩ (.iface 261 (.agg #[.pointer (some ⟨b0, 0, none⟩)]))) := ldH (range0 N5.out.h) rfl; have y1 := hn4.m.cell 1 _ rfl; have y2 := hn4.m.frozen 1; clear hd0 hn4 hkl hb0)))
  have z3 := hid (show w.heap.size ≤ W3.heap.size from N3.out.kp.size)
  clear y0 y1 y2 y3 l3 cm fm N3
  obtain ⟨W5, hW5⟩ : ∃ x, w4.setCell ⟨w2.heap.size, 1, none⟩ (.iface 261 (.agg #[.pointer (some ⟨b0, 0, none⟩)])) = x := ⟨_, rfl⟩
  rw [hW5] at N5 D5
  have l5 : (LDH ⟨w1.heap.size, 0, none⟩).run Tryz.prog W5.drew = .ok (.agg #[.int .u8 1, .int .i64 32, .int .i64 64, .int .u8 1, .int .i64 64, .func (.func 188) #[] #[], .func (.func 189) #[] #[]]) W5.drew := ldH (range0 (show Blk W5.drew w1.heap.size [.int .u8 1, .int .i64 32, .int .i64 64, .int .u8 1, .int .i64 64, .func (.func 188) #[] #[], .func (.func 189) #[] #[]] 184 from N5.out.h)) rfl
  rw [hW5]
  clear hW5
  go_upto_region 7 with fail
  go_region_held3 (fun W => (LDH ⟨w1.heap.size, 0, none⟩).run Tryz.prog W = .ok (.agg #[.int .u8 1, .int .i64 32, .int .i64 64, .int .u8 1, .int .i64 64, .func (.func 188) #[] #[], .func (.func 189) #[] #[]]) W) (assumption) (first
    | (go_at_call 142; go_must (refine (nsBegun256 (N5.out.below (below_drewN W5 1)) 92 HK.out HL.out hS0 hS1 KP1.out (by omega)).mono ?_; rintro e w6 ⟨b1, hb1, rfl, hd1, hn6, hkl⟩; have Z1 := hid (show W5.heap.size ≤ b1 from hb1); have N7 := hid (hn6.set 2 (.iface 261 (.agg #[.pointer (some ⟨b1, 0, none⟩)]))); have D7 := hid (hn6.isd hd1 2 (.iface 261 (.agg #[.pointer (some ⟨b1, 0, none⟩)]))); have D6 := hid (hn6.isd (hkl.isd (D5.out.below (below_drewN W5 1))) 2 (.iface 261 (.agg #[.pointer (some ⟨b1, 0, none⟩)]))); have y0 : (LDH ⟨w1.heap.size, 0, none⟩).run Tryz.prog w6 = .ok (.agg #[.int .u8 1, .int .i64 32, .int .i64 64, .int .u8 1, .int .i64 64, .func (.func 188) #[] #[], .func (.func 189) #[] #[]]) w6 := ldH (range0 hn6.h) rfl; have y3 : (LDH ⟨w1.heap.size, 0, none⟩).run Tryz.prog (w6.setCell ⟨w2.heap.size, 2, none⟩ (.iface 261 (.agg #[.pointer (some ⟨b1, 0, none⟩)]))) = .ok (.agg #[.int .u8 1, .int .i64 32, .int .i64 64, .int .u8 1, .int .i64 64, .func (.func 188) #[] #[], .func (.func 189) #[] #[]]) (w6.setCell ⟨w2.heap.size, 2, none⟩ (.iface 261 (.agg #[.pointer (some ⟨b1, 0, none⟩)]))) := ldH (range0 N7.out.h) rfl; have y1 := hn6.m.cell 2 _ rfl; have y2 := hn6.m.frozen 2; clear hd1 hn6 hkl hb1)))
  have z5 := hid (show w.heap.size ≤ W5.heap.size from N5.out.kp.size)
  clear y0 y1 y2 y3 l5 N5
  have lt0 := hid (show b0 < W5.heap.size by obtain ⟨cs, hc⟩ := D5.out.blk; exact hc.lt)
  clear D5
  obtain ⟨W7, hW7⟩ : ∃ x, w6.setCell ⟨w2.heap.size, 2, none⟩ (.iface 261 (.agg #[.pointer (some ⟨b1, 0, none⟩)])) = x := ⟨_, rfl⟩
  rw [hW7] at N7 D7 D6
  rw [hW7]
  clear hW7
  go_upto_region 8 with fail
  have x1 : W7.cell? ⟨w2.heap.size, 1, none⟩ = some (.iface 261 (.agg #[.pointer (some ⟨b0, 0, none⟩)])) := N7.out.m.cell 1 _ rfl
  go_region_held3 (fun W => W.cell? ⟨w2.heap.size, 1, none⟩ = some (.iface 261 (.agg #[.pointer (some ⟨b0, 0, none⟩)]))) (first | assumption | go_keep) (first
    | (go_at_call 335; go_must (refine (copyC256 b0 _ _ _ (D6.out.below (below_drewN W7 1))).mono ?_; rintro e w8 ⟨b2, hb2, rfl, hd2, hb8⟩; have Z2 := hid (show W7.heap.size ≤ b2 from hb2); have n8 := (N7.out.below (below_drewN W7 1)).below hb8; have d0 := (D6.out.below (below_drewN W7 1)).below hb8; have d1 := (D7.out.below (below_drewN W7 1)).below hb8; have N9 := hid (n8.set 3 (.iface 261 (.agg #[.pointer (some ⟨b2, 0, none⟩)]))); have E0 := hid (n8.isd d0 3 (.iface 261 (.agg #[.pointer (some ⟨b2, 0, none⟩)]))); have E1 := hid (n8.isd d1 3 (.iface 261 (.agg #[.pointer (some ⟨b2, 0, none⟩)]))); have E2 := hid (n8.isd hd2 3 (.iface 261 (.agg #[.pointer (some ⟨b2, 0, none⟩)]))); have y1 : w8.cell? ⟨w2.heap.size, 1, none⟩ = some (.iface 261 (.agg #[.pointer (some ⟨b0, 0, none⟩)])) := n8.m.cell 1 _ rfl; have y4 : (w8.setCell ⟨w2.heap.size, 3, none⟩ (.iface 261 (.agg #[.pointer (some ⟨b2, 0, none⟩)]))).cell? ⟨w2.heap.size, 1, none⟩ = some (.iface 261 (.agg #[.pointer (some ⟨b0, 0, none⟩)])) := N9.out.m.cell 1 _ rfl; have y2 := n8.m.cell 3 _ rfl; have y3 := n8.m.frozen 3; clear n8 d0 d1 hd2 hb8 hb2)))
  have lt1 := hid (show b1 < W7.heap.size by obtain ⟨cs, hc⟩ := D7.out.blk; exact hc.lt)
  have lt2 := hid (show b0 < W7.heap.size by obtain ⟨cs, hc⟩ := D6.out.blk; exact hc.lt)
  have z7 := hid (show w.heap.size ≤ W7.heap.size from N7.out.kp.size)
  clear y1 y2 y3 y4 x1 N7 D7 D6
  go_wp2
  go_ret2
  exact ⟨_, b0, b1, b2, rfl, ⟨N9.out.m, E0.out.congr (inr_b nof_b) (fun i hi => (if_pos hi).symm), E1.out, E2.out, by have := lt0.out; have := Z1.out; show b0 ≠ b1; omega, by have := lt2.out; have := Z2.out; show b0 ≠ b2; omega, by have := lt1.out; have := Z2.out; show b1 ≠ b2; omega, nof_b⟩, ⟨N9.out.zm, by have := z3.out; have := Z0.out; omega, by have := z5.out; have := Z1.out; omega, by have := z7.out; have := Z2.out; omega⟩, by have := N9.out.lg; rw [evs_add] at this; exact this, N9.out.kp⟩
theorem nsBegun512 {S : Nat → Prop} {w W : World} {lo : Option Nat} {L L0 : List Rn} {hb mb : Nat} {cs : List Value} {ua : Option Addr} {uc : Nat} {K : Nat → Int} (h : NS true S w lo L hb mb cs (.slice ua 128 uc) K W) (x : Int) (hk : KT w) (hl0 : LG S w w lo L0) (hS0 : ¬ S 1) (hS1 : ¬ S 3) (hp : Pos L) (hroom : tq L ≤ 4399500000000) :
    Calls Tryz.prog 142 #[lpv lo, .agg #[.int .u8 2, .int .i64 64, .int .i64 128, .int .u8 2, .int .i64 128, .func (.func 190) #[] #[], .func (.func 191) #[] #[]], .slice ua 128 uc, .int .u8 x] W fun e w' => ∃ b, W.heap.size ≤ b ∧ e = .returned (.iface 266 (.agg #[.pointer (some ⟨b, 0, none⟩)])) ∧ IsD w' b true (some (128, msk x K)) ∧ NS true S w lo (evs true L 1) hb mb cs (.slice ua 128 uc) K w' ∧ Kl W w' := by
  obtain ⟨T, l1, hT, hTS⟩ := LG.own h.lg
  have hlt := hk.lt
  refine (begun512 ua uc x K lo L T W (hk.kept h.kp hS0 hS1) (fun e => hS0 (hTS 1 (by omega) e)) (fun e => hS1 (hTS 3 (by omega) e)) l1 hp h.u.reads hroom).mono ?_
  rintro e w' ⟨b, hb, rfl, hd, hl, hk'⟩
  have kl : Kl W w' := ⟨T, hk', hT⟩
  exact ⟨b, hb, rfl, hd, ⟨h.kp.trans hk' hTS, Sg.LG.back hl hl0 h.kp.size hTS, kl.blk h.h (by decide), kl.blk h.m (by decide), kl.own h.u, h.zm⟩, kl⟩
theorem copyC512 (b m : Nat) (f : Nat → Int) (w : World) (h : IsD w b true (some (m, f))) : Calls Tryz.prog 341 #[.agg #[.pointer (some ⟨b, 0, none⟩)]] w fun e w' => ∃ c, w.heap.size ≤ c ∧ e = .returned (.iface 266 (.agg #[.pointer (some ⟨c, 0, none⟩)])) ∧ IsD w' c true (some (m, f)) ∧ Below w.heap.size w w' := dcopy true b m f w h
set_option maxRecDepth 8000 in
set_option maxHeartbeats 4000000 in
theorem new512 (n : Nat) (v : Value) (g : Nat → Int) (lo : Option Nat) (L : List Rn) (S : Nat → Prop) (w : World) (hk : KT w) (hS0 : ¬ S 1) (hS1 : ¬ S 3) (hl : LG S w w lo L) (hp : Pos L)
    (hr : ∀ w', Kp S w w' → By.RB w' v n g) (hn : n ≤ 140737488353328) (hroom : tq L ≤ 2200000000000) :
    Calls Tryz.prog 115 #[lpv lo, .int .u8 2, v] w fun e w' => ∃ b b0 b1 b2, e = .returned (.tuple #[.pointer (some ⟨b, 0, none⟩), .int .i64 0]) ∧ IsMk w' b ⟨true, kb true n g, 0, nof, b0, b1, b2⟩ ∧ (w.heap.size ≤ b ∧ w.heap.size ≤ b0 ∧ w.heap.size ≤ b1 ∧ w.heap.size ≤ b2) ∧ LG S w w' lo (kev true L n) ∧ Kp S w w' := by
  have HR := hid hr
  have HL := hid hl
  have HK := hid hk
  have HP := hid hp
  have KP := hid (keP true hp n)
  have KT1 := keT true hp n hn (by omega)
  have KP1 := hid (evsP true KP.out 1)
  have KT2 := evsT true KP.out 1 (by omega)
  clear hr hl hk hp
  have nS : ∀ j, w.heap.size ≤ j → ¬ (S j ∧ j < w.heap.size) := fun j hj e => by have := e.2; omega
  go_enter Tryz.func115, Tryz.ntmps115
  go_wp2_with fail
  refine (of512 _).mono ?_
  rintro e w1 ⟨rfl, hb⟩
  obtain ⟨W1, hW1⟩ : ∃ x, w1.alloc (.cells #[.int .u8 2, .int .i64 64, .int .i64 128, .int .u8 2, .int .i64 128, .func (.func 190) #[] #[], .func (.func 191) #[] #[]] 184) = x := ⟨_, rfl⟩
  have b1 := hid (show Below w.heap.size w W1 from by rw [← hW1]; exact below_next hb (below_alloc w1 _))
  have h1 := hid (show Blk W1 w1.heap.size [.int .u8 2, .int .i64 64, .int .i64 128, .int .u8 2, .int .i64 128, .func (.func 190) #[] #[], .func (.func 191) #[] #[]] 184 from by rw [← hW1]; exact Sh.Blk.new w1 _ _)
  have z1 := hid hb.size
  have l1 := ldH (range0 h1.out) rfl
  clear hb
  go_wp2_with fail
  refine (blockKey512 n v g lo L (fun j => S j ∧ j < w.heap.size) W1 (HK.out.below b1.out) (fun e => hS0 e.1) (fun e => hS1 e.1) (HL.out.start b1.out (fun _ hi h => ⟨h, hi⟩)) HP.out (fun w' h' => HR.out w' ((Kp.of_below S b1.out).trans h' (fun _ _ e => e.1))) hn (by omega)).mono ?_
  rintro e w2 ⟨u, rfl, hu, hl2, hk2⟩
  have h2 := hid (h1.out.kept hk2 (nS _ z1.out))
  have c2 := h2.out.cell 1 _ rfl
  have N2 := hid (show Kp S w w2 ∧ LG S w w2 lo (ke true L n) ∧ By.Own w2 w.heap.size u 128 (kb true n g) from ⟨(Kp.of_below S b1.out).trans hk2 (fun _ _ e => e.1), Sg.LG.back hl2 HL.out b1.out.size (fun _ _ h => h.1), Sg.own_mono hu b1.out.size⟩)
  clear hu hl2 hk2 h1 l1 HR hW1
  obtain ⟨W3, hW3⟩ : ∃ x, w2.alloc (.cells #[.int .i64 64, .nilIface, .nilIface, .nilIface] 192) = x := ⟨_, rfl⟩
  have b3 : Below w2.heap.size w2 W3 := by rw [← hW3]; exact below_alloc w2 _
  have N3 := hid (show NS true S w lo (ke true L n) w1.heap.size w2.heap.size [.int .i64 64, .nilIface, .nilIface, .nilIface] u (kb true n g) W3 from ⟨N2.out.1.trans (Kp.of_below S b3) (fun _ _ e => e), N2.out.2.1.below b3, h2.out.below b3, (by rw [← hW3]; exact Sh.Blk.new w2 _ _), own_below N2.out.2.2 b3, N2.out.1.size⟩)
  clear N2 b3 h2
  obtain ⟨ua, uc, rfl⟩ := own_sl N3.out.u
  have l3 := ldH (range0 (show Blk W3.drew w1.heap.size [.int .u8 2, .int .i64 64, .int .i64 128, .int .u8 2, .int .i64 128, .func (.func 190) #[] #[], .func (.func 191) #[] #[]] 184 from N3.out.h)) rfl
  have cm := N3.out.m.cell 1 _ rfl
  have fm := N3.out.m.frozen 1
  go_upto_region 6 with fail
  go_region_held3 (fun W => (LDH ⟨w1.heap.size, 0, none⟩).run Tryz.prog W = .ok (.agg #[.int .u8 2, .int .i64 64, .int .i64 128, .int .u8 2, .int .i64 128, .func (.func 190) #[] #[], .func (.func 191) #[] #[]]) W) (assumption) (first
    | (go_at_call 142; go_must (refine (nsBegun512 (N3.out.below (below_drewN W3 1)) 54 HK.out HL.out hS0 hS1 KP.out (by omega)).mono ?_; rintro e w4 ⟨b0, hb0, rfl, hd0, hn4, hkl⟩; have Z0 := hid (show W3.heap.size ≤ b0 from hb0); have N5 := hid (hn4.set 1 (.iface 266 (.agg #[.pointer (some ⟨b0, 0, none⟩)]))); have D5 := hid (hn4.isd hd0 1 (.iface 266 (.agg #[.pointer (some ⟨b0, 0, none⟩)]))); have y0 : (LDH ⟨w1.heap.size, 0, none⟩).run Tryz.prog w4 = .ok (.agg #[.int .u8 2, .int .i64 64, .int .i64 128, .int .u8 2, .int .i64 128, .func (.func 190) #[] #[], .func (.func 191) #[] #[]]) w4 := ldH (range0 hn4.h) rfl; have y3 : (LDH ⟨w1.heap.size, 0, none⟩).run Tryz.prog (w4.setCell ⟨w2.heap.size, 1, none⟩ (.iface 266 (.agg #[.pointer (some ⟨b0, 0, none⟩)]))) = .ok (.agg #[.int .u8 2, .int .i64 64, .int .i64 128, .int .u8 2, .int .i64 128, .func (.func 190) #[] #[], .func (.func 191) #[] #[]]) (w4.setCell ⟨w2.heap.size, 1, none⟩ (.iface 266 (.agg #[.pointer (some ⟨b0, 0, none⟩)]))) := ldH (range0 N5.out.h) rfl; have y1 := hn4.m.cell 1 _ rfl; have y2 := hn4.m.frozen 1; clear hd0 hn4 hkl hb0)))
  have z3 := hid (show w.heap.size ≤ W3.heap.size from N3.out.kp.size)
  clear y0 y1 y2 y3 l3 cm fm N3
  obtain ⟨W5, hW5⟩ : ∃ x, w4.setCell ⟨w2.heap.size, 1, none⟩ (.iface 266 (.agg #[.pointer (some ⟨b0, 0, none⟩)])) = x := ⟨_, rfl⟩
  rw [hW5] at N5 D5
  have l5 : (LDH ⟨w1.heap.size, 0, none⟩).run Tryz.prog W5.drew = .ok (.agg #[.int .u8 2, .int .i64 64, .int .i64 128, .int .u8 2, .int .i64 128, .func (.func 190) #[] #[], .func (.func 191) #[] #[]]) W5.drew := ldH (range0 (show Blk W5.drew w1.heap.size [.int .u8 2, .int .i64 64, .int .i64 128, .int .u8 2, .int .i64 128, .func (.func 190) #[] #[], .func (.func 191) #[] #[]] 184 from N5.out.h)) rfl
  rw [hW5]
  clear hW5
  go_upto_region 7 with fail
  go_region_held3 (fun W => (LDH ⟨w1.heap.size, 0, none⟩).run Tryz.prog W = .ok (.agg #[.int .u8 2, .int .i64 64, .int .i64 128, .int .u8 2, .int .i64 128, .func (.func 190) #[] #[], .func (.func 191) #[] #[]]) W) (assumption) (first
    | (go_at_call 142; go_must (refine (nsBegun512 (N5.out.below (below_drewN W5 1)) 92 HK.out HL.out hS0 hS1 KP1.out (by omega)).mono ?_; rintro e w6 ⟨b1, hb1, rfl, hd1, hn6, hkl⟩; have Z1 := hid (show W5.heap.size ≤ b1 from hb1); have N7 := hid (hn6.set 2 (.iface 266 (.agg #[.pointer (some ⟨b1, 0, none⟩)]))); have D7 := hid (hn6.isd hd1 2 (.iface 266 (.agg #[.pointer (some ⟨b1, 0, none⟩)]))); have D6 := hid (hn6.isd (hkl.isd (D5.out.below (below_drewN W5 1))) 2 (.iface 266 (.agg #[.pointer (some ⟨b1, 0, none⟩)]))); have y0 : (LDH ⟨w1.heap.size, 0, none⟩).run Tryz.prog w6 = .ok (.agg #[.int .u8 2, .int .i64 64, .int .i64 128, .int .u8 2, .int .i64 128, .func (.func 190) #[] #[], .func (.func 191) #[] #[]]) w6 := ldH (range0 hn6.h) rfl; have y3 : (LDH ⟨w1.heap.size, 0, none⟩).run Tryz.prog (w6.setCell ⟨w2.heap.size, 2, none⟩ (.iface 266 (.agg #[.pointer (some ⟨b1, 0, none⟩)]))) = .ok (.agg #[.int .u8 2, .int .i64 64, .int .i64 128, .int .u8 2, .int .i64 128, .func (.func 190) #[] #[], .func (.func 191) #[] #[]]) (w6.setCell ⟨w2.heap.size, 2, none⟩ (.iface 266 (.agg #[.pointer (some ⟨b1, 0, none⟩)]))) := ldH (range0 N7.out.h) rfl; have y1 := hn6.m.cell 2 _ rfl; have y2 := hn6.m.frozen 2; clear hd1 hn6 hkl hb1)))
  have z5 := hid (show w.heap.size ≤ W5.heap.size from N5.out.kp.size)
  clear y0 y1 y2 y3 l5 N5
  have lt0 := hid (show b0 < W5.heap.size by obtain ⟨cs, hc⟩ := D5.out.blk; exact hc.lt)
  clear D5
  obtain ⟨W7, hW7⟩ : ∃ x, w6.setCell ⟨w2.heap.size, 2, none⟩ (.iface 266 (.agg #[.pointer (some ⟨b1, 0, none⟩)])) = x := ⟨_, rfl⟩
  rw [hW7] at N7 D7 D6
  rw [hW7]
  clear hW7
  go_upto_region 8 with fail
  have x1 : W7.cell? ⟨w2.heap.size, 1, none⟩ = some (.iface 266 (.agg #[.pointer (some ⟨b0, 0, none⟩)])) := N7.out.m.cell 1 _ rfl
  go_region_held3 (fun W => W.cell? ⟨w2.heap.size, 1, none⟩ = some (.iface 266 (.agg #[.pointer (some ⟨b0, 0, none⟩)]))) (first | assumption | go_keep) (first
    | (go_at_call 341; go_must (refine (copyC512 b0 _ _ _ (D6.out.below (below_drewN W7 1))).mono ?_; rintro e w8 ⟨b2, hb2, rfl, hd2, hb8⟩; have Z2 := hid (show W7.heap.size ≤ b2 from hb2); have n8 := (N7.out.below (below_drewN W7 1)).below hb8; have d0 := (D6.out.below (below_drewN W7 1)).below hb8; have d1 := (D7.out.below (below_drewN W7 1)).below hb8; have N9 := hid (n8.set 3 (.iface 266 (.agg #[.pointer (some ⟨b2, 0, none⟩)]))); have E0 := hid (n8.isd d0 3 (.iface 266 (.agg #[.pointer (some ⟨b2, 0, none⟩)]))); have E1 := hid (n8.isd d1 3 (.iface 266 (.agg #[.pointer (some ⟨b2, 0, none⟩)]))); have E2 := hid (n8.isd hd2 3 (.iface 266 (.agg #[.pointer (some ⟨b2, 0, none⟩)]))); have y1 : w8.cell? ⟨w2.heap.size, 1, none⟩ = some (.iface 266 (.agg #[.pointer (some ⟨b0, 0, none⟩)])) := n8.m.cell 1 _ rfl; have y4 : (w8.setCell ⟨w2.heap.size, 3, none⟩ (.iface 266 (.agg #[.pointer (some ⟨b2, 0, none⟩)]))).cell? ⟨w2.heap.size, 1, none⟩ = some (.iface 266 (.agg #[.pointer (some ⟨b0, 0, none⟩)])) := N9.out.m.cell 1 _ rfl; have y2 := n8.m.cell 3 _ rfl; have y3 := n8.m.frozen 3; clear n8 d0 d1 hd2 hb8 hb2)))
  have lt1 := hid (show b1 < W7.heap.size by obtain ⟨cs, hc⟩ := D7.out.blk; exact hc.lt)
  have lt2 := hid (show b0 < W7.heap.size by obtain ⟨cs, hc⟩ := D6.out.blk; exact hc.lt)
  have z7 := hid (show w.heap.size ≤ W7.heap.size from N7.out.kp.size)
  clear y1 y2 y3 y4 x1 N7 D7 D6
  go_wp2
  go_ret2
  exact ⟨_, b0, b1, b2, rfl, ⟨N9.out.m, E0.out.congr (inr_b nof_b) (fun i hi => (if_pos hi).symm), E1.out, E2.out, by have := lt0.out; have := Z1.out; show b0 ≠ b1; omega, by have := lt2.out; have := Z2.out; show b0 ≠ b2; omega, by have := lt1.out; have := Z2.out; show b1 ≠ b2; omega, nof_b⟩, ⟨N9.out.zm, by have := z3.out; have := Z0.out; omega, by have := z5.out; have := Z1.out; omega, by have := z7.out; have := Z2.out; omega⟩, by have := N9.out.lg; rw [evs_add] at this; exact this, N9.out.kp⟩
end Go.Proofs.YtpohogpkfdebdaaGreatDoor.Dg
