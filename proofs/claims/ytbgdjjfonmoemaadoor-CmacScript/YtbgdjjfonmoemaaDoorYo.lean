/- The document's round keys of a key. -/
import Derived.Test.YtbgdjjfonmoemaaDoorYn
import Derived.Deep.RegionHeld3
namespace Go.Proofs.YtbgdjjfonmoemaaDoor.Ae
open Go.ChangeShapes Go.WideShapes Go.ChangeAt Go.RowKit
open Go.Proofs.YtbgdjjfonmoemaaDoor.By Go.Proofs.YtbgdjjfonmoemaaDoor.Gf
open Go.Proofs.YtbgdjjfonmoemaaDoor.Kc (own_kept own_mono own8_type cat cat_bound wpList_cat below_grow)
set_option maxRecDepth 8000 in
set_option maxHeartbeats 16000000 in
theorem rof (k : Nat) (hk : k = 4 ∨ k = 6 ∨ k = 8) (key : Nat → Nat) (hkey : ∀ i, key i < 256) (kb ko kc : Nat) (w : World) (hcell : ∀ i, i < 4 * k → w.cell? ⟨kb, ko + i, none⟩ = some (.int .u8 (key i : Nat))) :
    Calls Tryd.prog 65 #[.slice (some ⟨kb, ko, none⟩) (4 * k) kc] w fun e w' => ∃ g wv, e = .returned (.pointer (some ⟨g, 0, none⟩)) ∧ w.heap.size ≤ g ∧ Blk w' g (wv :: bl 256 (cb box)) 126 ∧ OW w' w.heap.size wv (4 * (k + 7)) (wds k key (3 * k + 28)) ∧ Below w.heap.size w w' := by
  obtain ⟨i0, hi, hz0, hz1, hz2⟩ := info_parts info47
  have HC := hid hcell
  have hkb := block_lt_of_cell (hcell 0 (by omega))
  have HK := hid hkey
  have hk4 : 4 ≤ k := by omega
  have hk8 : k ≤ 8 := by omega
  have HKK := hid hk
  clear hcell hkey hk
  have hq2 : (4 * (k : Int)).tdiv 4 = (k : Int) := by rw [Int.tdiv_eq_ediv_of_nonneg (by omega)]; omega
  go_enter Tryd.func65, Tryd.ntmps65
  go_wp2_with fail
  refine (boxes1 w).mono ?_
  rintro e W1 ⟨rfl, hb1⟩
  have HB1 := hid hb1
  have hlen := bl_length 256 (cb box)
  clear hb1
  go_wp2_with fail
  rw [built_aes box]
  have G0 := hid (Blk.new W1 (.slice none 0 0 :: bl 256 (cb box)) 126)
  have HB2 := hid (below_next HB1.out (below_alloc W1 (.cells (Value.slice none 0 0 :: bl 256 (cb box)).toArray 126)))
  have hgA := hid (show w.heap.size ≤ W1.heap.size from HB1.out.size)
  obtain ⟨ga, ega⟩ : ∃ g, W1.heap.size = g := ⟨_, rfl⟩
  rw [ega] at G0 hgA
  rw [ega]
  generalize W1.alloc (.cells (Value.slice none 0 0 :: bl 256 (cb box)).toArray 126) = W2 at *
  clear ega
  go_loopw [5, 6, 7, 8] (fun pv i t j wr => ∃ (I : Nat) (wv : Value), I ≤ 4 * (k + 7) ∧ i = .int .i64 (I : Int) ∧ pv = .int .u8 ((pw ((I - 1) / k) : Nat) : Int) ∧ Blk wr ga (wv :: bl 256 (cb box)) 126 ∧ OW wr w.heap.size wv I (wds k key (I - k)) ∧ Below w.heap.size w wr) (fun _ i _ _ _ => 4 * k + 28 - (intOf i).toNat)
  case atStart =>
    refine ⟨0, .slice none 0 0, Nat.zero_le _, rfl, ?_, G0.out, World.ownsRow_nil _ _ _ _, HB2.out⟩
    rw [show (0 - 1) / k = 0 from Nat.zero_div _]
    rfl
  case round =>
    clear G0 HB2 HB1
    obtain ⟨I, wv, hI, rfl, rfl, g0, o0, hbel⟩ := hrel
    have G := hid g0
    have O := hid o0
    have HB := hid hbel
    clear g0 o0 hbel
    have HF := hid (wds_lt k key HK.out (I - k))
    have PV := hid (pw_lt ((I - 1) / k))
    by_cases hlt : I < 4 * (k + 7)
    · have hd0 : decide ((I : Int) < 4 * ((k : Int) + 7)) = true := decide_eq_true (by omega)
      by_cases hIk : I < k
      · have hd1 : decide ((I : Int) < (k : Int)) = true := decide_eq_true (by omega)
        have EP := hid (show pw ((I - 1) / k) = pw ((I + 1 - 1) / k) from by rw [Nat.div_eq_of_lt (show I - 1 < k by omega), Nat.div_eq_of_lt (show I + 1 - 1 < k by omega)])
        have WE := hid (show bl (4 * I) (cb (wds k key (I - k))) ++ bl 4 (cb (fun j => key (4 * I + j))) = bl (4 * (I + 1)) (cb (wds k key (I + 1 - k))) from by
          rw [show I - k = 0 from by omega, show I + 1 - k = 0 from by omega]
          exact wpush key key I _ (fun _ _ => rfl) (fun _ _ => rfl))
        have xx : ∀ j, j < 4 → wr.cell? ⟨kb, ko + (4 * I + j), none⟩ = some (.int .u8 ((key (4 * I + j) : Nat) : Int)) := fun j hj =>
          (HB.out.cell (p := ⟨kb, ko + (4 * I + j), none⟩) hkb).trans (HC.out (4 * I + j) (by omega))
        have x0 := xx 0 (by decide)
        have x1 := xx 1 (by decide)
        have x2 := xx 2 (by decide)
        have x3 := xx 3 (by decide)
        clear xx
        have H4 := hid (show bl 4 (cb (fun j => key (4 * I + j))) = [.int .u8 ((key (4 * I + 0) : Nat) : Int), .int .u8 ((key (4 * I + 1) : Nat) : Int), .int .u8 ((key (4 * I + 2) : Nat) : Int), .int .u8 ((key (4 * I + 3) : Nat) : Int)] from rfl)
        obtain ⟨y0, e0⟩ : ∃ y, key (4 * I + 0) = y := ⟨_, rfl⟩
        obtain ⟨y1, e1⟩ : ∃ y, key (4 * I + 1) = y := ⟨_, rfl⟩
        obtain ⟨y2, e2⟩ : ∃ y, key (4 * I + 2) = y := ⟨_, rfl⟩
        obtain ⟨y3, e3⟩ : ∃ y, key (4 * I + 3) = y := ⟨_, rfl⟩
        rw [e0] at x0 H4
        rw [e1] at x1 H4
        rw [e2] at x2 H4
        rw [e3] at x3 H4
        rw [H4.out] at WE
        rw [Nat.add_zero] at x0
        clear e0 e1 e2 e3 H4
        obtain ⟨wa, wc, ewv⟩ := O.out.slice
        subst ewv
        have OA := hid (O.out.below (below_alloc wr (.cells #[.int .u8 (y0 : Int), .int .u8 (y1 : Int), .int .u8 (y2 : Int), .int .u8 (y3 : Int)] 100)))
        have GA := hid (G.out.alloc (.cells #[.int .u8 (y0 : Int), .int .u8 (y1 : Int), .int .u8 (y2 : Int), .int .u8 (y3 : Int)] 100))
        have HBA := hid (below_next HB.out (below_alloc wr (.cells #[.int .u8 (y0 : Int), .int .u8 (y1 : Int), .int .u8 (y2 : Int), .int .u8 (y3 : Int)] 100)))
        have q3 : Hid (∀ u ∈ ([.int .u8 (y0 : Int), .int .u8 (y1 : Int), .int .u8 (y2 : Int), .int .u8 (y3 : Int)] : List Value), u.oneCell' = true) := fun u hu => by
          simp at hu
          rcases hu with rfl | rfl | rfl | rfl <;> rfl
        have q4 : Hid (∀ j u, ([.int .u8 (y0 : Int), .int .u8 (y1 : Int), .int .u8 (y2 : Int), .int .u8 (y3 : Int)] : List Value)[j]? = some u → (wr.alloc (.cells #[.int .u8 (y0 : Int), .int .u8 (y1 : Int), .int .u8 (y2 : Int), .int .u8 (y3 : Int)] 100)).cell? ((⟨wr.heap.size, 0, none⟩ : Addr).add j) = some u) := fun j u hj => by
          rw [By.add_plain, Nat.zero_add]; exact (Blk.newAt wr _ [.int .u8 (y0 : Int), .int .u8 (y1 : Int), .int .u8 (y2 : Int), .int .u8 (y3 : Int)] 100 _ rfl rfl).cell j _ hj
        have q5 : Hid (I + 1 ≤ maxLen) := by show I + 1 ≤ maxLen; simp only [maxLen]; omega
        have q6 : Hid ((I + 1) * 4 ≤ 140737488355328) := by show (I + 1) * 4 ≤ 140737488355328; omega
        have q7 := hid HBA.out.size
        have c0 := G.out.cell 0 _ rfl
        obtain ⟨J0, eJ0⟩ : ∃ J, 4 * I = J := ⟨_, rfl⟩
        obtain ⟨J1, eJ1⟩ : ∃ J, 4 * I + 1 = J := ⟨_, rfl⟩
        obtain ⟨J2, eJ2⟩ : ∃ J, 4 * I + 2 = J := ⟨_, rfl⟩
        obtain ⟨J3, eJ3⟩ : ∃ J, 4 * I + 3 = J := ⟨_, rfl⟩
        have i0' : (J0 : Int) < 4 * (k : Int) := by omega
        have i1' : (J1 : Int) < 4 * (k : Int) := by omega
        have i2' : (J2 : Int) < 4 * (k : Int) := by omega
        have i3' : (J3 : Int) < 4 * (k : Int) := by omega
        have v0 : IntKind.i64.wrap (4 * (I : Int)) = (J0 : Int) := by rw [IntKind.wrap_i64]; omega
        have v1 : IntKind.i64.wrap ((J0 : Int) + 1) = (J1 : Int) := by rw [IntKind.wrap_i64]; omega
        have v2 : IntKind.i64.wrap ((J0 : Int) + 2) = (J2 : Int) := by rw [IntKind.wrap_i64]; omega
        have v3 : IntKind.i64.wrap ((J0 : Int) + 3) = (J3 : Int) := by rw [IntKind.wrap_i64]; omega
        rw [eJ0] at x0
        rw [eJ1] at x1
        rw [eJ2] at x2
        rw [eJ3] at x3
        have KC : Hid (∀ w1, Below w.heap.size w w1 → w1.cell? ⟨kb, ko + J0, none⟩ = some (.int .u8 (y0 : Int)) ∧ w1.cell? ⟨kb, ko + J1, none⟩ = some (.int .u8 (y1 : Int)) ∧ w1.cell? ⟨kb, ko + J2, none⟩ = some (.int .u8 (y2 : Int)) ∧ w1.cell? ⟨kb, ko + J3, none⟩ = some (.int .u8 (y3 : Int))) := fun w1 hb1 => by
          have hw := HB.out
          refine ⟨?_, ?_, ?_, ?_⟩
          · exact ((hb1.cell (p := ⟨kb, ko + J0, none⟩) hkb).trans (hw.cell (p := ⟨kb, ko + J0, none⟩) hkb).symm).trans x0
          · exact ((hb1.cell (p := ⟨kb, ko + J1, none⟩) hkb).trans (hw.cell (p := ⟨kb, ko + J1, none⟩) hkb).symm).trans x1
          · exact ((hb1.cell (p := ⟨kb, ko + J2, none⟩) hkb).trans (hw.cell (p := ⟨kb, ko + J2, none⟩) hkb).symm).trans x2
          · exact ((hb1.cell (p := ⟨kb, ko + J3, none⟩) hkb).trans (hw.cell (p := ⟨kb, ko + J3, none⟩) hkb).symm).trans x3
        have hne1 : ¬ kb = ga := by have := hgA.out; omega
        have hne2 : ¬ ga = kb := by have := hgA.out; omega
        clear eJ0 eJ1 eJ2 eJ3
        have hnn1 := World.new_ne wr ⟨ga, 0, none⟩ (by rw [c0])
        have hnn3 : ¬ ga = wr.heap.size := by have := G.out.lt; omega
        have hnn4 : ¬ wr.heap.size = ga := fun e => hnn3 e.symm
        have c0A : (wr.alloc (.cells #[.int .u8 (y0 : Int), .int .u8 (y1 : Int), .int .u8 (y2 : Int), .int .u8 (y3 : Int)] 100)).cell? ⟨ga, 0, none⟩ = some (.slice wa I wc) := GA.out.cell 0 _ rfl
        have c0B : (wr.alloc (.cells #[.int .u8 (y0 : Int), .int .u8 (y1 : Int), .int .u8 (y2 : Int), .int .u8 (y3 : Int)] 100)).drew.cell? ⟨ga, 0, none⟩ = some (.slice wa I wc) := c0A
        have hnn2 := World.new_ne wr ⟨kb, ko + J0, none⟩ (by rw [x0])
        go_wp2_with fail
        have kA := KC.out _ HBA.out
        refine wp_region_noPanic ?_
        refine wp_region_held_drew (S := (fun W => W.cell? ⟨kb, ko + J0, none⟩ = some (.int .u8 (y0 : Int)) ∧ W.cell? ⟨kb, ko + J1, none⟩ = some (.int .u8 (y1 : Int)) ∧ W.cell? ⟨kb, ko + J2, none⟩ = some (.int .u8 (y2 : Int)) ∧ W.cell? ⟨kb, ko + J3, none⟩ = some (.int .u8 (y3 : Int)))) (by kernel_rfl) ⟨x0, x1, x2, x3⟩ (fun hHeld => ?_)
        refine wpAnyH_take (i := 0) (v := ?_) rfl (by kernel_rfl) (by kernel_rfl) (by kernel_rfl) (fun _ _ _ h => h) (Or.inl ⟨by rfl, ?_⟩) (by assumption) ?_
        rotate_left
        · (intro w hSw; (try dsimp only at hSw); go_simp; try (with_reducible rfl))
        try simp only [Act.put]
        refine wpAnyH_take (i := 1) (v := ?_) rfl (by kernel_rfl) (by kernel_rfl) (by kernel_rfl) (fun _ _ _ h => h) (Or.inl ⟨by rfl, ?_⟩) (by assumption) ?_
        rotate_left
        · (intro w hSw; (try dsimp only at hSw); go_simp; try (with_reducible rfl))
        try simp only [Act.put]
        refine wpAnyH_take (i := 2) (v := ?_) rfl (by kernel_rfl) (by kernel_rfl) (by kernel_rfl) (fun _ _ _ h => h) (Or.inl ⟨by rfl, ?_⟩) (by assumption) ?_
        rotate_left
        · (intro w hSw; (try dsimp only at hSw); go_simp; try (with_reducible rfl))
        try simp only [Act.put]
        refine wpAnyH_take (i := 3) (v := ?_) rfl (by kernel_rfl) (by kernel_rfl) (by kernel_rfl) (fun _ _ _ h => h) (Or.inl ⟨by rfl, ?_⟩) (by assumption) ?_
        rotate_left
        · (intro w hSw; (try dsimp only at hSw); go_simp; try (with_reducible rfl))
        try simp only [Act.put]
        refine wpAnyH_take (i := 5) (v := ?_) rfl (by kernel_rfl) (by kernel_rfl) (by kernel_rfl) (fun _ _ _ h => h) (Or.inl ⟨by rfl, ?_⟩) (by assumption) ?_
        rotate_left
        · (intro w hSw; (try dsimp only at hSw); go_simp; try (with_reducible rfl))
        try simp only [Act.put]
        refine wpAnyH_take (i := 6) (v := ?_) rfl (by kernel_rfl) (by kernel_rfl) (by kernel_rfl) (fun _ _ _ h => h) (Or.inl ⟨by rfl, ?_⟩) (by assumption) ?_
        rotate_left
        · (intro w hSw; (try dsimp only at hSw); go_simp; try (with_reducible rfl))
        try simp only [Act.put]
        refine wpAnyH_take (i := 7) (v := ?_) rfl (by kernel_rfl) (by kernel_rfl) (by kernel_rfl) (fun _ _ _ h => h) (Or.inl ⟨by rfl, ?_⟩) (by assumption) ?_
        rotate_left
        · (intro w hSw; (try dsimp only at hSw); go_simp; try (with_reducible rfl))
        try simp only [Act.put]
        refine wpAnyH_take (i := 8) (v := ?_) rfl (by kernel_rfl) (by kernel_rfl) (by kernel_rfl) (fun _ _ _ h => h) (Or.inl ⟨by rfl, ?_⟩) (by assumption) ?_
        rotate_left
        · (intro w hSw; (try dsimp only at hSw); go_simp; try (with_reducible rfl))
        try simp only [Act.put]
        refine wpAnyH_take (i := 9) (v := ?_) rfl (by kernel_rfl) (by kernel_rfl) (by kernel_rfl) (fun _ _ _ h => h) (Or.inl ⟨by rfl, ?_⟩) (by assumption) ?_
        rotate_left
        · (intro w hSw; (try dsimp only at hSw); go_simp; try (with_reducible rfl))
        try simp only [Act.put]
        refine wpAnyH_take (i := 10) (v := ?_) rfl (by kernel_rfl) (by kernel_rfl) (by kernel_rfl) (fun _ _ _ h => h) (Or.inl ⟨by rfl, ?_⟩) (by assumption) ?_
        rotate_left
        · (intro w hSw; (try dsimp only at hSw); go_simp; try (with_reducible rfl))
        try simp only [Act.put]
        refine wpAnyH_take (i := 11) (v := ?_) rfl (by kernel_rfl) (by kernel_rfl) (by kernel_rfl) (fun _ _ _ h => h) (Or.inl ⟨by rfl, ?_⟩) (by assumption) ?_
        rotate_left
        · (intro w hSw; (try dsimp only at hSw); go_simp; try (with_reducible rfl))
        try simp only [Act.put]
        refine wpAnyH_take (i := 12) (v := ?_) rfl (by kernel_rfl) (by kernel_rfl) (by kernel_rfl) (fun _ _ _ h => h) (Or.inl ⟨by rfl, ?_⟩) (by assumption) ?_
        rotate_left
        · (intro w hSw; (try dsimp only at hSw); go_simp; try (with_reducible rfl))
        try simp only [Act.put]
        refine wpAnyH_take (i := 13) (v := ?_) rfl (by kernel_rfl) (by kernel_rfl) (by kernel_rfl) (fun _ _ _ h => h) (Or.inl ⟨by rfl, ?_⟩) (by assumption) ?_
        rotate_left
        · (intro w hSw; (try dsimp only at hSw); go_simp; try (with_reducible rfl))
        try simp only [Act.put]
        refine wpAnyH_take (i := 14) (v := ?_) rfl (by kernel_rfl) (by kernel_rfl) (by kernel_rfl) (fun _ _ _ h => h) (Or.inl ⟨by rfl, ?_⟩) (by assumption) ?_
        rotate_left
        · (intro w hSw; (try dsimp only at hSw); go_simp; try (with_reducible rfl))
        try simp only [Act.put]
        refine wpAnyH_take (i := 15) (v := ?_) rfl (by kernel_rfl) (by kernel_rfl) (by kernel_rfl) (fun _ _ _ h => h) (Or.inl ⟨by rfl, ?_⟩) (by assumption) ?_
        rotate_left
        · (intro w hSw; (try dsimp only at hSw); go_simp; try (with_reducible rfl))
        try simp only [Act.put]
        refine wpAnyH_take (i := 16) (v := ?_) rfl (by kernel_rfl) (by kernel_rfl) (by kernel_rfl) (fun _ _ _ h => h) (Or.inl ⟨by rfl, ?_⟩) (by assumption) ?_
        rotate_left
        · (intro w hSw; (try dsimp only at hSw); go_simp; try (with_reducible rfl))
        try simp only [Act.put]
        refine wpAnyH_take (i := 17) (v := ?_) rfl (by kernel_rfl) (by kernel_rfl) (by kernel_rfl) (fun _ _ _ h => h) (Or.inl ⟨by rfl, ?_⟩) (by assumption) ?_
        rotate_left
        · (intro w hSw; (try dsimp only at hSw); go_simp; try (with_reducible rfl))
        try simp only [Act.put]
        refine wpAnyH_take (i := 18) (v := ?_) rfl (by kernel_rfl) (by kernel_rfl) (by kernel_rfl) (fun _ _ _ h => h) (Or.inl ⟨by rfl, ?_⟩) (by assumption) ?_
        rotate_left
        · (intro w hSw; (try dsimp only at hSw); go_simp; try (with_reducible rfl))
        try simp only [Act.put]
        refine wpAnyH_take (i := 19) (v := ?_) rfl (by kernel_rfl) (by kernel_rfl) (by kernel_rfl) (fun _ _ _ h => h) (Or.inl ⟨by rfl, ?_⟩) (by assumption) ?_
        rotate_left
        · (intro w hSw; (try dsimp only at hSw); go_simp; try (with_reducible rfl))
        try simp only [Act.put]
        refine wpAnyH_take (i := 20) (v := ?_) rfl (by kernel_rfl) (by kernel_rfl) (by kernel_rfl) (fun _ _ _ h => h) (Or.inl ⟨by rfl, ?_⟩) (by assumption) ?_
        rotate_left
        · (intro w hSw; (try dsimp only at hSw); go_simp; try (with_reducible rfl))
        try simp only [Act.put]
        refine wpAnyH_take (i := 21) (v := ?_) rfl (by kernel_rfl) (by kernel_rfl) (by kernel_rfl) (fun _ _ _ h => h) (Or.inl ⟨by rfl, ?_⟩) (by assumption) ?_
        rotate_left
        · (intro w hSw; (try dsimp only at hSw); go_simp; try (with_reducible rfl))
        try simp only [Act.put]
        refine wpAnyH_take (i := 22) (v := ?_) rfl (by kernel_rfl) (by kernel_rfl) (by kernel_rfl) (fun _ _ _ h => h) (Or.inl ⟨by rfl, ?_⟩) (by assumption) ?_
        rotate_left
        · (intro w hSw; (try dsimp only at hSw); go_simp; try (with_reducible rfl))
        try simp only [Act.put]
        refine wpAnyH_take (i := 23) (v := ?_) rfl (by kernel_rfl) (by kernel_rfl) (by kernel_rfl) (fun _ _ _ h => h) (Or.inl ⟨by rfl, ?_⟩) (by assumption) ?_
        rotate_left
        · (intro w hSw; (try dsimp only at hSw); go_simp; try (with_reducible rfl))
        try simp only [Act.put]
        refine wpAnyH_take (i := 24) (v := ?_) rfl (by kernel_rfl) (by kernel_rfl) (by kernel_rfl) (fun _ _ _ h => h) (Or.inl ⟨by rfl, ?_⟩) (by assumption) ?_
        rotate_left
        · (intro w hSw; (try dsimp only at hSw); go_simp; try (with_reducible rfl))
        try simp only [Act.put]
        refine wpAnyH_take (i := 25) (v := ?_) rfl (by kernel_rfl) (by kernel_rfl) (by kernel_rfl) (fun _ _ _ h => h) (Or.inl ⟨by rfl, ?_⟩) (by assumption) ?_
        rotate_left
        · (intro w hSw; (try dsimp only at hSw); go_simp; try (with_reducible rfl))
        try simp only [Act.put]
        refine wpAnyH_take (i := 26) (v := ?_) rfl (by kernel_rfl) (by kernel_rfl) (by kernel_rfl) (fun _ _ _ h => h) (Or.inl ⟨by rfl, ?_⟩) (by assumption) ?_
        rotate_left
        · (intro w hSw; (try dsimp only at hSw); go_simp; try (with_reducible rfl))
        try simp only [Act.put]
        refine wpAnyH_take (i := 27) (v := ?_) rfl (by kernel_rfl) (by kernel_rfl) (by kernel_rfl) (fun _ _ _ h => h) (Or.inl ⟨by rfl, ?_⟩) (by assumption) ?_
        rotate_left
        · (intro w hSw; (try dsimp only at hSw); go_simp; try (with_reducible rfl))
        try simp only [Act.put]
        refine wpAnyH_take (i := 28) (v := ?_) rfl (by kernel_rfl) (by kernel_rfl) (by kernel_rfl) (fun _ _ _ h => h) (Or.inl ⟨by rfl, ?_⟩) (by assumption) ?_
        rotate_left
        · (intro w hSw; (try dsimp only at hSw); go_simp; try (with_reducible rfl))
        try simp only [Act.put]
        refine wpAnyH_ready (rs := [4, 29]) (by kernel_rfl) (by simp) ?_
        refine AllReadyH.cons rfl (fun K hK => ?_) (AllReadyH.cons rfl (fun K hK => ?_) AllReadyH.nil)
        · go_simp
          refine hK.out _ _ hHeld (fun hHeld => ?_)
          clear hK K
          try simp only [Act.put]
          refine wpAnyH_ready (rs := [29]) (by kernel_rfl) (by simp) ?_
          refine AllReadyH.cons rfl (fun K hK => ?_) AllReadyH.nil
          go_simp
          refine hK.out _ _ ⟨kA.1, kA.2.1, kA.2.2.1, kA.2.2.2⟩ (fun hHeld => ?_)
          clear hK K
          try simp only [Act.put]
          refine wpAnyH_ready (rs := [30]) (by kernel_rfl) (by simp) ?_
          refine AllReadyH.cons rfl (fun K hK => ?_) AllReadyH.nil
          refine step_append_lies _ rfl (.tmp 29) (.tmp 54) 116 rfl w.heap.size 100 i0 (.agg #[.int .u8 0, .int .u8 0, .int .u8 0, .int .u8 0]) 4 4 Tryd.underlying116 hi hz0 hz1 hz2 rfl (by decide) _ I (bl (4 * I) (cb (wds k key (I - k)))) rfl OA.out ⟨wr.heap.size, 0, none⟩ 1 1 [.int .u8 (y0 : Int), .int .u8 (y1 : Int), .int .u8 (y2 : Int), .int .u8 (y3 : Int)] rfl rfl q4.out q3.out (by decide) q5.out q6.out q7.out _ rfl ?_
          intro gq cq w1 hown hgrow hat hltq
          have BW := hid (below_own (below_dr HBA.out) HBA.out.size OA.out hgrow)
          have GW := hid (grown_blk GA.out OA.out hgrow)
          obtain ⟨kc2, kc3, kc4, kc5⟩ := KC.out w1 BW.out
          have kc1 := GW.out.cell 0 _ rfl
          have fz := GW.out.frozen 0
          have OWN := hid hown
          clear hown hgrow hat hltq
          refine hK.out _ _ ⟨kc2, kc3, kc4, kc5⟩ (fun hHeld => ?_)
          clear hK K
          try simp only [Act.put]
          refine wpAnyH_take (i := 31) (v := ?_) rfl (by kernel_rfl) (by kernel_rfl) (by kernel_rfl) (fun _ _ _ h => h) (Or.inl ⟨by rfl, ?_⟩) (by assumption) ?_
          rotate_left
          · (intro w hSw; (try dsimp only at hSw); go_simp; try (with_reducible rfl))
          try simp only [Act.put]
          refine wpAnyH_take (i := 32) (v := ?_) rfl (by kernel_rfl) (by kernel_rfl) (by kernel_rfl) (fun _ _ _ h => h) (Or.inl ⟨by rfl, ?_⟩) (by assumption) ?_
          rotate_left
          · (intro w hSw; (try dsimp only at hSw); go_simp; try (with_reducible rfl))
          try simp only [Act.put]
          refine wpAnyH_ready (rs := [33]) (by kernel_rfl) (by simp) ?_
          refine AllReadyH.cons rfl (fun K hK => ?_) AllReadyH.nil
          go_simp
          refine hK.out _ _ (by go_keep) (fun hHeld => ?_)
          clear hK K
          refine wpAnyH_done (by kernel_rfl) ?_ _
          refine NoPanic.normal ?_
          clear KC c0 c0A c0B x0 x1 x2 x3 v0 v1 v2 v3 i0' i1' i2' i3' q3 q4 q5 q6 q7 kc1 kc2 kc3 kc4 kc5 fz
          go_wp2_with fail
          obtain ⟨n1, n2, n3⟩ := wset BW.out hgA.out GW.out (show OW w1 w.heap.size (.slice (some ⟨gq, 0, none⟩) (I + 1) cq) (I + 1) (wds k key (I + 1 - k)) from by have h := OWN.out; rw [WE.out] at h; exact h)
          refine ⟨⟨I + 1, .slice (some ⟨gq, 0, none⟩) (I + 1) cq, by omega, by go_num, ?_, n1, n2, n3⟩, by simp [intOf]; omega⟩
          rw [EP.out]
        · go_simp
          refine hK.out _ _ ⟨kA.1, kA.2.1, kA.2.2.1, kA.2.2.2⟩ (fun hHeld => ?_)
          clear hK K
          try simp only [Act.put]
          refine wpAnyH_ready (rs := [4]) (by kernel_rfl) (by simp) ?_
          refine AllReadyH.cons rfl (fun K hK => ?_) AllReadyH.nil
          go_simp
          refine hK.out _ _ ⟨kA.1, kA.2.1, kA.2.2.1, kA.2.2.2⟩ (fun hHeld => ?_)
          clear hK K
          try simp only [Act.put]
          refine wpAnyH_ready (rs := [30]) (by kernel_rfl) (by simp) ?_
          refine AllReadyH.cons rfl (fun K hK => ?_) AllReadyH.nil
          refine step_append_lies _ rfl (.tmp 29) (.tmp 54) 116 rfl w.heap.size 100 i0 (.agg #[.int .u8 0, .int .u8 0, .int .u8 0, .int .u8 0]) 4 4 Tryd.underlying116 hi hz0 hz1 hz2 rfl (by decide) _ I (bl (4 * I) (cb (wds k key (I - k)))) rfl OA.out ⟨wr.heap.size, 0, none⟩ 1 1 [.int .u8 (y0 : Int), .int .u8 (y1 : Int), .int .u8 (y2 : Int), .int .u8 (y3 : Int)] rfl rfl q4.out q3.out (by decide) q5.out q6.out q7.out _ rfl ?_
          intro gq cq w1 hown hgrow hat hltq
          have BW := hid (below_own (below_dr HBA.out) HBA.out.size OA.out hgrow)
          have GW := hid (grown_blk GA.out OA.out hgrow)
          obtain ⟨kc2, kc3, kc4, kc5⟩ := KC.out w1 BW.out
          have kc1 := GW.out.cell 0 _ rfl
          have fz := GW.out.frozen 0
          have OWN := hid hown
          clear hown hgrow hat hltq
          refine hK.out _ _ ⟨kc2, kc3, kc4, kc5⟩ (fun hHeld => ?_)
          clear hK K
          try simp only [Act.put]
          refine wpAnyH_take (i := 31) (v := ?_) rfl (by kernel_rfl) (by kernel_rfl) (by kernel_rfl) (fun _ _ _ h => h) (Or.inl ⟨by rfl, ?_⟩) (by assumption) ?_
          rotate_left
          · (intro w hSw; (try dsimp only at hSw); go_simp; try (with_reducible rfl))
          try simp only [Act.put]
          refine wpAnyH_take (i := 32) (v := ?_) rfl (by kernel_rfl) (by kernel_rfl) (by kernel_rfl) (fun _ _ _ h => h) (Or.inl ⟨by rfl, ?_⟩) (by assumption) ?_
          rotate_left
          · (intro w hSw; (try dsimp only at hSw); go_simp; try (with_reducible rfl))
          try simp only [Act.put]
          refine wpAnyH_ready (rs := [33]) (by kernel_rfl) (by simp) ?_
          refine AllReadyH.cons rfl (fun K hK => ?_) AllReadyH.nil
          go_simp
          refine hK.out _ _ (by go_keep) (fun hHeld => ?_)
          clear hK K
          refine wpAnyH_done (by kernel_rfl) ?_ _
          refine NoPanic.normal ?_
          clear KC c0 c0A c0B x0 x1 x2 x3 v0 v1 v2 v3 i0' i1' i2' i3' q3 q4 q5 q6 q7 kc1 kc2 kc3 kc4 kc5 fz
          go_wp2_with fail
          obtain ⟨n1, n2, n3⟩ := wset BW.out hgA.out GW.out (show OW w1 w.heap.size (.slice (some ⟨gq, 0, none⟩) (I + 1) cq) (I + 1) (wds k key (I + 1 - k)) from by have h := OWN.out; rw [WE.out] at h; exact h)
          refine ⟨⟨I + 1, .slice (some ⟨gq, 0, none⟩) (I + 1) cq, by omega, by go_num, ?_, n1, n2, n3⟩, by simp [intOf]; omega⟩
          rw [EP.out]
      · have hd1 : decide ((I : Int) < (k : Int)) = false := decide_eq_false (by omega)
        have WN := hid (show ∀ p, wds k key (I + 1 - k) p = if p / 4 = I then nxt k I (wds k key (I - k)) (p % 4) else wds k key (I - k) p from fun p => by
          rw [show I + 1 - k = (I - k) + 1 from by omega]
          show (if p / 4 = k + (I - k) then nxt k (k + (I - k)) (wds k key (I - k)) (p % 4) else wds k key (I - k) p) = _
          rw [show k + (I - k) = I from by omega])
        have PN := hid (show pw (I / k) = if I % k = 0 then mul (pw ((I - 1) / k)) 2 else pw ((I - 1) / k) from pw_next k I (by omega) (by omega))
        have PE := hid (show I % k = 0 → I / k - 1 = (I - 1) / k from fun h => pw_ix k I (by omega) (by omega) h)
        obtain ⟨f, ef⟩ : ∃ f, wds k key (I - k) = f := ⟨_, rfl⟩
        rw [ef] at O HF WN
        have EF := hid ef
        clear ef
        obtain ⟨pv, epv⟩ : ∃ pv, pw ((I - 1) / k) = pv := ⟨_, rfl⟩
        rw [epv] at PN PV
        have EPV := hid epv
        rw [epv]
        clear epv
        obtain ⟨P, hP⟩ : ∃ P, I = P + 1 := ⟨I - 1, by omega⟩
        have hPi : (I : Int) - 1 = (P : Int) := by omega
        have HP := hid hP
        obtain ⟨Q, hQ⟩ : ∃ Q, I = Q + k := ⟨I - k, by omega⟩
        have hQi : (I : Int) - (k : Int) = (Q : Int) := by omega
        have HQ := hid hQ
        have hQw : IntKind.i64.wrap (Q : Int) = (Q : Int) := by rw [IntKind.wrap_i64]; omega
        have hPw : IntKind.i64.wrap (P : Int) = (P : Int) := by rw [IntKind.wrap_i64]; omega
        have hPI : (P : Int) < (I : Int) := by omega
        have hQI : (Q : Int) < (I : Int) := by omega
        have hPIn : P < I := by omega
        have hQIn : Q < I := by omega
        have hI60 : I < 60 := by omega
        have hk0 : ¬ (k : Int) = 0 := by omega
        have hR : (I : Int).tmod (k : Int) = ((I % k : Nat) : Int) := by rw [Int.tmod_eq_emod_of_nonneg (by omega)]; rfl
        obtain ⟨q, cap, ewv, hcap, hcell⟩ := O.out.at (by omega)
        subst ewv
        have OC := hid hcell
        have hqg : q ≠ ga := fun e => O.out.ne G.out (by decide) (by rw [← e]; rfl)
        have hqB := (O.out.row q rfl).2.1
        have hqA := (O.out.row q rfl).1
        have c0 := G.out.cell 0 _ rfl
        have hgL := G.out.lt
        have l1 := LDq_run (show wr.rangeAt q (P * 4) (bl 4 (cb (fun a => f (4 * P + a)))) from fun a v hv => by
          obtain ⟨ha, rfl⟩ := bl_get_inv _ _ _ _ hv
          rw [Nat.mul_comm P 4]
          exact OC.out (4 * P + a) (by omega)) (bl_length _ _)
        have N0 := hid (Blk.newAt wr _ _ 100 _ rfl zero4)
        have s1 := SVq_run (cs := bl 4 (cb (fun a => f (4 * P + a)))) (N0.out.there 0 4 (by rw [bl_length]; omega)) (bl_length _ _) (bl_one _ _)
        have QT := hid (show Blk _ wr.heap.size (bl 4 (cb (fun a => f (4 * P + a)))) 100 from by rw [← put_all (bl 4 (cb (fun _ => 0))) (bl 4 (cb (fun a => f (4 * P + a)))) (by rw [bl_length, bl_length])]; exact N0.out.put 0 (bl 4 (cb (fun a => f (4 * P + a)))))
        have K1 := hid ((Kp.of_below (fun k => k = wr.heap.size) (below_alloc wr (.cells (bl 4 (cb (fun _ => 0))).toArray 100))).trans (Kp.setCells wr.heap.size 0 (bl 4 (cb (fun a => f (4 * P + a))))) (fun _ _ e => e))
        rw [← zero4] at K1
        have QG := hid (G.out.kept K1.out (by omega))
        have QO := hid (O.out.kept K1.out (fun g hg e => by have := (O.out.row g hg).2.1; omega))
        have QB := hid (HB.out.trans (K1.out.below HB.out.size (fun k hk e => by omega)))
        have hzB : Hid (w.heap.size ≤ wr.heap.size) := HB.out.size
        generalize ((wr.alloc (Obj.cells #[Value.int IntKind.u8 0, Value.int IntKind.u8 0, Value.int IntKind.u8 0, Value.int IntKind.u8 0] 100)).setCells wr.heap.size 0 (bl 4 (cb fun a => f (4 * P + a)))) = W3 at *
        clear K1 N0 OC hcell hP hQ O G HB
        have ORow := hid (show ∀ g, (Value.slice (some ⟨q, 0, none⟩) I cap).ownBlock = some g → g < wr.heap.size from fun g hg => by simp [Value.ownBlock] at hg; omega)
        by_cases hA : I % k = 0
        · have NX := hid (show ∀ a, nxt k I f a = (box (f (4 * P + (a + 1) % 4)) ^^^ (if a = 0 then pv else 0)) ^^^ f (4 * Q + a) from fun a => by
            unfold nxt
            rw [if_pos hA, show I - k = Q from by have := HQ.out; omega, show I - 1 = P from by have := HP.out; omega, PE.out hA, EPV.out, Nat.xor_comm])
          have PVC := hid (show (if I % k = 0 then mul pv 2 else pv) = mul pv 2 from if_pos hA)
          rw [hA] at hR
          have hR0 : (I : Int).tmod (k : Int) = 0 := hR
          clear hR
          have BT : Hid (∀ a, a < 4 → (fun a => box (f (4 * P + (a + 1) % 4)) ^^^ (if a = 0 then pv else 0)) a < 256) := fun a _ => xor_lt _ _ (box_lt _) (by split; exact PV.out; decide)
          have RB := hid (show Calls Tryd.prog 82 #[.pointer (some ⟨ga, 0, none⟩), .agg #[.int .u8 ((f (4 * P + 1) : Nat) : Int), .int .u8 ((f (4 * P + 2) : Nat) : Int), .int .u8 ((f (4 * P + 3) : Nat) : Int), .int .u8 ((f (4 * P + 0) : Nat) : Int)]] W3 fun e w' => e = .returned (.agg (bl 4 (cb (fun a => box (f (4 * P + (a + 1) % 4))))).toArray) ∧ Below W3.heap.size W3 w' from
            rbox ga I (.slice (some ⟨q, 0, none⟩) I cap) f (fun a => f (4 * P + (a + 1) % 4)) (fun a _ => HF.out _) W3 ⟨QG.out, QO.out.base, HF.out⟩)
          have x0 := QT.out.cell 0 _ (bl_get 4 _ 0 (by decide))
          have x1 := QT.out.cell 1 _ (bl_get 4 _ 1 (by decide))
          have x2 := QT.out.cell 2 _ (bl_get 4 _ 2 (by decide))
          have x3 := QT.out.cell 3 _ (bl_get 4 _ 3 (by decide))
          change W3.cell? ⟨wr.heap.size, 0, none⟩ = some (.int .u8 ((f (4 * P + 0) : Nat) : Int)) at x0
          change W3.cell? ⟨wr.heap.size, 1, none⟩ = some (.int .u8 ((f (4 * P + 1) : Nat) : Int)) at x1
          change W3.cell? ⟨wr.heap.size, 2, none⟩ = some (.int .u8 ((f (4 * P + 2) : Nat) : Int)) at x2
          change W3.cell? ⟨wr.heap.size, 3, none⟩ = some (.int .u8 ((f (4 * P + 3) : Nat) : Int)) at x3
          obtain ⟨z0, e0⟩ : ∃ z, f (4 * P + 0) = z := ⟨_, rfl⟩
          obtain ⟨z1, e1⟩ : ∃ z, f (4 * P + 1) = z := ⟨_, rfl⟩
          obtain ⟨z2, e2⟩ : ∃ z, f (4 * P + 2) = z := ⟨_, rfl⟩
          obtain ⟨z3, e3⟩ : ∃ z, f (4 * P + 3) = z := ⟨_, rfl⟩
          rw [e0] at x0
          rw [e1] at x1
          rw [e2] at x2
          rw [e3] at x3
          rw [e0, e1, e2, e3] at RB
          clear e0 e1 e2 e3
          go_wp2_with fail
          refine RB.out.mono ?_
          rintro e W5 ⟨rfl, hb5⟩
          have T5 := hid (QT.out.below hb5)
          have s2 := SVq_run (cs := bl 4 (cb (fun a => box (f (4 * P + (a + 1) % 4))))) (T5.out.there 0 4 (by rw [bl_length]; omega)) (bl_length _ _) (bl_one _ _)
          have K2 := hid ((Kp.of_below (fun k => k = wr.heap.size) hb5).trans (Kp.setCells wr.heap.size 0 (bl 4 (cb (fun a => box (f (4 * P + (a + 1) % 4)))))) (fun _ _ e => e))
          have QT := hid (show Blk (W5.setCells wr.heap.size 0 (bl 4 (cb (fun a => box (f (4 * P + (a + 1) % 4)))))) wr.heap.size (bl 4 (cb (fun a => box (f (4 * P + (a + 1) % 4))))) 100 from by rw [← put_all (bl 4 (cb (fun a => f (4 * P + a)))) (bl 4 (cb (fun a => box (f (4 * P + (a + 1) % 4))))) (by rw [bl_length, bl_length])]; exact T5.out.put 0 _)
          have QG := hid (QG.out.kept K2.out (by omega))
          have QO := hid (QO.out.kept K2.out (fun g hg e => by have := ORow.out g hg; omega))
          have QB := hid (QB.out.trans (K2.out.below QB.out.size (fun k hk e => by have := hzB.out; omega)))
          clear hb5 T5 K2
          generalize W5.setCells wr.heap.size 0 (bl 4 (cb (fun a => box (f (4 * P + (a + 1) % 4))))) = W4 at *
          have y0 := QT.out.cell 0 _ (bl_get 4 _ 0 (by decide))
          have f0 := QT.out.frozen 0
          change W4.cell? ⟨wr.heap.size, 0, none⟩ = some (.int .u8 ((box (f (4 * P + 1)) : Nat) : Int)) at y0
          have hbx := box_lt (f (4 * P + 1))
          obtain ⟨z, ez⟩ : ∃ z, box (f (4 * P + 1)) = z := ⟨_, rfl⟩
          rw [ez] at y0 hbx
          have EZ := hid ez
          clear ez
          have hpv := PV.out
          have HX := hid (xor8 z pv hbx hpv)
          have MW : Hid (∀ V : World, Calls Tryd.prog 83 #[.int .u8 pv, .int .u8 2] V fun e w' => e = .returned (.int .u8 (mul pv 2 : Nat)) ∧ ∃ d, w' = V.drewN d) := fun V => paper_walk pv 2 V hpv (by decide)
          go_wp2_with (go_at_call 83; refine (MW.out _).mono ?_; rintro e w' ⟨rfl, d, rfl⟩)
          rw [HX.out]
          have QT := hid (show Blk ((W4.setCell ⟨wr.heap.size, 0, none⟩ (.int .u8 ((z ^^^ pv : Nat) : Int))).drewN d) wr.heap.size (bl 4 (cb (fun a => box (f (4 * P + (a + 1) % 4)) ^^^ (if a = 0 then pv else 0)))) 100 from by
            have b := QT.out.set 0 (.int .u8 ((z ^^^ pv : Nat) : Int))
            rw [bl_set] at b
            rw [bl_congr 4 (cb (fun a => box (f (4 * P + (a + 1) % 4)) ^^^ (if a = 0 then pv else 0))) (fun i => if i = 0 then ((z ^^^ pv : Nat) : Int) else cb (fun a => box (f (4 * P + (a + 1) % 4))) i) (fun i _ => by
              by_cases e : i = 0
              · subst e
                show (((box (f (4 * P + (0 + 1) % 4)) ^^^ (if (0 : Nat) = 0 then pv else 0) : Nat)) : Int) = if (0 : Nat) = 0 then ((z ^^^ pv : Nat) : Int) else _
                rw [if_pos rfl, if_pos rfl, ← EZ.out]
              · show (((box (f (4 * P + (i + 1) % 4)) ^^^ (if i = 0 then pv else 0) : Nat)) : Int) = if i = 0 then ((z ^^^ pv : Nat) : Int) else _
                rw [if_neg e, if_neg e, Nat.xor_zero])]
            exact b.drewN d)
          have K3 := hid ((Kp.setCell (w := W4) wr.heap.size 0 (.int .u8 ((z ^^^ pv : Nat) : Int))).trans (Kp.of_below (fun k => k = wr.heap.size) (below_drewN _ d)) (fun _ _ e => e))
          have QG := hid (QG.out.kept K3.out (by omega))
          have QO := hid (QO.out.kept K3.out (fun g hg e => by have := ORow.out g hg; omega))
          have QB := hid (QB.out.trans (K3.out.below QB.out.size (fun k hk e => by have := hzB.out; omega)))
          clear K3 y0 f0 x0 x1 x2 x3 s2 RB MW HX
          generalize (W4.setCell ⟨wr.heap.size, 0, none⟩ (.int .u8 ((z ^^^ pv : Nat) : Int))).drewN d = W6 at *
          clear l1 s1
          generalize wr.heap.size = gt at *
          go_loopw [8] (fun jv wq => ∃ J : Nat, J ≤ 4 ∧ jv = .int .i64 J ∧ Blk wq gt (bl 4 (cb (xo (fun a => f (4 * Q + a)) (fun a => box (f (4 * P + (a + 1) % 4)) ^^^ (if a = 0 then pv else 0)) J))) 100 ∧ Kp (fun x => x = gt) W6 wq) (fun jv _ => 4 - (intOf jv).toNat)
          case atStart => exact ⟨0, by omega, rfl, by rw [xo_zero]; exact QT.out, Kp.of_below _ (Below.refl _ _)⟩
          case round =>
            obtain ⟨J, hJ, rfl, b0, hkp⟩ := hrel
            have B0 := hid b0
            have HKP := hid hkp
            have QG := hid (QG.out.kept hkp (by omega))
            have QO := hid (QO.out.kept hkp (fun g hg e => by have := (ORow.out g hg); omega))
            have QB := hid (QB.out.trans (hkp.below QB.out.size (fun k hk e => by have := hzB.out; omega)))
            have c0 := QG.out.cell 0 _ rfl
            clear b0 hkp
            by_cases hJ4 : J < 4
            · have hdj : decide ((J : Int) < 4) = true := decide_eq_true (by omega)
              have x1 := B0.out.cell J _ (bl_get 4 _ J hJ4)
              have f1 := B0.out.frozen J
              rw [show cb (xo (fun a => f (4 * Q + a)) (fun a => box (f (4 * P + (a + 1) % 4)) ^^^ (if a = 0 then pv else 0)) J) J = (((fun a => box (f (4 * P + (a + 1) % 4)) ^^^ (if a = 0 then pv else 0)) J : Nat) : Int) from congrArg Nat.cast (xo_at _ _ J)] at x1
              obtain ⟨q', cap', e', hcap', hcell'⟩ := QO.out.at (by omega)
              obtain ⟨rfl, rfl⟩ : q' = q ∧ cap' = cap := by simp at e'; exact ⟨e'.1.symm, e'.2.symm⟩
              have x2 := hcell' (4 * Q + J) (by omega)
              have hx := BT.out J hJ4
              have hy := HF.out (4 * Q + J)
              have HS := hid (xo_set (fun a => f (4 * Q + a)) (fun a => box (f (4 * P + (a + 1) % 4)) ^^^ (if a = 0 then pv else 0)) J)
              obtain ⟨x, ex⟩ : ∃ x, (fun a => box (f (4 * P + (a + 1) % 4)) ^^^ (if a = 0 then pv else 0)) J = x := ⟨_, rfl⟩
              obtain ⟨y, ey⟩ : ∃ y, f (4 * Q + J) = y := ⟨_, rfl⟩
              simp only [] at ex
              rw [ex] at hx
              rw [show (((fun a => box (f (4 * P + (a + 1) % 4)) ^^^ (if a = 0 then pv else 0)) J : Nat) : Int) = (x : Int) from congrArg Nat.cast ex] at x1
              rw [ey] at x2 hy
              have HS2 : Hid ((bl 4 (cb (xo (fun a => f (4 * Q + a)) (fun a => box (f (4 * P + (a + 1) % 4)) ^^^ (if a = 0 then pv else 0)) J))).set J (.int .u8 ((x ^^^ y : Nat) : Int)) = bl 4 (cb (xo (fun a => f (4 * Q + a)) (fun a => box (f (4 * P + (a + 1) % 4)) ^^^ (if a = 0 then pv else 0)) (J + 1)))) := by
                have h := HS.out
                rw [show ((fun a => box (f (4 * P + (a + 1) % 4)) ^^^ (if a = 0 then pv else 0)) J ^^^ (fun a => f (4 * Q + a)) J : Nat) = x ^^^ y from by rw [← ex, ← ey]] at h
                exact h
              clear ex ey e' hcell' HS hcap'
              have HX := hid (xor8 x y hx hy)
              rw [show 4 * Q + J = Q * 4 + J from by omega] at x2
              have hJi : (J : Int) < 4 := by omega
              go_wp2_with fail
              go_region
              all_goals
                go_simp
                go_wp2_with fail
                refine ⟨⟨J + 1, by omega, by go_num, ?_, (HKP.out.trans (Kp.of_below _ (below_drewN _ 1)) (fun _ _ e => e)).trans (Kp.setCell _ _ _) (fun _ _ e => e)⟩, by simp [intOf]; omega⟩
                rw [HX.out, ← HS2.out]
                exact (B0.out.drewN 1).set _ _
            · have eJ : J = 4 := by omega
              subst eJ
              rw [xo_all] at B0
              have H4 := hid (show bl 4 (cb (fun a => (fun a => box (f (4 * P + (a + 1) % 4)) ^^^ (if a = 0 then pv else 0)) a ^^^ (fun a => f (4 * Q + a)) a)) = [.int .u8 (((fun a => box (f (4 * P + (a + 1) % 4)) ^^^ (if a = 0 then pv else 0)) 0 ^^^ f (4 * Q + 0) : Nat) : Int), .int .u8 (((fun a => box (f (4 * P + (a + 1) % 4)) ^^^ (if a = 0 then pv else 0)) 1 ^^^ f (4 * Q + 1) : Nat) : Int), .int .u8 (((fun a => box (f (4 * P + (a + 1) % 4)) ^^^ (if a = 0 then pv else 0)) 2 ^^^ f (4 * Q + 2) : Nat) : Int), .int .u8 (((fun a => box (f (4 * P + (a + 1) % 4)) ^^^ (if a = 0 then pv else 0)) 3 ^^^ f (4 * Q + 3) : Nat) : Int)] from rfl)
              have WE := hid (show bl (4 * I) (cb f) ++ bl 4 (cb (fun a => (fun a => box (f (4 * P + (a + 1) % 4)) ^^^ (if a = 0 then pv else 0)) a ^^^ (fun a => f (4 * Q + a)) a)) = bl (4 * (I + 1)) (cb (wds k key (I + 1 - k))) from
                wpush f (wds k key (I + 1 - k)) I _ (fun p hp => by rw [WN.out, if_neg (by omega)]) (fun a ha => by rw [WN.out, if_pos (by omega), show (4 * I + a) % 4 = a from by omega, NX.out a]))
              obtain ⟨y0, e0⟩ : ∃ y, ((fun a => box (f (4 * P + (a + 1) % 4)) ^^^ (if a = 0 then pv else 0)) 0 ^^^ f (4 * Q + 0) : Nat) = y := ⟨_, rfl⟩
              obtain ⟨y1, e1⟩ : ∃ y, ((fun a => box (f (4 * P + (a + 1) % 4)) ^^^ (if a = 0 then pv else 0)) 1 ^^^ f (4 * Q + 1) : Nat) = y := ⟨_, rfl⟩
              obtain ⟨y2, e2⟩ : ∃ y, ((fun a => box (f (4 * P + (a + 1) % 4)) ^^^ (if a = 0 then pv else 0)) 2 ^^^ f (4 * Q + 2) : Nat) = y := ⟨_, rfl⟩
              obtain ⟨y3, e3⟩ : ∃ y, ((fun a => box (f (4 * P + (a + 1) % 4)) ^^^ (if a = 0 then pv else 0)) 3 ^^^ f (4 * Q + 3) : Nat) = y := ⟨_, rfl⟩
              rw [e0, e1, e2, e3] at H4
              rw [H4.out] at WE B0
              clear e0 e1 e2 e3 H4
              have YS := hid (rfl : [Value.int .u8 (y0 : Int), .int .u8 (y1 : Int), .int .u8 (y2 : Int), .int .u8 (y3 : Int)] = [Value.int .u8 (y0 : Int), .int .u8 (y1 : Int), .int .u8 (y2 : Int), .int .u8 (y3 : Int)])
              have l5 : (LDq ⟨gt, 0, none⟩).run Tryd.prog wr = .ok (.agg #[.int .u8 (y0 : Int), .int .u8 (y1 : Int), .int .u8 (y2 : Int), .int .u8 (y3 : Int)]) wr := LDq_run (range0 B0.out) rfl
              have l6 : (LDq ⟨gt, 0, none⟩).run Tryd.prog wr.drew = .ok (.agg #[.int .u8 (y0 : Int), .int .u8 (y1 : Int), .int .u8 (y2 : Int), .int .u8 (y3 : Int)]) wr.drew := LDq_run (range0 (B0.out.drewN 1)) rfl
              have OA := hid (QO.out.below (below_alloc wr (.cells #[.int .u8 (y0 : Int), .int .u8 (y1 : Int), .int .u8 (y2 : Int), .int .u8 (y3 : Int)] 100)))
              have GA := hid (QG.out.alloc (.cells #[.int .u8 (y0 : Int), .int .u8 (y1 : Int), .int .u8 (y2 : Int), .int .u8 (y3 : Int)] 100))
              have HBA := hid (below_next QB.out (below_alloc wr (.cells #[.int .u8 (y0 : Int), .int .u8 (y1 : Int), .int .u8 (y2 : Int), .int .u8 (y3 : Int)] 100)))
              have q3 : Hid (∀ u ∈ ([.int .u8 (y0 : Int), .int .u8 (y1 : Int), .int .u8 (y2 : Int), .int .u8 (y3 : Int)] : List Value), u.oneCell' = true) := fun u hu => by
                simp at hu
                rcases hu with rfl | rfl | rfl | rfl <;> rfl
              have q4 : Hid (∀ j u, ([.int .u8 (y0 : Int), .int .u8 (y1 : Int), .int .u8 (y2 : Int), .int .u8 (y3 : Int)] : List Value)[j]? = some u → (wr.alloc (.cells #[.int .u8 (y0 : Int), .int .u8 (y1 : Int), .int .u8 (y2 : Int), .int .u8 (y3 : Int)] 100)).cell? ((⟨wr.heap.size, 0, none⟩ : Addr).add j) = some u) := fun j u hj => by
                rw [By.add_plain, Nat.zero_add]; exact (Blk.newAt wr _ [.int .u8 (y0 : Int), .int .u8 (y1 : Int), .int .u8 (y2 : Int), .int .u8 (y3 : Int)] 100 _ rfl rfl).cell j _ hj
              have q5 : Hid (I + 1 ≤ maxLen) := by show I + 1 ≤ maxLen; simp only [maxLen]; omega
              have q6 : Hid ((I + 1) * 4 ≤ 140737488355328) := by show (I + 1) * 4 ≤ 140737488355328; omega
              have q7 := hid HBA.out.size
              have hgq := QG.out.lt
              have hnn3 : ¬ ga = wr.heap.size := by omega
              have hnn4 : ¬ wr.heap.size = ga := fun e => hnn3 e.symm
              have c0A : (wr.alloc (.cells #[.int .u8 (y0 : Int), .int .u8 (y1 : Int), .int .u8 (y2 : Int), .int .u8 (y3 : Int)] 100)).cell? ⟨ga, 0, none⟩ = some (.slice (some ⟨q, 0, none⟩) I cap) := GA.out.cell 0 _ rfl
              have c0B : (wr.alloc (.cells #[.int .u8 (y0 : Int), .int .u8 (y1 : Int), .int .u8 (y2 : Int), .int .u8 (y3 : Int)] 100)).drew.cell? ⟨ga, 0, none⟩ = some (.slice (some ⟨q, 0, none⟩) I cap) := c0A
              have hdj : decide ((4 : Int) < 4) = false := by decide
              go_wp2_with fail
              go_region_law (first | (refine step_append_lies _ rfl _ _ 116 rfl w.heap.size 100 i0 (.agg #[.int .u8 0, .int .u8 0, .int .u8 0, .int .u8 0]) 4 4 Tryd.underlying116 hi hz0 hz1 hz2 rfl (by decide) _ I (bl (4 * I) (cb f)) rfl OA.out ⟨wr.heap.size, 0, none⟩ 1 1 [.int .u8 (y0 : Int), .int .u8 (y1 : Int), .int .u8 (y2 : Int), .int .u8 (y3 : Int)] rfl rfl q4.out q3.out (by decide) q5.out q6.out q7.out _ rfl ?_; intro gq cq w1 hown hgrow hat hltq; have BW := hid (below_own (below_dr HBA.out) HBA.out.size OA.out hgrow); have GW := hid (grown_blk GA.out OA.out hgrow); have kc1 := GW.out.cell 0 _ rfl; have fz := GW.out.frozen 0; have OWN := hid hown; clear hown hgrow hat hltq))
              all_goals
                clear c0A c0B q3 q4 q5 q6 q7 kc1 fz l5 l6
                go_wp2_with fail
                obtain ⟨n1, n2, n3⟩ := wset BW.out hgA.out GW.out (show OW w1 w.heap.size (.slice (some ⟨gq, 0, none⟩) (I + 1) cq) (I + 1) (wds k key (I + 1 - k)) from by have h := OWN.out; rw [WE.out] at h; exact h)
                refine ⟨⟨I + 1, .slice (some ⟨gq, 0, none⟩) (I + 1) cq, by omega, by go_num, ?_, n1, n2, n3⟩, by simp [intOf]; omega⟩
                rw [show I + 1 - 1 = I from rfl, PN.out, PVC.out]
        · have hnx := hid hA
          by_cases hB : k = 8 ∧ I % 8 = 4
          · have NX := hid (show ∀ a, nxt k I f a = box (f (4 * P + a)) ^^^ f (4 * Q + a) from fun a => by
              unfold nxt
              rw [if_neg hnx.out, if_pos hB, show I - k = Q from by have := HQ.out; omega, show I - 1 = P from by have := HP.out; omega, Nat.xor_comm])
            have PVC := hid (show (if I % k = 0 then mul pv 2 else pv) = pv from if_neg hnx.out)
            obtain ⟨R, eR⟩ : ∃ R, I % k = R := ⟨_, rfl⟩
            have hR4 : (R : Int) = 4 := by rw [← eR, hB.1, hB.2]; rfl
            rw [eR] at hR hA
            have hRi : ¬ (R : Int) = 0 := by omega
            have hd3 : decide ((R : Int) = 0) = false := decide_eq_false hRi
            have hd4 : ((R : Int) == 0) = false := by rw [beq_eq_false_iff_ne]; exact hRi
            have hj8 : (k : Int) = 8 := by omega
            have hd5 : ((k : Int) == 8) = true := by rw [beq_iff_eq]; exact hj8
            have hd6 : ((R : Int) == 4) = true := by rw [beq_iff_eq]; exact hR4
            have hd7 : decide ((k : Int) = 8) = true := decide_eq_true hj8
            have hd8 : decide ((R : Int) = 4) = true := decide_eq_true hR4
            have hR8 : (I : Int).tmod 8 = (R : Int) := by rw [← hj8]; exact hR
            clear eR hB hj8 hR4
            have BT : Hid (∀ a, a < 4 → (fun a => box (f (4 * P + a))) a < 256) := fun a _ => box_lt _
            have l3 := LDq_run (range0 QT.out) (bl_length _ _)
            go_wp2_with fail
            refine (rbox ga I (.slice (some ⟨q, 0, none⟩) I cap) f (fun a => f (4 * P + a)) (fun a _ => HF.out _) _ ⟨QG.out, QO.out.base, HF.out⟩).mono ?_
            rintro e W5 ⟨rfl, hb5⟩
            have T5 := hid (QT.out.below hb5)
            have s2 := SVq_run (cs := bl 4 (cb (fun a => box (f (4 * P + a))))) (T5.out.there 0 4 (by rw [bl_length]; omega)) (bl_length _ _) (bl_one _ _)
            have K2 := hid ((Kp.of_below (fun k => k = wr.heap.size) hb5).trans (Kp.setCells wr.heap.size 0 (bl 4 (cb (fun a => box (f (4 * P + a)))))) (fun _ _ e => e))
            have QT := hid (show Blk (W5.setCells wr.heap.size 0 (bl 4 (cb (fun a => box (f (4 * P + a)))))) wr.heap.size (bl 4 (cb (fun a => box (f (4 * P + a))))) 100 from by rw [← put_all (bl 4 (cb (fun a => f (4 * P + a)))) (bl 4 (cb (fun a => box (f (4 * P + a))))) (by rw [bl_length, bl_length])]; exact T5.out.put 0 _)
            have QG := hid (QG.out.kept K2.out (by omega))
            have QO := hid (QO.out.kept K2.out (fun g hg e => by have := ORow.out g hg; omega))
            have QB := hid (QB.out.trans (K2.out.below QB.out.size (fun k hk e => by have := hzB.out; omega)))
            clear hb5 T5
            generalize W5.setCells wr.heap.size 0 (bl 4 (cb (fun a => box (f (4 * P + a))))) = W4 at *
            go_wp2_with fail
            clear K2 l3 s2
            clear l1 s1
            generalize wr.heap.size = gt at *
            go_loopw [8] (fun jv wq => ∃ J : Nat, J ≤ 4 ∧ jv = .int .i64 J ∧ Blk wq gt (bl 4 (cb (xo (fun a => f (4 * Q + a)) (fun a => box (f (4 * P + a))) J))) 100 ∧ Kp (fun x => x = gt) W4 wq) (fun jv _ => 4 - (intOf jv).toNat)
            case atStart => exact ⟨0, by omega, rfl, by rw [xo_zero]; exact QT.out, Kp.of_below _ (Below.refl _ _)⟩
            case round =>
              obtain ⟨J, hJ, rfl, b0, hkp⟩ := hrel
              have B0 := hid b0
              have HKP := hid hkp
              have QG := hid (QG.out.kept hkp (by omega))
              have QO := hid (QO.out.kept hkp (fun g hg e => by have := (ORow.out g hg); omega))
              have QB := hid (QB.out.trans (hkp.below QB.out.size (fun k hk e => by have := hzB.out; omega)))
              have c0 := QG.out.cell 0 _ rfl
              clear b0 hkp
              by_cases hJ4 : J < 4
              · have hdj : decide ((J : Int) < 4) = true := decide_eq_true (by omega)
                have x1 := B0.out.cell J _ (bl_get 4 _ J hJ4)
                have f1 := B0.out.frozen J
                rw [show cb (xo (fun a => f (4 * Q + a)) (fun a => box (f (4 * P + a))) J) J = (((fun a => box (f (4 * P + a))) J : Nat) : Int) from congrArg Nat.cast (xo_at _ _ J)] at x1
                obtain ⟨q', cap', e', hcap', hcell'⟩ := QO.out.at (by omega)
                obtain ⟨rfl, rfl⟩ : q' = q ∧ cap' = cap := by simp at e'; exact ⟨e'.1.symm, e'.2.symm⟩
                have x2 := hcell' (4 * Q + J) (by omega)
                have hx := BT.out J hJ4
                have hy := HF.out (4 * Q + J)
                have HS := hid (xo_set (fun a => f (4 * Q + a)) (fun a => box (f (4 * P + a))) J)
                obtain ⟨x, ex⟩ : ∃ x, (fun a => box (f (4 * P + a))) J = x := ⟨_, rfl⟩
                obtain ⟨y, ey⟩ : ∃ y, f (4 * Q + J) = y := ⟨_, rfl⟩
                simp only [] at ex
                rw [ex] at hx
                rw [show (((fun a => box (f (4 * P + a))) J : Nat) : Int) = (x : Int) from congrArg Nat.cast ex] at x1
                rw [ey] at x2 hy
                have HS2 : Hid ((bl 4 (cb (xo (fun a => f (4 * Q + a)) (fun a => box (f (4 * P + a))) J))).set J (.int .u8 ((x ^^^ y : Nat) : Int)) = bl 4 (cb (xo (fun a => f (4 * Q + a)) (fun a => box (f (4 * P + a))) (J + 1)))) := by
                  have h := HS.out
                  rw [show ((fun a => box (f (4 * P + a))) J ^^^ (fun a => f (4 * Q + a)) J : Nat) = x ^^^ y from by rw [← ex, ← ey]] at h
                  exact h
                clear ex ey e' hcell' HS hcap'
                have HX := hid (xor8 x y hx hy)
                rw [show 4 * Q + J = Q * 4 + J from by omega] at x2
                have hJi : (J : Int) < 4 := by omega
                go_wp2_with fail
                go_region
                all_goals
                  go_simp
                  go_wp2_with fail
                  refine ⟨⟨J + 1, by omega, by go_num, ?_, (HKP.out.trans (Kp.of_below _ (below_drewN _ 1)) (fun _ _ e => e)).trans (Kp.setCell _ _ _) (fun _ _ e => e)⟩, by simp [intOf]; omega⟩
                  rw [HX.out, ← HS2.out]
                  exact (B0.out.drewN 1).set _ _
              · have eJ : J = 4 := by omega
                subst eJ
                rw [xo_all] at B0
                have H4 := hid (show bl 4 (cb (fun a => (fun a => box (f (4 * P + a))) a ^^^ (fun a => f (4 * Q + a)) a)) = [.int .u8 (((fun a => box (f (4 * P + a))) 0 ^^^ f (4 * Q + 0) : Nat) : Int), .int .u8 (((fun a => box (f (4 * P + a))) 1 ^^^ f (4 * Q + 1) : Nat) : Int), .int .u8 (((fun a => box (f (4 * P + a))) 2 ^^^ f (4 * Q + 2) : Nat) : Int), .int .u8 (((fun a => box (f (4 * P + a))) 3 ^^^ f (4 * Q + 3) : Nat) : Int)] from rfl)
                have WE := hid (show bl (4 * I) (cb f) ++ bl 4 (cb (fun a => (fun a => box (f (4 * P + a))) a ^^^ (fun a => f (4 * Q + a)) a)) = bl (4 * (I + 1)) (cb (wds k key (I + 1 - k))) from
                  wpush f (wds k key (I + 1 - k)) I _ (fun p hp => by rw [WN.out, if_neg (by omega)]) (fun a ha => by rw [WN.out, if_pos (by omega), show (4 * I + a) % 4 = a from by omega, NX.out a]))
                obtain ⟨y0, e0⟩ : ∃ y, ((fun a => box (f (4 * P + a))) 0 ^^^ f (4 * Q + 0) : Nat) = y := ⟨_, rfl⟩
                obtain ⟨y1, e1⟩ : ∃ y, ((fun a => box (f (4 * P + a))) 1 ^^^ f (4 * Q + 1) : Nat) = y := ⟨_, rfl⟩
                obtain ⟨y2, e2⟩ : ∃ y, ((fun a => box (f (4 * P + a))) 2 ^^^ f (4 * Q + 2) : Nat) = y := ⟨_, rfl⟩
                obtain ⟨y3, e3⟩ : ∃ y, ((fun a => box (f (4 * P + a))) 3 ^^^ f (4 * Q + 3) : Nat) = y := ⟨_, rfl⟩
                rw [e0, e1, e2, e3] at H4
                rw [H4.out] at WE B0
                clear e0 e1 e2 e3 H4
                have YS := hid (rfl : [Value.int .u8 (y0 : Int), .int .u8 (y1 : Int), .int .u8 (y2 : Int), .int .u8 (y3 : Int)] = [Value.int .u8 (y0 : Int), .int .u8 (y1 : Int), .int .u8 (y2 : Int), .int .u8 (y3 : Int)])
                have l5 : (LDq ⟨gt, 0, none⟩).run Tryd.prog wr = .ok (.agg #[.int .u8 (y0 : Int), .int .u8 (y1 : Int), .int .u8 (y2 : Int), .int .u8 (y3 : Int)]) wr := LDq_run (range0 B0.out) rfl
                have l6 : (LDq ⟨gt, 0, none⟩).run Tryd.prog wr.drew = .ok (.agg #[.int .u8 (y0 : Int), .int .u8 (y1 : Int), .int .u8 (y2 : Int), .int .u8 (y3 : Int)]) wr.drew := LDq_run (range0 (B0.out.drewN 1)) rfl
                have OA := hid (QO.out.below (below_alloc wr (.cells #[.int .u8 (y0 : Int), .int .u8 (y1 : Int), .int .u8 (y2 : Int), .int .u8 (y3 : Int)] 100)))
                have GA := hid (QG.out.alloc (.cells #[.int .u8 (y0 : Int), .int .u8 (y1 : Int), .int .u8 (y2 : Int), .int .u8 (y3 : Int)] 100))
                have HBA := hid (below_next QB.out (below_alloc wr (.cells #[.int .u8 (y0 : Int), .int .u8 (y1 : Int), .int .u8 (y2 : Int), .int .u8 (y3 : Int)] 100)))
                have q3 : Hid (∀ u ∈ ([.int .u8 (y0 : Int), .int .u8 (y1 : Int), .int .u8 (y2 : Int), .int .u8 (y3 : Int)] : List Value), u.oneCell' = true) := fun u hu => by
                  simp at hu
                  rcases hu with rfl | rfl | rfl | rfl <;> rfl
                have q4 : Hid (∀ j u, ([.int .u8 (y0 : Int), .int .u8 (y1 : Int), .int .u8 (y2 : Int), .int .u8 (y3 : Int)] : List Value)[j]? = some u → (wr.alloc (.cells #[.int .u8 (y0 : Int), .int .u8 (y1 : Int), .int .u8 (y2 : Int), .int .u8 (y3 : Int)] 100)).cell? ((⟨wr.heap.size, 0, none⟩ : Addr).add j) = some u) := fun j u hj => by
                  rw [By.add_plain, Nat.zero_add]; exact (Blk.newAt wr _ [.int .u8 (y0 : Int), .int .u8 (y1 : Int), .int .u8 (y2 : Int), .int .u8 (y3 : Int)] 100 _ rfl rfl).cell j _ hj
                have q5 : Hid (I + 1 ≤ maxLen) := by show I + 1 ≤ maxLen; simp only [maxLen]; omega
                have q6 : Hid ((I + 1) * 4 ≤ 140737488355328) := by show (I + 1) * 4 ≤ 140737488355328; omega
                have q7 := hid HBA.out.size
                have hgq := QG.out.lt
                have hnn3 : ¬ ga = wr.heap.size := by omega
                have hnn4 : ¬ wr.heap.size = ga := fun e => hnn3 e.symm
                have c0A : (wr.alloc (.cells #[.int .u8 (y0 : Int), .int .u8 (y1 : Int), .int .u8 (y2 : Int), .int .u8 (y3 : Int)] 100)).cell? ⟨ga, 0, none⟩ = some (.slice (some ⟨q, 0, none⟩) I cap) := GA.out.cell 0 _ rfl
                have c0B : (wr.alloc (.cells #[.int .u8 (y0 : Int), .int .u8 (y1 : Int), .int .u8 (y2 : Int), .int .u8 (y3 : Int)] 100)).drew.cell? ⟨ga, 0, none⟩ = some (.slice (some ⟨q, 0, none⟩) I cap) := c0A
                have hdj : decide ((4 : Int) < 4) = false := by decide
                go_wp2_with fail
                go_region_law (first | (refine step_append_lies _ rfl _ _ 116 rfl w.heap.size 100 i0 (.agg #[.int .u8 0, .int .u8 0, .int .u8 0, .int .u8 0]) 4 4 Tryd.underlying116 hi hz0 hz1 hz2 rfl (by decide) _ I (bl (4 * I) (cb f)) rfl OA.out ⟨wr.heap.size, 0, none⟩ 1 1 [.int .u8 (y0 : Int), .int .u8 (y1 : Int), .int .u8 (y2 : Int), .int .u8 (y3 : Int)] rfl rfl q4.out q3.out (by decide) q5.out q6.out q7.out _ rfl ?_; intro gq cq w1 hown hgrow hat hltq; have BW := hid (below_own (below_dr HBA.out) HBA.out.size OA.out hgrow); have GW := hid (grown_blk GA.out OA.out hgrow); have kc1 := GW.out.cell 0 _ rfl; have fz := GW.out.frozen 0; have OWN := hid hown; clear hown hgrow hat hltq))
                all_goals
                  clear c0A c0B q3 q4 q5 q6 q7 kc1 fz l5 l6
                  go_wp2_with fail
                  obtain ⟨n1, n2, n3⟩ := wset BW.out hgA.out GW.out (show OW w1 w.heap.size (.slice (some ⟨gq, 0, none⟩) (I + 1) cq) (I + 1) (wds k key (I + 1 - k)) from by have h := OWN.out; rw [WE.out] at h; exact h)
                  refine ⟨⟨I + 1, .slice (some ⟨gq, 0, none⟩) (I + 1) cq, by omega, by go_num, ?_, n1, n2, n3⟩, by simp [intOf]; omega⟩
                  rw [show I + 1 - 1 = I from rfl, PN.out, PVC.out]
          · have NX := hid (show ∀ a, nxt k I f a = f (4 * P + a) ^^^ f (4 * Q + a) from fun a => by
              unfold nxt
              rw [if_neg hnx.out, if_neg hB, show I - k = Q from by have := HQ.out; omega, show I - 1 = P from by have := HP.out; omega, Nat.xor_comm])
            have PVC := hid (show (if I % k = 0 then mul pv 2 else pv) = pv from if_neg hnx.out)
            obtain ⟨R, eR⟩ : ∃ R, I % k = R := ⟨_, rfl⟩
            have hB4 : ¬ (k = 8 ∧ R = 4) := fun h => hB ⟨h.1, by rw [← h.1, eR]; exact h.2⟩
            rw [eR] at hR hA
            have HB4 := hid hB4
            clear eR hB hB4
            have hRi : ¬ (R : Int) = 0 := by omega
            have hd3 : decide ((R : Int) = 0) = false := decide_eq_false hRi
            have hd4 : ((R : Int) == 0) = false := by rw [beq_eq_false_iff_ne]; exact hRi
            have BT : Hid (∀ a, a < 4 → (fun a => f (4 * P + a)) a < 256) := fun a _ => HF.out _
            by_cases h8 : k = 8
            · have h4 : ¬ (R : Int) = 4 := fun e => HB4.out ⟨h8, by omega⟩
              have hj8 : (k : Int) = 8 := by omega
              have hd5 : ((k : Int) == 8) = true := by rw [beq_iff_eq]; exact hj8
              have hd7 : decide ((k : Int) = 8) = true := decide_eq_true hj8
              have hR8 : (I : Int).tmod 8 = (R : Int) := by rw [← hj8]; exact hR
              clear h8 hj8
              have hd6 : ((R : Int) == 4) = false := by rw [beq_eq_false_iff_ne]; exact h4
              have hd8 : decide ((R : Int) = 4) = false := decide_eq_false h4
              go_wp2_with fail
              clear l1 s1
              generalize wr.heap.size = gt at *
              go_loopw [8] (fun jv wq => ∃ J : Nat, J ≤ 4 ∧ jv = .int .i64 J ∧ Blk wq gt (bl 4 (cb (xo (fun a => f (4 * Q + a)) (fun a => f (4 * P + a)) J))) 100 ∧ Kp (fun x => x = gt) W3 wq) (fun jv _ => 4 - (intOf jv).toNat)
              case atStart => exact ⟨0, by omega, rfl, by rw [xo_zero]; exact QT.out, Kp.of_below _ (Below.refl _ _)⟩
              case round =>
                obtain ⟨J, hJ, rfl, b0, hkp⟩ := hrel
                have B0 := hid b0
                have HKP := hid hkp
                have QG := hid (QG.out.kept hkp (by omega))
                have QO := hid (QO.out.kept hkp (fun g hg e => by have := (ORow.out g hg); omega))
                have QB := hid (QB.out.trans (hkp.below QB.out.size (fun k hk e => by have := hzB.out; omega)))
                have c0 := QG.out.cell 0 _ rfl
                clear b0 hkp
                by_cases hJ4 : J < 4
                · have hdj : decide ((J : Int) < 4) = true := decide_eq_true (by omega)
                  have x1 := B0.out.cell J _ (bl_get 4 _ J hJ4)
                  have f1 := B0.out.frozen J
                  rw [show cb (xo (fun a => f (4 * Q + a)) (fun a => f (4 * P + a)) J) J = (((fun a => f (4 * P + a)) J : Nat) : Int) from congrArg Nat.cast (xo_at _ _ J)] at x1
                  obtain ⟨q', cap', e', hcap', hcell'⟩ := QO.out.at (by omega)
                  obtain ⟨rfl, rfl⟩ : q' = q ∧ cap' = cap := by simp at e'; exact ⟨e'.1.symm, e'.2.symm⟩
                  have x2 := hcell' (4 * Q + J) (by omega)
                  have hx := BT.out J hJ4
                  have hy := HF.out (4 * Q + J)
                  have HS := hid (xo_set (fun a => f (4 * Q + a)) (fun a => f (4 * P + a)) J)
                  obtain ⟨x, ex⟩ : ∃ x, (fun a => f (4 * P + a)) J = x := ⟨_, rfl⟩
                  obtain ⟨y, ey⟩ : ∃ y, f (4 * Q + J) = y := ⟨_, rfl⟩
                  simp only [] at ex
                  rw [ex] at hx
                  rw [show (((fun a => f (4 * P + a)) J : Nat) : Int) = (x : Int) from congrArg Nat.cast ex] at x1
                  rw [ey] at x2 hy
                  have HS2 : Hid ((bl 4 (cb (xo (fun a => f (4 * Q + a)) (fun a => f (4 * P + a)) J))).set J (.int .u8 ((x ^^^ y : Nat) : Int)) = bl 4 (cb (xo (fun a => f (4 * Q + a)) (fun a => f (4 * P + a)) (J + 1)))) := by
                    have h := HS.out
                    rw [show ((fun a => f (4 * P + a)) J ^^^ (fun a => f (4 * Q + a)) J : Nat) = x ^^^ y from by rw [← ex, ← ey]] at h
                    exact h
                  clear ex ey e' hcell' HS hcap'
                  have HX := hid (xor8 x y hx hy)
                  rw [show 4 * Q + J = Q * 4 + J from by omega] at x2
                  have hJi : (J : Int) < 4 := by omega
                  go_wp2_with fail
                  go_region
                  all_goals
                    go_simp
                    go_wp2_with fail
                    refine ⟨⟨J + 1, by omega, by go_num, ?_, (HKP.out.trans (Kp.of_below _ (below_drewN _ 1)) (fun _ _ e => e)).trans (Kp.setCell _ _ _) (fun _ _ e => e)⟩, by simp [intOf]; omega⟩
                    rw [HX.out, ← HS2.out]
                    exact (B0.out.drewN 1).set _ _
                · have eJ : J = 4 := by omega
                  subst eJ
                  rw [xo_all] at B0
                  have H4 := hid (show bl 4 (cb (fun a => (fun a => f (4 * P + a)) a ^^^ (fun a => f (4 * Q + a)) a)) = [.int .u8 (((fun a => f (4 * P + a)) 0 ^^^ f (4 * Q + 0) : Nat) : Int), .int .u8 (((fun a => f (4 * P + a)) 1 ^^^ f (4 * Q + 1) : Nat) : Int), .int .u8 (((fun a => f (4 * P + a)) 2 ^^^ f (4 * Q + 2) : Nat) : Int), .int .u8 (((fun a => f (4 * P + a)) 3 ^^^ f (4 * Q + 3) : Nat) : Int)] from rfl)
                  have WE := hid (show bl (4 * I) (cb f) ++ bl 4 (cb (fun a => (fun a => f (4 * P + a)) a ^^^ (fun a => f (4 * Q + a)) a)) = bl (4 * (I + 1)) (cb (wds k key (I + 1 - k))) from
                    wpush f (wds k key (I + 1 - k)) I _ (fun p hp => by rw [WN.out, if_neg (by omega)]) (fun a ha => by rw [WN.out, if_pos (by omega), show (4 * I + a) % 4 = a from by omega, NX.out a]))
                  obtain ⟨y0, e0⟩ : ∃ y, ((fun a => f (4 * P + a)) 0 ^^^ f (4 * Q + 0) : Nat) = y := ⟨_, rfl⟩
                  obtain ⟨y1, e1⟩ : ∃ y, ((fun a => f (4 * P + a)) 1 ^^^ f (4 * Q + 1) : Nat) = y := ⟨_, rfl⟩
                  obtain ⟨y2, e2⟩ : ∃ y, ((fun a => f (4 * P + a)) 2 ^^^ f (4 * Q + 2) : Nat) = y := ⟨_, rfl⟩
                  obtain ⟨y3, e3⟩ : ∃ y, ((fun a => f (4 * P + a)) 3 ^^^ f (4 * Q + 3) : Nat) = y := ⟨_, rfl⟩
                  rw [e0, e1, e2, e3] at H4
                  rw [H4.out] at WE B0
                  clear e0 e1 e2 e3 H4
                  have YS := hid (rfl : [Value.int .u8 (y0 : Int), .int .u8 (y1 : Int), .int .u8 (y2 : Int), .int .u8 (y3 : Int)] = [Value.int .u8 (y0 : Int), .int .u8 (y1 : Int), .int .u8 (y2 : Int), .int .u8 (y3 : Int)])
                  have l5 : (LDq ⟨gt, 0, none⟩).run Tryd.prog wr = .ok (.agg #[.int .u8 (y0 : Int), .int .u8 (y1 : Int), .int .u8 (y2 : Int), .int .u8 (y3 : Int)]) wr := LDq_run (range0 B0.out) rfl
                  have l6 : (LDq ⟨gt, 0, none⟩).run Tryd.prog wr.drew = .ok (.agg #[.int .u8 (y0 : Int), .int .u8 (y1 : Int), .int .u8 (y2 : Int), .int .u8 (y3 : Int)]) wr.drew := LDq_run (range0 (B0.out.drewN 1)) rfl
                  have OA := hid (QO.out.below (below_alloc wr (.cells #[.int .u8 (y0 : Int), .int .u8 (y1 : Int), .int .u8 (y2 : Int), .int .u8 (y3 : Int)] 100)))
                  have GA := hid (QG.out.alloc (.cells #[.int .u8 (y0 : Int), .int .u8 (y1 : Int), .int .u8 (y2 : Int), .int .u8 (y3 : Int)] 100))
                  have HBA := hid (below_next QB.out (below_alloc wr (.cells #[.int .u8 (y0 : Int), .int .u8 (y1 : Int), .int .u8 (y2 : Int), .int .u8 (y3 : Int)] 100)))
                  have q3 : Hid (∀ u ∈ ([.int .u8 (y0 : Int), .int .u8 (y1 : Int), .int .u8 (y2 : Int), .int .u8 (y3 : Int)] : List Value), u.oneCell' = true) := fun u hu => by
                    simp at hu
                    rcases hu with rfl | rfl | rfl | rfl <;> rfl
                  have q4 : Hid (∀ j u, ([.int .u8 (y0 : Int), .int .u8 (y1 : Int), .int .u8 (y2 : Int), .int .u8 (y3 : Int)] : List Value)[j]? = some u → (wr.alloc (.cells #[.int .u8 (y0 : Int), .int .u8 (y1 : Int), .int .u8 (y2 : Int), .int .u8 (y3 : Int)] 100)).cell? ((⟨wr.heap.size, 0, none⟩ : Addr).add j) = some u) := fun j u hj => by
                    rw [By.add_plain, Nat.zero_add]; exact (Blk.newAt wr _ [.int .u8 (y0 : Int), .int .u8 (y1 : Int), .int .u8 (y2 : Int), .int .u8 (y3 : Int)] 100 _ rfl rfl).cell j _ hj
                  have q5 : Hid (I + 1 ≤ maxLen) := by show I + 1 ≤ maxLen; simp only [maxLen]; omega
                  have q6 : Hid ((I + 1) * 4 ≤ 140737488355328) := by show (I + 1) * 4 ≤ 140737488355328; omega
                  have q7 := hid HBA.out.size
                  have hgq := QG.out.lt
                  have hnn3 : ¬ ga = wr.heap.size := by omega
                  have hnn4 : ¬ wr.heap.size = ga := fun e => hnn3 e.symm
                  have c0A : (wr.alloc (.cells #[.int .u8 (y0 : Int), .int .u8 (y1 : Int), .int .u8 (y2 : Int), .int .u8 (y3 : Int)] 100)).cell? ⟨ga, 0, none⟩ = some (.slice (some ⟨q, 0, none⟩) I cap) := GA.out.cell 0 _ rfl
                  have c0B : (wr.alloc (.cells #[.int .u8 (y0 : Int), .int .u8 (y1 : Int), .int .u8 (y2 : Int), .int .u8 (y3 : Int)] 100)).drew.cell? ⟨ga, 0, none⟩ = some (.slice (some ⟨q, 0, none⟩) I cap) := c0A
                  have hdj : decide ((4 : Int) < 4) = false := by decide
                  go_wp2_with fail
                  go_region_law (first | (refine step_append_lies _ rfl _ _ 116 rfl w.heap.size 100 i0 (.agg #[.int .u8 0, .int .u8 0, .int .u8 0, .int .u8 0]) 4 4 Tryd.underlying116 hi hz0 hz1 hz2 rfl (by decide) _ I (bl (4 * I) (cb f)) rfl OA.out ⟨wr.heap.size, 0, none⟩ 1 1 [.int .u8 (y0 : Int), .int .u8 (y1 : Int), .int .u8 (y2 : Int), .int .u8 (y3 : Int)] rfl rfl q4.out q3.out (by decide) q5.out q6.out q7.out _ rfl ?_; intro gq cq w1 hown hgrow hat hltq; have BW := hid (below_own (below_dr HBA.out) HBA.out.size OA.out hgrow); have GW := hid (grown_blk GA.out OA.out hgrow); have kc1 := GW.out.cell 0 _ rfl; have fz := GW.out.frozen 0; have OWN := hid hown; clear hown hgrow hat hltq))
                  all_goals
                    clear c0A c0B q3 q4 q5 q6 q7 kc1 fz l5 l6
                    go_wp2_with fail
                    obtain ⟨n1, n2, n3⟩ := wset BW.out hgA.out GW.out (show OW w1 w.heap.size (.slice (some ⟨gq, 0, none⟩) (I + 1) cq) (I + 1) (wds k key (I + 1 - k)) from by have h := OWN.out; rw [WE.out] at h; exact h)
                    refine ⟨⟨I + 1, .slice (some ⟨gq, 0, none⟩) (I + 1) cq, by omega, by go_num, ?_, n1, n2, n3⟩, by simp [intOf]; omega⟩
                    rw [show I + 1 - 1 = I from rfl, PN.out, PVC.out]
            · have hj8 : ¬ (k : Int) = 8 := by omega
              have hd5 : ((k : Int) == 8) = false := by rw [beq_eq_false_iff_ne]; exact hj8
              have hd7 : decide ((k : Int) = 8) = false := decide_eq_false hj8
              clear h8
              go_wp2_with fail
              clear l1 s1
              generalize wr.heap.size = gt at *
              go_loopw [8] (fun jv wq => ∃ J : Nat, J ≤ 4 ∧ jv = .int .i64 J ∧ Blk wq gt (bl 4 (cb (xo (fun a => f (4 * Q + a)) (fun a => f (4 * P + a)) J))) 100 ∧ Kp (fun x => x = gt) W3 wq) (fun jv _ => 4 - (intOf jv).toNat)
              case atStart => exact ⟨0, by omega, rfl, by rw [xo_zero]; exact QT.out, Kp.of_below _ (Below.refl _ _)⟩
              case round =>
                obtain ⟨J, hJ, rfl, b0, hkp⟩ := hrel
                have B0 := hid b0
                have HKP := hid hkp
                have QG := hid (QG.out.kept hkp (by omega))
                have QO := hid (QO.out.kept hkp (fun g hg e => by have := (ORow.out g hg); omega))
                have QB := hid (QB.out.trans (hkp.below QB.out.size (fun k hk e => by have := hzB.out; omega)))
                have c0 := QG.out.cell 0 _ rfl
                clear b0 hkp
                by_cases hJ4 : J < 4
                · have hdj : decide ((J : Int) < 4) = true := decide_eq_true (by omega)
                  have x1 := B0.out.cell J _ (bl_get 4 _ J hJ4)
                  have f1 := B0.out.frozen J
                  rw [show cb (xo (fun a => f (4 * Q + a)) (fun a => f (4 * P + a)) J) J = (((fun a => f (4 * P + a)) J : Nat) : Int) from congrArg Nat.cast (xo_at _ _ J)] at x1
                  obtain ⟨q', cap', e', hcap', hcell'⟩ := QO.out.at (by omega)
                  obtain ⟨rfl, rfl⟩ : q' = q ∧ cap' = cap := by simp at e'; exact ⟨e'.1.symm, e'.2.symm⟩
                  have x2 := hcell' (4 * Q + J) (by omega)
                  have hx := BT.out J hJ4
                  have hy := HF.out (4 * Q + J)
                  have HS := hid (xo_set (fun a => f (4 * Q + a)) (fun a => f (4 * P + a)) J)
                  obtain ⟨x, ex⟩ : ∃ x, (fun a => f (4 * P + a)) J = x := ⟨_, rfl⟩
                  obtain ⟨y, ey⟩ : ∃ y, f (4 * Q + J) = y := ⟨_, rfl⟩
                  simp only [] at ex
                  rw [ex] at hx
                  rw [show (((fun a => f (4 * P + a)) J : Nat) : Int) = (x : Int) from congrArg Nat.cast ex] at x1
                  rw [ey] at x2 hy
                  have HS2 : Hid ((bl 4 (cb (xo (fun a => f (4 * Q + a)) (fun a => f (4 * P + a)) J))).set J (.int .u8 ((x ^^^ y : Nat) : Int)) = bl 4 (cb (xo (fun a => f (4 * Q + a)) (fun a => f (4 * P + a)) (J + 1)))) := by
                    have h := HS.out
                    rw [show ((fun a => f (4 * P + a)) J ^^^ (fun a => f (4 * Q + a)) J : Nat) = x ^^^ y from by rw [← ex, ← ey]] at h
                    exact h
                  clear ex ey e' hcell' HS hcap'
                  have HX := hid (xor8 x y hx hy)
                  rw [show 4 * Q + J = Q * 4 + J from by omega] at x2
                  have hJi : (J : Int) < 4 := by omega
                  go_wp2_with fail
                  go_region
                  all_goals
                    go_simp
                    go_wp2_with fail
                    refine ⟨⟨J + 1, by omega, by go_num, ?_, (HKP.out.trans (Kp.of_below _ (below_drewN _ 1)) (fun _ _ e => e)).trans (Kp.setCell _ _ _) (fun _ _ e => e)⟩, by simp [intOf]; omega⟩
                    rw [HX.out, ← HS2.out]
                    exact (B0.out.drewN 1).set _ _
                · have eJ : J = 4 := by omega
                  subst eJ
                  rw [xo_all] at B0
                  have H4 := hid (show bl 4 (cb (fun a => (fun a => f (4 * P + a)) a ^^^ (fun a => f (4 * Q + a)) a)) = [.int .u8 (((fun a => f (4 * P + a)) 0 ^^^ f (4 * Q + 0) : Nat) : Int), .int .u8 (((fun a => f (4 * P + a)) 1 ^^^ f (4 * Q + 1) : Nat) : Int), .int .u8 (((fun a => f (4 * P + a)) 2 ^^^ f (4 * Q + 2) : Nat) : Int), .int .u8 (((fun a => f (4 * P + a)) 3 ^^^ f (4 * Q + 3) : Nat) : Int)] from rfl)
                  have WE := hid (show bl (4 * I) (cb f) ++ bl 4 (cb (fun a => (fun a => f (4 * P + a)) a ^^^ (fun a => f (4 * Q + a)) a)) = bl (4 * (I + 1)) (cb (wds k key (I + 1 - k))) from
                    wpush f (wds k key (I + 1 - k)) I _ (fun p hp => by rw [WN.out, if_neg (by omega)]) (fun a ha => by rw [WN.out, if_pos (by omega), show (4 * I + a) % 4 = a from by omega, NX.out a]))
                  obtain ⟨y0, e0⟩ : ∃ y, ((fun a => f (4 * P + a)) 0 ^^^ f (4 * Q + 0) : Nat) = y := ⟨_, rfl⟩
                  obtain ⟨y1, e1⟩ : ∃ y, ((fun a => f (4 * P + a)) 1 ^^^ f (4 * Q + 1) : Nat) = y := ⟨_, rfl⟩
                  obtain ⟨y2, e2⟩ : ∃ y, ((fun a => f (4 * P + a)) 2 ^^^ f (4 * Q + 2) : Nat) = y := ⟨_, rfl⟩
                  obtain ⟨y3, e3⟩ : ∃ y, ((fun a => f (4 * P + a)) 3 ^^^ f (4 * Q + 3) : Nat) = y := ⟨_, rfl⟩
                  rw [e0, e1, e2, e3] at H4
                  rw [H4.out] at WE B0
                  clear e0 e1 e2 e3 H4
                  have YS := hid (rfl : [Value.int .u8 (y0 : Int), .int .u8 (y1 : Int), .int .u8 (y2 : Int), .int .u8 (y3 : Int)] = [Value.int .u8 (y0 : Int), .int .u8 (y1 : Int), .int .u8 (y2 : Int), .int .u8 (y3 : Int)])
                  have l5 : (LDq ⟨gt, 0, none⟩).run Tryd.prog wr = .ok (.agg #[.int .u8 (y0 : Int), .int .u8 (y1 : Int), .int .u8 (y2 : Int), .int .u8 (y3 : Int)]) wr := LDq_run (range0 B0.out) rfl
                  have l6 : (LDq ⟨gt, 0, none⟩).run Tryd.prog wr.drew = .ok (.agg #[.int .u8 (y0 : Int), .int .u8 (y1 : Int), .int .u8 (y2 : Int), .int .u8 (y3 : Int)]) wr.drew := LDq_run (range0 (B0.out.drewN 1)) rfl
                  have OA := hid (QO.out.below (below_alloc wr (.cells #[.int .u8 (y0 : Int), .int .u8 (y1 : Int), .int .u8 (y2 : Int), .int .u8 (y3 : Int)] 100)))
                  have GA := hid (QG.out.alloc (.cells #[.int .u8 (y0 : Int), .int .u8 (y1 : Int), .int .u8 (y2 : Int), .int .u8 (y3 : Int)] 100))
                  have HBA := hid (below_next QB.out (below_alloc wr (.cells #[.int .u8 (y0 : Int), .int .u8 (y1 : Int), .int .u8 (y2 : Int), .int .u8 (y3 : Int)] 100)))
                  have q3 : Hid (∀ u ∈ ([.int .u8 (y0 : Int), .int .u8 (y1 : Int), .int .u8 (y2 : Int), .int .u8 (y3 : Int)] : List Value), u.oneCell' = true) := fun u hu => by
                    simp at hu
                    rcases hu with rfl | rfl | rfl | rfl <;> rfl
                  have q4 : Hid (∀ j u, ([.int .u8 (y0 : Int), .int .u8 (y1 : Int), .int .u8 (y2 : Int), .int .u8 (y3 : Int)] : List Value)[j]? = some u → (wr.alloc (.cells #[.int .u8 (y0 : Int), .int .u8 (y1 : Int), .int .u8 (y2 : Int), .int .u8 (y3 : Int)] 100)).cell? ((⟨wr.heap.size, 0, none⟩ : Addr).add j) = some u) := fun j u hj => by
                    rw [By.add_plain, Nat.zero_add]; exact (Blk.newAt wr _ [.int .u8 (y0 : Int), .int .u8 (y1 : Int), .int .u8 (y2 : Int), .int .u8 (y3 : Int)] 100 _ rfl rfl).cell j _ hj
                  have q5 : Hid (I + 1 ≤ maxLen) := by show I + 1 ≤ maxLen; simp only [maxLen]; omega
                  have q6 : Hid ((I + 1) * 4 ≤ 140737488355328) := by show (I + 1) * 4 ≤ 140737488355328; omega
                  have q7 := hid HBA.out.size
                  have hgq := QG.out.lt
                  have hnn3 : ¬ ga = wr.heap.size := by omega
                  have hnn4 : ¬ wr.heap.size = ga := fun e => hnn3 e.symm
                  have c0A : (wr.alloc (.cells #[.int .u8 (y0 : Int), .int .u8 (y1 : Int), .int .u8 (y2 : Int), .int .u8 (y3 : Int)] 100)).cell? ⟨ga, 0, none⟩ = some (.slice (some ⟨q, 0, none⟩) I cap) := GA.out.cell 0 _ rfl
                  have c0B : (wr.alloc (.cells #[.int .u8 (y0 : Int), .int .u8 (y1 : Int), .int .u8 (y2 : Int), .int .u8 (y3 : Int)] 100)).drew.cell? ⟨ga, 0, none⟩ = some (.slice (some ⟨q, 0, none⟩) I cap) := c0A
                  have hdj : decide ((4 : Int) < 4) = false := by decide
                  go_wp2_with fail
                  go_region_law (first | (refine step_append_lies _ rfl _ _ 116 rfl w.heap.size 100 i0 (.agg #[.int .u8 0, .int .u8 0, .int .u8 0, .int .u8 0]) 4 4 Tryd.underlying116 hi hz0 hz1 hz2 rfl (by decide) _ I (bl (4 * I) (cb f)) rfl OA.out ⟨wr.heap.size, 0, none⟩ 1 1 [.int .u8 (y0 : Int), .int .u8 (y1 : Int), .int .u8 (y2 : Int), .int .u8 (y3 : Int)] rfl rfl q4.out q3.out (by decide) q5.out q6.out q7.out _ rfl ?_; intro gq cq w1 hown hgrow hat hltq; have BW := hid (below_own (below_dr HBA.out) HBA.out.size OA.out hgrow); have GW := hid (grown_blk GA.out OA.out hgrow); have kc1 := GW.out.cell 0 _ rfl; have fz := GW.out.frozen 0; have OWN := hid hown; clear hown hgrow hat hltq))
                  all_goals
                    clear c0A c0B q3 q4 q5 q6 q7 kc1 fz l5 l6
                    go_wp2_with fail
                    obtain ⟨n1, n2, n3⟩ := wset BW.out hgA.out GW.out (show OW w1 w.heap.size (.slice (some ⟨gq, 0, none⟩) (I + 1) cq) (I + 1) (wds k key (I + 1 - k)) from by have h := OWN.out; rw [WE.out] at h; exact h)
                    refine ⟨⟨I + 1, .slice (some ⟨gq, 0, none⟩) (I + 1) cq, by omega, by go_num, ?_, n1, n2, n3⟩, by simp [intOf]; omega⟩
                    rw [show I + 1 - 1 = I from rfl, PN.out, PVC.out]
    · have eI : I = 4 * (k + 7) := by omega
      have EI := hid eI
      have hd0 : decide ((I : Int) < 4 * ((k : Int) + 7)) = false := decide_eq_false (by omega)
      have hd9 : ¬ (I : Int) < 4 * ((k : Int) + 7) := by omega
      clear eI
      go_wp2_with fail
      refine bodyPost_ret ?_ rfl ⟨ga, rfl, hgA.out, wv, G.out, ?_, HB.out⟩
      · simp [results, Tryd.results65, go_sem]
      · have h := O.out
        rw [EI.out, show 4 * (k + 7) - k = 3 * k + 28 from by omega] at h
        exact h
end Go.Proofs.YtbgdjjfonmoemaaDoor.Ae
