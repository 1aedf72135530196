/- The statements' helpers 'block', 'rising' and 'awake'; the calls without a ledger. -/
import Derived.Test.YtbommnigljmfkaaDoorAnone
namespace Go.Proofs.YtbommnigljmfkaaDoor.Ae
open Go.ChangeShapes Go.WideShapes Go.ChangeAt Go.RowKit
open Go.Proofs.YtbommnigljmfkaaDoor.By Go.Proofs.YtbommnigljmfkaaDoor.Gf
open Go.Proofs.YtbommnigljmfkaaDoor.Kc (own_kept own_mono own8_type cat cat_bound wpList_cat below_grow)
def SVy (a : Addr) (v : Value) : Sem Unit := storeVar 86 a v
@[go_sem ↓ high] theorem svy (a : Addr) (v : Value) : storeVar 86 a v = SVy a v := rfl
theorem infoy : (Tryd.prog.info? 86).map (·.size) = some 48 := by kernel_rfl
theorem SVy_run {w : World} {g o : Nat} {cs : List Value} (h : w.there g o 48) (hl : cs.length = 48) (h1 : ∀ u ∈ cs, u.oneCell' = true) : (SVy ⟨g, o, none⟩ (.agg cs.toArray)).run Tryd.prog w = .ok () (w.setCells g o cs) :=
  run_storeVar_mid w g o _ cs.toArray (by simpa [hl] using h) (by simpa [hl] using infoy) (all_oneCell_toArray h1)
/-- The examples' answers. -/
def wn : List Nat := [105, 196, 224, 216, 106, 123, 4, 48, 216, 205, 183, 128, 112, 180, 197, 90, 221, 169, 124, 164, 134, 76, 223, 224, 110, 175, 112, 160, 236, 13, 113, 145, 142, 162, 183, 202, 81, 103, 69, 191, 234, 252, 73, 144, 75, 73, 96, 137]
def wnt (i : Nat) : Nat := wn.getD i 0
theorem wn48 : #[Value.int IntKind.u8 105, Value.int IntKind.u8 196, Value.int IntKind.u8 224, Value.int IntKind.u8 216, Value.int IntKind.u8 106, Value.int IntKind.u8 123, Value.int IntKind.u8 4, Value.int IntKind.u8 48, Value.int IntKind.u8 216, Value.int IntKind.u8 205, Value.int IntKind.u8 183, Value.int IntKind.u8 128, Value.int IntKind.u8 112, Value.int IntKind.u8 180, Value.int IntKind.u8 197, Value.int IntKind.u8 90, Value.int IntKind.u8 221, Value.int IntKind.u8 169, Value.int IntKind.u8 124, Value.int IntKind.u8 164, Value.int IntKind.u8 134, Value.int IntKind.u8 76, Value.int IntKind.u8 223, Value.int IntKind.u8 224, Value.int IntKind.u8 110, Value.int IntKind.u8 175, Value.int IntKind.u8 112, Value.int IntKind.u8 160, Value.int IntKind.u8 236, Value.int IntKind.u8 13, Value.int IntKind.u8 113, Value.int IntKind.u8 145, Value.int IntKind.u8 142, Value.int IntKind.u8 162, Value.int IntKind.u8 183, Value.int IntKind.u8 202, Value.int IntKind.u8 81, Value.int IntKind.u8 103, Value.int IntKind.u8 69, Value.int IntKind.u8 191, Value.int IntKind.u8 234, Value.int IntKind.u8 252, Value.int IntKind.u8 73, Value.int IntKind.u8 144, Value.int IntKind.u8 75, Value.int IntKind.u8 73, Value.int IntKind.u8 96, Value.int IntKind.u8 137] = (bl 48 (cb wnt)).toArray := by kernel_rfl
theorem zn48 : #[Value.int IntKind.u8 0, Value.int IntKind.u8 0, Value.int IntKind.u8 0, Value.int IntKind.u8 0, Value.int IntKind.u8 0, Value.int IntKind.u8 0, Value.int IntKind.u8 0, Value.int IntKind.u8 0, Value.int IntKind.u8 0, Value.int IntKind.u8 0, Value.int IntKind.u8 0, Value.int IntKind.u8 0, Value.int IntKind.u8 0, Value.int IntKind.u8 0, Value.int IntKind.u8 0, Value.int IntKind.u8 0, Value.int IntKind.u8 0, Value.int IntKind.u8 0, Value.int IntKind.u8 0, Value.int IntKind.u8 0, Value.int IntKind.u8 0, Value.int IntKind.u8 0, Value.int IntKind.u8 0, Value.int IntKind.u8 0, Value.int IntKind.u8 0, Value.int IntKind.u8 0, Value.int IntKind.u8 0, Value.int IntKind.u8 0, Value.int IntKind.u8 0, Value.int IntKind.u8 0, Value.int IntKind.u8 0, Value.int IntKind.u8 0, Value.int IntKind.u8 0, Value.int IntKind.u8 0, Value.int IntKind.u8 0, Value.int IntKind.u8 0, Value.int IntKind.u8 0, Value.int IntKind.u8 0, Value.int IntKind.u8 0, Value.int IntKind.u8 0, Value.int IntKind.u8 0, Value.int IntKind.u8 0, Value.int IntKind.u8 0, Value.int IntKind.u8 0, Value.int IntKind.u8 0, Value.int IntKind.u8 0, Value.int IntKind.u8 0, Value.int IntKind.u8 0] = (bl 48 (cb nul)).toArray := by kernel_rfl
/-- A list's bytes as numbers. -/
def kf (f : Nat → Int) (i : Nat) : Nat := (f i).toNat
theorem kf_eq {f : Nat → Int} (h : ∀ i, 0 ≤ f i ∧ f i < 256) (i : Nat) : ((kf f i : Nat) : Int) = f i := by have := h i; unfold kf; omega
theorem kf_lt {f : Nat → Int} (h : ∀ i, 0 ≤ f i ∧ f i < 256) (i : Nat) : kf f i < 256 := by have := h i; unfold kf; omega
theorem kf_cb (f : Nat → Nat) (i : Nat) : kf (cb f) i = f i := by unfold kf; exact Int.toNat_natCast _
set_option maxRecDepth 8000 in
set_option maxHeartbeats 4000000 in
theorem block1 (v : Value) (n : Nat) (f : Nat → Int) (w : World) (hr : By.RB w v n f) (_ : n ≤ 140737488355999) :
    Calls Tryd.prog 23 #[v] w fun e w' => e = .returned (bv (blk n (kf f))) ∧ Below w.heap.size w w' := by
  have HR := hid hr
  obtain ⟨hf, ad, cap, rfl, h1, h2, -⟩ := hr
  have HF := hid hf
  clear hf h1 h2
  unfold bv
  go_enter Tryd.func23, Tryd.ntmps23
  go_wp2_with fail
  go_loopw [4] (fun i wr => ∃ k : Nat, k ≤ n ∧ k ≤ 16 ∧ i = .int .i64 k ∧ Blk wr w.heap.size (bl 16 (cb (upto 0 nul))) 58 ∧ Blk wr (w.heap.size + 1) (bl 16 (cb (upto k (kf f)))) 58 ∧ Below w.heap.size w wr) (fun i _ => 16 - (intOf i).toNat)
  case atStart =>
    exact ⟨0, Nat.zero_le _, Nat.zero_le _, rfl, (Blk.newAt _ _ _ _ _ rfl (zero16 nul)).alloc _, Blk.newAt _ _ _ _ _ (by simp) (zero16 _), (below_alloc w _).alloc (by simp) _⟩
  case round =>
    obtain ⟨k, hk, hk2, rfl, b0, b1, hbel⟩ := hrel
    have B0 := hid b0
    have B1 := hid b1
    have HB := hid hbel
    have HZ := hid b1.lt
    clear b0 b1 hbel
    by_cases hlt : k < n ∧ k < 16
    · obtain ⟨b, off, rfl, hc⟩ : ∃ b off, ad = some ⟨b, off, none⟩ ∧ wr.cell? ⟨b, off + k, none⟩ = some (.int .u8 (f k)) := by
        obtain ⟨_, a', cap', he, _, _, h0 | ⟨b, off, rfl, hc⟩⟩ := HR.out.below HB.out
        · omega
        · simp at he
          exact ⟨b, off, he.1, hc k hlt.1⟩
      rw [← kf_eq HF.out k] at hc
      have c1 := B1.out.cell k _ (bl_get 16 _ k hlt.2)
      have f1 := B1.out.frozen k
      have HS := hid (uptoN_set 16 (kf f) k)
      have hx := kf_lt HF.out k
      obtain ⟨x, ex⟩ : ∃ x, kf f k = x := ⟨_, rfl⟩
      rw [ex] at hc HS hx
      clear ex
      generalize cb (upto k (kf f)) k = y at c1
      obtain ⟨l1, l2⟩ := hlt
      have hd1 : decide ((k : Int) < (n : Int)) = true := decide_eq_true (by omega)
      have hd2 : decide ((k : Int) < 16) = true := decide_eq_true (by omega)
      go_wp2_with fail
      have hz := HZ.out
      refine ⟨⟨k + 1, by omega, by omega, by go_num, B0.out.other (by omega) _ _, ?_, below_set HB.out _ _ _ (by omega) (by omega)⟩, by simp [intOf]; omega⟩
      rw [← HS.out]
      exact B1.out.set _ _
    · have HE := hid (show bl 16 (cb (upto k (kf f))) = bl 16 (cb (blk n (kf f))) from bl_congr _ _ _ (fun i hi => by
        show ((upto k (kf f) i : Nat) : Int) = ((blk n (kf f) i : Nat) : Int)
        unfold upto blk
        by_cases e : i < k
        · rw [if_pos e, if_pos (by omega)]
        · rw [if_neg e, if_neg (by omega)]))
      rw [HE.out] at B1
      have l1 := LDb_run (range0 B1.out) (bl_length _ _)
      have s1 := SVb_run (cs := bl 16 (cb (blk n (kf f)))) (B0.out.there 0 16 (by rw [bl_length]; omega)) (bl_length _ _) (bl_one _ _)
      have b4 := B0.out.put 0 (bl 16 (cb (blk n (kf f))))
      rw [put_all _ _ (by rw [bl_length, bl_length])] at b4
      have l2 := hid (LDb_run (range0 b4) (bl_length _ _))
      clear b4
      by_cases hn2 : k < n
      · have hd1 : decide ((k : Int) < (n : Int)) = true := decide_eq_true (by omega)
        have hd2 : decide ((k : Int) < 16) = false := decide_eq_false (by omega)
        go_wp2_with fail
        have hz := HZ.out
        refine bodyPost_ret ?_ rfl ⟨rfl, below_cells HB.out _ _ _ (by omega) HB.out.size⟩
        exact results_cell1 Tryd.results23 rfl l2.out
      · have hd1 : decide ((k : Int) < (n : Int)) = false := decide_eq_false (by omega)
        go_wp2_with fail
        have hz := HZ.out
        refine bodyPost_ret ?_ rfl ⟨rfl, below_cells HB.out _ _ _ (by omega) HB.out.size⟩
        exact results_cell1 Tryd.results23 rfl l2.out
theorem rb_one (w : World) (x : Int) (hx : 0 ≤ x ∧ x < 256) : By.RB (w.alloc (.cells #[.int .u8 x] 5)) (.slice (some ⟨w.heap.size, 0, none⟩) 1 1) 1 (fun _ => x) :=
  rb_blk (Blk.newAt w _ (bl 1 (fun _ => x)) 5 _ rfl (by rw [← bl_singleton])) (fun _ => hx) (by decide)
def ris (y i : Nat) : Nat := i * y % 256
theorem ris_lt (y i : Nat) : ris y i < 256 := Nat.mod_lt _ (by decide)
theorem ris_b (y i : Nat) : 0 ≤ cb (ris y) i ∧ cb (ris y) i < 256 := ⟨Int.natCast_nonneg _, Int.ofNat_lt.2 (ris_lt y i)⟩
theorem ris_next (y i : Nat) : ((ris y i : Int) + (y : Int)) % 256 = (ris y (i + 1) : Nat) := by
  unfold ris
  rw [Nat.succ_mul]
  omega
set_option maxRecDepth 8000 in
set_option maxHeartbeats 4000000 in
theorem rising1 (n y : Nat) (_ : n ≤ 40) (_ : y < 256) (w : World) :
    Calls Tryd.prog 42 #[.int .i64 n, .int .u8 y] w fun e w' => ∃ v, e = .returned v ∧ By.Own w' w.heap.size v n (cb (ris y)) ∧ Below w.heap.size w w' := by
  go_enter Tryd.func42, Tryd.ntmps42
  go_wp2_with fail
  go_loopw [5, 6, 7] (fun v x i wr => ∃ k : Nat, k ≤ n ∧ i = .int .i64 k ∧ x = .int .u8 ((ris y k : Nat) : Int) ∧ By.Own wr w.heap.size v k (cb (ris y)) ∧ Below w.heap.size w wr) (fun _ _ i _ => n - (intOf i).toNat)
  case atStart => exact ⟨0, Nat.zero_le _, rfl, by unfold ris; rw [Nat.zero_mul]; rfl, own_nil _ _ _ (ris_b y), Below.refl _ _⟩
  case round =>
    obtain ⟨k, hk, rfl, rfl, o1, hbel⟩ := hrel
    have O1 := hid o1
    have HB := hid hbel
    have HN := hid (ris_next y k)
    have hx := ris_lt y k
    clear o1 hbel
    by_cases hlt : k < n
    · have hd1 : decide ((k : Int) < (n : Int)) = true := decide_eq_true (by omega)
      have O2 := hid (own_below O1.out (below_alloc wr (.cells #[.int .u8 ((ris y k : Nat) : Int)] 5)))
      have R1 := hid (rb_one wr ((ris y k : Nat) : Int) ⟨Int.natCast_nonneg _, Int.ofNat_lt.2 hx⟩)
      have HB2 := hid (below_next HB.out (below_alloc wr (.cells #[.int .u8 ((ris y k : Nat) : Int)] 5)))
      go_wp2_with (at_builtin; go_must (refine wpList_cat rfl _ _ rfl w.heap.size k 1 _ _ (cb (ris y)) (fun _ => ((ris y k : Nat) : Int)) rfl O2.out rfl R1.out (by omega) HB2.out.size ?_))
      intro v' w' hown hgrow
      have O3 := hid (own_congr hown (ris_b y) (fun i hi => by
        unfold cat
        split
        · rfl
        · rw [show i = k from by omega]))
      have B3 := hid (below_grow HB2.out HB2.out.size O2.out hgrow)
      clear hown hgrow
      go_wp2_with fail
      exact ⟨⟨k + 1, by omega, by go_num, by rw [← HN.out], O3.out, B3.out⟩, by simp [intOf]; omega⟩
    · have ek : k = n := by omega
      subst ek
      have hd1 : decide ((k : Int) < (k : Int)) = false := decide_eq_false (by omega)
      go_wp2_with fail
      go_ret
      exact ⟨_, rfl, O1.out, HB.out⟩
end Go.Proofs.YtbommnigljmfkaaDoor.Ae
