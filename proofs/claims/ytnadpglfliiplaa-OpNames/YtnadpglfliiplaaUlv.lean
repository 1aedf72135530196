/- The helper lives. -/
import Derived.Test.YtnadpglfliiplaaUbk
import Derived.Test.YtnadpglfliiplaaUeq
namespace Go.Proofs.Ytnadpglfliiplaa.Ou
open Go.ChangeShapes Go.WideShapes Go.ChangeAt Go.RowKit
open Go.Proofs.Ytnadpglfliiplaa.By
open Go.Proofs.Ytnadpglfliiplaa.Tb (Blk Blk.newAt)
def q5 : Nu := ⟨10, 5, 0, 0, 0⟩
theorem q5_ok : q5.Ok := ⟨by decide, by decide, by decide, by decide, by decide, by decide, by decide, by decide, by decide, by decide⟩
theorem z_bound (i : Nat) : 0 ≤ (fun _ : Nat => (0 : Int)) i ∧ (fun _ : Nat => (0 : Int)) i < 256 := ⟨Int.le_refl 0, show (0 : Int) < 256 from by decide⟩
theorem nil_reads (w : World) : By.RB w (.slice none 0 0) 0 (fun _ => 0) := (own_nil w 0 (fun _ => 0) z_bound).reads
def F5 : Nat → Int := en q5 0 (fun _ => 0) 0 (fun _ => 0)
theorem F5_0 : F5 0 = 10 := by decide
theorem F5_9 : F5 9 = 5 := by decide
/-- A new variable that holds an operation. -/
theorem var_op (V : World) (q : Nu) {d m : Value} (hd : d.oneCell' = true) (hm : m.oneCell' = true) : ∃ W', (SVo ⟨V.heap.size, 0, none⟩ (ov q d m)).run Try.prog (V.alloc (.cells zA 26)) = .ok () W' ∧ Blk W' V.heap.size (oL q d m) 26 ∧ Below V.heap.size V W' ∧ V.heap.size < W'.heap.size := by
  obtain ⟨W', s1, k1, hk⟩ := SVo_run (Blk.newAt V zA zA.toList 26 V.heap.size rfl rfl) rfl (q := q) hd hm
  exact ⟨W', s1, k1, (below_alloc V _).trans (hk.below (by simp) (fun j hj => Nat.ne_of_lt hj)), k1.lt⟩
set_option maxRecDepth 4000 in
set_option maxHeartbeats 400000 in
theorem lives_ok (w : World) : Calls Try.prog 9 #[] w fun e w' => e = .returned (.bool true) ∧ Below w.heap.size w w' := by
  have HE := hid (encode_ok q5 (.slice none 0 0) (.slice none 0 0) 0 0 (fun _ => 0) (fun _ => 0) w q5_ok (nil_reads w) (nil_reads w))
  have BG := hid (begins_en q5 0 (fun _ => 0) 0 (fun _ => 0))
  go_enter Try.func9, Try.ntmps9
  go_wp2_with fail
  refine HE.out.mono ?_
  rintro e W ⟨v, rfl, ho, hb⟩
  rw [show ec 0 0 = 0 from rfl]
  have ho' : By.Own W w.heap.size v 32 F5 := ho
  obtain ⟨g, c, rfl, _⟩ := own_cells ho' (by omega)
  have R := ho'.reads
  have B1 := hid hb
  have OO := hid ho'
  clear ho hb ho' HE
  go_wp2_with fail
  refine (decode_ok _ 32 F5 W R (by omega)).mono ?_
  rintro e V ⟨d, m, rfl, ht⟩
  rw [show decide (32 = zl F5) = true by rw [show zl F5 = 32 from BG.out.zl (by omega) (by omega)]; rfl] at ht ⊢
  rw [show dq true F5 = q5 from BG.out.nu q5_ok, show dE true = 0 from rfl]
  have B2 := hid (below_next B1.out ht.2.2.2)
  obtain ⟨a1, k1, rfl⟩ := own_lit_slice ht.1
  obtain ⟨a2, k2, rfl⟩ := own_lit_slice ht.2.1
  have R2 := R.below ht.2.2.2
  have c0 : V.cell? ⟨g, 0, none⟩ = some (.int .u8 10) := by have := rb_cell R2 (k := 0) (by omega); rwa [F5_0, Nat.add_zero] at this
  have c9 : V.cell? ⟨g, 9, none⟩ = some (.int .u8 5) := by have := rb_cell R2 (k := 9) (by omega); rwa [F5_9, Nat.zero_add] at this
  obtain ⟨V2, s1, k1', b3, _⟩ := var_op V q5 (d := Value.slice a1 (dN true F5) k1) (m := Value.slice a2 (dM true F5) k2) rfl rfl
  have B3 := hid (below_next B2.out b3)
  have c0' := (b3.cell (p := ⟨g, 0, none⟩) (block_lt_of_cell c0)).trans c0
  have c9' := (b3.cell (p := ⟨g, 9, none⟩) (block_lt_of_cell c9)).trans c9
  have d0 : V2.cell? ⟨V.heap.size, 0, none⟩ = some (.int .u8 10) := k1'.cell 0 _ rfl
  have d1 : V2.cell? ⟨V.heap.size, 1, none⟩ = some (.int .i64 5) := k1'.cell 1 _ rfl
  clear ht R R2 OO BG c0 c9 b3 k1'
  go_wp2
  go_ret
  exact ⟨rfl, B3.out⟩
end Go.Proofs.Ytnadpglfliiplaa.Ou
