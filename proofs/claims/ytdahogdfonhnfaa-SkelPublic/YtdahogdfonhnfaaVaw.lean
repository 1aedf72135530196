/- The helper awake. -/
import Derived.Test.YtdahogdfonhnfaaVrfi
import Derived.Test.YtdahogdfonhnfaaVro
import Derived.Test.YtdahogdfonhnfaaVwh
import Derived.Test.YtdahogdfonhnfaaUls
import Derived.Test.YtdahogdfonhnfaaUopn
namespace Go.Proofs.Ytdahogdfonhnfaa.Ou
open Go.ChangeShapes Go.WideShapes Go.ChangeAt Go.RowKit
open Go.Proofs.Ytdahogdfonhnfaa.By
open Go.Proofs.Ytdahogdfonhnfaa.Tb (Blk Blk.newAt put_all Kp.setCells)
/-- A new variable that holds a skeleton. -/
theorem var_sk (V : World) (s : Sk) : ∃ W', (SVk ⟨V.heap.size, 0, none⟩ (sv s)).run Try.prog (V.alloc (.cells #[Value.int IntKind.u8 0, Value.int IntKind.i64 0, Value.int IntKind.u8 0, Value.int IntKind.i64 0, Value.int IntKind.i64 0, Value.int IntKind.i64 0, Value.int IntKind.i64 0] 33)) = .ok () W' ∧ Blk W' V.heap.size (sL s) 33 ∧ Below V.heap.size V W' ∧ V.heap.size < W'.heap.size := by
  obtain ⟨W', s1, k1, hk⟩ := SVk_run s (Blk.newAt V #[Value.int IntKind.u8 0, Value.int IntKind.i64 0, Value.int IntKind.u8 0, Value.int IntKind.i64 0, Value.int IntKind.i64 0, Value.int IntKind.i64 0, Value.int IntKind.i64 0] (sL zS) 33 V.heap.size rfl rfl) rfl
  exact ⟨W', s1, k1, (below_alloc V _).trans (hk.below (by simp) (fun j hj => Nat.ne_of_lt hj)), k1.lt⟩
def s1 : Sk := ⟨3, 3, 0, 0, 0, 2, 0⟩
theorem s1_is : fq s1 = ⟨3, 3, 0, 0, 0⟩ ∧ fe s1 = 0 ∧ fd s1 = 2 ∧ fm s1 = 0 := ⟨rfl, rfl, rfl, rfl⟩
set_option maxRecDepth 8000 in
set_option maxHeartbeats 1200000 in
theorem awake_ok (w : World) : Calls Try.prog 21 #[] w fun e w' => e = .returned (.bool true) ∧ Below w.heap.size w w' := by
  have F := hid (fill_ok s1 255 w (by decide) (by decide))
  go_enter Try.func21, Try.ntmps21
  go_wp2_with fail
  refine F.out.mono ?_
  rintro e W1 ⟨d, m, rfl, hd, hm, ha, hb⟩
  rw [s1_is.2.2.1] at hd
  rw [s1_is.2.2.2] at hm
  rw [s1_is.1, s1_is.2.1]
  obtain ⟨a1, c1, rfl⟩ := own_lit_slice hd
  obtain ⟨a2, c2, rfl⟩ := own_lit_slice hm
  obtain ⟨W2, t2, k2, b2, _⟩ := var_op W1 ⟨3, 3, 0, 0, 0⟩ (d := .slice a1 2 c1) (m := .slice a2 0 c2) rfl rfl
  have t2' : (SVo ⟨W1.heap.size, 0, none⟩ (.agg #[.int .u8 3, .int .i64 3, .int .u8 0, .int .i64 0, .int .i64 0, .slice a1 2 c1, .slice a2 0 c2])).run Try.prog (W1.alloc (.cells zA 28)) = .ok () W2 := t2
  have B2 := hid (below_next hb b2)
  have D2 := hid (own_below hd b2)
  have M2 := hid (own_below hm b2)
  have K2 := hid k2
  clear hd hm ha hb k2 b2 t2 F
  go_wp2_with fail
  clear t2'
  obtain ⟨W3, hW3⟩ : ∃ W, W2.alloc (.cells #[Value.int IntKind.u8 7, Value.int IntKind.u8 8, Value.int IntKind.u8 9] 5) = W := ⟨_, rfl⟩
  have b3 : Below W2.heap.size W2 W3 := by rw [← hW3]; exact below_alloc _ _
  rw [hW3]
  replace B2 := hid (below_next B2.out b3)
  replace D2 := hid (own_below D2.out b3)
  replace M2 := hid (own_below M2.out b3)
  replace K2 := hid (K2.out.below b3)
  clear b3 hW3
  refine (of_ok ⟨1, 5, 0, 0, 0⟩ (some ⟨W2.heap.size, 0, none⟩) none 3 3 0 0 W3 (by decide)).mono ?_
  rintro e W4 ⟨rfl, hb⟩
  rw [show ps (sk ⟨1, 5, 0, 0, 0⟩ 3 0) = ⟨1, 0, 0, 0, 0, 3, 0⟩ from rfl]
  have q1 := Sx.eqS_refl ⟨1, 0, 0, 0, 0, 3, 0⟩
  replace B2 := hid (below_next B2.out hb)
  replace D2 := hid (own_below D2.out hb)
  replace M2 := hid (own_below M2.out hb)
  replace K2 := hid (K2.out.below hb)
  clear hb
  have l4 := LDo_run K2.out
  have l4' : (LDo ⟨W1.heap.size, 0, none⟩).run Try.prog W4 = .ok (.agg #[.int .u8 3, .int .i64 3, .int .u8 0, .int .i64 0, .int .i64 0, .slice a1 2 c1, .slice a2 0 c2]) W4 := l4
  go_wp2_with fail
  have r5 := rb_lit W4 #[Value.int IntKind.u8 255, Value.int IntKind.u8 255] 2 (fun _ => 255) (fun _ => by decide) (by simp [maxLen]) rfl rfl
  obtain ⟨W5, hW5⟩ : ∃ W, W4.alloc (.cells #[Value.int IntKind.u8 255, Value.int IntKind.u8 255] 5) = W := ⟨_, rfl⟩
  have b5 : Below W4.heap.size W4 W5 := by rw [← hW5]; exact below_alloc _ _
  rw [hW5] at r5 ⊢
  have SO := hid (sameop_ok ⟨3, 3, 0, 0, 0⟩ (.slice a1 2 c1) (.slice a2 0 c2) (.slice (some ⟨W4.heap.size, 0, none⟩) 2 2) (.slice none 0 0) 2 0 (fun _ => 255) (fun _ => 255) (fun _ => 255) (fun _ => 0) W5 (own_below D2.out b5).reads r5 (own_below M2.out b5).reads (nil_reads W5) (by decide) (by decide) (fun _ _ => rfl) (fun i hi => absurd hi (by omega)))
  replace B2 := hid (below_next B2.out b5)
  clear r5 hW5 b5 D2 M2 K2 l4 l4' q1
  refine SO.out.mono ?_
  rintro e W6 ⟨rfl, hb⟩
  replace B2 := hid (below_next B2.out hb)
  clear hb SO
  go_wp2
  go_ret
  exact ⟨rfl, B2.out⟩
end Go.Proofs.Ytdahogdfonhnfaa.Ou
