/- Variables that hold an operation; what is nil. -/
import Derived.Test.YtdahogdfonhnfaaUeq
import Derived.Test.YtdahogdfonhnfaaUen
import Derived.Test.YtdahogdfonhnfaaUvar
namespace Go.Proofs.Ytdahogdfonhnfaa.Ou
open Go.ChangeShapes Go.WideShapes Go.ChangeAt Go.RowKit
open Go.Proofs.Ytdahogdfonhnfaa.By
open Go.Proofs.Ytdahogdfonhnfaa.Tb (Blk Blk.newAt)
theorem rb_sl {w : World} {v : Value} {n : Nat} {f : Nat → Int} (h : By.RB w v n f) : ∃ a cap, v = .slice a n cap := by
  obtain ⟨_, a, c, rfl, _⟩ := h; exact ⟨a, c, rfl⟩
/-- The zero operation. -/
abbrev zA : Array Value := #[Value.int IntKind.u8 0, Value.int IntKind.i64 0, Value.int IntKind.u8 0, Value.int IntKind.i64 0, Value.int IntKind.i64 0, Value.slice none 0 0, Value.slice none 0 0]
theorem own_one {w : World} {base n : Nat} {v : Value} {f : Nat → Int} (h : By.Own w base v n f) : v.oneCell' = true := by
  obtain ⟨a, c, rfl⟩ := own_lit_slice h; rfl
theorem z_bound (i : Nat) : 0 ≤ (fun _ : Nat => (0 : Int)) i ∧ (fun _ : Nat => (0 : Int)) i < 256 := ⟨Int.le_refl 0, show (0 : Int) < 256 from by decide⟩
theorem nil_reads (w : World) : By.RB w (.slice none 0 0) 0 (fun _ => 0) := (own_nil w 0 (fun _ => 0) z_bound).reads
/-- A new variable that holds an operation. -/
theorem var_op (V : World) (q : Nu) {d m : Value} (hd : d.oneCell' = true) (hm : m.oneCell' = true) : ∃ W', (SVo ⟨V.heap.size, 0, none⟩ (ov q d m)).run Try.prog (V.alloc (.cells zA 28)) = .ok () W' ∧ Blk W' V.heap.size (oL q d m) 28 ∧ Below V.heap.size V W' ∧ V.heap.size < W'.heap.size := by
  obtain ⟨W', s1, k1, hk⟩ := SVo_run (Blk.newAt V zA zA.toList 28 V.heap.size rfl rfl) rfl (q := q) hd hm
  exact ⟨W', s1, k1, (below_alloc V _).trans (hk.below (by simp) (fun j hj => Nat.ne_of_lt hj)), k1.lt⟩
end Go.Proofs.Ytdahogdfonhnfaa.Ou
