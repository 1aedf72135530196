/- The document's steps on a block: its rows turned, its columns mixed, a round key added, bytes put through the box. The document's round keys: an object of them; a round key added, four bytes through the box. -/
import Derived.Test.YtnncgniiceglaaaYg
import Derived.Deep.RegionLaw
namespace Go.Proofs.Ytnncgniiceglaaa.Ae
open Go.ChangeShapes Go.WideShapes Go.ChangeAt Go.RowKit
open Go.Proofs.Ytnncgniiceglaaa.By Go.Proofs.Ytnncgniiceglaaa.Gf
theorem trn_at (y c r : Nat) (b : Nat → Nat) (hr : r < 4) : trn y b (4 * c + r) = b (4 * ((c + r * y) % 4) + r) := by
  unfold trn
  rw [show (4 * c + r) / 4 = c from by omega, show (4 * c + r) % 4 = r from by omega]
theorem fin16 {w W : World} {g q : Nat} {z y : Nat → Nat} (B : Blk W g (bl 16 (cb z)) 23) (Q : Blk W q (bl 16 (cb y)) 23) (hb : Below w.heap.size w W) (hq : w.heap.size ≤ q) :
    (LDb ⟨g, 0, none⟩).run Try.prog W = .ok (.agg (bl 16 (cb z)).toArray) W ∧ (SVb ⟨q, 0, none⟩ (.agg (bl 16 (cb z)).toArray)).run Try.prog W = .ok () (W.setCells q 0 (bl 16 (cb z))) ∧ (LDb ⟨q, 0, none⟩).run Try.prog (W.setCells q 0 (bl 16 (cb z))) = .ok (.agg (bl 16 (cb z)).toArray) (W.setCells q 0 (bl 16 (cb z))) ∧ Below w.heap.size w (W.setCells q 0 (bl 16 (cb z))) := by
  refine ⟨LDb_run (range0 B) (bl_length _ _), SVb_run (Q.there 0 16 (by rw [bl_length]; omega)) (bl_length _ _) (bl_one _ _), ?_, below_cells hb _ _ _ hq hb.size⟩
  have b := Q.put 0 (bl 16 (cb z))
  rw [put_all _ _ (by rw [bl_length, bl_length])] at b
  exact LDb_run (range0 b) (bl_length _ _)
end Go.Proofs.Ytnncgniiceglaaa.Ae
namespace Go.Proofs.Ytnncgniiceglaaa.Ae
open Go.ChangeShapes Go.WideShapes Go.ChangeAt Go.RowKit
open Go.Proofs.Ytnncgniiceglaaa.By Go.Proofs.Ytnncgniiceglaaa.Gf
section
variable {W W' : World} {g n : Nat} {wv : Value} {f : Nat → Nat}
end
theorem wrap_s (T : Nat) (h : T < 1000) : wrap64 (T : Int) = (T : Int) := by unfold wrap64; omega
theorem wr2 (r C D : Nat) (h : 4 * r + C = D) (hD : D < 1000) : wrap64 (4 * (r : Int) + wrap64 (C : Int)) = (D : Int) := by
  rw [wrap_s C (by omega), show 4 * (r : Int) + (C : Int) = (D : Int) from by omega]
  exact wrap_s D hD
/-- The first k bytes have the round key. -/
def adTo (ws : Nat → Nat) (r : Nat) (b : Nat → Nat) (k i : Nat) : Nat := if i < k then b i ^^^ ws (16 * r + i) else b i
theorem adTo_zero (ws : Nat → Nat) (r : Nat) (b : Nat → Nat) : bl 16 (cb (adTo ws r b 0)) = bl 16 (cb b) := bl_congr _ _ _ (fun i _ => by show ((adTo ws r b 0 i : Nat) : Int) = _; unfold adTo; rw [if_neg (by omega)])
theorem adTo_all (ws : Nat → Nat) (r : Nat) (b : Nat → Nat) : bl 16 (cb (adTo ws r b 16)) = bl 16 (cb (adk ws r b)) := bl_congr _ _ _ (fun i hi => by show ((adTo ws r b 16 i : Nat) : Int) = ((adk ws r b i : Nat) : Int); unfold adTo adk; rw [if_pos (by omega)])
theorem adTo_at (ws : Nat → Nat) (r : Nat) (b : Nat → Nat) (k : Nat) : adTo ws r b k k = b k := by unfold adTo; rw [if_neg (by omega)]
theorem adTo_set (ws : Nat → Nat) (r : Nat) (b : Nat → Nat) (k : Nat) : (bl 16 (cb (adTo ws r b k))).set k (.int .u8 ((b k ^^^ ws (16 * r + k) : Nat) : Int)) = bl 16 (cb (adTo ws r b (k + 1))) := by
  rw [bl_set]
  refine bl_congr _ _ _ (fun i _ => ?_)
  show (if i = k then (((b k ^^^ ws (16 * r + k) : Nat)) : Int) else ((adTo ws r b k i : Nat) : Int)) = ((adTo ws r b (k + 1) i : Nat) : Int)
  unfold adTo
  by_cases e : i = k
  · subst e; rw [if_pos rfl, if_pos (by omega)]
  · rw [if_neg e]
    by_cases h : i < k
    · rw [if_pos h, if_pos (by omega)]
    · rw [if_neg h, if_neg (by omega)]
end Go.Proofs.Ytnncgniiceglaaa.Ae
