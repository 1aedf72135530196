/- The calls of a mac without a ledger. -/
import Derived.Test.YtnncgniiceglaaaDoorVawk
import Derived.Test.YtnncgniiceglaaaDoorVwip
import Derived.Test.YtnncgniiceglaaaDoorVnon
import Derived.Test.YtnncgniiceglaaaDoorVops
import Derived.Test.YtnncgniiceglaaaDoorYr
namespace Go.Proofs.YtnncgniiceglaaaDoor.Vm
open Go.ChangeShapes Go.WideShapes Go.ChangeAt Go.RowKit
open Go.Proofs.YtnncgniiceglaaaDoor.By Go.Proofs.YtnncgniiceglaaaDoor.Gf Go.Proofs.YtnncgniiceglaaaDoor.Ae
theorem cnewN (k : Nat) (hkk : k = 4 ∨ k = 6 ∨ k = 8) (key : Nat → Nat) (hkey : ∀ i, key i < 256) (kb ko cap : Nat) (hc : 4 * k ≤ cap) (w : World) (hk : KM w) (hcell : ∀ i, i < 4 * k → w.cell? ⟨kb, ko + i, none⟩ = some (.int .u8 (key i : Nat))) :
    Calls Tryd.prog 19 #[.pointer none, .slice (some ⟨kb, ko, none⟩) (4 * k) cap] w fun e w' => ∃ g gc, e = .returned (.tuple #[.pointer (some ⟨g, 0, none⟩), .int .i64 0]) ∧ Mc w' g gc k (rk k key) 0 nought ∧ w.heap.size ≤ g ∧ w.heap.size ≤ gc ∧ Below w.heap.size w w' := by
  have hb := block_lt_of_cell (hcell 0 (by omega))
  refine (cnew_ok (fun _ => False) w w none [] k hkk key hkey kb ko cap hc trivial (Kp.refl _ _) low_nil.big pos_nil hk id (fun W h _ i hi => ((below_kp h).cell (p := ⟨kb, ko + i, none⟩) hb).trans (hcell i hi))).mono ?_
  rintro e w' ⟨g, gc, rfl, h1, h2, h3, -, h5, -⟩
  exact ⟨g, gc, rfl, h1, h2, h3, below_kp h5⟩
/-- What lies behind V, and V's own blocks. -/
theorem kp_ns {V W : World} (h : Kp (NS V) V W) : Below V.heap.size V W := h.below (Nat.le_refl _) (fun k hk e => by unfold NS at e; omega)
theorem ns_0 {V : World} (h : KM V) : ¬ NS V 0 := by have := h.lt; unfold NS; omega
theorem writeN (V W : World) (hv : Below V.heap.size V W) (hk : KM V) (g gc k n : Nat) (ws m : Nat → Nat) (hm : Mc W g gc k ws n m) (hg : V.heap.size ≤ g) (q : Nat) (f : Nat → Nat) (hq : q ≤ 140737488355328) (a : Option Addr) (cap : Nat) (hrb : ∀ V', Below V.heap.size V V' → Kx g W V' → By.RB V' (.slice a q cap) q (cb f)) :
    Calls Tryd.prog 26 #[.pointer (some ⟨g, 0, none⟩), .pointer none, .slice a q cap] W fun e w' => e = .returned (.int .i64 0) ∧ Mc w' g gc k ws (n + q) (ct2 n m f) ∧ Below V.heap.size V w' ∧ Kx g W w' := by
  refine (write_mc (NS V) V W none [] g gc k n ws m hm trivial (Kp.of_below _ hv) pos_nil ⟨by simp [tot], by simp⟩ hk (ns_0 hk) (fun e => by omega) q f (fun i => Int.ofNat_lt.1 ((hrb W hv (Kx.refl _ _)).1 i).2) hq a cap (fun V' h hx => hrb V' (kp_ns h) hx)).mono ?_
  rintro e w' ⟨rfl, h1, -, h3, h4⟩
  exact ⟨rfl, h1, kp_ns h3, h4⟩
theorem sumN (W : World) (hk : KM W) (g gc k n : Nat) (ws m : Nat → Nat) (hm : Mc W g gc k ws n m) :
    Calls Tryd.prog 27 #[.pointer (some ⟨g, 0, none⟩), .pointer none] W fun e w' => ∃ b, e = .returned (.tuple #[.slice (some ⟨b, 0, none⟩) 16 16, .int .i64 0]) ∧ Blk w' b (bl 16 (cb (tgn ws (k + 6) m n))) 49 ∧ W.heap.size ≤ b ∧ Below W.heap.size W w' := by
  refine (sum_mc (fun _ => False) W W none [] g gc k n ws m hm trivial (Kp.refl _ _) room_nil hk id).mono ?_
  rintro e w' ⟨b, rfl, h1, h2, -, h4, -⟩
  exact ⟨b, rfl, h1, h2, below_kp h4⟩
theorem wipeM (V W : World) (hv : Below V.heap.size V W) (g gc k n : Nat) (ws m : Nat → Nat) (hm : Mc W g gc k ws n m) (hg : V.heap.size ≤ g) (hgc : V.heap.size ≤ gc) :
    Calls Tryd.prog 20 #[.pointer (some ⟨g, 0, none⟩), .pointer none] W fun e w' => e = .returned (.int .i64 0) ∧ NoMc w' g ∧ Below V.heap.size V w' ∧ ∀ x cs t, x ≠ g → x ≠ gc → Blk W x cs t → t ≠ 77 → t ≠ 94 → Blk w' x cs t := by
  refine (wipe_mc (NS V) V W none [] g gc k n ws m hm trivial (Kp.of_below _ hv) room_nil (fun e => by omega) (fun e => by omega)).mono ?_
  rintro e w' ⟨rfl, h1, -, h3, -, h5⟩
  exact ⟨rfl, h1, kp_ns h3, h5⟩
theorem Mc.kx {w w' : World} {g gc k n x : Nat} {ws m : Nat → Nat} (h : Mc w g gc k ws n m) (hk : Kx x w w') (hx : g ≠ x) (hc : gc ≠ x) : Mc w' g gc k ws n m := ⟨hk.2 _ _ _ hx h.here (by decide) (by decide), ⟨hk.2 _ _ _ hc h.ci.here (by decide) (by decide), h.ci.kk, h.ci.lt⟩, h.lt⟩
end Go.Proofs.YtnncgniiceglaaaDoor.Vm
