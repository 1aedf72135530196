/- A mac of the examples' key and its ledger, and the forms that it gave. -/
import Derived.Test.YtnncgniiceglaabDoorVawk
import Derived.Test.YtnncgniiceglaabDoorVfrm
import Derived.Test.YtnncgniiceglaabDoorRcount
import Derived.Test.YtnncgniiceglaabDoorYr
namespace Go.Proofs.YtnncgniiceglaabDoor.Vm
open Go.ChangeShapes Go.WideShapes Go.ChangeAt Go.RowKit
open Go.Proofs.YtnncgniiceglaabDoor.By Go.Proofs.YtnncgniiceglaabDoor.Gf Go.Proofs.YtnncgniiceglaabDoor.Ae
theorem own_low {w : World} {b b' n : Nat} {v : Value} {f : Nat → Int} (h : By.Own w b v n f) (hb : b' ≤ b) : By.Own w b' v n f := by
  obtain ⟨hf, hl, h' | ⟨g, cap, cur, rfl, h0, hc, h1, h2, h3, h4⟩⟩ := h
  · exact ⟨hf, hl, .inl h'⟩
  · exact ⟨hf, hl, .inr ⟨g, cap, cur, rfl, Nat.le_trans hb h0, hc, h1, h2, h3, h4⟩⟩
theorem cnewN (k : Nat) (hkk : k = 4 ∨ k = 6 ∨ k = 8) (key : Nat → Nat) (hkey : ∀ i, key i < 256) (kb ko cap : Nat) (hc : 4 * k ≤ cap) (w : World) (hk : KM w) (hcell : ∀ i, i < 4 * k → w.cell? ⟨kb, ko + i, none⟩ = some (.int .u8 (key i : Nat))) :
    Calls Tryd.prog 5 #[.pointer none, .slice (some ⟨kb, ko, none⟩) (4 * k) cap] w fun e w' => ∃ g gc, e = .returned (.tuple #[.pointer (some ⟨g, 0, none⟩), .int .i64 0]) ∧ Mc w' g gc k (rk k key) 0 nought ∧ w.heap.size ≤ g ∧ w.heap.size ≤ gc ∧ Below w.heap.size w w' := by
  have hb := block_lt_of_cell (hcell 0 (by omega))
  refine (cnew_ok (fun _ => False) w w none [] k hkk key hkey kb ko cap hc trivial (Kp.refl _ _) low_nil.big pos_nil hk id (fun W h _ i hi => ((below_kp h).cell (p := ⟨kb, ko + i, none⟩) hb).trans (hcell i hi))).mono ?_
  rintro e w' ⟨g, gc, rfl, h1, h2, h3, -, h5, -⟩
  exact ⟨g, gc, rfl, h1, h2, h3, below_kp h5⟩
/-- Blocks that are no ledger's and no mac's stay. -/
def Kq (W W' : World) : Prop := W.heap.size ≤ W'.heap.size ∧ ∀ x cs t, t ≠ 42 → t ≠ 58 → t ≠ 49 → Blk W x cs t → Blk W' x cs t
theorem Kq.below {W W' : World} (h : Below W.heap.size W W') : Kq W W' := ⟨h.size, fun _ _ _ _ _ _ hb => hb.below h⟩
theorem Kq.kt {W W' : World} (h : Kt W W') : Kq W W' := ⟨h.1, fun x cs t h1 h2 _ hb => h.2 x cs t hb h1 h2⟩
theorem Kq.kx {W W' : World} {g : Nat} {cs0 : List Value} (h : Kx g W W') (hg : Blk W g cs0 49) : Kq W W' := ⟨h.1, fun x cs t h1 h2 h3 hb => h.2 x cs t (fun e => by subst e; exact absurd rfl (hb.ne hg h3)) hb h1 h2⟩
theorem Kq.own {W W' : World} (h : Kq W W') {base n : Nat} {v : Value} {f : Nat → Int} (ho : By.Own W base v n f) : By.Own W' base v n f := by
  obtain ⟨hf, hl, h' | ⟨g, cap, cur, rfl, hb, hc, h1, h2, h3, h4⟩⟩ := ho
  · exact ⟨hf, hl, .inl h'⟩
  · refine ⟨hf, hl, .inr ⟨g, cap, cur, rfl, hb, ?_, h1, h2, h3, h4⟩⟩
    exact h.2 g cur.toList 5 (by decide) (by decide) (by decide) (by show W.heap[g]? = _; rw [hc])
theorem fmf_lastb (k n : Nat) (ws m : Nat → Nat) : fmf k ws n m (fml k - 1) = ctn n := by
  unfold fmf fml
  rw [if_neg (by omega), if_neg (by omega)]
def xws : Nat → Nat := rk 4 (ofl XK)
theorem fmf_sk (n : Nat) (m : Nat → Nat) (i : Nat) (hi : i < 16) : fmf 4 xws n m (176 + i) = sk1 xws 10 i := by
  unfold fmf
  rw [if_neg (by omega), if_pos (by omega)]
  unfold four
  rw [if_pos (by omega), show 176 + i - 16 * (4 + 7) = i from by omega]
theorem ns_0 {V : World} (h : KM V) : ¬ NS V 0 := by have := h.lt; unfold NS; omega
structure KZ (w : World) (l g gc : Nat) (L : List Rn) (n : Nat) (m : Nat → Nat) (fs : List (Value × Nat × (Nat → Nat))) (W : World) : Prop where
  kp : Kp (NS w) w W
  lg : LG (NS w) w W (some l) L
  mc : Mc W g gc 4 xws n m
  gg : w.heap.size ≤ g
  fo : ∀ p ∈ fs, By.Own W w.heap.size p.1 241 (cb (fmf 4 xws p.2.1 p.2.2))
section
variable {w W W' : World} {l g gc n : Nat} {L : List Rn} {m : Nat → Nat} {fs : List (Value × Nat × (Nat → Nat))}
theorem KZ.below (h : KZ w l g gc L n m fs W) (hb : Below W.heap.size W W') : KZ w l g gc L n m fs W' :=
  ⟨h.kp.trans (Kp.of_below _ hb) (fun _ _ e => e), h.lg.below hb, h.mc.below hb, h.gg, fun p hp => own_below (h.fo p hp) hb⟩
theorem KZ.bel (h : KZ w l g gc L n m fs W) : Below w.heap.size w W := h.kp.below (Nat.le_refl _) (fun j hj e => by unfold NS at e; omega)
theorem KZ.form (h : KZ w l g gc L n m fs W) : Calls Tryd.prog 7 #[.pointer (some ⟨g, 0, none⟩)] W fun e w' => ∃ v, e = .returned v ∧ KZ w l g gc L n m ((v, n, m) :: fs) w' := by
  refine (form_mc g gc 4 n xws m W h.mc).mono ?_
  rintro e w' ⟨v, rfl, ho, hb⟩
  have z := h.below hb
  refine ⟨v, rfl, z.kp, z.lg, z.mc, z.gg, fun p hp => ?_⟩
  rcases List.mem_cons.1 hp with rfl | hp
  · exact own_low ho h.kp.size
  · exact z.fo p hp
theorem KZ.write (h : KZ w l g gc L n m fs W) (hk : KM w) (hp : Pos L) (hr : tot L ≤ 2305843009213693952 ∧ L.length ≤ 10000000) (q : Nat) (f : Nat → Nat) (hf : ∀ i, f i < 256) (hq : q ≤ 140737488355328) (a : Option Addr) (cap : Nat) (hrb : ∀ V, Kq W V → By.RB V (.slice a q cap) q (cb f)) :
    Calls Tryd.prog 8 #[.pointer (some ⟨g, 0, none⟩), .pointer (some ⟨l, 0, none⟩), .slice a q cap] W fun e w' => e = .returned (.int .i64 0) ∧ KZ w l g gc (evb 4 L (nbl (n + q) - nbl n)) (n + q) (ct2 n m f) fs w' := by
  refine (write_mc (NS w) w W (some l) L g gc 4 n xws m h.mc h.lg h.kp hp hr hk (ns_0 hk) (fun e => absurd h.gg (by omega)) q f hf hq a cap (fun V' _ hx => hrb V' (Kq.kx hx h.mc.here))).mono ?_
  rintro e w' ⟨rfl, h1, h2, h3, h4⟩
  have hq := Kq.kx h4 h.mc.here
  exact ⟨rfl, h3, h2, h1, h.gg, fun p hp => hq.own (h.fo p hp)⟩
theorem KZ.sum (h : KZ w l g gc L n m fs W) (hk : KM w) (hr : Room L) :
    Calls Tryd.prog 11 #[.pointer (some ⟨g, 0, none⟩), .pointer (some ⟨l, 0, none⟩)] W fun e w' => ∃ v, e = .returned (.tuple #[v, .int .i64 0]) ∧ KZ w l g gc (evb 4 L 1) n m fs w' := by
  refine (sum_mc (NS w) w W (some l) L g gc 4 n xws m h.mc h.lg h.kp hr hk (ns_0 hk)).mono ?_
  rintro e w' ⟨q, rfl, h1, -, h2, h3, h4⟩
  have hq := Kq.kt h4
  exact ⟨_, rfl, h3, h2, h.mc.kt h4, h.gg, fun p hp => hq.own (h.fo p hp)⟩
theorem KZ.len (h : KZ w l g gc L n m fs W) : Calls Tryd.prog 10 #[.pointer (some ⟨l, 0, none⟩)] W fun e w' => e = .returned (.int .i64 (tot L)) ∧ w' = W := by
  obtain ⟨-, rv, hL, -⟩ := h.lg
  exact len20 l rv L W hL
theorem KZ.count (h : KZ w l g gc L n m fs W) (hl : L.length < 1000000000000000000) (kk : Int) : Calls Tryd.prog 15 #[.pointer (some ⟨l, 0, none⟩), .int .u8 kk] W fun e w' => e = .returned (.int .i64 (cnt kk L)) ∧ KZ w l g gc L n m fs w' ∧ Below W.heap.size W w' := by
  obtain ⟨-, rv, hL, -⟩ := h.lg
  refine (count24 l rv L kk W hL hl).mono ?_
  rintro e w' ⟨rfl, hb⟩
  exact ⟨rfl, h.below hb, hb⟩
theorem KZ.km (h : KZ w l g gc L n m fs W) (hk : KM w) : KM W := km_below hk h.bel
/-- The cells of a form that was given. -/
theorem KZ.cells (h : KZ w l g gc L n m fs W) {v : Value} {a : Nat} {f : Nat → Nat} (hm : (v, a, f) ∈ fs) : ∃ b cap, v = .slice (some ⟨b, 0, none⟩) 241 cap ∧ W.cell? ⟨b, 240, none⟩ = some (.int .u8 ((ctn a : Nat) : Int)) ∧ W.cell? ⟨b, 176, none⟩ = some (.int .u8 ((sk1 xws 10 0 : Nat) : Int)) ∧ W.cell? ⟨b, 177, none⟩ = some (.int .u8 ((sk1 xws 10 1 : Nat) : Int)) := by
  rcases (h.fo _ hm).shape with ⟨_, h0⟩ | ⟨b, cap, e, _, _, _, _, hcells, _⟩
  · exact absurd h0 (by decide)
  · refine ⟨b, cap, e, ?_, ?_, ?_⟩
    · have e1 := hcells 240 (by decide)
      rw [show cb (fmf 4 xws a f) 240 = ((ctn a : Nat) : Int) from congrArg Nat.cast (fmf_lastb 4 a xws f)] at e1
      exact e1
    · have e1 := hcells 176 (by decide)
      rw [show cb (fmf 4 xws a f) 176 = ((sk1 xws 10 0 : Nat) : Int) from congrArg Nat.cast (fmf_sk a f 0 (by decide))] at e1
      exact e1
    · have e1 := hcells 177 (by decide)
      rw [show cb (fmf 4 xws a f) 177 = ((sk1 xws 10 1 : Nat) : Int) from congrArg Nat.cast (fmf_sk a f 1 (by decide))] at e1
      exact e1
end
theorem xsk : E16 (sk1 xws 10) (ofl [251, 238, 214, 24, 53, 113, 51, 102, 124, 133, 224, 143, 114, 54, 168, 222]) := E16.trans (dbl_e (enc_k xk_rk nought)) x1
theorem sk_0 : sk1 xws 10 0 = 251 := xsk 0 (by decide)
theorem sk_1 : sk1 xws 10 1 = 238 := xsk 1 (by decide)
theorem ev1 : evb 4 (evb 4 [] (nbl (0 + 16) - nbl 0)) (nbl (0 + 16 + 1) - nbl (0 + 16)) = evb 4 [] 1 := by
  rw [show nbl (0 + 16) - nbl 0 = 0 from rfl, evb_zero]; rfl
theorem ev2 : evb 4 (evb 4 [] 1) 1 = evb 4 [] 2 := evb_add pos_nil 4 1 1 (by decide)
theorem ev_one (a : Nat) (h : 1 ≤ a) : evb 4 [] a = [⟨5, 16, (a : Int)⟩] := put_nil _ (show (1 : Int) ≤ (a : Int) by omega)
theorem ev_pos (a : Nat) : Pos (evb 4 [] a) := putL_pos pos_nil
end Go.Proofs.YtnncgniiceglaabDoor.Vm
