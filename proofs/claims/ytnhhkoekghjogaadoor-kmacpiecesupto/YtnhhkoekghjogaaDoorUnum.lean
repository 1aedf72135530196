/- KMAC as numbers; what a mac of the program's is. -/
import Derived.Test.YtnhhkoekghjogaaDoorXtold
import Derived.Test.YtnhhkoekghjogaaDoorXany
namespace Go.Proofs.YtnhhkoekghjogaaDoor.Kc
open Go.ChangeShapes Go.WideShapes Go.ChangeAt Go.RowKit
open Go.Proofs.YtnhhkoekghjogaaDoor.By Go.Proofs.YtnhhkoekghjogaaDoor.Wd
/-- The name. -/
def kmc : Nat → Int := lst [75, 77, 65, 67]
theorem kmc_b (i : Nat) : 0 ≤ kmc i ∧ kmc i < 256 := lst_bound _ (by decide) i
/-- A ledger with room for many events more. -/
def Tiny (L : List Rn) : Prop := tot L ≤ 2305843009200000000 ∧ L.length ≤ 5000000
theorem tiny_nil : Tiny [] := ⟨by decide, by decide⟩
theorem Tiny.big {L : List Rn} (h : Tiny L) (hp : Pos L) (c : Nat) (hc : c ≤ 3000000) : Big (evk L c) := by
  have h1 := h.1
  have h2 := h.2
  have h3 := evk_len L c
  refine ⟨?_, by omega⟩
  rw [evk_tot hp c (by omega)]; omega
theorem tiny_evn (c : Nat) (hc : c ≤ 3000000) : Tiny (evk [] c) := by
  have h3 := evk_len [] c
  have h4 : tot [] = 0 := rfl
  refine ⟨?_, by simp at h3; omega⟩
  rw [evk_tot pos_nil c (by omega)]; omega
theorem sfx4 (c : Nat) : sfx 4 c = 4 := if_neg (by omega)
theorem pN_up (m r : Nat) (hr : 1 ≤ r) (hr2 : r ≤ 256) : pN m r ≤ m + 300 := by
  have h3 := (nb_pos r).2
  have h4 := pz_lt m r (by omega)
  unfold pN pn; omega
/-- The sponge that New makes. -/
def kz (r a : Nat) (f : Nat → Int) (c : Nat) (h : Nat → Int) : Z := Z.ins r (bz r 4 kmc c h) (pg (sn a) (sg a f) r) (pN (sn a) r)
/-- What goes in behind a message; the sponge of a tag. -/
def ku (n : Nat) (xof : Bool) : Nat := match xof with | true => 0 | false => 8 * n
def ke (r : Nat) (z : Z) (n : Nat) (xof : Bool) : Z := Z.ins r z (rt (ku n xof)) (nb (ku n xof) + 1)
def ky (r : Nat) (z : Z) (n : Nat) (xof : Bool) : Z := Z.fin r 4 (ke r z n xof)
/-- How many events a tag has. -/
def kN (r : Nat) (z : Z) (n : Nat) (xof : Bool) : Nat := (Z.out r (ky r z n xof) n).c - z.c
theorem ku_lt (n : Nat) (xof : Bool) (hn : n ≤ 65536) : ku n xof < 9223372036854775808 := by cases xof <;> simp only [ku] <;> omega
section
variable {st : Int} {r : Nat} (hst : Str st r)
include hst
theorem kz_ok (a c : Nat) (f h : Nat → Int) : (kz r a f c h).Ok r false := (bz_ok hst 4 c kmc h).ins (by have := hst.lo; omega) _ _
theorem kz_ge (a c : Nat) (f h : Nat → Int) : (bz r 4 kmc c h).c ≤ (kz r a f c h).c := ins_ge ((bz_ok hst 4 c kmc h).o rfl) _ _
theorem kz_le (a c : Nat) (f h : Nat → Int) (ha : a ≤ 1000000) (hc : c ≤ 1000000) : (kz r a f c h).c ≤ 30000 := by
  have h1 := hst.lo
  have h2 := pN_up (sn a) r (by omega) (by omega)
  have h3 := sn_le' a
  exact z2_le hst 4 c kmc h _ _ (by omega) (by omega)
theorem ins_up {z : Z} (hz : z.Ok r false) (g : Nat → Int) (n : Nat) (hn : n ≤ 1000000) : (Z.ins r z g n).c ≤ z.c + 8000 := by
  have h1 := hst.lo
  have h0 := hz.o rfl
  have h2 := ins_c h0 g n
  have h3 := ins_ge h0 g n
  have h4 : (z.p + n) / r ≤ 8000 := by
    rcases hst with ⟨_, rfl⟩ | ⟨_, rfl⟩ <;> omega
  omega
theorem ke_ok {z : Z} (hz : z.Ok r false) (n : Nat) (xof : Bool) : (ke r z n xof).Ok r false := hz.ins (by have := hst.lo; omega) _ _
omit hst in
theorem ke_ge {z : Z} (hz : z.Ok r false) (n : Nat) (xof : Bool) : z.c ≤ (ke r z n xof).c := ins_ge (hz.o rfl) _ _
theorem ke_le {z : Z} (hz : z.Ok r false) (n : Nat) (xof : Bool) : (ke r z n xof).c ≤ z.c + 8000 := ins_up hst hz _ _ (by have := (nb_pos (ku n xof)).2; omega)
theorem ky_ok (z : Z) (n : Nat) (xof : Bool) : (ky r z n xof).Ok r true := Z.Ok.fin _ true _ (by have := hst.lo; omega)
theorem kN_le {z : Z} (hz : z.Ok r false) (n : Nat) (xof : Bool) (hn : n ≤ 65536) : kN r z n xof ≤ 80000 := by
  have h1 := ke_le hst hz n xof
  have h2 := out_le r (ky r z n xof) n
  have h3 : (ky r z n xof).c = (ke r z n xof).c + 1 := rfl
  unfold kN; omega
theorem say_kb (z : Z) (n : Nat) (xof : Bool) (i : Nat) : 0 ≤ Z.say r (ky r z n xof) i ∧ Z.say r (ky r z n xof) i < 256 := say_b (ky_ok hst z n xof) (by have := hst.lo; omega) i
end
theorem kN_eq {r : Nat} {z : Z} (hz : z.Ok r false) (n : Nat) (xof : Bool) : ((ke r z n xof).c - z.c) + (1 + ((Z.out r (ky r z n xof) n).c - (ky r z n xof).c)) = kN r z n xof := by
  have h1 : z.c ≤ (ke r z n xof).c := ins_ge (hz.o rfl) _ _
  have h2 := out_ge r (ky r z n xof) n
  have h3 : (ky r z n xof).c = (ke r z n xof).c + 1 := rfl
  unfold kN; omega
/-- A mac of the program's in block g, its sponge in block b. -/
structure Mk (w : World) (g b : Nat) (st : Int) (r : Nat) (z : Z) : Prop where
  here : Blk w g [.pointer (some ⟨b, 0, none⟩), .int .i64 st] 67
  sp : Sp w b r 4 z false
  str : Str st r
theorem Mk.below {w w' : World} {g b : Nat} {st : Int} {r : Nat} {z : Z} (h : Mk w g b st r z) (hb : Below w.heap.size w w') : Mk w' g b st r z := ⟨h.here.below hb, h.sp.below hb, h.str⟩
theorem Mk.kept {S : Nat → Prop} {w w' : World} {g b : Nat} {st : Int} {r : Nat} {z : Z} (h : Mk w g b st r z) (hk : Kp S w w') (h1 : ¬ S g) (h2 : ¬ S b) : Mk w' g b st r z := ⟨h.here.kept hk h1, h.sp.kept hk h2, h.str⟩
/-- No mac. -/
def NoM (w : World) (v : Value) : Prop := v = .pointer none ∨ ∃ g, v = .pointer (some ⟨g, 0, none⟩) ∧ Blk w g [.pointer none, .int .i64 0] 67
theorem NoM.below {w w' : World} {v : Value} (h : NoM w v) (hb : Below w.heap.size w w') : NoM w' v := by
  rcases h with h | ⟨g, e, h⟩
  · exact .inl h
  · exact .inr ⟨g, e, h.below hb⟩
theorem Tiny.mono {L : List Rn} (h : Tiny L) : Big L := ⟨by have := h.1; omega, by have := h.2; omega⟩
end Go.Proofs.YtnhhkoekghjogaaDoor.Kc
