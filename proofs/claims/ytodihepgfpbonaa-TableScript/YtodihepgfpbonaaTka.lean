/- An iterator is told and kept. -/
import Derived.Test.YtodihepgfpbonaaTst
namespace Go.Proofs.Ytodihepgfpbonaa.Tb
open Go.ChangeShapes Go.WideShapes Go.ChangeAt Go.RowKit
theorem infoS : (Try.prog.info? 77).map (fun i => (i.zero, i.size, i.bytes)) = some (some .nilFunc, 1, 8) := by kernel_rfl
theorem infoT : (Try.prog.info? 88).map (fun i => (i.zero, i.size, i.bytes)) = some (some .nilFunc, 1, 8) := by kernel_rfl
theorem infoL : (Try.prog.info? 72).map (fun i => (i.zero, i.size, i.bytes)) = some (some (.slice none 0 0), 1, 24) := by kernel_rfl
theorem infoQ : (Try.prog.info? 90).map (fun i => (i.zero, i.size, i.bytes)) = some (some (.slice none 0 0), 1, 24) := by kernel_rfl
theorem infoR : (Try.prog.info? 31).map (fun i => (i.zero, i.size, i.bytes)) = some (some (P.vv P.vz), 2, 16) := by kernel_rfl
/-- Lists gone on with. -/
def APS (args : Array Value) : Sem Value := Builtin.append_ #[36, 36] 36 args
@[go_sem ↓ high] theorem aps (cs : Array Bool) (args : Array Value) : builtin .append #[36, 36] 36 cs args = (do pure (.value (← APS args))) := rfl
def APT (args : Array Value) : Sem Value := Builtin.append_ #[37, 37] 37 args
@[go_sem ↓ high] theorem apt (cs : Array Bool) (args : Array Value) : builtin .append #[37, 37] 37 cs args = (do pure (.value (← APT args))) := rfl
def APL (args : Array Value) : Sem Value := Builtin.append_ #[38, 38] 38 args
@[go_sem ↓ high] theorem apl (cs : Array Bool) (args : Array Value) : builtin .append #[38, 38] 38 cs args = (do pure (.value (← APL args))) := rfl
def APQ (args : Array Value) : Sem Value := Builtin.append_ #[39, 39] 39 args
@[go_sem ↓ high] theorem apq (cs : Array Bool) (args : Array Value) : builtin .append #[39, 39] 39 cs args = (do pure (.value (← APQ args))) := rfl
def APR (args : Array Value) : Sem Value := Builtin.append_ #[90, 90] 90 args
@[go_sem ↓ high] theorem apr (cs : Array Bool) (args : Array Value) : builtin .append #[90, 90] 90 cs args = (do pure (.value (← APR args))) := rfl
/-- Three of six lists are turned: those of ints; those of pairs. -/
def up3 (l : Nat → Value) (a b c : Value) : Nat → Value
  | 0 => a
  | 2 => b
  | 4 => c
  | n => l n
def upf (l : Nat → Nat → Value) (a b c : Nat → Value) : Nat → Nat → Value
  | 0 => a
  | 2 => b
  | 4 => c
  | n => l n
def uq3 (l : Nat → Value) (a b c : Value) : Nat → Value
  | 1 => a
  | 3 => b
  | 5 => c
  | n => l n
def uqf (l : Nat → Nat → Value) (a b c : Nat → Value) : Nat → Nat → Value
  | 1 => a
  | 3 => b
  | 5 => c
  | n => l n
section
variable {w0 W W' : World} {B : Nat} {t : Nat → Th} {C : Cn} {b hb vb m i : Nat} {hd : Nat → Option Int} {vf : Nat → Int}
/-- What an iterator over what the document's table has goes over. -/
theorem prs_doc (hD : DT t i b hb vb m hd vf) : prs hd 64 = (hl (so hd) m).map fun j => (j, vf j) := by
  have e : hl (so hd) 64 = hl (so hd) m := hl_more (fun j hj => by show (hd j).isSome = false; rw [hD.hi j hj]; rfl) 64 hD.h2
  rw [← e]
  exact prs_hl hd vf hD.vv 64
theorem prs_ph (hd : Nat → Option Int) (n : Nat) : prs (ph hd) n = (prs hd n).map fun x => (x.1, pr x.2) := by
  induction n with
  | zero => rfl
  | succ n ih =>
    cases e : hd n with
    | none => rw [prs_none (show ph hd n = none by show (hd n).map pr = none; rw [e]; rfl), prs_none e, ih]
    | some v => rw [prs_some (show ph hd n = some (pr v) by show (hd n).map pr = _; rw [e]; rfl), prs_some e, ih, List.map_append]; rfl
theorem ki_all (hG : GX w0 B t W) (h0 : t 0 = tK C) (hD : DT t 3 b hb vb m hd vf) {ps : Ps} (hs : I.Std C ps hd) (hb' : Below W.heap.size W W') {Bs : Nat} (hBs : W.heap.size ≤ Bs) (hbl : Blk W' Bs (pl ps) I.at')
    {ha va : Option Addr} {hc vc : Nat} (r1 : W'.ownsRow W.heap.size 3 1 (.slice ha (hl (so hd) m).length hc) (hl (so hd) m).length (iv (nv (hl (so hd) m)))) (r2 : W'.ownsRow W.heap.size 3 1 (.slice va (hl (so hd) m).length vc) (hl (so hd) m).length (iv ((hl (so hd) m).map vf))) :
    ∃ t' C', GX w0 B t' W' ∧ t' 0 = tK C' ∧ Cle C C' ∧ But t t' 0 0 ∧ KI C' (.func (.func 57) #[] #[.pointer (some ⟨Bs, 0, none⟩)]) (.slice ha (hl (so hd) m).length hc) (.slice va (hl (so hd) m).length vc) := by
  obtain ⟨t', C', hg, hz, hc', hB, hn⟩ := gx_freeze hG h0 hb'
  have hp := prs_doc hD
  have hl' : (prs hd 64).length = (hl (so hd) m).length := by rw [hp, List.length_map]
  have hx : ∀ (i : Nat) (x : Nat × Int), (prs hd 64)[i]? = some x → (hl (so hd) m)[i]? = some x.1 ∧ vf x.1 = x.2 := fun i x hx => by
    rw [hp, List.getElem?_map] at hx
    cases e : (hl (so hd) m)[i]? with
    | none => rw [e] at hx; cases hx
    | some j => rw [e] at hx; cases hx; exact ⟨rfl, rfl⟩
  refine ⟨t', C', hg, hz, hc', hB, ⟨Bs, ps, hd, ha, hc, va, vc, rfl, by rw [hl'], by rw [hl'], (hn Bs hBs).trans hbl, hs.mono hc', fun i x hi => ?_, fun i x hi => ?_⟩⟩
  · exact cl_of_row r1 hn i _ (iv_get _ _ _ (nv_get _ _ _ (hx i x hi).1))
  · refine cl_of_row r2 hn i _ (iv_get _ _ _ ?_)
    rw [List.getElem?_map, (hx i x hi).1]
    exact congrArg some (hx i x hi).2
end
end Go.Proofs.Ytodihepgfpbonaa.Tb
