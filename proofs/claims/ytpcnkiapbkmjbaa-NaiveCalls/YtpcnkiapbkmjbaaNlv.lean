/- What the statements' own helpers answer: choices as runs (branches), and that the first example stands (lives). -/
import Derived.Test.YtpcnkiapbkmjbaaNgx
namespace Go.Proofs.Ytpcnkiapbkmjbaa.Nv
open Go.ChangeShapes Go.WideShapes Go.ChangeAt Go.RowKit
open Go.Proofs.Ytpcnkiapbkmjbaa Go.Proofs.Ytpcnkiapbkmjbaa.Tb
theorem hidl {p : Prop} (h : p) : Hid p := h
theorem cell_kept {S : Nat → Prop} {w w' : World} {b o : Nat} {v : Value} (h : w.cell? ⟨b, o, none⟩ = some v) (hk : Kp S w w') (hn : ¬ S b) : w'.cell? ⟨b, o, none⟩ = some v := by
  unfold World.cell? at h ⊢
  cases e : w.heap[b]? with
  | none => rw [e] at h; simp at h
  | some ob => rw [hk.block b (Array.getElem?_eq_some_iff.1 e).1 hn, e]; rw [e] at h; exact h
/-- Choices as numbers. -/
def bint (b : Bool) : Value := .int .i64 (if b then 1 else 0)
theorem nts_small (bs : List Bool) (hn : bs.length ≤ 40200) : (nts [] bs).length ≤ 40200 ∧ tot (nts [] bs) ≤ 40200 := by
  have h1 := nts_len [] bs
  have h2 := nts_tot (L := []) (fun _ h => absurd h List.not_mem_nil) bs (by simp [tot]; omega)
  simp only [List.length_nil, tot] at h1 h2
  omega
set_option maxRecDepth 100000 in
set_option maxHeartbeats 2000000 in
theorem branches_walk (bs : List Bool) (n gb : Nat) (w : World) (hl : bs.length = n) (hg : gb < w.heap.size) (hc : ∀ i b, bs[i]? = some b → w.cell? ⟨gb, i, none⟩ = some (bint b)) (hn : n ≤ 200) :
    Calls Try.prog 35 #[.slice (some ⟨gb, 0, none⟩) n n] w fun e w' => ∃ v, e = .returned v ∧ RB w' v (nts [] bs) ∧ Below w.heap.size w w' := by
  have NEW := hidl (refNew10 w)
  have HC := hidl hc
  have HG := hidl hg
  have HLn := hidl hl
  clear hc hg hl
  go_enter Try.func35, Try.ntmps35
  go_wp2_with (go_at_call 12; refine NEW.out.mono ?_; rintro e w1 ⟨rfl, hm, hb⟩; have HM := hidl hm; have HB := hidl hb; clear hm hb)
  have hlp : lpv (some w.heap.size) = .pointer (some ⟨w.heap.size, 0, none⟩) := rfl
  have P0 := hidl (show RPL w1 (some w.heap.size) (.slice none 0 0) [] from ⟨fun _ h => absurd h List.not_mem_nil, HM.out⟩)
  go_loopw [4] (fun i wr => ∃ k : Nat, k ≤ n ∧ i = .int .i64 k ∧ RST w1 (some w.heap.size) (.slice none 0 0) wr (nts [] (bs.take k))) (fun i _ => n - (intOf i).toNat)
  case atStart => exact ⟨0, Nat.zero_le _, rfl, P0.out.st⟩
  case round =>
    obtain ⟨k, hk, rfl, hs⟩ := hrel
    have HS := hidl hs
    clear hs
    by_cases hlt : k < n
    · obtain ⟨b, hb⟩ : ∃ b, bs[k]? = some b := ⟨_, List.getElem?_eq_getElem (by rw [HLn.out]; exact hlt)⟩
      have c0 : wr.cell? ⟨gb, k, none⟩ = some (.int .i64 (if b then 1 else 0)) := by
        have c1 := cell_kept (HC.out k b hb) (Kp.of_below (fun _ => False) HB.out) id
        refine cell_kept c1 HS.out.kp (fun h => ?_)
        rcases h with e | e
        · have := HG.out; omega
        · cases e
      have NT := hidl (rnote_st 9 (if b then 1 else 0) HS.out (br_ok b) (by have := (nts_small (bs.take k) (by simp; omega)).2; omega))
      have TK := hidl (show bs.take (k + 1) = bs.take k ++ [b] by rw [List.take_add_one, hb]; rfl)
      rw [hlp] at NT
      have NT2 : Hid (Calls Try.prog 41 #[.pointer (some ⟨w.heap.size, 0, none⟩), .agg #[.int .u8 9, .int .i64 (if b then 1 else 0)]] wr fun e w' => e = .returned (.tuple #[]) ∧ RST w1 (some w.heap.size) (.slice none 0 0) w' (nts [] (bs.take (k + 1)))) := by
        have := NT.out
        rw [TK.out, nts_snoc]
        exact this
      generalize (if b = true then (1 : Int) else 0) = z at *
      clear NT
      go_wp2_with (go_at_call 41; refine NT2.out.mono ?_; rintro e w' ⟨rfl, h⟩; have R := hidl h; clear h)
      go_roundw
      case rel => exact ⟨k + 1, by omega, by go_num, R.out⟩
      case measure => simp [intOf]; omega
    · obtain rfl : k = n := by omega
      have TK : Hid (bs.take k = bs) := hidl (List.take_of_length_le (by rw [HLn.out]; exact Nat.le_refl _))
      rw [TK.out] at HS
      have RUN : Hid (Calls Try.prog 26 #[.pointer (some ⟨w.heap.size, 0, none⟩)] wr fun e w' => ∃ v, e = .returned v ∧ RB w' v (nts [] bs) ∧ Below wr.heap.size wr w') := by
        obtain ⟨rv, h1, -, -⟩ := HS.out
        refine (refRuns20 w.heap.size rv (nts [] bs) wr h1.2 (by have := (nts_small bs (by rw [HLn.out]; omega)).1; omega)).mono ?_
        rintro e w' ⟨v, rfl, ho, hb⟩
        exact ⟨v, rfl, ho.reads, hb⟩
      have KB := hidl (show Below w.heap.size w wr from by
        refine HB.out.trans (HS.out.kp.below HB.out.size (fun j hj h => ?_))
        rcases h with e | e
        · omega
        · cases e)
      go_wp2_with (go_at_call 26; refine RUN.out.mono ?_; rintro e w' ⟨v, rfl, hr, hb⟩; have HR := hidl hr; have HB2 := hidl hb; clear hr hb)
      go_ret
      exact ⟨_, rfl, HR.out, KB.out.trans (HB2.out.mono KB.out.size)⟩
end Go.Proofs.Ytpcnkiapbkmjbaa.Nv
