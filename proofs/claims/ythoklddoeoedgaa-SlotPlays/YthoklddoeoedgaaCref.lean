/- What the document's own functions on lists of bytes answer (Equal, Less, IsZero, Choose, Mask, Wiped), for every list, whatever the document's ledger does; and the program's Wipe. -/
import Derived.Test.YthoklddoeoedgaaCwalk
import Derived.Laws.BytesArg
import Derived.Lib.SliceRun
namespace Go.Proofs.Ythoklddoeoedgaa.By
open Go.ChangeShapes Go.WideShapes Go.ChangeAt Go.RowKit

/-- What the document's ledger does when an event is recorded, as far as the caller knows. -/
def RNotes (w : World) (lp : Value) (k s : Int) (R : World → Prop) : Prop :=
  Calls Try.prog 37 #[lp, .agg #[.int .u8 k, .int .i64 s]] w fun e w' => e = .returned (.tuple #[]) ∧ R w'

theorem drewN_three (Z : World) (d x y : Nat) : ((Z.drewN d).drewN x).drewN y = Z.drewN (d + x + y) := by simp
/-- n bytes as a string. -/
def str (n : Nat) (f : Nat → Int) : ByteArray := strOfNums ((List.range n).map f)
theorem rb_string {w : World} {v : Value} {n : Nat} {f : Nat → Int} (h : RB w v n f) : (convert 36 9 v).run Try.prog w = .ok (.string (str n f)) w := by
  obtain ⟨_, a, cap, rfl, h1, h2, hc⟩ := h
  have hs := Try.underlying36
  have he := Try.underlying5
  have hd := Try.underlying9
  rcases hc with ⟨h0, _⟩ | ⟨b, off, rfl, hc⟩
  · subst h0
    cases a with
    | none => rw [run_convert_bytes_nil w _ _ hs he _ _ _ hd]; rfl
    | some a =>
      rw [run_convert_bytes_string w _ _ _ _ 0 cap hs he hd, run_bytesToString w a 0 cap [] (by
        have := run_loadCells_list (P := Try.prog) w a [] (fun j v hj => by simp at hj)
        simpa using this)]
      rfl
  · exact run_convert_bytes_arg w _ _ hs he b off n cap ((List.range n).map f) (by simp) (fun i hi => by rw [hc i hi]; simp [hi]) _ hd
theorem str_eq (n : Nat) (f g : Nat → Int) (hf : ∀ i, 0 ≤ f i ∧ f i < 256) (hg : ∀ i, 0 ≤ g i ∧ g i < 256) : ((str n f).toList == (str n g).toList) = eqB f g n := by
  rw [Bool.eq_iff_iff, beq_iff_eq, eqB_iff]
  have e : ∀ f : Nat → Int, (str n f).toList = (List.range n).map fun i => UInt8.ofNat (f i).toNat := by
    intro f
    rw [ByteArray.toList_eq]
    simp [str, strOfNums]
  rw [e, e]
  constructor
  · intro h i hi
    have h1 := congrArg (fun l => l[i]?) h
    simp [hi] at h1
    have a := hf i
    have b := hg i
    have h2 := congrArg UInt8.toNat h1
    simp at h2
    omega
  · intro h
    apply List.map_congr_left
    intro i hi
    rw [h i (List.mem_range.1 hi)]
theorem rb_cells {w : World} {ad : Addr} {cap n : Nat} {f : Nat → Int} (h : RB w (.slice (some ad) n cap) n f) : ∀ j u, (bl n f)[j]? = some u → w.cell? (ad.add j) = some u := by
  intro j u hj
  obtain ⟨hj1, rfl⟩ := bl_get_inv _ _ _ _ hj
  obtain ⟨b, off, e, hc⟩ := h.cellsAt hj1
  cases e
  rw [add_plain]
  exact hc
theorem rb_nil {w : World} {cap n : Nat} {f : Nat → Int} (h : RB w (.slice none n cap) n f) : n = 0 ∧ cap = 0 := by
  obtain ⟨_, a', cap', he, _, _, ⟨h0, h1⟩ | ⟨b, off, rfl, _⟩⟩ := h
  · simp only [Value.slice.injEq] at he
    obtain ⟨rfl, _, rfl⟩ := he
    exact ⟨h0, h1 rfl⟩
  · simp at he
theorem zero5 (w : World) : (zeroValue 5).run Try.prog w = .ok (.int .u8 0) w := by kernel_rfl
/-- A part of a list that the call owns, written over with noughts. -/
def wiped (o n : Nat) (f : Nat → Int) (i : Nat) : Int := if o ≤ i ∧ i < o + n then 0 else f i
theorem wiped_bound (o n : Nat) (f : Nat → Int) (hf : ∀ i, 0 ≤ f i ∧ f i < 256) (i : Nat) : 0 ≤ wiped o n f i ∧ wiped o n f i < 256 := by
  have := hf i
  unfold wiped; split <;> omega
theorem own_wipe {base g N cap : Nat} : ∀ (n o : Nat) (w : World) (f : Nat → Int), Own w base (.slice (some ⟨g, 0, none⟩) N cap) N f →
    Own (w.setCells g o (List.replicate n (.int .u8 0))) base (.slice (some ⟨g, 0, none⟩) N cap) N (wiped o n f) ∧ w.grownBy (w.setCells g o (List.replicate n (.int .u8 0))) (some g) := by
  intro n
  induction n with
  | zero =>
    intro o w f h
    refine ⟨own_congr h (wiped_bound o 0 f h.1) (fun i _ => ?_), World.grownBy.refl _ _⟩
    unfold wiped; rw [if_neg (by omega)]
  | succ n ih =>
    intro o w f h
    obtain ⟨s1, s2⟩ := own_store h o 0 (by omega)
    obtain ⟨t1, t2⟩ := ih (o + 1) _ _ s1
    refine ⟨own_congr t1 (wiped_bound o (n + 1) f h.1) (fun i _ => ?_), grown_trans s2 t2⟩
    show (if o + 1 ≤ i ∧ i < o + 1 + n then 0 else if i = o then 0 else f i) = if o ≤ i ∧ i < o + (n + 1) then 0 else f i
    by_cases h1 : i = o
    · subst h1
      rw [if_neg (by omega), if_pos rfl, if_pos (by omega)]
    · rw [if_neg h1]
      by_cases h2 : o + 1 ≤ i ∧ i < o + 1 + n
      · rw [if_pos h2, if_pos (by omega)]
      · rw [if_neg h2, if_neg (by omega)]
set_option maxHeartbeats 1200000 in
theorem wipe31_z (lp : Value) (a : Option Addr) (c : Nat) (w : World) (R : World → Prop) (hN : Notes w lp 8 0 R) :
    Calls Try.prog 36 #[lp, .slice a 0 c] w fun e w' => e = .returned (.tuple #[]) ∧ R w' := by
  have HN := hid hN
  clear hN
  go_enter Try.func36, Try.ntmps36
  go_wp2_with fail
  refine HN.out.mono ?_
  rintro e w1 ⟨rfl, hR⟩
  have HR := hid hR
  clear hR HN
  have hcl : ∀ ty, (Builtin.clear_ #[36] ty #[.slice a 0 c]).run Try.prog w1 = .ok (.tuple #[]) w1 := fun ty => by
    cases a <;> simp [Builtin.clear_, run_underlying Try.underlying36]
  go_wp2
  go_end0
  exact ⟨rfl, HR.out⟩
set_option maxHeartbeats 1200000 in
theorem wipe31_any (lp : Value) (b off n c : Nat) (w : World) (R : World → Prop) (hN : Notes w lp 8 n R) (hn : 0 < n)
    (hc : ∀ w', R w' → ∀ j, j < n → (w'.cell? ⟨b, off + j, none⟩).isSome = true) (hf : ∀ w', R w' → ∀ j, j < n → w'.frozen? ⟨b, off + j, none⟩ = false) :
    Calls Try.prog 36 #[lp, .slice (some ⟨b, off, none⟩) n c] w fun e w' => e = .returned (.tuple #[]) ∧ ∃ w1, R w1 ∧ w' = w1.setCells b off (List.replicate n (.int .u8 0)) := by
  have HN := hid hN
  have HC := hid hc
  have HF := hid hf
  clear hN hc hf
  go_enter Try.func36, Try.ntmps36
  go_wp2_with fail
  refine HN.out.mono ?_
  rintro e w1 ⟨rfl, hR⟩
  have HR := hid hR
  have hcl : ∀ ty, (Builtin.clear_ #[36] ty #[.slice (some ⟨b, off, none⟩) n c]).run Try.prog w1 = .ok (.tuple #[]) (w1.setCells b off (List.replicate n (.int .u8 0))) :=
    fun ty => Lib.run_clear_slice w1 36 5 ty (.int .u8 0) Try.underlying36 zero5 rfl rfl b off n c hn (HC.out w1 hR) (HF.out w1 hR)
  clear hR HN HC HF
  go_wp2
  go_end0
  exact ⟨rfl, w1, HR.out, rfl⟩
/-- Wipe of a part of a list that the call owns. -/
theorem wipe31 (lp : Value) (base g N cap o n c : Nat) (f : Nat → Int) (w : World) (R : World → Prop) (hN : Notes w lp 8 n R) (ho : ∀ w', R w' → Own w' base (.slice (some ⟨g, 0, none⟩) N cap) N f) (hn : o + n ≤ N) :
    Calls Try.prog 36 #[lp, .slice (some ⟨g, o, none⟩) n c] w fun e w' => e = .returned (.tuple #[]) ∧ ∃ w1, R w1 ∧ Own w' base (.slice (some ⟨g, 0, none⟩) N cap) N (wiped o n f) ∧ w1.grownBy w' (some g) := by
  by_cases h0 : n = 0
  · subst h0
    refine (wipe31_z lp (some ⟨g, o, none⟩) c w R hN).mono ?_
    rintro e w1 ⟨rfl, hR⟩
    have S := own_wipe (base := base) (g := g) (N := N) (cap := cap) 0 o w1 f (ho w1 hR)
    exact ⟨rfl, w1, hR, S⟩
  · refine (wipe31_any lp g o n c w R hN (by omega) (fun w' hR j hj => ?_) (fun w' hR j _ => ?_)).mono ?_
    · rw [(ho w' hR).2.cellAt (o + j) (by omega), bl_get _ _ _ (by omega)]; rfl
    · exact (ho w' hR).2.frozenAt _
    · rintro e w' ⟨rfl, w1, hR, rfl⟩
      exact ⟨rfl, w1, hR, own_wipe n o w1 f (ho w1 hR)⟩
end Go.Proofs.Ythoklddoeoedgaa.By
