/- Skeletons held against each other; lists of them copied, lent, held against each other. -/
import Derived.Test.YtdahogdfonhnfaaVls
import Derived.ArgAppend
import Derived.WalkSpells
import Derived.Deep.RegionHeld3
import Derived.Deep.RegionLaw
import Derived.Laws.AppendOwnNone
namespace Go.Proofs.Ytdahogdfonhnfaa.Sx
open Go.ChangeShapes Go.WideShapes Go.ChangeAt Go.RowKit
open Go.Proofs.Ytdahogdfonhnfaa.By (hid grown_none grown_of_alloc grown_step grown_cell apart_symm lv)
open Go.Proofs.Ytdahogdfonhnfaa.Ou (Sk sL sv LDk SVk sL_one infok zS SVk_run LDk_run two_vars)
open Go.Proofs.Ytdahogdfonhnfaa.Tb (put put_get put_length Blk)
/-- Two skeletons are the same. -/
def eqS (s t : Sk) : Bool := decide (s = t)
theorem eqS_refl (s : Sk) : eqS s s = true := decide_eq_true rfl
theorem eqS_false {s t : Sk} (h : s ≠ t) : eqS s t = false := decide_eq_false h
theorem eqS_true {s t : Sk} (h : s = t) : eqS s t = true := decide_eq_true h
theorem equalK (a b c d e f g a' b' c' d' e' f' g' : Int) (w : World) : (Op.equalIn 10000 33 (.agg #[.int .u8 a, .int .i64 b, .int .u8 c, .int .i64 d, .int .i64 e, .int .i64 f, .int .i64 g]) (.agg #[.int .u8 a', .int .i64 b', .int .u8 c', .int .i64 d', .int .i64 e', .int .i64 f', .int .i64 g'])).run Try.prog w = .ok (eqS ⟨a, b, c, d, e, f, g⟩ ⟨a', b', c', d', e', f', g'⟩) w := by
  have u3 := Try.underlying3
  have u4 := Try.underlying24
  have u5 := Try.underlying25
  have hS : Try.prog.underlying 33 = some (.struct (Try.prog.fieldsOf 33)) := by kernel_rfl
  unfold eqS
  rw [show (10000 : Nat) = 9999 + 1 from rfl, run_equalIn_agg w 9999 33 _ _ hS (by kernel_rfl)]
  simp only [Program.fieldsOf, Try.underlying33]
  go_simp
  by_cases h1 : a = a' <;> by_cases h2 : b = b' <;> by_cases h3 : c = c' <;> by_cases h4 : d = d' <;> by_cases h5 : e = e' <;> by_cases h6 : f = f' <;> by_cases h7 : g = g' <;> simp [h1, h2, h3, h4, h5, h6, h7]
@[go_sem high] theorem sameK (s t : Sk) (w : World) : (Op.equalIn 10000 33 (sv s) (sv t)).run Try.prog w = .ok (eqS s t) w := equalK _ _ _ _ _ _ _ _ _ _ _ _ _ _ w
/-- Two lists are the same. -/
def eqF (n : Nat) (f g : Nat → Sk) : Bool := (List.range n).all (fun i => eqS (f i) (g i))
theorem eqF_iff {n : Nat} {f g : Nat → Sk} : eqF n f g = true ↔ ∀ i, i < n → f i = g i := by
  unfold eqF eqS
  simp
def eqM (n m : Nat) (f g : Nat → Sk) : Bool := decide (n = m) && eqF n f g
theorem eqM_refl (n : Nat) (f : Nat → Sk) : eqM n n f f = true := by unfold eqM; rw [eqF_iff.2 (fun _ _ => rfl)]; simp
theorem eqM_of {n : Nat} {f g : Nat → Sk} (h : ∀ i, i < n → f i = g i) : eqM n n f g = true := by unfold eqM; rw [eqF_iff.2 h]; simp
theorem eqM_comm (n m : Nat) (f g : Nat → Sk) : eqM n m f g = eqM m n g f := by
  unfold eqM
  by_cases h : n = m
  · subst h
    congr 1
    cases e : eqF n f g with
    | true => exact (eqF_iff.2 (fun i hi => (eqF_iff.1 e i hi).symm)).symm
    | false =>
      cases e' : eqF n g f with
      | false => rfl
      | true => rw [eqF_iff.2 (fun i hi => (eqF_iff.1 e' i hi).symm)] at e; cases e
  · rw [decide_eq_false h, decide_eq_false (fun e => h e.symm)]; rfl
set_option maxRecDepth 4000 in
set_option maxHeartbeats 400000 in
theorem same_ok (v v' : Value) (n m : Nat) (f g : Nat → Sk) (w : World) (h1 : RB w v n f) (h2 : RB w v' m g) (hn : n ≤ 140737488355328) (hm : m ≤ 140737488355328) :
    Calls Try.prog 16 #[v, v'] w fun e w' => e = .returned (.bool (eqM n m f g)) ∧ ∃ d, w' = w.drewN d := by
  obtain ⟨a, c, rfl⟩ := h1.isSl
  obtain ⟨a', c', rfl⟩ := h2.isSl
  by_cases e : n = m
  · subst e
    have H1 := hid h1
    have H2 := hid h2
    clear h1 h2
    go_enter Try.func16, Try.ntmps16
    go_wp2
    go_loopw [5] (fun i wr => ∃ k : Nat, k ≤ n ∧ i = .int .i64 k ∧ (∀ j, j < k → f j = g j) ∧ ∃ d, wr = w.drewN d) (fun i _ => n - (intOf i).toNat)
    case atStart => exact ⟨0, Nat.zero_le _, rfl, fun j hj => absurd hj (by omega), 0, rfl⟩
    case round =>
      obtain ⟨k, hk, rfl, hall, dn, rfl⟩ := hrel
      have HA := hid hall
      clear hall
      by_cases hlt : k < n
      · obtain ⟨b, off, rfl, x1⟩ := H1.out.ldB hlt
        obtain ⟨b', off', rfl, x2⟩ := H2.out.ldB hlt
        have c1 := x1 (w.drewN dn).drew (below_next (below_drewN w dn) (below_drewN _ 1))
        have c2 := x2 (w.drewN dn).drew (below_next (below_drewN w dn) (below_drewN _ 1))
        obtain ⟨s, hs⟩ : ∃ s, f k = s := ⟨_, rfl⟩
        obtain ⟨t, ht⟩ : ∃ t, g k = t := ⟨_, rfl⟩
        rw [hs] at c1
        rw [ht] at c2
        have HS := hid hs
        have HT := hid ht
        clear x1 x2 hs ht
        by_cases hfg : s = t
        · have e1 := eqS_true hfg
          have HE := hid hfg
          clear hfg
          go_wp2
          go_region_held3 (fun V => (LDk ⟨b, off + k * 7, none⟩).run Try.prog V = .ok (sv s) V ∧ (LDk ⟨b', off' + k * 7, none⟩).run Try.prog V = .ok (sv t) V) (exact ⟨c1, c2⟩) (fail)
          go_wp2
          go_roundw
          case rel => exact ⟨k + 1, by omega, by go_num, fun j hj => by
            by_cases e : j = k
            · rw [e, HS.out, HT.out]; exact HE.out
            · exact HA.out j (by omega), _, rfl⟩
          case measure => simp [intOf]; omega
        · have e1 := eqS_false hfg
          have E : Hid (eqM n n f g = false) := by
            show eqM n n f g = false
            unfold eqM
            cases ee : eqF n f g with
            | true => exact absurd (by rw [← HS.out, ← HT.out]; exact eqF_iff.1 ee k hlt) hfg
            | false => simp
          clear hfg
          go_wp2
          go_region_held3 (fun V => (LDk ⟨b, off + k * 7, none⟩).run Try.prog V = .ok (sv s) V ∧ (LDk ⟨b', off' + k * 7, none⟩).run Try.prog V = .ok (sv t) V) (exact ⟨c1, c2⟩) (fail)
          go_wp2
          go_ret
          exact ⟨by rw [E.out]; rfl, _, drewN_two _ _ _⟩
      · have E : Hid (eqM n n f g = true) := eqM_of (fun j hj => HA.out j (by omega))
        go_wp2
        go_ret
        exact ⟨by rw [E.out]; rfl, dn, rfl⟩
  · have e1 : ((n : Int) == (m : Int)) = false := by simp; omega
    have E : Hid (eqM n m f g = false) := by show eqM n m f g = false; unfold eqM; rw [decide_eq_false e]; rfl
    clear h1 h2 e
    go_enter Try.func16, Try.ntmps16
    go_wp2
    go_ret
    exact ⟨by rw [E.out]; rfl, 0, rfl⟩
end Go.Proofs.Ytdahogdfonhnfaa.Sx
