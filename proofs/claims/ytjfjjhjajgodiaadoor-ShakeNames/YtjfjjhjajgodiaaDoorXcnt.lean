/- How often the permutation is recorded; one kind of event is one run. -/
import Derived.Test.YtjfjjhjajgodiaaDoorXtold
import Derived.Test.YtjfjjhjajgodiaaDoorXcmp
namespace Go.Proofs.YtjfjjhjajgodiaaDoor.Kc
open Go.ChangeShapes Go.WideShapes Go.ChangeAt Go.RowKit
open Go.Proofs.YtjfjjhjajgodiaaDoor.By Go.Proofs.YtjfjjhjajgodiaaDoor.Wd
/-- How many bytes are written behind a name and a custom. -/
def wrt (r a c m : Nat) : Nat := m + (if a = 0 ∧ c = 0 then 0 else pN (tn a c) r)
theorem bz_cp {st : Int} {r : Nat} (hst : Str st r) (a c : Nat) (f h : Nat → Int) : (bz r a f c h).p = 0 ∧ (bz r a f c h).c = (if a = 0 ∧ c = 0 then 0 else pN (tn a c) r) / r := by
  have hr := hst.lo
  unfold bz
  by_cases h0 : a = 0 ∧ c = 0
  · rw [if_pos h0, if_pos h0]
    exact ⟨rfl, by rw [Nat.zero_div]; rfl⟩
  · rw [if_neg h0, if_neg h0]
    have hc := ins_count (z := zz) (r := r) (by show 0 < r; omega) (pg (tn a c) (tg a f c h) r) (pN (tn a c) r)
    refine ⟨?_, ?_⟩
    · rw [hc.2]
      show (0 + pN (tn a c) r) % r = 0
      rw [Nat.zero_add]; exact pN_mod _ r (by omega)
    · rw [hc.1]
      show 0 + (0 + pN (tn a c) r) / r = _
      rw [Nat.zero_add, Nat.zero_add]
theorem wrt_div {r : Nat} (hr : 0 < r) (a c m : Nat) : wrt r a c m / r = (if a = 0 ∧ c = 0 then 0 else pN (tn a c) r) / r + m / r := by
  unfold wrt
  by_cases h0 : a = 0 ∧ c = 0
  · rw [if_pos h0]; simp
  · rw [if_neg h0]
    have e := Nat.div_add_mod (pN (tn a c) r) r
    rw [pN_mod _ r hr, Nat.add_zero] at e
    have e2 : m + pN (tn a c) r = r * (pN (tn a c) r / r) + m := by omega
    rw [e2, Nat.mul_add_div hr]
/-- The count that the chapter reckons. -/
def cnt (r a c m k : Nat) : Nat := wrt r a c m / r + 1 + (if k = 0 then 0 else (k - 1) / r)
theorem tC_eq {st : Int} {r : Nat} (hst : Str st r) (a c m k : Nat) (f h g : Nat → Int) (hk : k ≤ 65536) : tC r a f c h m g k = cnt r a c m k := by
  have hr := hst.lo
  have e0 : tC r a f c h m g k = (Z.out r (tY r a f c h m g) k).c := by
    unfold tC; rw [if_neg (by omega)]; rfl
  have hb := bz_cp hst a c f h
  have h2 : (Z.ins r (bz r a f c h) g m).c = wrt r a c m / r := by
    rw [(ins_count (by rw [hb.1]; omega) g m).1, hb.1, hb.2, wrt_div (by omega), Nat.zero_add]
  have h3 : (tY r a f c h m g).c = wrt r a c m / r + 1 := by
    show (Z.ins r (bz r a f c h) g m).c + 1 = _
    rw [h2]
  rw [e0]
  unfold cnt
  by_cases hk0 : k = 0
  · subst hk0; rw [if_pos rfl]; exact h3
  · rw [if_neg hk0]
    obtain ⟨j, rfl⟩ : ∃ j, k = j + 1 := ⟨k - 1, by omega⟩
    rw [(out_count (by omega) (show (tY r a f c h m g).p = 0 from rfl) j).1, h3, Nat.add_sub_cancel]
theorem cnt_pos (r a c m k : Nat) : 1 ≤ cnt r a c m k := by unfold cnt; exact Nat.le_trans (Nat.le_add_left 1 _) (Nat.le_add_right _ _)
theorem evk_one (c : Nat) (hc : c ≤ 1000000) : evk [] (c + 1) = [⟨3, 200, ((c + 1 : Nat) : Int)⟩] := by
  induction c with
  | zero => rfl
  | succ c ih =>
    show putL (evk [] (c + 1)) ⟨3, 200, 1⟩ = _
    rw [ih (by omega)]
    have e : sm ((c + 1 : Nat) : Int) 1 = ((c + 1 + 1 : Nat) : Int) := by unfold sm; rw [if_pos (by omega)]; omega
    unfold putL
    rw [if_neg (by decide)]
    show (if (3 : Int) = 3 ∧ (200 : Int) = 200 then _ else _) = _
    rw [if_pos ⟨rfl, rfl⟩]
    show [(⟨3, 200, sm ((c + 1 : Nat) : Int) 1⟩ : Rn)] = _
    rw [e]
theorem pickN (i : Int) (N : Nat) (h0 : 0 < N) (h1 : N ≤ 1000000) (w : World) :
    Calls Tryd.prog 42 #[.int .i64 i, .int .i64 N] w fun e w' => (∃ p : Nat, p < N ∧ e = .returned (.int .i64 p)) ∧ w' = w := by
  have hN : (0 : Int) < N := by omega
  have a1 := Int.tmod_lt_of_pos i hN
  have a2 : - (N : Int) < i.tmod N := by
    have := Int.lt_tmod_of_pos i hN
    omega
  have nz : ¬ (N : Int) = 0 := by omega
  have nz2 : ¬ N = 0 := by omega
  obtain ⟨q, hq⟩ : ∃ q, i.tmod N = q := ⟨_, rfl⟩
  rw [hq] at a1 a2
  have w1 : IntKind.i64.wrap q = q := by rw [IntKind.wrap_i64]; omega
  by_cases hlt : q < 0
  · have w2 : IntKind.i64.wrap (q + N) = q + N := by rw [IntKind.wrap_i64]; omega
    go_enter Tryd.func42, Tryd.ntmps42
    go_wp2
    go_ret
    exact ⟨⟨(q + N).toNat, by omega, by rw [show (((q + N).toNat : Nat) : Int) = q + N by omega]; rfl⟩, rfl⟩
  · go_enter Tryd.func42, Tryd.ntmps42
    go_wp2
    go_ret
    exact ⟨⟨q.toNat, by omega, by rw [show ((q.toNat : Nat) : Int) = q by omega]; rfl⟩, rfl⟩
end Go.Proofs.YtjfjjhjajgodiaaDoor.Kc
