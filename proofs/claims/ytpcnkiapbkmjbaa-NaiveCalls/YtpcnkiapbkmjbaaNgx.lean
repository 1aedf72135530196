/- Each of naive's functions, of the program and of the document, among things that lie apart. -/
import Derived.Test.YtpcnkiapbkmjbaaNth
import Derived.Test.YtpcnkiapbkmjbaaRlen
import Derived.Test.YtpcnkiapbkmjbaaRreset
namespace Go.Proofs.Ytpcnkiapbkmjbaa.Nv
open Go.ChangeShapes Go.WideShapes Go.ChangeAt Go.RowKit
open Go.Proofs.Ytpcnkiapbkmjbaa Go.Proofs.Ytpcnkiapbkmjbaa.Tb
section
variable {w0 W W' : World} {B : Nat} {t : Nat → Th} {i j k m lb : Nat} {L M : List Rn} {v u : Value} {n n' : Nat} {f g : Nat → Int}
theorem lp_pos (hG : GX w0 B t W) (hk : LgP t k lb L) : Pos L := by
  obtain ⟨rv, e⟩ := hk
  have := hG.all k; rw [e] at this; exact this.pos
theorem lr_pos (hG : GX w0 B t W) (hk : LgR t k lb L) : Pos L := by
  obtain ⟨rv, e⟩ := hk
  have := hG.all k; rw [e] at this; exact this.pos
theorem LgP.keep (h : LgP t k lb L) {t' : Nat → Th} (e : t' k = t k) : LgP t' k lb L := h.imp fun _ q => e.trans q
theorem LgR.keep (h : LgR t k lb L) {t' : Nat → Th} (e : t' k = t k) : LgR t' k lb L := h.imp fun _ q => e.trans q
theorem gx_new (hG : GX w0 B t W) (i : Nat) : Calls Try.prog 11 #[] W fun e W' => e = .returned (lpv (some W.heap.size)) ∧ ∃ t', GX w0 B t' W' ∧ LgP t' i W.heap.size [] ∧ But t t' i := by
  refine (new9 W).mono ?_
  rintro e W' ⟨rfl, hm, hb⟩
  exact ⟨rfl, _, hG.one i (tL W.heap.size (.slice none 0 0) []) (Kp.of_below (fun _ => False) hb) (fun _ e => e.elim) hm (fun j hj => .inr (by
    rcases hj with e | e
    · rw [e]; exact Nat.le_refl _
    · cases e)), ⟨_, up_at _ _ _⟩, fun m h1 => up_ne _ _ h1⟩
theorem gx_rnew (hG : GX w0 B t W) (i : Nat) : Calls Try.prog 12 #[] W fun e W' => e = .returned (lpv (some W.heap.size)) ∧ ∃ t', GX w0 B t' W' ∧ LgR t' i W.heap.size [] ∧ But t t' i := by
  refine (refNew10 W).mono ?_
  rintro e W' ⟨rfl, hm, hb⟩
  exact ⟨rfl, _, hG.one i (tR W.heap.size (.slice none 0 0) []) (Kp.of_below (fun _ => False) hb) (fun _ e => e.elim) hm (fun j hj => .inr (by
    rcases hj with e | e
    · rw [e]; exact Nat.le_refl _
    · cases e)), ⟨_, up_at _ _ _⟩, fun m h1 => up_ne _ _ h1⟩
theorem gx_runs (hG : GX w0 B t W) (hk : LgP t k lb L) (hN : L.length ≤ 1000000) : Calls Try.prog 25 #[lpv (some lb)] W fun e W' => ∃ v, e = .returned v ∧ RB W' v L ∧ Below W.heap.size W W' := by
  obtain ⟨rv, e⟩ := hk
  have hp := hG.all k; rw [e] at hp
  refine (runs22 lb rv L W hp (by omega)).mono ?_
  rintro e W' ⟨v, rfl, ho, hb⟩
  exact ⟨v, rfl, ho.reads, hb⟩
theorem gx_rruns (hG : GX w0 B t W) (hk : LgR t k lb L) (hN : L.length ≤ 1000000) : Calls Try.prog 26 #[lpv (some lb)] W fun e W' => ∃ v, e = .returned v ∧ RB W' v L ∧ Below W.heap.size W W' := by
  obtain ⟨rv, e⟩ := hk
  have hp := hG.all k; rw [e] at hp
  refine (refRuns20 lb rv L W hp (by omega)).mono ?_
  rintro e W' ⟨v, rfl, ho, hb⟩
  exact ⟨v, rfl, ho.reads, hb⟩
theorem gx_len (hG : GX w0 B t W) (hk : LgP t k lb L) : Calls Try.prog 29 #[lpv (some lb)] W fun e W' => e = .returned (.int .i64 (tot L)) ∧ W' = W := by
  obtain ⟨rv, e⟩ := hk
  have hp := hG.all k; rw [e] at hp
  exact len20 lb rv L W hp
theorem gx_reset (hG : GX w0 B t W) (hk : LgP t k lb L) : Calls Try.prog 30 #[lpv (some lb)] W fun e W' => e = .returned (.tuple #[]) ∧ ∃ t', GX w0 B t' W' ∧ LgP t' k lb [] ∧ But t t' k := by
  obtain ⟨rv, e⟩ := hk
  have hp := hG.all k; rw [e] at hp
  refine (reset18 lb rv L W hp).mono ?_
  rintro e' W' ⟨rfl, hl, hkp⟩
  exact ⟨rfl, _, hG.one k (tL lb (.slice none 0 0) []) hkp (fun j hs _ => by rw [e]; exact .inl hs) hl (fun j hj => .inl (by
    rw [e]
    rcases hj with q | q
    · exact .inl q
    · cases q)), ⟨_, up_at _ _ _⟩, fun m h1 => up_ne _ _ h1⟩
end
/-- What Power answers: the power, the code; what it records. -/
def pwA (b e m : Nat) : Nat := if m = 0 then 0 else b ^ e % m
def pwE (m : Nat) : Int := if m = 0 then 2 else 0
def pwL (e m : Nat) : List Bool := if m = 0 then [] else pbits e 64
section
variable {w0 W W' : World} {B : Nat} {t : Nat → Th} {i j k m lb : Nat} {L M : List Rn} {v u : Value} {n n' : Nat} {f g : Nat → Int}
theorem rd_all {rv : Value} (he : t k = tL lb rv L) (h : Rd t k W v n f) : ∀ w', Kp (lf (some lb) rv) W w' → By.RB w' v n f := fun w' hk =>
  rb_kept h.1 hk (fun b off cap e => (h.2 b off cap e).imp id (fun q p => q (by rw [he]; exact p)))
theorem gx_eq (hG : GX w0 B t W) (hk : LgP t k lb L) (hL : tot L ≤ 900000) (ra : Rd t k W v n f) (rb : Rd t k W u n' g) (hn : n ≤ 200) (hn' : n' ≤ 200) :
    Calls Try.prog 13 #[lpv (some lb), v, u] W fun e W' => e = .returned (.bool (eqA f g n n')) ∧ ∃ t', GX w0 B t' W' ∧ LgP t' k lb (nts L (eqL f g n n')) ∧ But t t' k := by
  have hp := lp_pos hG hk
  obtain ⟨rv, e⟩ := hk
  have hl := hG.all k; rw [e] at hl
  refine (eq_walk v u n n' f g (PL.st (lo := some lb) ⟨hp, hl⟩) hL hn hn' (rd_all e ra) (rd_all e rb)).mono ?_
  rintro r W' ⟨rfl, hs⟩
  exact ⟨rfl, gx_st hG e hs⟩
theorem gx_fi (hG : GX w0 B t W) (hk : LgP t k lb L) (hL : tot L ≤ 900000) (ra : Rd t k W v n f) (x : Int) (hn : n ≤ 200) :
    Calls Try.prog 19 #[lpv (some lb), v, .int .u8 x] W fun e W' => e = .returned (.int .i64 (fiA f x n)) ∧ ∃ t', GX w0 B t' W' ∧ LgP t' k lb (nts L (fiL f x n)) ∧ But t t' k := by
  have hp := lp_pos hG hk
  obtain ⟨rv, e⟩ := hk
  have hl := hG.all k; rw [e] at hl
  refine (fi_walk v x n f (PL.st (lo := some lb) ⟨hp, hl⟩) hL hn (rd_all e ra)).mono ?_
  rintro r W' ⟨rfl, hs⟩
  exact ⟨rfl, gx_st hG e hs⟩
theorem gx_bx (hG : GX w0 B t W) (hk : LgP t k lb L) (hL : tot L ≤ 900000) (a : Nat) (ha : a < 256) :
    Calls Try.prog 15 #[lpv (some lb), .int .u8 (a : Int)] W fun e W' => e = .returned (.int .u8 (Gf.box a : Nat)) ∧ ∃ t', GX w0 B t' W' ∧ LgP t' k lb (putL L (ix a)) ∧ But t t' k := by
  have hp := lp_pos hG hk
  obtain ⟨rv, e⟩ := hk
  have hl := hG.all k; rw [e] at hl
  refine (bx_walk a (PL.st (lo := some lb) ⟨hp, hl⟩) hL ha).mono ?_
  rintro r W' ⟨rfl, hs⟩
  exact ⟨rfl, gx_st hG e hs⟩
/-- What Power answers, and records. -/
theorem gx_pow (hG : GX w0 B t W) (hk : LgP t k lb L) (hL : tot L ≤ 900000) (b e m : Nat) (hb : b < 18446744073709551616) (he : e < 18446744073709551616) (hm : m < 18446744073709551616) :
    Calls Try.prog 17 #[lpv (some lb), .int .u64 b, .int .u64 e, .int .u64 m] W fun r W' => r = .returned (.tuple #[.int .u64 ((pwA b e m : Nat) : Int), .int .i64 (pwE m)]) ∧ ∃ t', GX w0 B t' W' ∧ LgP t' k lb (nts L (pwL e m)) ∧ But t t' k := by
  by_cases h0 : m = 0
  · subst h0
    refine (pow_none (lpv (some lb)) b e W).mono ?_
    rintro r W' ⟨rfl, rfl⟩
    exact ⟨rfl, t, hG, hk, fun _ _ => rfl⟩
  have hp := lp_pos hG hk
  obtain ⟨rv, q⟩ := hk
  have hl := hG.all k; rw [q] at hl
  refine (pow_walk b e m (PL.st (lo := some lb) ⟨hp, hl⟩) hL hb he (by omega) hm).mono ?_
  rintro r W' ⟨rfl, hs⟩
  have e1 : pwA b e m = b ^ e % m := if_neg h0
  have e2 : pwE m = 0 := if_neg h0
  have e3 : pwL e m = pbits e 64 := if_neg h0
  rw [e1, e2, e3]
  exact ⟨rfl, gx_st hG q hs⟩
theorem gx_so (hG : GX w0 B t W) (hk : LgP t k lb L) (hL : tot L ≤ 900000) (ra : Rd t k W v n f) (hn : n ≤ 200) (i : Nat) (hik : i ≠ k) :
    Calls Try.prog 21 #[lpv (some lb), v] W fun e W' => ∃ u, e = .returned u ∧ ∃ t', GX w0 B t' W' ∧ LgP t' k lb (nts L (srt f n).2) ∧ t' i = tB u n (srt f n).1 ∧ (∀ m, m ≠ i → m ≠ k → t' m = t m) := by
  have hp := lp_pos hG hk
  obtain ⟨rv, e⟩ := hk
  have hl := hG.all k; rw [e] at hl
  have hq : PL W (some lb) rv L := ⟨hp, hl⟩
  refine (so_walk v n f (w0 := W) (rv0 := rv) (PL.st (lo := some lb) hq) hL hn ra.1).mono ?_
  rintro r W' ⟨u, rfl, ⟨rv', h1, h2, h3, h4⟩, ho⟩
  refine ⟨u, rfl, _, hG.two i k (tB u n (srt f n).1) (tL lb rv' (nts L (srt f n).2)) hik h2 (fun j hs _ => .inr (by rw [e]; exact hs)) (own_mono ho (Nat.zero_le _)) h1.2 (fun j hj => .inr (.inr (ho.2.lt j hj).1)) (fun j hj => ?_) (fun j hj hj' => ?_), ⟨rv', up_at _ _ _⟩, by rw [up_ne _ _ hik, up_at], fun m h1 h2 => by rw [up_ne _ _ h2, up_ne _ _ h1]⟩
  · rw [e]
    rcases hj with q | q
    · exact .inr (.inl (.inl q))
    · rcases h3 with z | z
      · exact .inr (.inl (.inr (by rw [← z]; exact q)))
      · exact .inr (.inr (z j q))
  · exact h4 j hj hj'
end
section
variable {w0 W W' : World} {B : Nat} {t : Nat → Th} {i j k m lb : Nat} {L M : List Rn} {v u : Value} {n n' : Nat} {f g : Nat → Int}
theorem rrd_all {rv : Value} (he : t k = tR lb rv L) (h : Rd t k W v n f) : ∀ w', Kp (lf (some lb) rv) W w' → By.RB w' v n f := fun w' hk =>
  rb_kept h.1 hk (fun b off cap e => (h.2 b off cap e).imp id (fun q p => q (by rw [he]; exact p)))
theorem gx_req (hG : GX w0 B t W) (hk : LgR t k lb L) (hL : tot L ≤ 900000) (ra : Rd t k W v n f) (rb : Rd t k W u n' g) (hn : n ≤ 200) (hn' : n' ≤ 200) :
    Calls Try.prog 14 #[lpv (some lb), v, u] W fun e W' => e = .returned (.bool (eqA f g n n')) ∧ ∃ t', GX w0 B t' W' ∧ LgR t' k lb (nts L (eqL f g n n')) ∧ But t t' k := by
  have hp := lr_pos hG hk
  obtain ⟨rv, e⟩ := hk
  have hl := hG.all k; rw [e] at hl
  refine (req_walk v u n n' f g (RPL.st (lo := some lb) ⟨hp, hl⟩) hL hn hn' (rrd_all e ra) (rrd_all e rb)).mono ?_
  rintro r W' ⟨rfl, hs⟩
  exact ⟨rfl, gx_rst hG e hs⟩
theorem gx_rfi (hG : GX w0 B t W) (hk : LgR t k lb L) (hL : tot L ≤ 900000) (ra : Rd t k W v n f) (x : Int) (hn : n ≤ 200) :
    Calls Try.prog 20 #[lpv (some lb), v, .int .u8 x] W fun e W' => e = .returned (.int .i64 (fiA f x n)) ∧ ∃ t', GX w0 B t' W' ∧ LgR t' k lb (nts L (fiL f x n)) ∧ But t t' k := by
  have hp := lr_pos hG hk
  obtain ⟨rv, e⟩ := hk
  have hl := hG.all k; rw [e] at hl
  refine (rfi_walk v x n f (RPL.st (lo := some lb) ⟨hp, hl⟩) hL hn (rrd_all e ra)).mono ?_
  rintro r W' ⟨rfl, hs⟩
  exact ⟨rfl, gx_rst hG e hs⟩
theorem gx_rbx (hG : GX w0 B t W) (hk : LgR t k lb L) (hL : tot L ≤ 900000) (a : Nat) (ha : a < 256) :
    Calls Try.prog 16 #[lpv (some lb), .int .u8 (a : Int)] W fun e W' => e = .returned (.int .u8 (Gf.box a : Nat)) ∧ ∃ t', GX w0 B t' W' ∧ LgR t' k lb (putL L (ix a)) ∧ But t t' k := by
  have hp := lr_pos hG hk
  obtain ⟨rv, e⟩ := hk
  have hl := hG.all k; rw [e] at hl
  refine (rbx_walk a (RPL.st (lo := some lb) ⟨hp, hl⟩) hL ha).mono ?_
  rintro r W' ⟨rfl, hs⟩
  exact ⟨rfl, gx_rst hG e hs⟩
/-- What Power answers, and records. -/
theorem gx_rpow (hG : GX w0 B t W) (hk : LgR t k lb L) (hL : tot L ≤ 900000) (b e m : Nat) (he : e < 18446744073709551616) (hm : m < 18446744073709551616) :
    Calls Try.prog 18 #[lpv (some lb), .int .u64 b, .int .u64 e, .int .u64 m] W fun r W' => r = .returned (.tuple #[.int .u64 ((pwA b e m : Nat) : Int), .int .i64 (pwE m)]) ∧ ∃ t', GX w0 B t' W' ∧ LgR t' k lb (nts L (pwL e m)) ∧ But t t' k := by
  by_cases h0 : m = 0
  · subst h0
    refine (rpow_none (lpv (some lb)) b e W).mono ?_
    rintro r W' ⟨rfl, rfl⟩
    exact ⟨rfl, t, hG, hk, fun _ _ => rfl⟩
  have hp := lr_pos hG hk
  obtain ⟨rv, q⟩ := hk
  have hl := hG.all k; rw [q] at hl
  refine (rpow_walk b e m (RPL.st (lo := some lb) ⟨hp, hl⟩) hL he (by omega) hm).mono ?_
  rintro r W' ⟨rfl, hs⟩
  have e1 : pwA b e m = b ^ e % m := if_neg h0
  have e2 : pwE m = 0 := if_neg h0
  have e3 : pwL e m = pbits e 64 := if_neg h0
  rw [e1, e2, e3]
  exact ⟨rfl, gx_rst hG q hs⟩
theorem gx_rso (hG : GX w0 B t W) (hk : LgR t k lb L) (hL : tot L ≤ 900000) (ra : Rd t k W v n f) (hn : n ≤ 200) (i : Nat) (hik : i ≠ k) :
    Calls Try.prog 22 #[lpv (some lb), v] W fun e W' => ∃ u, e = .returned u ∧ ∃ t', GX w0 B t' W' ∧ LgR t' k lb (nts L (srt f n).2) ∧ t' i = tB u n (srt f n).1 ∧ (∀ m, m ≠ i → m ≠ k → t' m = t m) := by
  have hp := lr_pos hG hk
  obtain ⟨rv, e⟩ := hk
  have hl := hG.all k; rw [e] at hl
  have hq : RPL W (some lb) rv L := ⟨hp, hl⟩
  refine (rso_walk v n f (w0 := W) (rv0 := rv) (RPL.st (lo := some lb) hq) hL hn ra.1).mono ?_
  rintro r W' ⟨u, rfl, ⟨rv', h1, h2, h3, h4⟩, ho⟩
  refine ⟨u, rfl, _, hG.two i k (tB u n (srt f n).1) (tR lb rv' (nts L (srt f n).2)) hik h2 (fun j hs _ => .inr (by rw [e]; exact hs)) (own_mono ho (Nat.zero_le _)) h1.2 (fun j hj => .inr (.inr (ho.2.lt j hj).1)) (fun j hj => ?_) (fun j hj hj' => ?_), ⟨rv', up_at _ _ _⟩, by rw [up_ne _ _ hik, up_at], fun m h1 h2 => by rw [up_ne _ _ h2, up_ne _ _ h1]⟩
  · rw [e]
    rcases hj with q | q
    · exact .inr (.inl (.inl q))
    · rcases h3 with z | z
      · exact .inr (.inl (.inr (by rw [← z]; exact q)))
      · exact .inr (.inr (z j q))
  · exact h4 j hj hj'
end
end Go.Proofs.Ytpcnkiapbkmjbaa.Nv
