/- HKDF as numbers: the parts, what is told, what is recorded; no function of the program in it. -/
import Derived.Test.YtkmkbofokoimkaaDoorZmc
namespace Go.Proofs.YtkmkbofokoimkaaDoor.Dg
open Go.ChangeShapes Go.WideShapes Go.ChangeAt Go.RowKit
open Go.Proofs.YtkmkbofokoimkaaDoor.By
theorem sz_pos (a : Bool) : 0 < sz a := by cases a <;> decide
theorem sz_le (a : Bool) : sz a ≤ 64 := by cases a <;> decide
/-- How many bytes the part of number k has (none, the part 0). -/
def pl (a : Bool) : Nat → Nat | 0 => 0 | _ + 1 => sz a
theorem pl_le (a : Bool) (k : Nat) : pl a k ≤ 64 := by cases k; exact Nat.zero_le _; exact sz_le a
/-- The message of the part of number k + 1, of the part ahead of it. -/
def msgf (a : Bool) (ni : Nat) (inf t : Nat → Int) (k : Nat) : Nat → Int := cat (pl a k + ni) (cat (pl a k) t inf) (fun _ => ((k + 1 : Nat) : Int))
def mln (a : Bool) (ni k : Nat) : Nat := pl a k + ni + 1
theorem mln_le (a : Bool) (ni k : Nat) : mln a ni k ≤ ni + 65 := by have := pl_le a k; unfold mln; omega
/-- The part of number k. -/
def tp (a : Bool) (K : Nat → Int) (ni : Nat) (inf : Nat → Int) : Nat → Nat → Int
  | 0 => nof
  | k + 1 => hm a K (mln a ni k) (msgf a ni inf (tp a K ni inf k) k)
theorem tp_b (a : Bool) (K : Nat → Int) (ni : Nat) (inf : Nat → Int) (k : Nat) : BB (tp a K ni inf k) := by
  cases k with
  | zero => exact nof_b
  | succ k => exact hm_b _ _ _ _
theorem cat_congr1 (m : Nat) {f f' g g' : Nat → Int} (N : Nat) (hf : ∀ i, i < m → f i = f' i) (hg : ∀ i, m + i < N → g i = g' i) (i : Nat) (hi : i < N) : cat m f g i = cat m f' g' i := by
  show (if i < m then f i else g (i - m)) = (if i < m then f' i else g' (i - m))
  split
  · exact hf i (by omega)
  · exact hg _ (by omega)
theorem tp_congr (a : Bool) (K : Nat → Int) (ni : Nat) (f g : Nat → Int) (h : ∀ i, i < ni → f i = g i) (k : Nat) : tp a K ni f k = tp a K ni g k := by
  induction k with
  | zero => rfl
  | succ k ih =>
    show hm a K (mln a ni k) _ = hm a K (mln a ni k) _
    refine hm_congr a K _ _ _ (fun i hi => ?_)
    show cat (pl a k + ni) (cat (pl a k) (tp a K ni f k) f) (fun _ => ((k + 1 : Nat) : Int)) i = cat (pl a k + ni) (cat (pl a k) (tp a K ni g k) g) (fun _ => ((k + 1 : Nat) : Int)) i
    exact cat_congr1 _ (mln a ni k) (fun j hj => by rw [ih]; exact cat_congr1 _ (pl a k + ni) (fun _ _ => rfl) (fun i hi => h i (by omega)) j hj) (fun _ _ => rfl) i hi
/-- What is told. -/
def okm (a : Bool) (K : Nat → Int) (ni : Nat) (inf : Nat → Int) (i : Nat) : Int := tp a K ni inf (i / sz a + 1) (i % sz a)
theorem okm_b (a : Bool) (K : Nat → Int) (ni : Nat) (inf : Nat → Int) : BB (okm a K ni inf) := fun _ => tp_b a K ni inf _ _
theorem okm_at (a : Bool) (K : Nat → Int) (ni : Nat) (inf : Nat → Int) (k j : Nat) (h : j < sz a) : okm a K ni inf (k * sz a + j) = tp a K ni inf (k + 1) j := by
  unfold okm
  have h1 : (k * sz a + j) / sz a = k := by
    rw [Nat.mul_comm, Nat.mul_add_div (sz_pos a), Nat.div_eq_of_lt h]; omega
  have h2 : (k * sz a + j) % sz a = j := by
    rw [Nat.mul_comm, Nat.mul_add_mod, Nat.mod_eq_of_lt h]
  rw [h1, h2]
/-- What is told, and a part more of it. -/
theorem okm_cat (a : Bool) (K : Nat → Int) (ni : Nat) (inf : Nat → Int) (k d : Nat) (hd : d ≤ sz a) (i : Nat) (hi : i < k * sz a + d) : cat (k * sz a) (okm a K ni inf) (tp a K ni inf (k + 1)) i = okm a K ni inf i := by
  show (if i < k * sz a then okm a K ni inf i else tp a K ni inf (k + 1) (i - k * sz a)) = _
  split
  · rfl
  · obtain ⟨j, hj⟩ : ∃ j, i = k * sz a + j := ⟨i - k * sz a, by omega⟩
    subst hj
    rw [okm_at a K ni inf k j (by omega), show k * sz a + j - k * sz a = j from by omega]
/-- What one part records; what the first k parts record. -/
def pe (a : Bool) (ni k : Nat) : Nat := mln a ni k / bk a + (last a (mln a ni k) + 1)
def es (a : Bool) (ni : Nat) : Nat → Nat
  | 0 => 0
  | k + 1 => es a ni k + pe a ni k
theorem pe_le (a : Bool) (ni k : Nat) (hn : ni ≤ 140737488352000) : pe a ni k ≤ 2199023255700 := by
  have h1 := (last_le a (mln a ni k)).1
  have h2 := mln_le a ni k
  have h3 := bk_div a (mln a ni k)
  unfold pe
  omega
theorem es_le (a : Bool) (ni k : Nat) (hn : ni ≤ 140737488352000) : es a ni k ≤ k * 2199023255700 := by
  induction k with
  | zero => exact Nat.le_refl _
  | succ k ih =>
    have := pe_le a ni k hn
    show es a ni k + pe a ni k ≤ _
    omega
theorem evs_fine (a : Bool) {L : List Rn} (h : Pos L) (n : Nat) (hb : tq L ≤ 5000000000) (hn : n ≤ 1000000000000000) : tq (evs a L n) ≤ tq L + (n / 1048576 : Nat) + 1 := by
  have := tq_tot L
  cases a
  · exact Sh.evs256_fine h n (by omega)
  · exact Sg.evs512_fine h n (by omega)
theorem es_fine (a : Bool) {L : List Rn} (h : Pos L) (ni k : Nat) (hb : tq L ≤ 4000000000) (hn : ni ≤ 140737488352000) (hk : k ≤ 255) : tq (evs a L (es a ni k)) ≤ tq L + 535000000 := by
  have h1 := es_le a ni k hn
  have h2 : k * 2199023255700 ≤ 255 * 2199023255700 := Nat.mul_le_mul_right _ hk
  have := evs_fine a h (es a ni k) (by omega) (by omega)
  omega
theorem ke_fine (a : Bool) {L : List Rn} (h : Pos L) (n : Nat) (hn : n ≤ 140737488353328) (hb : tq L ≤ 4000000000) : tq (ke a L n) ≤ tq L + 2097160 := by
  have h1 := bk_div a n
  have h2 := (last_le a n).1
  unfold ke; split
  · have := evs_fine a h (n / bk a + last a n) (by omega) (by omega)
    omega
  · omega
theorem kevP (a : Bool) {L : List Rn} (h : Pos L) (n : Nat) : Pos (kev a L n) := evsP a (keP a h n) 2
theorem kev_fine (a : Bool) {L : List Rn} (h : Pos L) (n : Nat) (hn : n ≤ 140737488353328) (hb : tq L ≤ 4000000000) : tq (kev a L n) ≤ tq L + 2097170 := by
  have h1 := ke_fine a h n hn hb
  have h2 := evs_fine a (keP a h n) 2 (by omega) (by omega)
  unfold kev
  omega
/-- What Extract records of a salt of n bytes and a key of np. -/
def tev (a : Bool) (L : List Rn) (n np : Nat) : List Rn := sev a (evs a (kev a L n) (np / bk a)) np
theorem tevP (a : Bool) {L : List Rn} (h : Pos L) (n np : Nat) : Pos (tev a L n np) := evsP a (evsP a (kevP a h n) _) _
theorem tev_fine (a : Bool) {L : List Rn} (h : Pos L) (n np : Nat) (hn : n ≤ 140737488353328) (hnp : np ≤ 140737488353328) (hb : tq L ≤ 4000000000) : tq (tev a L n np) ≤ tq L + 4194400 := by
  have h1 := kev_fine a h n hn hb
  have h0 := bk_div a np
  have h2 := evs_fine a (kevP a h n) (np / bk a) (by omega) (by omega)
  have h3 := (last_le a np).1
  have h4 := evs_fine a (evsP a (kevP a h n) (np / bk a)) (last a np + 1) (by omega) (by omega)
  unfold tev sev
  omega
/-- What Expand records, of a pseudorandom key of nk bytes, in q parts. -/
def xev (a : Bool) (L : List Rn) (nk ni q : Nat) : List Rn := evs a (kev a L nk) (es a ni q)
theorem xevP (a : Bool) {L : List Rn} (h : Pos L) (nk ni q : Nat) : Pos (xev a L nk ni q) := evsP a (kevP a h nk) _
theorem xev_fine (a : Bool) {L : List Rn} (h : Pos L) (nk ni q : Nat) (hn : nk ≤ 140737488353328) (hni : ni ≤ 140737488352000) (hq : q ≤ 255) (hb : tq L ≤ 3000000000) : tq (xev a L nk ni q) ≤ tq L + 538000000 := by
  have h1 := kev_fine a h nk hn (by omega)
  have h2 := es_fine a (kevP a h nk) ni q (by omega) hni hq
  unfold xev
  omega
/-- How many parts n bytes need. -/
def qp (a : Bool) (N : Nat) : Nat := (N + sz a - 1) / sz a
theorem qp_spec (a : Bool) (N : Nat) : N ≤ qp a N * sz a ∧ qp a N * sz a < N + sz a := by
  have h := sz_pos a
  have h1 := Nat.div_add_mod (N + sz a - 1) (sz a)
  have h2 := Nat.mod_lt (N + sz a - 1) h
  have h3 : qp a N * sz a = sz a * ((N + sz a - 1) / sz a) := Nat.mul_comm _ _
  omega
theorem qp_le (a : Bool) (N : Nat) (h : N ≤ 255 * sz a) : qp a N ≤ 255 := by
  have h1 := qp_spec a N
  have h2 := sz_pos a
  apply Classical.byContradiction
  intro h3
  have h4 : 256 * sz a ≤ qp a N * sz a := Nat.mul_le_mul_right _ (by omega)
  omega
theorem qp_lt (a : Bool) (N k : Nat) (h : k * sz a < N) : k < qp a N := by
  have h1 := qp_spec a N
  apply Classical.byContradiction
  intro h3
  have h4 : qp a N * sz a ≤ k * sz a := Nat.mul_le_mul_right _ (by omega)
  omega
theorem qp_eq (a : Bool) (N k : Nat) (h : k * sz a < N) (h2 : N ≤ (k + 1) * sz a) : qp a N = k + 1 := by
  have h1 := qp_lt a N k h
  have h3 := qp_spec a N
  apply Classical.byContradiction
  intro h4
  have h5 : (k + 2) * sz a ≤ qp a N * sz a := Nat.mul_le_mul_right _ (by omega)
  have h6 : (k + 2) * sz a = (k + 1) * sz a + sz a := by rw [show k + 2 = (k + 1) + 1 from rfl, Nat.succ_mul]
  omega
theorem qp_zero (a : Bool) : qp a 0 = 0 := by cases a <;> decide
end Go.Proofs.YtkmkbofokoimkaaDoor.Dg
