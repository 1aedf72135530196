/- HKDF as numbers: the parts, what is told, what is recorded; no function of the program in it. PBKDF2 as numbers: the tags, the block, what is told, what is recorded; no function of the program in it. -/
import Derived.Test.YtjhhnajgfngbhaaGreatDoorZmc
namespace Go.Proofs.YtjhhnajgfngbhaaGreatDoor.Dg
open Go.ChangeShapes Go.WideShapes Go.ChangeAt Go.RowKit
open Go.Proofs.YtjhhnajgfngbhaaGreatDoor.By
theorem sz_pos (a : Bool) : 0 < sz a := by cases a <;> decide
theorem sz_le (a : Bool) : sz a ≤ 64 := by cases a <;> decide
/-- How many bytes the part of number k has (none, the part 0). -/
def pl (a : Bool) : Nat → Nat | 0 => 0 | _ + 1 => sz a
theorem pl_le (a : Bool) (k : Nat) : pl a k ≤ 64 := by cases k; exact Nat.zero_le _; exact sz_le a
/-- The message of the part of number k + 1, of the part ahead of it. -/
def msgf (a : Bool) (ni : Nat) (inf t : Nat → Int) (k : Nat) : Nat → Int := cat (pl a k + ni) (cat (pl a k) t inf) (fun _ => ((k + 1 : Nat) : Int))
def mln (a : Bool) (ni k : Nat) : Nat := pl a k + ni + 1
theorem mln_le (a : Bool) (ni k : Nat) : mln a ni k ≤ ni + 65 := by have := pl_le a k; unfold mln; omega
/-- The part of number k. -/
def tp (a : Bool) (K : Nat → Int) (ni : Nat) (inf : Nat → Int) : Nat → Nat → Int
  | 0 => nof
  | k + 1 => hm a K (mln a ni k) (msgf a ni inf (tp a K ni inf k) k)
theorem tp_b (a : Bool) (K : Nat → Int) (ni : Nat) (inf : Nat → Int) (k : Nat) : BB (tp a K ni inf k) := by
  cases k with
  | zero => exact nof_b
  | succ k => exact hm_b _ _ _ _
theorem cat_congr1 (m : Nat) {f f' g g' : Nat → Int} (N : Nat) (hf : ∀ i, i < m → f i = f' i) (hg : ∀ i, m + i < N → g i = g' i) (i : Nat) (hi : i < N) : cat m f g i = cat m f' g' i := by
  show (if i < m then f i else g (i - m)) = (if i < m then f' i else g' (i - m))
  split
  · exact hf i (by omega)
  · exact hg _ (by omega)
theorem tp_congr (a : Bool) (K : Nat → Int) (ni : Nat) (f g : Nat → Int) (h : ∀ i, i < ni → f i = g i) (k : Nat) : tp a K ni f k = tp a K ni g k := by
  induction k with
  | zero => rfl
  | succ k ih =>
    show hm a K (mln a ni k) _ = hm a K (mln a ni k) _
    refine hm_congr a K _ _ _ (fun i hi => ?_)
    show cat (pl a k + ni) (cat (pl a k) (tp a K ni f k) f) (fun _ => ((k + 1 : Nat) : Int)) i = cat (pl a k + ni) (cat (pl a k) (tp a K ni g k) g) (fun _ => ((k + 1 : Nat) : Int)) i
    exact cat_congr1 _ (mln a ni k) (fun j hj => by rw [ih]; exact cat_congr1 _ (pl a k + ni) (fun _ _ => rfl) (fun i hi => h i (by omega)) j hj) (fun _ _ => rfl) i hi
/-- What is told. -/
def okm (a : Bool) (K : Nat → Int) (ni : Nat) (inf : Nat → Int) (i : Nat) : Int := tp a K ni inf (i / sz a + 1) (i % sz a)
theorem okm_b (a : Bool) (K : Nat → Int) (ni : Nat) (inf : Nat → Int) : BB (okm a K ni inf) := fun _ => tp_b a K ni inf _ _
theorem okm_at (a : Bool) (K : Nat → Int) (ni : Nat) (inf : Nat → Int) (k j : Nat) (h : j < sz a) : okm a K ni inf (k * sz a + j) = tp a K ni inf (k + 1) j := by
  unfold okm
  have h1 : (k * sz a + j) / sz a = k := by
    rw [Nat.mul_comm, Nat.mul_add_div (sz_pos a), Nat.div_eq_of_lt h]; omega
  have h2 : (k * sz a + j) % sz a = j := by
    rw [Nat.mul_comm, Nat.mul_add_mod, Nat.mod_eq_of_lt h]
  rw [h1, h2]
/-- What is told, and a part more of it. -/
theorem okm_cat (a : Bool) (K : Nat → Int) (ni : Nat) (inf : Nat → Int) (k d : Nat) (hd : d ≤ sz a) (i : Nat) (hi : i < k * sz a + d) : cat (k * sz a) (okm a K ni inf) (tp a K ni inf (k + 1)) i = okm a K ni inf i := by
  show (if i < k * sz a then okm a K ni inf i else tp a K ni inf (k + 1) (i - k * sz a)) = _
  split
  · rfl
  · obtain ⟨j, hj⟩ : ∃ j, i = k * sz a + j := ⟨i - k * sz a, by omega⟩
    subst hj
    rw [okm_at a K ni inf k j (by omega), show k * sz a + j - k * sz a = j from by omega]
/-- What one part records; what the first k parts record. -/
def pe (a : Bool) (ni k : Nat) : Nat := mln a ni k / bk a + (last a (mln a ni k) + 1)
def es (a : Bool) (ni : Nat) : Nat → Nat
  | 0 => 0
  | k + 1 => es a ni k + pe a ni k
theorem pe_le (a : Bool) (ni k : Nat) (hn : ni ≤ 140737488352000) : pe a ni k ≤ 2199023255700 := by
  have h1 := (last_le a (mln a ni k)).1
  have h2 := mln_le a ni k
  have h3 := bk_div a (mln a ni k)
  unfold pe
  omega
theorem es_le (a : Bool) (ni k : Nat) (hn : ni ≤ 140737488352000) : es a ni k ≤ k * 2199023255700 := by
  induction k with
  | zero => exact Nat.le_refl _
  | succ k ih =>
    have := pe_le a ni k hn
    show es a ni k + pe a ni k ≤ _
    omega
theorem evs_fine (a : Bool) {L : List Rn} (h : Pos L) (n : Nat) (hb : tq L ≤ 5000000000) (hn : n ≤ 1000000000000000) : tq (evs a L n) ≤ tq L + (n / 1048576 : Nat) + 1 := by
  have := tq_tot L
  cases a
  · exact Sh.evs256_fine h n (by omega)
  · exact Sg.evs512_fine h n (by omega)
theorem es_fine (a : Bool) {L : List Rn} (h : Pos L) (ni k : Nat) (hb : tq L ≤ 4000000000) (hn : ni ≤ 140737488352000) (hk : k ≤ 255) : tq (evs a L (es a ni k)) ≤ tq L + 535000000 := by
  have h1 := es_le a ni k hn
  have h2 : k * 2199023255700 ≤ 255 * 2199023255700 := Nat.mul_le_mul_right _ hk
  have := evs_fine a h (es a ni k) (by omega) (by omega)
  omega
theorem ke_fine (a : Bool) {L : List Rn} (h : Pos L) (n : Nat) (hn : n ≤ 140737488353328) (hb : tq L ≤ 4000000000) : tq (ke a L n) ≤ tq L + 2097160 := by
  have h1 := bk_div a n
  have h2 := (last_le a n).1
  unfold ke; split
  · have := evs_fine a h (n / bk a + last a n) (by omega) (by omega)
    omega
  · omega
theorem kevP (a : Bool) {L : List Rn} (h : Pos L) (n : Nat) : Pos (kev a L n) := evsP a (keP a h n) 2
theorem kev_fine (a : Bool) {L : List Rn} (h : Pos L) (n : Nat) (hn : n ≤ 140737488353328) (hb : tq L ≤ 4000000000) : tq (kev a L n) ≤ tq L + 2097170 := by
  have h1 := ke_fine a h n hn hb
  have h2 := evs_fine a (keP a h n) 2 (by omega) (by omega)
  unfold kev
  omega
/-- What Extract records of a salt of n bytes and a key of np. -/
def tev (a : Bool) (L : List Rn) (n np : Nat) : List Rn := sev a (evs a (kev a L n) (np / bk a)) np
theorem tevP (a : Bool) {L : List Rn} (h : Pos L) (n np : Nat) : Pos (tev a L n np) := evsP a (evsP a (kevP a h n) _) _
theorem tev_fine (a : Bool) {L : List Rn} (h : Pos L) (n np : Nat) (hn : n ≤ 140737488353328) (hnp : np ≤ 140737488353328) (hb : tq L ≤ 4000000000) : tq (tev a L n np) ≤ tq L + 4194400 := by
  have h1 := kev_fine a h n hn hb
  have h0 := bk_div a np
  have h2 := evs_fine a (kevP a h n) (np / bk a) (by omega) (by omega)
  have h3 := (last_le a np).1
  have h4 := evs_fine a (evsP a (kevP a h n) (np / bk a)) (last a np + 1) (by omega) (by omega)
  unfold tev sev
  omega
/-- What Expand records, of a pseudorandom key of nk bytes, in q parts. -/
def xev (a : Bool) (L : List Rn) (nk ni q : Nat) : List Rn := evs a (kev a L nk) (es a ni q)
theorem xevP (a : Bool) {L : List Rn} (h : Pos L) (nk ni q : Nat) : Pos (xev a L nk ni q) := evsP a (kevP a h nk) _
theorem xev_fine (a : Bool) {L : List Rn} (h : Pos L) (nk ni q : Nat) (hn : nk ≤ 140737488353328) (hni : ni ≤ 140737488352000) (hq : q ≤ 255) (hb : tq L ≤ 3000000000) : tq (xev a L nk ni q) ≤ tq L + 538000000 := by
  have h1 := kev_fine a h nk hn (by omega)
  have h2 := es_fine a (kevP a h nk) ni q (by omega) hni hq
  unfold xev
  omega
/-- How many parts n bytes need. -/
def qp (a : Bool) (N : Nat) : Nat := (N + sz a - 1) / sz a
theorem qp_spec (a : Bool) (N : Nat) : N ≤ qp a N * sz a ∧ qp a N * sz a < N + sz a := by
  have h := sz_pos a
  have h1 := Nat.div_add_mod (N + sz a - 1) (sz a)
  have h2 := Nat.mod_lt (N + sz a - 1) h
  have h3 : qp a N * sz a = sz a * ((N + sz a - 1) / sz a) := Nat.mul_comm _ _
  omega
theorem qp_le (a : Bool) (N : Nat) (h : N ≤ 255 * sz a) : qp a N ≤ 255 := by
  have h1 := qp_spec a N
  have h2 := sz_pos a
  apply Classical.byContradiction
  intro h3
  have h4 : 256 * sz a ≤ qp a N * sz a := Nat.mul_le_mul_right _ (by omega)
  omega
theorem qp_lt (a : Bool) (N k : Nat) (h : k * sz a < N) : k < qp a N := by
  have h1 := qp_spec a N
  apply Classical.byContradiction
  intro h3
  have h4 : qp a N * sz a ≤ k * sz a := Nat.mul_le_mul_right _ (by omega)
  omega
theorem qp_eq (a : Bool) (N k : Nat) (h : k * sz a < N) (h2 : N ≤ (k + 1) * sz a) : qp a N = k + 1 := by
  have h1 := qp_lt a N k h
  have h3 := qp_spec a N
  apply Classical.byContradiction
  intro h4
  have h5 : (k + 2) * sz a ≤ qp a N * sz a := Nat.mul_le_mul_right _ (by omega)
  have h6 : (k + 2) * sz a = (k + 1) * sz a + sz a := by rw [show k + 2 = (k + 1) + 1 from rfl, Nat.succ_mul]
  omega
theorem qp_zero (a : Bool) : qp a 0 = 0 := by cases a <;> decide
end Go.Proofs.YtjhhnajgfngbhaaGreatDoor.Dg
namespace Go.Proofs.YtjhhnajgfngbhaaGreatDoor.Dg
open Go.ChangeShapes Go.WideShapes Go.ChangeAt Go.RowKit
open Go.Proofs.YtjhhnajgfngbhaaGreatDoor.By
/-- A number in four bytes. -/
def i4 (i : Nat) (j : Nat) : Int := ((i / 256 ^ (3 - j) % 256 : Nat) : Int)
theorem i4_b (i : Nat) : BB (i4 i) := fun j => by unfold i4; have := Nat.mod_lt (i / 256 ^ (3 - j)) (show 0 < 256 by decide); omega
/-- The first message: the salt, and the number behind it. -/
def sm (ns : Nat) (f : Nat → Int) (i : Nat) : Nat → Int := cat ns f (i4 i)
/-- The tag of number k + 1. -/
def uu (a : Bool) (K : Nat → Int) (ns : Nat) (f : Nat → Int) (i : Nat) : Nat → Nat → Int
  | 0 => hm a K (ns + 4) (sm ns f i)
  | k + 1 => hm a K (sz a) (uu a K ns f i k)
theorem uu_b (a : Bool) (K : Nat → Int) (ns : Nat) (f : Nat → Int) (i k : Nat) : BB (uu a K ns f i k) := by
  cases k with
  | zero => exact hm_b _ _ _ _
  | succ k => exact hm_b _ _ _ _
theorem sm_congr (ns : Nat) (f g : Nat → Int) (i : Nat) (h : ∀ j, j < ns → f j = g j) (j : Nat) : sm ns f i j = sm ns g i j := by
  show (if j < ns then f j else _) = (if j < ns then g j else _)
  split
  · rename_i hj; exact h j hj
  · rfl
theorem uu_congr (a : Bool) (K : Nat → Int) (ns : Nat) (f g : Nat → Int) (i : Nat) (h : ∀ j, j < ns → f j = g j) (k : Nat) : uu a K ns f i k = uu a K ns g i k := by
  induction k with
  | zero => exact hm_congr a K (ns + 4) _ _ (fun j _ => sm_congr ns f g i h j)
  | succ k ih => show hm a K (sz a) _ = hm a K (sz a) _; rw [ih]
/-- The exclusive or of the tags 1 to k + 1. -/
def xs (a : Bool) (K : Nat → Int) (ns : Nat) (f : Nat → Int) (i : Nat) : Nat → Nat → Int
  | 0 => uu a K ns f i 0
  | k + 1 => fun j => bx (xs a K ns f i k j) (uu a K ns f i (k + 1) j)
theorem xs_b (a : Bool) (K : Nat → Int) (ns : Nat) (f : Nat → Int) (i k : Nat) : BB (xs a K ns f i k) := by
  cases k with
  | zero => exact uu_b _ _ _ _ _ _
  | succ k => exact fun _ => bx_b _ _
theorem xs_congr (a : Bool) (K : Nat → Int) (ns : Nat) (f g : Nat → Int) (i : Nat) (h : ∀ j, j < ns → f j = g j) (k : Nat) : xs a K ns f i k = xs a K ns g i k := by
  induction k with
  | zero => exact uu_congr a K ns f g i h 0
  | succ k ih => funext j; show bx (xs a K ns f i k j) _ = bx (xs a K ns g i k j) _; rw [ih, uu_congr a K ns f g i h (k + 1)]
theorem bx_zero (x : Int) (h : 0 ≤ x ∧ x < 256) : bx 0 x = x := by
  have key : ∀ n : Fin 256, bx 0 ((n.val : Nat) : Int) = ((n.val : Nat) : Int) := by decide +kernel
  have := key ⟨x.toNat, by omega⟩
  simp only at this
  rw [show ((x.toNat : Nat) : Int) = x from by omega] at this
  exact this
/-- What is told. -/
def dk (a : Bool) (K : Nat → Int) (ns : Nat) (f : Nat → Int) (c : Nat) (i : Nat) : Int := xs a K ns f (i / sz a + 1) (c - 1) (i % sz a)
theorem dk_b (a : Bool) (K : Nat → Int) (ns : Nat) (f : Nat → Int) (c : Nat) : BB (dk a K ns f c) := fun _ => xs_b _ _ _ _ _ _ _
theorem dk_at (a : Bool) (K : Nat → Int) (ns : Nat) (f : Nat → Int) (c k j : Nat) (h : j < sz a) : dk a K ns f c (k * sz a + j) = xs a K ns f (k + 1) (c - 1) j := by
  unfold dk
  have h1 : (k * sz a + j) / sz a = k := by
    rw [Nat.mul_comm, Nat.mul_add_div (sz_pos a), Nat.div_eq_of_lt h]; omega
  have h2 : (k * sz a + j) % sz a = j := by
    rw [Nat.mul_comm, Nat.mul_add_mod, Nat.mod_eq_of_lt h]
  rw [h1, h2]
/-- What is told, and a block more of it. -/
theorem dk_cat (a : Bool) (K : Nat → Int) (ns : Nat) (f : Nat → Int) (c k d : Nat) (hd : d ≤ sz a) (i : Nat) (hi : i < k * sz a + d) : cat (k * sz a) (dk a K ns f c) (xs a K ns f (k + 1) (c - 1)) i = dk a K ns f c i := by
  show (if i < k * sz a then dk a K ns f c i else xs a K ns f (k + 1) (c - 1) (i - k * sz a)) = _
  split
  · rfl
  · obtain ⟨j, hj⟩ : ∃ j, i = k * sz a + j := ⟨i - k * sz a, by omega⟩
    subst hj
    rw [dk_at a K ns f c k j (by omega), show k * sz a + j - k * sz a = j from by omega]
theorem dk_congr (a : Bool) (K : Nat → Int) (ns : Nat) (f g : Nat → Int) (c : Nat) (h : ∀ j, j < ns → f j = g j) : dk a K ns f c = dk a K ns g c := by
  funext i; unfold dk; rw [xs_congr a K ns f g _ h]
/-- What one tag of m bytes records; what a block does. -/
def ue (a : Bool) (m : Nat) : Nat := m / bk a + (last a m + 1)
def be (a : Bool) (ns c : Nat) : Nat := ue a (ns + 4) + (c - 1) * ue a (sz a)
theorem ue_le (a : Bool) (m : Nat) (h : m ≤ 1000004) : ue a m ≤ 15640 := by
  have h1 := (last_le a m).1
  have h3 := bk_div a m
  unfold ue
  omega
theorem ue_sz (a : Bool) : ue a (sz a) ≤ 4 := by cases a <;> decide
theorem be_le (a : Bool) (ns c : Nat) (hn : ns ≤ 1000000) (hc : c ≤ 1048576) : be a ns c ≤ 4300000 := by
  have h1 := ue_le a (ns + 4) (by omega)
  have h2 : (c - 1) * ue a (sz a) ≤ 1048575 * 4 := Nat.mul_le_mul (by omega) (ue_sz a)
  unfold be
  omega
/-- What u(1) to u(k + 1) record. -/
def bq (a : Bool) (ns k : Nat) : Nat := ue a (ns + 4) + k * ue a (sz a)
theorem bq_succ (a : Bool) (ns k : Nat) : bq a ns k + ue a (sz a) = bq a ns (k + 1) := by
  unfold bq; rw [Nat.add_mul]; omega
theorem bq_be (a : Bool) (ns c : Nat) : bq a ns (c - 1) = be a ns c := rfl
theorem bq_le (a : Bool) (ns k : Nat) (hn : ns ≤ 1000000) (hk : k ≤ 1048576) : bq a ns k ≤ 4300000 := by
  have h1 := ue_le a (ns + 4) (by omega)
  have h2 : k * ue a (sz a) ≤ 1048576 * 4 := Nat.mul_le_mul (by omega) (ue_sz a)
  unfold bq
  omega
theorem bes_le (a : Bool) (ns c q : Nat) (hn : ns ≤ 1000000) (hc : c ≤ 1048576) (hq : q ≤ 511) : q * be a ns c ≤ 2200000000 := by
  have h1 := be_le a ns c hn hc
  have h2 : q * be a ns c ≤ 511 * 4300000 := Nat.mul_le_mul hq h1
  omega
theorem bes_fine (a : Bool) {L : List Rn} (h : Pos L) (ns c q : Nat) (hb : tq L ≤ 4000000000) (hn : ns ≤ 1000000) (hc : c ≤ 1048576) (hq : q ≤ 511) : tq (evs a L (q * be a ns c)) ≤ tq L + 2100 := by
  have h1 := bes_le a ns c q hn hc hq
  have := evs_fine a h (q * be a ns c) (by omega) (by omega)
  have h2 : q * be a ns c / 1048576 ≤ 2200000000 / 1048576 := Nat.div_le_div_right h1
  omega
/-- What Key records, in q blocks. -/
def del (a : Bool) (L : List Rn) (np ns c q : Nat) : List Rn := evs a (kev a L np) (q * be a ns c)
theorem delP (a : Bool) {L : List Rn} (h : Pos L) (np ns c q : Nat) : Pos (del a L np ns c q) := evsP a (kevP a h np) _
theorem del_fine (a : Bool) {L : List Rn} (h : Pos L) (np ns c q : Nat) (hb : tq L ≤ 3000000000) (hp : np ≤ 140737488353328) (hn : ns ≤ 1000000) (hc : c ≤ 1048576) (hq : q ≤ 511) : tq (del a L np ns c q) ≤ tq L + 2100000 := by
  have h1 := kev_fine a h np hp (by omega)
  have h2 := bes_fine a (kevP a h np) ns c q (by omega) hn hc hq
  unfold del
  omega
theorem qp_511 (a : Bool) (N : Nat) (h : N ≤ 16320) : qp a N ≤ 510 := by
  have h1 := qp_spec a N
  have h2 : 32 ≤ sz a := by cases a <;> decide
  have h4 : sz a ≤ 64 := sz_le a
  apply Classical.byContradiction
  intro h3
  cases a
  · have e : sz false = 32 := rfl
    rw [e] at h1; omega
  · have e : sz true = 64 := rfl
    rw [e] at h1; omega
end Go.Proofs.YtjhhnajgfngbhaaGreatDoor.Dg
