/- What each operation's runs are (pure): they may be a ledger's; their frame; their sum; joined lists joined again. -/
import Derived.Test.YtdmacflcjbkkpaaCcd
import Derived.Test.YtdmacflcjbkkpaaCeh
import Derived.Test.YtdmacflcjbkkpaaClg
namespace Go.Proofs.Ytdmacflcjbkkpaa.Co
open Go.Proofs.Ytdmacflcjbkkpaa (putL Pos tot sm)
open Go.Proofs.Ytdmacflcjbkkpaa.Lg (Chk totS totS_pos joinL)
open Go.Proofs.Ytdmacflcjbkkpaa.Ou (Sk bd)
theorem nb_same {q q' : Ru} (hk : q'.k = q.k) (hs : q'.s = q.s) : ∀ B : List Ru, Nb (B ++ [q]) → Nb (B ++ [q'])
  | [], _ => trivial
  | [_], h => ⟨fun e => h.1 ⟨by rw [e.1, hk], by rw [e.2, hs]⟩, trivial⟩
  | _ :: b :: B, h => ⟨h.1, nb_same hk hs (b :: B) h.2⟩
theorem nb_snoc {q r : Ru} (hu : Ul q r) : ∀ B : List Ru, Nb (B ++ [q]) → Nb (B ++ [q] ++ [r])
  | [], _ => ⟨hu, trivial⟩
  | [_], h => ⟨h.1, hu, trivial⟩
  | _ :: b :: B, h => ⟨h.1, nb_snoc hu (b :: B) h.2⟩
theorem putU_nb {A : List Ru} {r : Ru} (h : Nb A) : Nb (putL A r) := by
  by_cases hr : r.c < 1
  · rw [putU_0 hr]; exact h
  · rcases List.eq_nil_or_concat A with e | ⟨B, q, e⟩
    · subst e
      rw [putU_new (by omega) (fun q hq => by cases hq)]
      trivial
    · rw [List.concat_eq_append] at e
      subst e
      by_cases hq : q.k = r.k ∧ q.s = r.s
      · rw [putU_old (by omega) hq.1 hq.2]
        exact nb_same (q := q) (q' := ⟨q.k, q.s, sm q.c r.c⟩) rfl rfl B h
      · rw [putU_new (by omega) (fun y hy => by
          rw [List.getLast?_append] at hy
          simp only [List.getLast?_singleton, Option.some_or, Option.some.injEq] at hy
          subst hy; exact hq)]
        exact nb_snoc hq B h
theorem fold_nbp (l : List Ru) : ∀ A : List Ru, Nb A → Po A → Nb (l.foldl putL A) ∧ Po (l.foldl putL A) := by
  induction l with
  | nil => intro A n p; exact ⟨n, p⟩
  | cons r l ih => intro A n p; exact ih _ (putU_nb n) (putU_po p)
theorem jn_nbp (L : List (List Ru)) : ∀ A : List Ru, Nb A → Po A → Nb (jn A L) ∧ Po (jn A L) := by
  induction L with
  | nil => intro A n p; exact ⟨n, p⟩
  | cons r l ih => intro A n p; exact ih _ (fold_nbp r A n p).1 (fold_nbp r A n p).2
theorem nb_nil : Nb [] := trivial
theorem po_nil : Po [] := fun q hq => by cases hq
theorem jn_self (L : List (List Ru)) : (jn [] L).foldl putL [] = jn [] L := by
  have h := jn_nbp L [] nb_nil po_nil
  have := fold_nb (jn [] L) [] h.2 (by simpa using h.1)
  simpa using this
theorem join_next (f : Nat → Sk) (k : Nat) : joinL (jn [] (rws P00 (lf f k))) (rr f k) = jn [] (rws P00 (lf f (k + 1))) := by
  unfold joinL
  rw [jn_self, jn_next]
  rfl
theorem nb_get : ∀ (L : List Ru) (i : Nat) (q r : Ru), Nb L → L[i]? = some q → L[i + 1]? = some r → ¬ (r.k = q.k ∧ r.s = q.s)
  | [], i, q, r, _, h, _ => by simp at h
  | [_], i, q, r, _, _, h => by simp at h
  | a :: b :: L, 0, q, r, n, h1, h2 => by
    simp at h1 h2
    subst h1 h2
    exact fun e => n.1 ⟨e.1.symm, e.2.symm⟩
  | _ :: b :: L, i + 1, q, r, n, h1, h2 => nb_get (b :: L) i q r n.2 (by simpa using h1) (by simpa using h2)
theorem rr_chk (f : Nat → Sk) (i : Nat) : Chk (rr f i) := by
  obtain ⟨n, p⟩ := row_ok (aft P00 (lf f i)) (f i)
  intro j r hr
  refine ⟨p r (List.mem_of_getElem? hr), fun q hj hq => ?_⟩
  obtain ⟨k, rfl⟩ : ∃ k, j = k + 1 := ⟨j - 1, by omega⟩
  exact nb_get _ k q r n hq hr
theorem rr_len (f : Nat → Sk) (i : Nat) : 2 ≤ (rr f i).length ∧ (rr f i).length ≤ 5 := row_len _ _
theorem rr_first (f : Nat → Sk) (i : Nat) : (rr f i)[0]? = some ⟨11, (f i).k, 1⟩ := rfl
theorem rr_last (f : Nat → Sk) (i : Nat) : (rr f i)[(rr f i).length - 1]? = some ⟨12, cc f i, 1⟩ := by
  unfold rr row
  rw [List.length_append, List.getElem?_append_right (by simp)]
  simp
  rfl
theorem rr_two (f : Nat → Sk) (i : Nat) (h : cc f i ≠ 0) : (rr f i).length = 2 := by
  have h' : ¬ cod (aft P00 (lf f i)) (clp (f i)) = 0 := h
  unfold rr row
  rw [if_neg h']
  rfl
theorem rr_tot (f : Nat → Sk) (i : Nat) : totS (rr f i) ≤ bd (f i) := by
  have p := (row_ok (aft P00 (lf f i)) (f i)).2
  have b := row_b (st_ok f i) (f i)
  have t := bd_top (f i)
  rw [tt_tot] at b
  have e := totS_pos (L := rr f i) p (by show tot (row _ _) ≤ _; omega)
  rw [e]
  exact b
end Go.Proofs.Ytdmacflcjbkkpaa.Co
