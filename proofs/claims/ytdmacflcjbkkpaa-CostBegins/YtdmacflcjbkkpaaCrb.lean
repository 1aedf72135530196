/- A row is at most B (pure). -/
import Derived.Test.YtdmacflcjbkkpaaCrw
namespace Go.Proofs.Ytdmacflcjbkkpaa.Co
open Go.Proofs.Ytdmacflcjbkkpaa.Ou (Sk cn cn_b bd bd_96)
def Nn (l : List Ru) : Prop := ∀ r ∈ l, 0 ≤ r.c
theorem nn_nil : Nn [] := fun r h => by cases h
theorem nn_cons {r : Ru} {l : List Ru} (h : 0 ≤ r.c) (hl : Nn l) : Nn (r :: l) := fun x hx => by
  rcases List.mem_cons.1 hx with rfl | hx
  · exact h
  · exact hl x hx
theorem bk_64 {a : Int} (h : sz a ≠ 0) : 64 ≤ bk a := by unfold bk; rcases sz_cases h with ⟨_, h⟩ | ⟨_, h⟩ <;> omega
theorem bgE_b {h : He} (ho : h.Ok) : Nn (bgE h) ∧ tt (bgE h) ≤ 64 := by
  have k0 := ho.k0
  have k1 := ho.k1
  have c0 := ho.c0
  have c1 := ho.c1
  unfold bgE
  split
  · rename_i a
    have b := kyd_b a k0
    exact ⟨nn_cons (by show 0 ≤ kyd h.alg h.key; omega) nn_nil, by show kyd h.alg h.key + 0 ≤ 64; omega⟩
  · split
    · exact ⟨nn_cons (by show (0:Int) ≤ 1; decide) (nn_cons (by show (0:Int) ≤ 1; decide) nn_nil), by show (1:Int) + (1 + 0) ≤ 64; decide⟩
    · have t4 := txt_b (n := 4) (by omega)
      have t1 := txt_b (n := h.cus) (by omega)
      have t2 := txt_b (n := h.key) (by omega)
      have p1 := pad_b (a := h.alg) (n := txt 4 + txt h.cus) (by omega)
      have p2 := pad_b (a := h.alg) (n := txt h.key) (by omega)
      exact ⟨nn_cons (by show 0 ≤ pad h.alg (txt 4 + txt h.cus) + pad h.alg (txt h.key); omega) nn_nil, by show pad h.alg (txt 4 + txt h.cus) + pad h.alg (txt h.key) + 0 ≤ 64; omega⟩
theorem tlE_b {h : He} (ho : h.Ok) {n : Int} (hn : 0 ≤ n) : Nn (tlE h n) ∧ tt (tlE h n) ≤ n / 16 + 1 := by
  have m0 := ho.m0
  unfold tlE
  split
  · rename_i a
    have b := ful_b (bk_64 a) m0 hn
    exact ⟨nn_cons b.1 nn_nil, by show ful (bk h.alg) h.msg n + 0 ≤ _; omega⟩
  · split
    · have b := chn_b (m := h.msg) hn
      exact ⟨nn_cons b.1 nn_nil, by show chn (h.msg + n) - chn h.msg + 0 ≤ _; omega⟩
    · have r := rte_b h.alg
      have b := ful_b (b := rte h.alg) (by omega) m0 hn
      exact ⟨nn_cons b.1 nn_nil, by show ful (rte h.alg) h.msg n + 0 ≤ _; omega⟩
theorem smE_b {h : He} (ho : h.Ok) : Nn (smE h) ∧ tt (smE h) ≤ 4 := by
  have m0 := ho.m0
  have o0 := ho.o0
  have o1 := ho.o1
  unfold smE
  split
  · rename_i a
    have b := tgd_b h.alg h.msg
    exact ⟨nn_cons (by show 0 ≤ tgd h.alg h.msg; omega) nn_nil, by show tgd h.alg h.msg + 0 ≤ 4; omega⟩
  · split
    · exact ⟨nn_cons (by show (0:Int) ≤ 1; decide) nn_nil, by show (1:Int) + 0 ≤ 4; decide⟩
    · have r := rte_b h.alg
      have n1 : 2 ≤ (if xof h.alg then nbr 0 else nbr (8 * h.out)) ∧ (if xof h.alg then nbr 0 else nbr (8 * h.out)) ≤ 4 := by
        split
        · exact nbr_le (by omega) (by omega)
        · exact nbr_le (by omega) (by omega)
      have b := ful_b (b := rte h.alg) (n := h.msg) (m := if xof h.alg then nbr 0 else nbr (8 * h.out)) (by omega) m0 (by omega)
      exact ⟨nn_cons (by show 0 ≤ ful (rte h.alg) h.msg (if xof h.alg then nbr 0 else nbr (8 * h.out)) + 1; omega) nn_nil, by show ful (rte h.alg) h.msg (if xof h.alg then nbr 0 else nbr (8 * h.out)) + 1 + 0 ≤ 4; omega⟩
theorem nn_app {l m : List Ru} (hl : Nn l) (hm : Nn m) : Nn (l ++ m) := fun x hx => by
  rcases List.mem_append.1 hx with h | h
  · exact hl x h
  · exact hm x h
/-- What an operation that is not refused records is at most B less two. -/
theorem mid_b {P : St} {s : Sk} (hP : P.Ok) (hd : 0 ≤ s.d) (hm : 0 ≤ s.m) (F : Fine P s) : Nn (mid s ((hat P s.h).getD h0)) ∧ tt (mid s ((hat P s.h).getD h0)) + 2 ≤ bd s := by
  have b96 := bd_96 s
  have low := bd_low s
  have co := cn_b s.o
  have i32 : 0 ≤ 32 * (cn s.o / 32 + 1) := by omega
  cases F with
  | put k d f =>
    unfold mid
    rw [if_neg (by omega), if_neg (by omega), if_neg (by omega), if_neg (by omega), if_neg (by omega), if_neg (by omega), if_neg (by omega)]
    exact ⟨nn_nil, by show (0:Int) + 2 ≤ bd s; omega⟩
  | on h eh k c f =>
    have ho := hat_ok hP eh
    rw [eh, Option.getD_some]
    unfold mid
    by_cases k2 : s.k = 2
    · rw [if_pos k2]
      have b := bgC_zero (fit_two k2 c).2
      have g := bgE_b (h := ⟨h.key, s.a, s.o, s.d, 0⟩) ⟨ho.k0, ho.k1, by show 0 ≤ s.a; omega, by show s.a ≤ 7; omega, by show 0 ≤ s.o; omega, by show s.o ≤ 64; omega, hd, by show s.d ≤ 64; omega, Int.le_refl 0⟩
      exact ⟨g.1, by omega⟩
    rw [if_neg k2]
    by_cases k3 : s.k = 3
    · rw [if_pos k3]
      have b := fit_three k3 c
      have g := tlE_b ho hd
      have e := cn_id (n := s.d) ⟨hd, by omega⟩
      rw [e] at low
      exact ⟨g.1, by omega⟩
    rw [if_neg k3]
    have g := smE_b ho
    by_cases k4 : s.k = 4
    · rw [if_pos k4]
      refine ⟨nn_app g.1 (nn_cons (by show (0:Int) ≤ 1; decide) nn_nil), ?_⟩
      rw [tt_append]
      show tt (smE h) + (1 + 0) + 2 ≤ bd s
      omega
    rw [if_neg k4]
    by_cases k5 : s.k = 5
    · rw [if_pos k5]
      refine ⟨nn_app g.1 (nn_cons (by show (0:Int) ≤ 1; decide) (nn_cons (by show (0:Int) ≤ 1; decide) nn_nil)), ?_⟩
      rw [tt_append]
      show tt (smE h) + (1 + (1 + 0)) + 2 ≤ bd s
      omega
    rw [if_neg k5]
    by_cases k7 : s.k = 7
    · rw [if_pos k7]
      have b := drC_zero (fit_der (.inl k7) c).2
      have w := hkd_bd (s := s) (key := h.key) b.1 ⟨ho.k0, ho.k1⟩ ⟨hd, b.2.1⟩ ⟨hm, b.2.2.1 k7⟩ b.2.2.2.2
      have w1 := hkd_b (key := h.key) (salt := s.d) (info := s.m) (out := s.o) b.1 ⟨ho.k0, ho.k1⟩ hd hm b.2.2.2.2.1
      exact ⟨nn_cons (by show 0 ≤ hkd s.a h.key s.d s.m s.o; omega) nn_nil, by show hkd s.a h.key s.d s.m s.o + 0 + 2 ≤ bd s; omega⟩
    rw [if_neg k7]
    by_cases k8 : s.k = 8
    · rw [if_pos k8]
      have b := drC_zero (fit_der (.inr k8) c).2
      have w := pbk_bd (s := s) (key := h.key) b.1 ⟨ho.k0, ho.k1⟩ ⟨hd, b.2.1⟩ (b.2.2.2.1 k8) b.2.2.2.2
      have w1 := pbk_b (key := h.key) (salt := s.d) (count := s.c) (out := s.o) b.1 ⟨ho.k0, ho.k1⟩ hd (b.2.2.2.1 k8).1 b.2.2.2.2.1
      exact ⟨nn_cons (by show 0 ≤ pbk s.a h.key s.d s.c s.o; omega) nn_nil, by show pbk s.a h.key s.d s.c s.o + 0 + 2 ≤ bd s; omega⟩
    rw [if_neg k8]
    by_cases kt : s.k = 10
    · rw [if_pos kt]
      exact ⟨nn_cons (by show (0:Int) ≤ 1; decide) nn_nil, by show (1:Int) + 0 + 2 ≤ bd s; omega⟩
    rw [if_neg kt]
    exact ⟨nn_nil, by show (0:Int) + 2 ≤ bd s; omega⟩
/-- No row has more events than its skeleton's bound. -/
theorem row_b {P : St} (hP : P.Ok) (s : Sk) : tt (row P s) ≤ bd s := by
  have b96 := bd_96 s
  unfold row
  rw [tt_append]
  show (1 : Int) + tt _ + (_ + 0) ≤ bd s
  show (1 : Int) + tt (if cod P (clp s) = 0 then flt (mid (clp s) ((hat P s.h).getD h0)) else []) + (1 + 0) ≤ bd s
  split
  · rename_i e
    have F := fine_of e
    have m := mid_b (P := P) (s := clp s) hP (by show 0 ≤ max s.d 0; omega) (by show 0 ≤ max s.m 0; omega) F
    rw [bd_clp] at m
    have e1 : tt (flt (mid (clp s) ((hat P s.h).getD h0))) = tt (mid (clp s) ((hat P s.h).getD h0)) := tt_flt _ m.1
    have m2 : tt (mid (clp s) ((hat P s.h).getD h0)) + 2 ≤ bd s := m.2
    omega
  · show (1 : Int) + 0 + (1 + 0) ≤ bd s
    omega
end Go.Proofs.Ytdmacflcjbkkpaa.Co
