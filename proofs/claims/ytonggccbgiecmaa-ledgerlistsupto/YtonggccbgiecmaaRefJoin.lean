/- The document's own Join: what it returns, for every two lists of runs. -/
import Derived.Test.YtonggccbgiecmaaRefs
namespace Go.Proofs.Ytonggccbgiecmaa
open Go.ChangeShapes Go.WideShapes Go.ChangeAt Go.RowKit
theorem join_fold (L M : List Rn) : joinL L M = (L ++ M).foldl putL [] := by unfold joinL; rw [List.foldl_append]
set_option maxRecDepth 100000 in
set_option maxHeartbeats 4000000 in
theorem join27 (v v' : Value) (L M : List Rn) (w : World) (h : RB w v L) (h' : RB w v' M) (hN : (L.length + M.length) * 24 ≤ 140737488355328) :
    Calls Try.prog 27 #[v, v'] w fun e w' => ∃ u, e = .returned u ∧ Own w' w.heap.size u (joinL L M) ∧ Below w.heap.size w w' := by
  obtain ⟨n, hn⟩ : ∃ n, L.length = n := ⟨_, rfl⟩
  obtain ⟨m, hm⟩ : ∃ n, M.length = n := ⟨_, rfl⟩
  obtain ⟨a, cap, rfl⟩ : ∃ a cap, v = .slice a n cap := by
    obtain ⟨a, cap, e⟩ := h.isSlice
    exact ⟨a, cap, by rw [← hn]; exact e⟩
  obtain ⟨a', cap', rfl⟩ : ∃ a cap, v' = .slice a m cap := by
    obtain ⟨a, cap, e⟩ := h'.isSlice
    exact ⟨a, cap, by rw [← hm]; exact e⟩
  rw [hn, hm] at hN
  have HL := hid hn
  have HM := hid hm
  have HR := hid h
  have HR' := hid h'
  have hwn : IntKind.i64.wrap ((n : Int) + m) = (n : Int) + m := by rw [IntKind.wrap_i64]; omega
  clear h hn h' hm
  go_enter Try.func27, Try.ntmps27
  go_wp2
  go_loopw [5, 6] (fun s x wr => ∃ i : Nat, i ≤ n + m ∧ x = .int .i64 i ∧ Own wr w.heap.size s (((L ++ M).take i).foldl putL []) ∧ Below w.heap.size w wr) (fun _ x _ => n + m - (intOf x).toNat)
  case atStart => exact ⟨0, Nat.zero_le _, rfl, Own.nil _ _, Below.refl _ _⟩
  case round =>
    obtain ⟨i, hi, rfl, ho, hb⟩ := hrel
    have HB := hid hb
    have hsz := hb.size
    have hlen := fold_len ((L ++ M).take i) []
    rw [List.length_take, List.length_append, HL.out, HM.out, Nat.min_eq_left hi] at hlen
    simp only [List.length_nil, Nat.zero_add] at hlen
    have HP0 := fold_pos ((L ++ M).take i) [] pos_nil
    obtain ⟨K, hKe⟩ : ∃ K, ((L ++ M).take i).foldl putL [] = K := ⟨_, rfl⟩
    rw [hKe] at ho hlen HP0
    obtain ⟨kl, hkl⟩ : ∃ kl, K.length = kl := ⟨_, rfl⟩
    rw [hkl] at hlen
    obtain ⟨ka, kcap, rfl⟩ : ∃ ka kcap, u5 = .slice ka kl kcap := by
      obtain ⟨a, cap, e⟩ := ho.reads.isSlice
      exact ⟨a, cap, by rw [← hkl]; exact e⟩
    have HKe := hid hKe
    have HKl := hid hkl
    have HO := hid ho
    have HP := hid HP0
    clear hb ho hKe hkl HP0
    by_cases hlt : i < n + m
    · have lnm : (i : Int) < (n : Int) + m := by omega
      by_cases hin : i < n
      · skip
        obtain ⟨r, hr⟩ := get_of_lt (L := L) (k := i) (by rw [HL.out]; exact hin)
        have Hr : Hid ((L ++ M)[i]? = some r) := by show _ = _; rw [List.getElem?_append_left (by rw [HL.out]; exact hin)]; exact hr
        obtain ⟨b', off, rfl, c1, c2, c3⟩ := (HR.out.below HB.out).at hr
        have Hok := hid (HR.out.ok hr)
        have li : (i : Int) < n := by omega
        have e1 := hid (show ((L ++ M).take (i + 1)).foldl putL [] = putL (((L ++ M).take i).foldl putL []) r by rw [take_snoc Hr.out]; simp)
        have HB2 := hid (fun o => HB.out.alloc hsz o)
        have hbl := block_lt_of_cell c1
        clear hr
        by_cases hc1 : r.c < 1
        · have e2 := hid (show putL K r = K from if_pos hc1)
          rw [HKe.out] at e1
          go_wp2
          go_roundw
          case rel => exact ⟨i + 1, by omega, by go_num, by rw [e1.out, e2.out]; exact HO.out.alloc _, HB2.out _⟩
          case measure => simp [intOf]; omega
        · have hc2 : ¬ (r.c < 1) := hc1
          rw [HKe.out] at e1
          by_cases hk0 : kl = 0
          · subst hk0
            have hK0 : Hid (K = []) := List.eq_nil_of_length_eq_zero HKl.out
            have e2 := hid (show putL K r = K ++ [r] by rw [hK0.out]; exact if_neg hc1)
            go_wp2
            go_quiet (fail)
            go_wp2_with (at_builtin; go_must (refine wpList_push rfl _ _ rfl w.heap.size _ K r ((HO.out.alloc _).alloc _) Hok.out ?c1 ?c2 ⟨_, 0, none⟩ rfl rfl ?c3 ?_))
            case c1 => simp; omega
            case c2 => rw [HKl.out]; omega
            case c3 => exact cells_new' _ r _ (by simp)
            intro u' w1 hown hkp _
            have R := hid hown
            have R2 : Hid (Below w.heap.size w w1) := (below_drew' (HB2.out _) _).trans (Below.trans (below_alloc _ _ |>.mono (by simp; omega)) (hkp.below (by simp; omega) (fun q hq e => by have := (HO.out.lt q e).1; omega)))
            clear hown hkp
            go_wp2
            go_roundw
            case rel => exact ⟨i + 1, by omega, by go_num, by rw [e1.out, e2.out]; exact R.out, R2.out⟩
            case measure => simp [intOf]; omega
          · obtain ⟨q, hq⟩ := get_of_lt (L := K) (k := kl - 1) (by rw [HKl.out]; omega)
            have hlast : Hid (K.getLast? = some q) := by show _ = _; rw [List.getLast?_eq_getElem?, HKl.out]; exact hq
            obtain ⟨g, cap', hv, hgb, hgl, hnc, hcm, hcc, hfz⟩ : ∃ g cap', Value.slice ka kl kcap = .slice (some ⟨g, 0, none⟩) kl cap' ∧ w.heap.size ≤ g ∧ g < wr.heap.size ∧ kl ≤ cap' ∧ cap' ≤ maxLen ∧
                (∀ i r, K[i]? = some r → wr.cell? ⟨g, i * 3, none⟩ = some (.int .u8 r.k) ∧ wr.cell? ⟨g, i * 3 + 1, none⟩ = some (.int .i64 r.s) ∧ wr.cell? ⟨g, i * 3 + 2, none⟩ = some (.int .i64 r.c)) ∧ ∀ i, wr.frozen? ⟨g, i, none⟩ = false := by
              rcases HO.out.shape with ⟨_, h0⟩ | ⟨g, cap', hv, rest⟩
              · have := HKl.out; rw [h0] at this; simp at this; omega
              · rw [HKl.out] at hv rest; exact ⟨g, cap', hv, rest⟩
            simp only [Value.slice.injEq] at hv
            obtain ⟨rfl, _, rfl⟩ := hv
            obtain ⟨d1, d2, d3⟩ := hcc (kl - 1) q hq
            have f3 := hfz ((kl - 1) * 3 + 2)
            have hq1 : 1 ≤ q.c := HP.out q (List.mem_of_getElem? hq)
            have hqo := HO.out.1 q (List.mem_of_getElem? hq)
            have hq2 : q.c ≤ 9223372036854775807 := hqo.2.2.2
            have hr2 : r.c ≤ 9223372036854775807 := Hok.out.2.2.2
            have HQ := hid hq
            clear hcc hfz hq hqo
            obtain ⟨z, hz⟩ : ∃ z, kl - 1 = z := ⟨_, rfl⟩
            rw [hz] at d1 d2 d3 f3 HQ
            have lz : (z : Int) < kl := by omega
            have lz0 : (0 : Int) ≤ z := by omega
            have hwz : IntKind.i64.wrap ((kl : Int) - 1) = z := by rw [IntKind.wrap_i64]; omega
            have Hz := hid hz
            clear hz
            by_cases he : q.k = r.k ∧ q.s = r.s
            · have hd := eq2_true he.1 he.2
              have e2 := hid (show putL K r = K.set z ⟨q.k, q.s, sm q.c r.c⟩ by
                unfold putL
                rw [if_neg hc1, hlast.out, HKl.out, Hz.out]
                exact if_pos he)
              clear he
              go_wp2
              go_quiet (fail)
              go_wp2
              go_region_with (first | (go_at_call 50; refine (sum50 _ _ _ (by omega) (by omega)).mono ?_; rintro e w' ⟨rfl, rfl⟩))
              all_goals go_wp2
              all_goals
                have hsb := sm_bound hq1 hc1
                have S := Own.setCn (HO.out.alloc (.cells #[.int .u8 r.k, .int .i64 r.s, .int .i64 r.c] 70)) HKl.out HQ.out (sm q.c r.c) (by omega)
                have SB := (HB2.out (.cells #[.int .u8 r.k, .int .i64 r.s, .int .i64 r.c] 70)).trans (S.2.below (by simp; omega) (fun q hq e => by omega))
              all_goals go_roundw
              all_goals first
                | exact ⟨i + 1, by omega, by go_num, by rw [e1.out, e2.out]; exact S.1, below_drew' SB _⟩
                | (simp [intOf]; omega)
            · have hd := eq2_false he
              have e2 := hid (show putL K r = K ++ [r] by
                unfold putL
                rw [if_neg hc1, hlast.out]
                exact if_neg he)
              clear he
              go_wp2
              go_quiet (fail)
              go_wp2_with (at_builtin; go_must (refine wpList_push rfl _ _ rfl w.heap.size _ K r ((HO.out.alloc _).alloc _) Hok.out ?c1 ?c2 ⟨_, 0, none⟩ rfl rfl ?c3 ?_))
              case c1 => simp; omega
              case c2 => rw [HKl.out]; omega
              case c3 => exact cells_new' _ r _ (by simp)
              intro u' w1 hown hkp _
              have R := hid hown
              have R2 : Hid (Below w.heap.size w w1) := (below_drew' (HB2.out _) _).trans (Below.trans (below_alloc _ _ |>.mono (by simp; omega)) (hkp.below (by simp; omega) (fun q hq e => by have := (HO.out.lt q e).1; omega)))
              clear hown hkp
              go_wp2
              go_roundw
              case rel => exact ⟨i + 1, by omega, by go_num, by rw [e1.out, e2.out]; exact R.out, R2.out⟩
              case measure => simp [intOf]; omega
      · skip
        obtain ⟨j, hj⟩ : ∃ j, i - n = j := ⟨_, rfl⟩
        obtain ⟨r, hr⟩ := get_of_lt (L := M) (k := j) (by rw [HM.out]; omega)
        have Hr : Hid ((L ++ M)[i]? = some r) := by show _ = _; rw [List.getElem?_append_right (by rw [HL.out]; omega), HL.out, hj]; exact hr
        obtain ⟨b', off, rfl, c1, c2, c3⟩ := (HR'.out.below HB.out).at hr
        have Hok := hid (HR'.out.ok hr)
        have li : ¬ (i : Int) < n := by omega
        have lj : (j : Int) < m := by omega
        have hwj : IntKind.i64.wrap ((i : Int) - n) = j := by rw [IntKind.wrap_i64]; omega
        have e1 := hid (show ((L ++ M).take (i + 1)).foldl putL [] = putL (((L ++ M).take i).foldl putL []) r by rw [take_snoc Hr.out]; simp)
        have HB2 := hid (fun o => HB.out.alloc hsz o)
        have hbl := block_lt_of_cell c1
        clear hr
        by_cases hc1 : r.c < 1
        · have e2 := hid (show putL K r = K from if_pos hc1)
          rw [HKe.out] at e1
          go_wp2
          go_roundw
          case rel => exact ⟨i + 1, by omega, by go_num, by rw [e1.out, e2.out]; exact HO.out.alloc _, HB2.out _⟩
          case measure => simp [intOf]; omega
        · have hc2 : ¬ (r.c < 1) := hc1
          rw [HKe.out] at e1
          by_cases hk0 : kl = 0
          · subst hk0
            have hK0 : Hid (K = []) := List.eq_nil_of_length_eq_zero HKl.out
            have e2 := hid (show putL K r = K ++ [r] by rw [hK0.out]; exact if_neg hc1)
            go_wp2
            go_quiet (fail)
            go_wp2_with (at_builtin; go_must (refine wpList_push rfl _ _ rfl w.heap.size _ K r ((HO.out.alloc _).alloc _) Hok.out ?c1 ?c2 ⟨_, 0, none⟩ rfl rfl ?c3 ?_))
            case c1 => simp; omega
            case c2 => rw [HKl.out]; omega
            case c3 => exact cells_new' _ r _ (by simp)
            intro u' w1 hown hkp _
            have R := hid hown
            have R2 : Hid (Below w.heap.size w w1) := (below_drew' (HB2.out _) _).trans (Below.trans (below_alloc _ _ |>.mono (by simp; omega)) (hkp.below (by simp; omega) (fun q hq e => by have := (HO.out.lt q e).1; omega)))
            clear hown hkp
            go_wp2
            go_roundw
            case rel => exact ⟨i + 1, by omega, by go_num, by rw [e1.out, e2.out]; exact R.out, R2.out⟩
            case measure => simp [intOf]; omega
          · obtain ⟨q, hq⟩ := get_of_lt (L := K) (k := kl - 1) (by rw [HKl.out]; omega)
            have hlast : Hid (K.getLast? = some q) := by show _ = _; rw [List.getLast?_eq_getElem?, HKl.out]; exact hq
            obtain ⟨g, cap', hv, hgb, hgl, hnc, hcm, hcc, hfz⟩ : ∃ g cap', Value.slice ka kl kcap = .slice (some ⟨g, 0, none⟩) kl cap' ∧ w.heap.size ≤ g ∧ g < wr.heap.size ∧ kl ≤ cap' ∧ cap' ≤ maxLen ∧
                (∀ i r, K[i]? = some r → wr.cell? ⟨g, i * 3, none⟩ = some (.int .u8 r.k) ∧ wr.cell? ⟨g, i * 3 + 1, none⟩ = some (.int .i64 r.s) ∧ wr.cell? ⟨g, i * 3 + 2, none⟩ = some (.int .i64 r.c)) ∧ ∀ i, wr.frozen? ⟨g, i, none⟩ = false := by
              rcases HO.out.shape with ⟨_, h0⟩ | ⟨g, cap', hv, rest⟩
              · have := HKl.out; rw [h0] at this; simp at this; omega
              · rw [HKl.out] at hv rest; exact ⟨g, cap', hv, rest⟩
            simp only [Value.slice.injEq] at hv
            obtain ⟨rfl, _, rfl⟩ := hv
            obtain ⟨d1, d2, d3⟩ := hcc (kl - 1) q hq
            have f3 := hfz ((kl - 1) * 3 + 2)
            have hq1 : 1 ≤ q.c := HP.out q (List.mem_of_getElem? hq)
            have hqo := HO.out.1 q (List.mem_of_getElem? hq)
            have hq2 : q.c ≤ 9223372036854775807 := hqo.2.2.2
            have hr2 : r.c ≤ 9223372036854775807 := Hok.out.2.2.2
            have HQ := hid hq
            clear hcc hfz hq hqo
            obtain ⟨z, hz⟩ : ∃ z, kl - 1 = z := ⟨_, rfl⟩
            rw [hz] at d1 d2 d3 f3 HQ
            have lz : (z : Int) < kl := by omega
            have lz0 : (0 : Int) ≤ z := by omega
            have hwz : IntKind.i64.wrap ((kl : Int) - 1) = z := by rw [IntKind.wrap_i64]; omega
            have Hz := hid hz
            clear hz
            by_cases he : q.k = r.k ∧ q.s = r.s
            · have hd := eq2_true he.1 he.2
              have e2 := hid (show putL K r = K.set z ⟨q.k, q.s, sm q.c r.c⟩ by
                unfold putL
                rw [if_neg hc1, hlast.out, HKl.out, Hz.out]
                exact if_pos he)
              clear he
              go_wp2
              go_quiet (fail)
              go_wp2
              go_region_with (first | (go_at_call 50; refine (sum50 _ _ _ (by omega) (by omega)).mono ?_; rintro e w' ⟨rfl, rfl⟩))
              all_goals go_wp2
              all_goals
                have hsb := sm_bound hq1 hc1
                have S := Own.setCn (HO.out.alloc (.cells #[.int .u8 r.k, .int .i64 r.s, .int .i64 r.c] 70)) HKl.out HQ.out (sm q.c r.c) (by omega)
                have SB := (HB2.out (.cells #[.int .u8 r.k, .int .i64 r.s, .int .i64 r.c] 70)).trans (S.2.below (by simp; omega) (fun q hq e => by omega))
              all_goals go_roundw
              all_goals first
                | exact ⟨i + 1, by omega, by go_num, by rw [e1.out, e2.out]; exact S.1, below_drew' SB _⟩
                | (simp [intOf]; omega)
            · have hd := eq2_false he
              have e2 := hid (show putL K r = K ++ [r] by
                unfold putL
                rw [if_neg hc1, hlast.out]
                exact if_neg he)
              clear he
              go_wp2
              go_quiet (fail)
              go_wp2_with (at_builtin; go_must (refine wpList_push rfl _ _ rfl w.heap.size _ K r ((HO.out.alloc _).alloc _) Hok.out ?c1 ?c2 ⟨_, 0, none⟩ rfl rfl ?c3 ?_))
              case c1 => simp; omega
              case c2 => rw [HKl.out]; omega
              case c3 => exact cells_new' _ r _ (by simp)
              intro u' w1 hown hkp _
              have R := hid hown
              have R2 : Hid (Below w.heap.size w w1) := (below_drew' (HB2.out _) _).trans (Below.trans (below_alloc _ _ |>.mono (by simp; omega)) (hkp.below (by simp; omega) (fun q hq e => by have := (HO.out.lt q e).1; omega)))
              clear hown hkp
              go_wp2
              go_roundw
              case rel => exact ⟨i + 1, by omega, by go_num, by rw [e1.out, e2.out]; exact R.out, R2.out⟩
              case measure => simp [intOf]; omega
    · have e : i = n + m := by omega
      have lnm : ¬ (i : Int) < (n : Int) + m := by omega
      have e3 : Hid ((L ++ M).take i = L ++ M) := List.take_of_length_le (by rw [List.length_append, HL.out, HM.out]; omega)
      have HO3 : Hid (Own wr w.heap.size (.slice ka kl kcap) (joinL L M)) := by rw [join_fold]; have := HKe.out; rw [e3.out] at this; rw [this]; exact HO.out
      clear e
      go_wp2
      go_ret
      exact ⟨_, rfl, HO3.out, HB.out⟩
end Go.Proofs.Ytonggccbgiecmaa
