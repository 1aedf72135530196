/- What the document's own ledger tells from a number on: the runs of the events from there. -/
import Derived.Test.YtadcindaafjckaaLref
namespace Go.Proofs.Ytadcindaafjckaa
open Go.ChangeShapes Go.WideShapes Go.ChangeAt Go.RowKit
set_option maxRecDepth 100000 in
set_option maxHeartbeats 4000000 in
theorem refSince0 (b : Nat) (rv : Value) (L : List Rn) (m M : Int) (w : World) (h : RLed w b rv L) (hN : L.length * 24 ≤ 140737488355328) (hm : -9223372036854775808 ≤ m ∧ m ≤ 9223372036854775807) (hM : M = if m < 0 then 0 else m) :
    Calls Try.prog 23 #[.pointer (some ⟨b, 0, none⟩), .int .i64 m] w fun e w' => ∃ v, e = .returned v ∧ Own w' w.heap.size v (sinceL L M) ∧ Below w.heap.size w w' := by
  have H := hid h
  obtain ⟨n, hn⟩ : ∃ n, L.length = n := ⟨_, rfl⟩
  obtain ⟨a, cap, rfl⟩ : ∃ a cap, rv = .slice a n cap := by
    obtain ⟨a, cap, e⟩ := h.own.reads.isSlice
    exact ⟨a, cap, by rw [← hn]; exact e⟩
  have HL := hid hn
  have HR := hid h.own.reads
  rw [hn] at hN
  clear h hn
  have hM0 : 0 ≤ M ∧ M ≤ 9223372036854775807 := by rw [hM]; split <;> omega
  by_cases hneg : m < 0
  · rw [if_pos hneg] at hM
    subst hM
    go_enter Try.func23, Try.ntmps23
    go_wp2
    go_loopw [5, 6, 7] (fun s t x wr => ∃ k : Nat, k ≤ n ∧ x = .int .i64 k ∧ t = .int .i64 (tot (L.take k)) ∧ Own wr w.heap.size s (sinceL (L.take k) 0) ∧ Below w.heap.size w wr) (fun _ _ x _ => n - (intOf x).toNat)
    case atStart => exact ⟨0, Nat.zero_le _, rfl, rfl, Own.nil _ _, Below.refl _ _⟩
    case round =>
      obtain ⟨k, hk, rfl, rfl, ho, hb⟩ := hrel
      have HO := hid ho
      have HB := hid hb
      have c0 := (H.out.below hb).cell0
      have hsz := hb.size
      clear ho hb
      by_cases hlt : k < n
      · obtain ⟨r, hr⟩ := get_of_lt (L := L) (k := k) (by rw [HL.out]; exact hlt)
        obtain ⟨b', off, rfl, c1, c2, c3⟩ := (HR.out.below HB.out).at hr
        have l1 : (k : Int) < n := by omega
        have p1 := H.out.pos r (List.mem_of_getElem? hr)
        have p5 := tot_take H.out.pos (k + 1)
        have p6 := H.out.most
        have p7 := (tot_pos (pos_take H.out.pos k))
        have HP := hid (pos_take H.out.pos k)
        have Hok := hid (H.out.own.1 r (List.mem_of_getElem? hr))
        have Hlen : Hid ((sinceL (L.take k) 0).length ≤ k) := Nat.le_trans since_len (by rw [List.length_take]; omega)
        have E : Hid (L.take (k + 1) = L.take k ++ [r]) := by show _ = _; rw [List.take_add_one, hr]; rfl
        have E1 : Hid (tot (L.take (k + 1)) = tot (L.take k) + r.c) := by show _ = _; rw [take_snoc hr, tot_append]; simp [tot]
        have hbnd : tot (L.take k) + r.c ≤ 9223372036854775807 ∧ 0 ≤ tot (L.take k) := by have := E1.out; omega
        have hbk : b' < wr.heap.size := block_lt_of_cell c1
        clear hr p5 p6 p7
        obtain ⟨X, hX⟩ : ∃ X, X = L.take k := ⟨_, rfl⟩
        rw [← hX] at HO HP Hlen E E1 hbnd ⊢
        clear hX
        obtain ⟨t, ht⟩ : ∃ t, tot X = t := ⟨_, rfl⟩
        rw [ht] at E1 hbnd ⊢
        have HT := hid ht
        clear ht
        have hw : IntKind.i64.wrap (t + r.c) = t + r.c := by rw [IntKind.wrap_i64]; omega
        by_cases hA : t + r.c ≤ 0
        · exfalso; omega
        · by_cases hB : t < 0
          · exfalso; omega
          · go_wp2_with (at_builtin; go_must (refine wpList_push rfl _ _ rfl w.heap.size _ (sinceL X 0) r ((HO.out.alloc _).alloc _) Hok.out ?c1 ?c2 ⟨_, 0, none⟩ rfl rfl ?c3 ?_))
            case c1 => first | omega | (simp; omega)
            case c2 => have := Hlen.out; omega
            case c3 => first | exact fun _ _ h => h | exact cells_new' _ r _ (by first | rfl | simp)
            intro u' w1 hown hkp hson
            have R1 : Hid (Own w1 w.heap.size u' (sinceL (L.take (k + 1)) 0)) := by
              show Own _ _ _ _
              rw [E.out, since_all HP.out (by rw [HT.out]; omega)]; exact hown
            have R2 : Hid (Below w.heap.size w w1) := ((HB.out.alloc hsz _).alloc (by first | omega | (simp; omega)) _).trans (hkp.below (by first | omega | (simp; omega)) (fun j hj e => by have := (HO.out.lt j e).1; omega))
            clear hown hkp hson HO HB
            go_wp2
            go_roundw
            case rel => exact ⟨k + 1, by omega, by go_num, by rw [E1.out], R1.out, R2.out⟩
            case measure => simp [intOf]; omega
      · have e : k = n := by omega
        subst e
        have R1 : Hid (Own wr w.heap.size u5 (sinceL L 0)) := by have := HO.out; rw [take_all HL.out] at this; exact this
        go_wp2
        go_ret
        exact ⟨_, rfl, R1.out, HB.out⟩
  · rw [if_neg hneg] at hM
    subst hM
    go_enter Try.func23, Try.ntmps23
    go_wp2
    go_loopw [5, 6, 7] (fun s t x wr => ∃ k : Nat, k ≤ n ∧ x = .int .i64 k ∧ t = .int .i64 (tot (L.take k)) ∧ Own wr w.heap.size s (sinceL (L.take k) M) ∧ Below w.heap.size w wr) (fun _ _ x _ => n - (intOf x).toNat)
    case atStart => exact ⟨0, Nat.zero_le _, rfl, rfl, Own.nil _ _, Below.refl _ _⟩
    case round =>
      obtain ⟨k, hk, rfl, rfl, ho, hb⟩ := hrel
      have HO := hid ho
      have HB := hid hb
      have c0 := (H.out.below hb).cell0
      have hsz := hb.size
      clear ho hb
      by_cases hlt : k < n
      · obtain ⟨r, hr⟩ := get_of_lt (L := L) (k := k) (by rw [HL.out]; exact hlt)
        obtain ⟨b', off, rfl, c1, c2, c3⟩ := (HR.out.below HB.out).at hr
        have l1 : (k : Int) < n := by omega
        have p1 := H.out.pos r (List.mem_of_getElem? hr)
        have p5 := tot_take H.out.pos (k + 1)
        have p6 := H.out.most
        have p7 := (tot_pos (pos_take H.out.pos k))
        have HP := hid (pos_take H.out.pos k)
        have Hok := hid (H.out.own.1 r (List.mem_of_getElem? hr))
        have Hlen : Hid ((sinceL (L.take k) M).length ≤ k) := Nat.le_trans since_len (by rw [List.length_take]; omega)
        have E : Hid (L.take (k + 1) = L.take k ++ [r]) := by show _ = _; rw [List.take_add_one, hr]; rfl
        have E1 : Hid (tot (L.take (k + 1)) = tot (L.take k) + r.c) := by show _ = _; rw [take_snoc hr, tot_append]; simp [tot]
        have hbnd : tot (L.take k) + r.c ≤ 9223372036854775807 ∧ 0 ≤ tot (L.take k) := by have := E1.out; omega
        have hbk : b' < wr.heap.size := block_lt_of_cell c1
        clear hr p5 p6 p7
        obtain ⟨X, hX⟩ : ∃ X, X = L.take k := ⟨_, rfl⟩
        rw [← hX] at HO HP Hlen E E1 hbnd ⊢
        clear hX
        obtain ⟨t, ht⟩ : ∃ t, tot X = t := ⟨_, rfl⟩
        rw [ht] at E1 hbnd ⊢
        have HT := hid ht
        clear ht
        have hw : IntKind.i64.wrap (t + r.c) = t + r.c := by rw [IntKind.wrap_i64]; omega
        by_cases hA : t + r.c ≤ M
        · have R1 : Hid (Own (wr.alloc (.cells #[.int .u8 r.k, .int .i64 r.s, .int .i64 r.c] 51)) w.heap.size u5 (sinceL (L.take (k + 1)) M)) := by
            show Own _ _ _ _
            rw [E.out, since_none HP.out p1 (by rw [HT.out]; exact hA)]; exact HO.out.alloc _
          have R2 : Hid (Below w.heap.size w (wr.alloc (.cells #[.int .u8 r.k, .int .i64 r.s, .int .i64 r.c] 51))) := HB.out.alloc hsz _
          obtain ⟨x5, y5, z5, rfl⟩ : ∃ x y z, u5 = .slice x y z := HO.out.isSlice
          go_wp2
          go_roundw
          case rel => exact ⟨k + 1, by omega, by go_num, by rw [E1.out], R1.out, R2.out⟩
          case measure => simp [intOf]; omega
        · by_cases hB : t < M
          · have hw2 : IntKind.i64.wrap (t + r.c - M) = t + r.c - M := by rw [IntKind.wrap_i64]; omega
            have Hok2 : Hid ((⟨r.k, r.s, t + r.c - M⟩ : Rn).Ok) := ⟨Hok.out.1, Hok.out.2.1, (by omega : -9223372036854775808 ≤ t + r.c - M), (by omega : t + r.c - M ≤ 9223372036854775807)⟩
            go_wp2_with (at_builtin; go_must (refine wpList_push rfl _ _ rfl w.heap.size _ (sinceL X M) ⟨r.k, r.s, t + r.c - M⟩ ((HO.out.alloc _).alloc _) Hok2.out ?c1 ?c2 ⟨_, 0, none⟩ rfl rfl ?c3 ?_))
            case c1 => first | omega | (simp; omega)
            case c2 => have := Hlen.out; omega
            case c3 => first | exact fun _ _ h => h | exact cells_new' _ ⟨r.k, r.s, t + r.c - M⟩ _ (by first | rfl | simp)
            intro u' w1 hown hkp hson
            have R1 : Hid (Own w1 w.heap.size u' (sinceL (L.take (k + 1)) M)) := by
              show Own _ _ _ _
              rw [E.out, since_part HP.out (by rw [HT.out]; exact hB) (by rw [HT.out]; omega), HT.out]; exact hown
            have R2 : Hid (Below w.heap.size w w1) := ((HB.out.alloc hsz _).alloc (by first | omega | (simp; omega)) _).trans (hkp.below (by first | omega | (simp; omega)) (fun j hj e => by have := (HO.out.lt j e).1; omega))
            clear hown hkp hson HO HB
            go_wp2
            go_roundw
            case rel => exact ⟨k + 1, by omega, by go_num, by rw [E1.out], R1.out, R2.out⟩
            case measure => simp [intOf]; omega
          · go_wp2_with (at_builtin; go_must (refine wpList_push rfl _ _ rfl w.heap.size _ (sinceL X M) r ((HO.out.alloc _).alloc _) Hok.out ?c1 ?c2 ⟨_, 0, none⟩ rfl rfl ?c3 ?_))
            case c1 => first | omega | (simp; omega)
            case c2 => have := Hlen.out; omega
            case c3 => first | exact fun _ _ h => h | exact cells_new' _ r _ (by first | rfl | simp)
            intro u' w1 hown hkp hson
            have R1 : Hid (Own w1 w.heap.size u' (sinceL (L.take (k + 1)) M)) := by
              show Own _ _ _ _
              rw [E.out, since_all HP.out (by rw [HT.out]; omega)]; exact hown
            have R2 : Hid (Below w.heap.size w w1) := ((HB.out.alloc hsz _).alloc (by first | omega | (simp; omega)) _).trans (hkp.below (by first | omega | (simp; omega)) (fun j hj e => by have := (HO.out.lt j e).1; omega))
            clear hown hkp hson HO HB
            go_wp2
            go_roundw
            case rel => exact ⟨k + 1, by omega, by go_num, by rw [E1.out], R1.out, R2.out⟩
            case measure => simp [intOf]; omega
      · have e : k = n := by omega
        subst e
        have R1 : Hid (Own wr w.heap.size u5 (sinceL L M)) := by have := HO.out; rw [take_all HL.out] at this; exact this
        go_wp2
        go_ret
        exact ⟨_, rfl, R1.out, HB.out⟩
theorem refSince (b : Nat) (rv : Value) (L : List Rn) (m : Int) (w : World) (h : RLed w b rv L) (hN : L.length * 24 ≤ 140737488355328) (hm : -9223372036854775808 ≤ m ∧ m ≤ 9223372036854775807) :
    Calls Try.prog 23 #[.pointer (some ⟨b, 0, none⟩), .int .i64 m] w fun e w' => ∃ v, e = .returned v ∧ Own w' w.heap.size v (sinceL L m) ∧ Below w.heap.size w w' := by
  have h1 := refSince0 b rv L m _ w h hN hm rfl
  have e : sinceL L (if m < 0 then 0 else m) = sinceL L m := by
    split
    · rename_i h; exact (since_neg h).symm
    · rfl
  rw [e] at h1
  exact h1
end Go.Proofs.Ytadcindaafjckaa
