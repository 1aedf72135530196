/- Decode of the document. -/
import Derived.Test.YtnadpglfliiplaaUnx
namespace Go.Proofs.Ytnadpglfliiplaa.Ou
open Go.ChangeShapes Go.WideShapes Go.ChangeAt Go.RowKit
open Go.Proofs.Ytnadpglfliiplaa.By
open Go.Proofs.Ytnadpglfliiplaa.Tb (Blk Blk.newAt)
theorem dec_end {w W0 W : World} {t : Bool} {f : Nat → Int} {d m : Value} (hf : ∀ i, 0 ≤ f i ∧ f i < 256) (kb : Blk W0 w.heap.size zA.toList 26) (b0 : Below w.heap.size w W0) (z0 : w.heap.size < W0.heap.size) (ht : Told W0 W t f d m) :
    ∃ Wb, (SVo ⟨W.heap.size, 0, none⟩ (ov (dq t f) d m)).run Try.prog (W.alloc (.cells zA 26)) = .ok () Wb ∧ (LDo ⟨W.heap.size, 0, none⟩).run Try.prog Wb = .ok (ov (dq t f) d m) Wb ∧
      (∃ Wc, (SVo ⟨w.heap.size, 0, none⟩ (.agg zA)).run Try.prog Wb = .ok () Wc ∧ (LDo ⟨w.heap.size, 0, none⟩).run Try.prog Wc = .ok (.agg zA) Wc ∧ Told w Wc false f (.slice none 0 0) (.slice none 0 0)) ∧
      (∃ Wc, (SVo ⟨w.heap.size, 0, none⟩ (ov (dq t f) d m)).run Try.prog Wb = .ok () Wc ∧ (LDo ⟨w.heap.size, 0, none⟩).run Try.prog Wc = .ok (ov (dq t f) d m) Wc ∧ Told w Wc t f d m) := by
  obtain ⟨o1, o2, h12, hb⟩ := ht
  obtain ⟨Wb, s1, k1, hk1⟩ := SVo_run (Blk.newAt W zA zA.toList 26 W.heap.size rfl rfl) rfl (q := dq t f) (own_one o1) (own_one o2)
  have e1 := hb.size
  have hkA : Kp (fun j => j = W.heap.size) W Wb := (Kp.of_below _ (below_alloc W _)).trans hk1 (fun _ _ e => e)
  have bW : Below w.heap.size w W := below_next b0 hb
  have bb : Below w.heap.size w Wb := bW.trans (hkA.below bW.size (fun j hj => by omega))
  have kr : Blk Wb w.heap.size zA.toList 26 := (kb.below hb).kept hkA (by omega)
  have q1 := own_row o1
  have q2 := own_row o2
  have l1 := own_lt o1
  have l2 := own_lt o2
  obtain ⟨Wc, s2, k2, hk2⟩ := SVo_run kr rfl (q := dq t f) (own_one o1) (own_one o2)
  obtain ⟨W', s3, l3, t3⟩ := zero_end f hf kr bb 0 rfl
  refine ⟨Wb, s1, LDo_run k1, ⟨W', s3, l3, t3⟩, Wc, s2, LDo_run k2, ?_, ?_, h12, bb.trans (hk2.below bb.size (fun j hj => Nat.ne_of_lt hj))⟩
  · exact own_base (own_keptB (own_keptB o1 hkA (fun j e h => by have := l1 j e; omega)) hk2 (fun j e h => by have := q1 j e; omega)) (by omega)
  · exact own_base (own_keptB (own_keptB o2 hkA (fun j e h => by have := l2 j e; omega)) hk2 (fun j e h => by have := q2 j e; omega)) (by omega)
set_option maxRecDepth 4000 in
set_option maxHeartbeats 400000 in
theorem rdecode_ok (v : Value) (n : Nat) (f : Nat → Int) (w : World) (hr : By.RB w v n f) (hn : n ≤ 140737488355328) :
    Calls Try.prog 25 #[v] w fun e w' => ∃ d m, e = .returned (.tuple #[ov (dq (decide (n = zl f)) f) d m, .int .i64 (dE (decide (n = zl f)))]) ∧ Told w w' (decide (n = zl f)) f d m := by
  obtain ⟨a, c, rfl⟩ := rb_sl hr
  have HR := hid hr
  clear hr
  obtain ⟨W0, hW0⟩ : ∃ W, w.alloc (.cells #[Value.int IntKind.u8 0, Value.int IntKind.i64 0, Value.int IntKind.u8 0, Value.int IntKind.i64 0, Value.int IntKind.i64 0, Value.slice none 0 0, Value.slice none 0 0] 26) = W := ⟨_, rfl⟩
  have kb : Hid (Blk W0 w.heap.size zA.toList 26) := by rw [← hW0]; exact Blk.newAt w _ _ 26 w.heap.size rfl rfl
  have b0 : Hid (Below w.heap.size w W0) := by rw [← hW0]; exact below_alloc w _
  have z0 : Hid (w.heap.size < W0.heap.size) := by show w.heap.size < W0.heap.size; rw [← hW0]; simp
  go_enter Try.func25, Try.ntmps25
  go_wp2_with fail
  refine (rnext_ok _ n f W0 (HR.out.below b0.out) hn).mono ?_
  rintro e W ⟨d, m, rfl, ht⟩
  clear hW0
  obtain ⟨Wb, s1, l1, ⟨Wc, s2, l2, t2⟩, Wd, s3, l3, t3⟩ := dec_end HR.out.1 kb.out b0.out z0.out ht
  have L2 := hid l2
  have T2 := hid t2
  have L3 := hid l3
  have T3 := hid t3
  clear ht l2 t2 l3 t3
  by_cases h : zl f ≤ n
  · have et : decide (zl f ≤ n) = true := by simpa using h
    rw [et] at s1 l1 s3 L3 T3 ⊢
    by_cases h2 : n = zl f
    · have E : Hid (decide (n = zl f) = true) := by show decide (n = zl f) = true; simpa using h2
      have e2 : ((dK true f : Int) == (n : Int)) = true := by show ((zl f : Int) == (n : Int)) = true; simp; omega
      have e3 : ((dE true : Int) == 0) = true := rfl
      clear h h2 et s2 L2 T2
      go_wp2
      refine bodyPost_ret (Tb.results_cell2 rfl rfl rfl L3.out) rfl ?_
      exact ⟨_, _, by rw [E.out]; rfl, by rw [E.out]; exact T3.out⟩
    · have E : Hid (decide (n = zl f) = false) := by show decide (n = zl f) = false; simpa using h2
      have e2 : ((dK true f : Int) == (n : Int)) = false := by show ((zl f : Int) == (n : Int)) = false; simp; omega
      have e3 : ((dE true : Int) == 0) = true := rfl
      clear h h2 et s3 L3 T3
      go_wp2
      refine bodyPost_ret (Tb.results_cell2 rfl rfl rfl L2.out) rfl ?_
      exact ⟨_, _, by rw [E.out]; rfl, by rw [E.out]; exact T2.out⟩
  · have et : decide (zl f ≤ n) = false := by simpa using h
    have E : Hid (decide (n = zl f) = false) := by show decide (n = zl f) = false; simp; omega
    rw [et] at s1 l1 s3 L3 T3 ⊢
    have e3 : ((dE false : Int) == 0) = false := rfl
    clear h et s3 L3 T3
    go_wp2
    refine bodyPost_ret (Tb.results_cell2 rfl rfl rfl L2.out) rfl ?_
    exact ⟨_, _, by rw [E.out]; rfl, by rw [E.out]; exact T2.out⟩
end Go.Proofs.Ytnadpglfliiplaa.Ou
