/- One call of a pair of ledgers: an event recorded so many times; all events taken away. -/
import Derived.Test.YtadcindaafjckaaLact
namespace Go.Proofs.Ytadcindaafjckaa
open Go.ChangeShapes Go.WideShapes Go.ChangeAt Go.RowKit
set_option maxRecDepth 100000 in
set_option maxHeartbeats 2400000 in
theorem refNoteTimesZ (b : Nat) (k s n : Int) (w : World) (hn1 : n < 1) :
    Calls Try.prog 19 #[.pointer (some ⟨b, 0, none⟩), .agg #[.int .u8 k, .int .i64 s], .int .i64 n] w fun e w' => e = .returned (.tuple #[]) ∧ Below w.heap.size w w' := by
  go_enter Try.func19, Try.ntmps19
  go_wp2
  refine bodyPost_ret (results_none rfl _ _ _) rfl ?_
  exact ⟨rfl, below_alloc _ _⟩
set_option maxRecDepth 100000 in
set_option maxHeartbeats 2400000 in
theorem act1 (base pb b rb n : Nat) (rv rrv tv wv : Value) (L : List Rn) (T V : List Value) (on k s nn : Int) (w : World) (hd : Duo w b rb rv rrv L) (ht : Tw w base pb b rb tv wv n n T V) (hr : (⟨k, s, nn⟩ : Rn).Ok) (hL : L.length ≤ 1000) (h1n : 1 ≤ nn) (htot : tot L + nn ≤ 4611686018427387504) :
    Calls Try.prog 9 #[.pointer (some ⟨pb, 0, none⟩), .agg #[.int .i64 on, .int .i64 1, .int .u8 k, .int .i64 s, .int .i64 nn]] w fun e w' => e = .returned (.bool true) ∧ ActP w w' base pb b rb rv rrv tv wv L n T V := by
  have HD := hid hd
  have HT := hid ht
  have B0 := hid (below_alloc w (.cells #[.int .i64 on, .int .i64 1, .int .u8 k, .int .i64 s, .int .i64 nn] 41)).drew
  have A0 := hid ((AS.start w on 1 k s nn ht.pr).below (Below.refl _ _).drew)
  have D0 := hid (hd.below B0.out)
  have hlt := hid hd.lt
  have hnt := hid (ds_ts hd ht pb (.inl rfl))
  have hpl := ht.pr.lt
  obtain ⟨c0, c1, c2, c3⟩ := ht.pr.cells
  have HR := hid hr
  have h1 : Hid (tot L + nn ≤ 9223372036854775807) := by show _ ≤ _; omega
  have h2 : Hid ((L.length + 1) * 24 ≤ 140737488355328) := by show _ ≤ _; omega
  have hp0 := hid (tot_put (r := ⟨k, s, nn⟩) hd.led.pos h1n h1.out)
  have H1 := hid h1n
  have HTT := hid htot
  clear hd ht hr h1n htot
  go_enter Try.func9, Try.ntmps9
  go_wp2
  go_region_held3 (fun w' => w'.cell? ⟨pb, 0, none⟩ = some (.pointer (some ⟨b, 0, none⟩)) ∧ w'.cell? ⟨pb, 1, none⟩ = some (.pointer (some ⟨rb, 0, none⟩)) ∧ w'.cell? ⟨w.heap.size, 2, none⟩ = some (.int .u8 k) ∧ w'.cell? ⟨w.heap.size, 3, none⟩ = some (.int .i64 s) ∧ w'.cell? ⟨w.heap.size, 4, none⟩ = some (.int .i64 nn)) (go_keep) (first | (go_at_call 13; go_must (refine (noteTimes17 b rv L k s nn _ D0.out.led HR.out H1.out h1.out h2.out).mono ?_; rintro e w1 ⟨rfl, rv1, hl1, hk1, hs1⟩; have A1 := hid (A0.out.kept hk1 (by rintro (e | e); have := hlt.out _ (.inl e); omega; have := hlt.out _ (.inr (.inl e)); omega) (by rintro (e | e); exact hnt.out (.inl e); exact hnt.out (.inr (.inl e)))); have F1 := hid (D0.out.first hl1 hk1 hs1); have L1 := hid hl1; have K1 := hid hk1; have S1 := hid hs1; obtain ⟨x1, x2, x3, x4⟩ := A1.out.box.cells; obtain ⟨y1, y2, y3, y4⟩ := A1.out.pr.cells; clear hl1 hk1 hs1)))
  all_goals go_wp2
  all_goals go_region_held3 (fun w' => w'.cell? ⟨pb, 0, none⟩ = some (.pointer (some ⟨b, 0, none⟩)) ∧ w'.cell? ⟨pb, 1, none⟩ = some (.pointer (some ⟨rb, 0, none⟩)) ∧ w'.cell? ⟨w.heap.size, 2, none⟩ = some (.int .u8 k) ∧ w'.cell? ⟨w.heap.size, 3, none⟩ = some (.int .i64 s) ∧ w'.cell? ⟨w.heap.size, 4, none⟩ = some (.int .i64 nn)) (go_keep) (first | (go_at_call 19; go_must (refine (refNoteTimes45 rb rrv L k s nn _ (F1.out.1.below (Below.refl _ _).drew) HR.out H1.out h1.out h2.out).mono ?_; rintro e w2 ⟨rfl, rv2, hl2, hk2, hs2⟩; have A2 := hid (A1.out.kept (kp_undrew hk2) (by rintro (e | e); have := hlt.out _ (.inr (.inr (.inl e))); omega; have := hlt.out _ (.inr (.inr (.inr e))); omega) (by rintro (e | e); exact hnt.out (.inr (.inr (.inl e))); exact hnt.out (.inr (.inr (.inr e))))); obtain ⟨x1, x2, x3, x4⟩ := A2.out.box.cells; obtain ⟨y1, y2, y3, y4⟩ := A2.out.pr.cells; have R2 := hid (D0.out.both L1.out K1.out S1.out hl2 (kp_undrew hk2) hs2); clear hl2 hk2 hs2)))
  all_goals go_wp2
  all_goals go_ret
  all_goals exact ⟨rfl, actP_noted B0.out HD.out HT.out R2.out putL_len.1 (.inr (by rw [hp0.out]; exact HTT.out))⟩
set_option maxRecDepth 100000 in
set_option maxHeartbeats 2400000 in
theorem act1z (base pb b rb n : Nat) (rv rrv tv wv : Value) (L : List Rn) (T V : List Value) (on k s nn : Int) (w : World) (hd : Duo w b rb rv rrv L) (ht : Tw w base pb b rb tv wv n n T V) (h1n : nn < 1) :
    Calls Try.prog 9 #[.pointer (some ⟨pb, 0, none⟩), .agg #[.int .i64 on, .int .i64 1, .int .u8 k, .int .i64 s, .int .i64 nn]] w fun e w' => e = .returned (.bool true) ∧ ActP w w' base pb b rb rv rrv tv wv L n T V := by
  have HD := hid hd
  have HT := hid ht
  have B0 := hid (below_alloc w (.cells #[.int .i64 on, .int .i64 1, .int .u8 k, .int .i64 s, .int .i64 nn] 41)).drew
  have A0 := hid ((AS.start w on 1 k s nn ht.pr).below (Below.refl _ _).drew)
  have D0 := hid (hd.below B0.out)
  have hlt := hid hd.lt
  have hnt := hid (ds_ts hd ht pb (.inl rfl))
  have hpl := ht.pr.lt
  obtain ⟨c0, c1, c2, c3⟩ := ht.pr.cells
  have H1 := hid h1n
  clear hd ht h1n
  go_enter Try.func9, Try.ntmps9
  go_wp2
  go_region_held3 (fun w' => w'.cell? ⟨pb, 0, none⟩ = some (.pointer (some ⟨b, 0, none⟩)) ∧ w'.cell? ⟨pb, 1, none⟩ = some (.pointer (some ⟨rb, 0, none⟩)) ∧ w'.cell? ⟨w.heap.size, 2, none⟩ = some (.int .u8 k) ∧ w'.cell? ⟨w.heap.size, 3, none⟩ = some (.int .i64 s) ∧ w'.cell? ⟨w.heap.size, 4, none⟩ = some (.int .i64 nn)) (go_keep) (first | (go_at_call 13; go_must (refine (noteTimes17z b k s nn _ H1.out).mono ?_; rintro e w1 ⟨rfl, hb1⟩; have A1 := hid (A0.out.below hb1); have B1 := hid (below_next B0.out hb1); obtain ⟨x1, x2, x3, x4⟩ := A1.out.box.cells; obtain ⟨y1, y2, y3, y4⟩ := A1.out.pr.cells; clear hb1)))
  all_goals go_wp2
  all_goals go_region_held3 (fun w' => w'.cell? ⟨pb, 0, none⟩ = some (.pointer (some ⟨b, 0, none⟩)) ∧ w'.cell? ⟨pb, 1, none⟩ = some (.pointer (some ⟨rb, 0, none⟩)) ∧ w'.cell? ⟨w.heap.size, 2, none⟩ = some (.int .u8 k) ∧ w'.cell? ⟨w.heap.size, 3, none⟩ = some (.int .i64 s) ∧ w'.cell? ⟨w.heap.size, 4, none⟩ = some (.int .i64 nn)) (go_keep) (first | (go_at_call 19; go_must (refine (refNoteTimesZ rb k s nn _ H1.out).mono ?_; rintro e w2 ⟨rfl, hb2⟩; have B2 := hid (below_next (B1.out.drew) hb2); have A2 := hid (A1.out.below (below_next (Below.refl _ _).drew hb2)); obtain ⟨x1, x2, x3, x4⟩ := A2.out.box.cells; obtain ⟨y1, y2, y3, y4⟩ := A2.out.pr.cells; clear hb2)))
  all_goals go_wp2
  all_goals go_ret
  all_goals exact ⟨rfl, actP_below B2.out HD.out HT.out⟩
set_option maxRecDepth 100000 in
set_option maxHeartbeats 2400000 in
theorem act6 (base pb b rb n : Nat) (rv rrv tv wv : Value) (L : List Rn) (T V : List Value) (on k s nn : Int) (w : World) (hd : Duo w b rb rv rrv L) (ht : Tw w base pb b rb tv wv n n T V) :
    Calls Try.prog 9 #[.pointer (some ⟨pb, 0, none⟩), .agg #[.int .i64 on, .int .i64 6, .int .u8 k, .int .i64 s, .int .i64 nn]] w fun e w' => e = .returned (.bool true) ∧ ActP w w' base pb b rb rv rrv tv wv L n T V := by
  have HD := hid hd
  have HT := hid ht
  have B0 := hid (below_alloc w (.cells #[.int .i64 on, .int .i64 6, .int .u8 k, .int .i64 s, .int .i64 nn] 41))
  have A0 := hid (AS.start w on 6 k s nn ht.pr)
  have D0 := hid (hd.below B0.out)
  have hlt := hid hd.lt
  have hnt := hid (ds_ts hd ht pb (.inl rfl))
  have hpl := ht.pr.lt
  obtain ⟨c0, c1, c2, c3⟩ := ht.pr.cells
  have h0 := hid (tot_pos hd.led.pos)
  clear hd ht
  go_enter Try.func9, Try.ntmps9
  go_wp2_with fail
  refine (reset18 b rv L _ D0.out.led).mono ?_
  rintro e w1 ⟨rfl, hl1, hk0⟩
  have hk1 : Kp (fun j => j = b ∨ rv.ownBlock = some j) _ w1 := hk0.mono (fun _ _ e => .inl e)
  have hs1 : SameOrNew (w.alloc (.cells #[.int .i64 on, .int .i64 6, .int .u8 k, .int .i64 s, .int .i64 nn] 41)) rv (.slice none 0 0) := .inr (fun g hg => by simp [Value.ownBlock] at hg)
  have A1 := hid (A0.out.kept hk1 (by rintro (e | e); have := hlt.out _ (.inl e); omega; have := hlt.out _ (.inr (.inl e)); omega) (by rintro (e | e); exact hnt.out (.inl e); exact hnt.out (.inr (.inl e))))
  have F1 := hid (D0.out.first hl1 hk1 hs1)
  have L1 := hid hl1
  have K1 := hid hk1
  have S1 := hid hs1
  obtain ⟨x1, x2, x3, x4⟩ := A1.out.box.cells
  obtain ⟨y1, y2, y3, y4⟩ := A1.out.pr.cells
  clear hl1 hk1 hs1
  clear hk0
  go_wp2_with fail
  refine (refReset rb rrv L _ F1.out.1).mono ?_
  rintro e w2 ⟨rfl, hl2, hk2⟩
  have R2 := hid (D0.out.both L1.out K1.out S1.out hl2 (hk2.mono (fun _ _ e => .inl e)) (.inr (fun g hg => by simp [Value.ownBlock] at hg)))
  clear hl2 hk2
  go_wp2
  go_ret
  exact ⟨rfl, actP_noted B0.out HD.out HT.out R2.out (Nat.zero_le _) (.inl (by have := h0.out; show (0 : Int) ≤ _; omega))⟩
end Go.Proofs.Ytadcindaafjckaa
