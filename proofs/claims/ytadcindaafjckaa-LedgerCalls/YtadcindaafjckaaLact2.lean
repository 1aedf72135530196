/- One call of a pair of ledgers: the runs told, all of them or from a number on. -/
import Derived.Test.YtadcindaafjckaaLact
namespace Go.Proofs.Ytadcindaafjckaa
open Go.ChangeShapes Go.WideShapes Go.ChangeAt Go.RowKit
set_option maxRecDepth 100000 in
set_option maxHeartbeats 2400000 in
theorem act2 (base pb b rb n : Nat) (rv rrv tv wv : Value) (L : List Rn) (T V : List Value) (on k s nn : Int) (w : World) (hd : Duo w b rb rv rrv L) (ht : Tw w base pb b rb tv wv n n T V) (hL : L.length ≤ 1000) (hb0 : base ≤ w.heap.size) (hn : n < 1000) :
    Calls Try.prog 9 #[.pointer (some ⟨pb, 0, none⟩), .agg #[.int .i64 on, .int .i64 2, .int .u8 k, .int .i64 s, .int .i64 nn]] w fun e w' => e = .returned (.bool true) ∧ ActP w w' base pb b rb rv rrv tv wv L n T V := by
  have HD := hid hd
  have HT := hid ht
  have B0 := hid (below_alloc w (.cells #[.int .i64 on, .int .i64 2, .int .u8 k, .int .i64 s, .int .i64 nn] 41)).drew
  have A0 := hid ((AS.start w on 2 k s nn ht.pr).below (Below.refl _ _).drew)
  have D0 := hid (hd.below B0.out)
  have hlt := hid hd.lt
  have hnt := hid (ds_ts hd ht pb (.inl rfl))
  have hpl := ht.pr.lt
  obtain ⟨c0, c1, c2, c3⟩ := ht.pr.cells
  have h2 : Hid (L.length * 24 ≤ 140737488355328) := by show _ ≤ _; omega
  have hF : Hid (L.length ≤ L.length) := Nat.le_refl _
  have hF2 : Hid (L.length < 1000000000000000000) := by have := hF.out; show _ < _; omega
  have hlt2 := hid ht.lt
  have HB := hid hb0
  have HNN := hid hn
  clear hd ht hn hb0 hL
  go_enter Try.func9, Try.ntmps9
  go_wp2
  go_region_held3 (fun w' => w'.cell? ⟨pb, 0, none⟩ = some (.pointer (some ⟨b, 0, none⟩)) ∧ w'.cell? ⟨pb, 1, none⟩ = some (.pointer (some ⟨rb, 0, none⟩)) ∧ w'.cell? ⟨w.heap.size, 2, none⟩ = some (.int .u8 k) ∧ w'.cell? ⟨w.heap.size, 3, none⟩ = some (.int .i64 s) ∧ w'.cell? ⟨w.heap.size, 4, none⟩ = some (.int .i64 nn)) (go_keep) (first
    | (go_at_call 15; go_must (refine (runs22 b rv L _ D0.out.led h2.out).mono ?_; rintro e w1 ⟨v1, rfl, ho1, hb1⟩; have A1 := hid (A0.out.below hb1); have B1 := hid (below_next B0.out hb1); have D1 := hid (D0.out.below hb1); have O1 := hid (ho1.base B0.out.size); obtain ⟨x1, x2, x3, x4⟩ := A1.out.box.cells; obtain ⟨y1, y2, y3, y4⟩ := A1.out.pr.cells; clear ho1 hb1))
    | (go_at_call 21; go_must (refine (refRuns20 rb rrv L _ D1.out.ref h2.out).mono ?_; rintro e w2 ⟨v2, rfl, ho2, hb2⟩; have A2 := hid (A1.out.below hb2); have B2 := hid (below_next B1.out hb2); have O1' := hid (O1.out.below hb2); have O2 := hid (ho2.base B1.out.size); have hz2 : Hid (base ≤ w2.heap.size) := Nat.le_trans HB.out B2.out.size; obtain ⟨x1, x2, x3, x4⟩ := A2.out.box.cells; obtain ⟨y1, y2, y3, y4⟩ := A2.out.pr.cells; clear ho2 hb2))
    | (go_at_call 20; go_must (refine (keep20 base pb b rb n tv wv v1 v2 T V L _ (HT.out.below B2.out) (O1'.out.base (Nat.zero_le _)) (O2.out.base (Nat.zero_le _)) hF2.out hz2.out HNN.out).mono ?_; rintro e w3 ⟨rfl, tv3, wv3, hq⟩; have R3 := hid (actP_told B2.out HD.out HT.out O1'.out O2.out hF.out hq); have X3 := A2.out.box.kept hq.2.1 (fun e => by have := hlt2.out _ e; omega); obtain ⟨x1, x2, x3, x4⟩ := X3.cells; obtain ⟨y1, y2, y3, y4⟩ := hq.1.pr.cells; clear hq X3)))
  all_goals go_wp2
  all_goals go_ret
  all_goals exact ⟨rfl, R3.out⟩
set_option maxRecDepth 100000 in
set_option maxHeartbeats 2400000 in
theorem act3 (base pb b rb n : Nat) (rv rrv tv wv : Value) (L : List Rn) (T V : List Value) (on k s nn : Int) (w : World) (hd : Duo w b rb rv rrv L) (ht : Tw w base pb b rb tv wv n n T V) (hL : L.length ≤ 1000) (hb0 : base ≤ w.heap.size) (hn : n < 1000) (hm : -9223372036854775808 ≤ nn ∧ nn ≤ 9223372036854775807) :
    Calls Try.prog 9 #[.pointer (some ⟨pb, 0, none⟩), .agg #[.int .i64 on, .int .i64 3, .int .u8 k, .int .i64 s, .int .i64 nn]] w fun e w' => e = .returned (.bool true) ∧ ActP w w' base pb b rb rv rrv tv wv L n T V := by
  have HD := hid hd
  have HT := hid ht
  have B0 := hid (below_alloc w (.cells #[.int .i64 on, .int .i64 3, .int .u8 k, .int .i64 s, .int .i64 nn] 41)).drew
  have A0 := hid ((AS.start w on 3 k s nn ht.pr).below (Below.refl _ _).drew)
  have D0 := hid (hd.below B0.out)
  have hlt := hid hd.lt
  have hnt := hid (ds_ts hd ht pb (.inl rfl))
  have hpl := ht.pr.lt
  obtain ⟨c0, c1, c2, c3⟩ := ht.pr.cells
  have h2 : Hid (L.length * 24 ≤ 140737488355328) := by show _ ≤ _; omega
  have hF : Hid ((sinceL L nn).length ≤ L.length) := since_len
  have hF2 : Hid ((sinceL L nn).length < 1000000000000000000) := by have := hF.out; show _ < _; omega
  have hlt2 := hid ht.lt
  have HM := hid hm
  clear hm
  have HB := hid hb0
  have HNN := hid hn
  clear hd ht hn hb0 hL
  go_enter Try.func9, Try.ntmps9
  go_wp2
  go_region_held3 (fun w' => w'.cell? ⟨pb, 0, none⟩ = some (.pointer (some ⟨b, 0, none⟩)) ∧ w'.cell? ⟨pb, 1, none⟩ = some (.pointer (some ⟨rb, 0, none⟩)) ∧ w'.cell? ⟨w.heap.size, 2, none⟩ = some (.int .u8 k) ∧ w'.cell? ⟨w.heap.size, 3, none⟩ = some (.int .i64 s) ∧ w'.cell? ⟨w.heap.size, 4, none⟩ = some (.int .i64 nn)) (go_keep) (first
    | (go_at_call 22; go_must (refine (since23 b rv L nn _ D0.out.led h2.out HM.out).mono ?_; rintro e w1 ⟨v1, rfl, ho1, hb1⟩; have A1 := hid (A0.out.below hb1); have B1 := hid (below_next B0.out hb1); have D1 := hid (D0.out.below hb1); have O1 := hid (ho1.base B0.out.size); obtain ⟨x1, x2, x3, x4⟩ := A1.out.box.cells; obtain ⟨y1, y2, y3, y4⟩ := A1.out.pr.cells; clear ho1 hb1))
    | (go_at_call 23; go_must (refine (refSince rb rrv L nn _ D1.out.ref h2.out HM.out).mono ?_; rintro e w2 ⟨v2, rfl, ho2, hb2⟩; have A2 := hid (A1.out.below hb2); have B2 := hid (below_next B1.out hb2); have O1' := hid (O1.out.below hb2); have O2 := hid (ho2.base B1.out.size); have hz2 : Hid (base ≤ w2.heap.size) := Nat.le_trans HB.out B2.out.size; obtain ⟨x1, x2, x3, x4⟩ := A2.out.box.cells; obtain ⟨y1, y2, y3, y4⟩ := A2.out.pr.cells; clear ho2 hb2))
    | (go_at_call 20; go_must (refine (keep20 base pb b rb n tv wv v1 v2 T V (sinceL L nn) _ (HT.out.below B2.out) (O1'.out.base (Nat.zero_le _)) (O2.out.base (Nat.zero_le _)) hF2.out hz2.out HNN.out).mono ?_; rintro e w3 ⟨rfl, tv3, wv3, hq⟩; have R3 := hid (actP_told B2.out HD.out HT.out O1'.out O2.out hF.out hq); have X3 := A2.out.box.kept hq.2.1 (fun e => by have := hlt2.out _ e; omega); obtain ⟨x1, x2, x3, x4⟩ := X3.cells; obtain ⟨y1, y2, y3, y4⟩ := hq.1.pr.cells; clear hq X3)))
  all_goals go_wp2
  all_goals go_ret
  all_goals exact ⟨rfl, R3.out⟩
end Go.Proofs.Ytadcindaafjckaa
