/- One call of a pair of ledgers: counts, a walk over all events, how many there are. -/
import Derived.Test.YtadcindaafjckaaLact
namespace Go.Proofs.Ytadcindaafjckaa
open Go.ChangeShapes Go.WideShapes Go.ChangeAt Go.RowKit
set_option maxRecDepth 100000 in
set_option maxHeartbeats 2400000 in
theorem act4 (base pb b rb n : Nat) (rv rrv tv wv : Value) (L : List Rn) (T V : List Value) (on k s nn : Int) (w : World) (hd : Duo w b rb rv rrv L) (ht : Tw w base pb b rb tv wv n n T V) (hL : L.length ≤ 1000) :
    Calls Try.prog 9 #[.pointer (some ⟨pb, 0, none⟩), .agg #[.int .i64 on, .int .i64 4, .int .u8 k, .int .i64 s, .int .i64 nn]] w fun e w' => e = .returned (.bool true) ∧ ActP w w' base pb b rb rv rrv tv wv L n T V := by
  have HD := hid hd
  have HT := hid ht
  have B0 := hid (below_alloc w (.cells #[.int .i64 on, .int .i64 4, .int .u8 k, .int .i64 s, .int .i64 nn] 41)).drew
  have A0 := hid ((AS.start w on 4 k s nn ht.pr).below (Below.refl _ _).drew)
  have D0 := hid (hd.below B0.out)
  have hlt := hid hd.lt
  have hnt := hid (ds_ts hd ht pb (.inl rfl))
  have hpl := ht.pr.lt
  obtain ⟨c0, c1, c2, c3⟩ := ht.pr.cells
  have h2 : Hid (L.length < 1000000000000000000) := by show _ < _; omega
  clear hd ht hL
  go_enter Try.func9, Try.ntmps9
  go_wp2
  go_region_held3 (fun w' => w'.cell? ⟨pb, 0, none⟩ = some (.pointer (some ⟨b, 0, none⟩)) ∧ w'.cell? ⟨pb, 1, none⟩ = some (.pointer (some ⟨rb, 0, none⟩)) ∧ w'.cell? ⟨w.heap.size, 2, none⟩ = some (.int .u8 k) ∧ w'.cell? ⟨w.heap.size, 3, none⟩ = some (.int .i64 s) ∧ w'.cell? ⟨w.heap.size, 4, none⟩ = some (.int .i64 nn)) (go_keep) (first
    | (go_at_call 16; go_must (refine (count24 b rv L k _ D0.out.led h2.out).mono ?_; rintro e w1 ⟨rfl, hb1⟩; have A1 := hid (A0.out.below hb1); have B1 := hid (below_next B0.out hb1); have D1 := hid (D0.out.below hb1); obtain ⟨x1, x2, x3, x4⟩ := A1.out.box.cells; obtain ⟨y1, y2, y3, y4⟩ := A1.out.pr.cells; clear hb1))
    | (go_at_call 24; go_must (refine (refCount rb rrv L k _ D1.out.ref h2.out).mono ?_; rintro e w2 ⟨rfl, rfl⟩)))
  all_goals go_wp2
  all_goals go_ret
  all_goals exact ⟨by simp, actP_below B1.out HD.out HT.out⟩
set_option maxRecDepth 100000 in
set_option maxHeartbeats 2400000 in
theorem act5 (base pb b rb n : Nat) (rv rrv tv wv : Value) (L : List Rn) (T V : List Value) (on k s nn : Int) (w : World) (hd : Duo w b rb rv rrv L) (ht : Tw w base pb b rb tv wv n n T V) (hL : L.length ≤ 1000) (htot : tot L ≤ 4611686018427388000) :
    Calls Try.prog 9 #[.pointer (some ⟨pb, 0, none⟩), .agg #[.int .i64 on, .int .i64 5, .int .u8 k, .int .i64 s, .int .i64 nn]] w fun e w' => e = .returned (.bool true) ∧ ActP w w' base pb b rb rv rrv tv wv L n T V := by
  have HD := hid hd
  have HT := hid ht
  have B0 := hid (below_alloc w (.cells #[.int .i64 on, .int .i64 5, .int .u8 k, .int .i64 s, .int .i64 nn] 41)).drew
  have A0 := hid ((AS.start w on 5 k s nn ht.pr).below (Below.refl _ _).drew)
  have D0 := hid (hd.below B0.out)
  have hlt := hid hd.lt
  have hnt := hid (ds_ts hd ht pb (.inl rfl))
  have hpl := ht.pr.lt
  obtain ⟨c0, c1, c2, c3⟩ := ht.pr.cells
  have h1 : Hid (tot L + 1 ≤ 9223372036854775807) := by show _ ≤ _; omega
  have h2 : Hid ((L.length + 1) * 24 ≤ 140737488355328) := by show _ ≤ _; omega
  have hpos := hid hd.led.pos
  have hlt2 := hid ht.lt
  clear hd ht hL htot
  go_enter Try.func9, Try.ntmps9
  go_wp2
  go_region_held3 (fun w' => w'.cell? ⟨pb, 0, none⟩ = some (.pointer (some ⟨b, 0, none⟩)) ∧ w'.cell? ⟨pb, 1, none⟩ = some (.pointer (some ⟨rb, 0, none⟩)) ∧ w'.cell? ⟨w.heap.size, 2, none⟩ = some (.int .u8 k) ∧ w'.cell? ⟨w.heap.size, 3, none⟩ = some (.int .i64 s) ∧ w'.cell? ⟨w.heap.size, 4, none⟩ = some (.int .i64 nn)) (go_keep) (first
    | (go_at_call 7; go_must (refine (pick7 nn 50 _ (by decide) (by decide)).mono ?_; rintro e w1 ⟨⟨z, rfl, hz0, hz1⟩, rfl⟩; have HZ := hid (And.intro hz0 hz1); clear hz0 hz1))
    | (go_at_call 25; go_must (refine (walk25 b rb rv rrv L z _ D0.out h2.out HZ.out h1.out).mono ?_; rintro e w2 ⟨rfl, rv2, rrv2, hq⟩; have R2 := hid hq; have A2 := hid (A0.out.kept hq.2.1 (fun e => by have := hlt.out _ e; omega) hnt.out); obtain ⟨x1, x2, x3, x4⟩ := A2.out.box.cells; obtain ⟨y1, y2, y3, y4⟩ := A2.out.pr.cells; clear hq)))
  all_goals go_wp2
  all_goals go_ret
  all_goals exact ⟨rfl, actP_noted B0.out HD.out HT.out R2.out putL_len.1 (.inl (by rw [tot_put (r := ⟨77, z, 1⟩) hpos.out (by show (1 : Int) ≤ 1; omega) h1.out]; exact Int.le_refl _))⟩
set_option maxRecDepth 100000 in
set_option maxHeartbeats 2400000 in
theorem act7 (base pb b rb n : Nat) (rv rrv tv wv : Value) (L : List Rn) (T V : List Value) (on k s nn : Int) (w : World) (hd : Duo w b rb rv rrv L) (ht : Tw w base pb b rb tv wv n n T V) (c : Int) (hc : ¬ c = 0 ∧ ¬ c = 1 ∧ ¬ c = 2 ∧ ¬ c = 3 ∧ ¬ c = 4 ∧ ¬ c = 5 ∧ ¬ c = 6) (hL : L.length ≤ 1000) :
    Calls Try.prog 9 #[.pointer (some ⟨pb, 0, none⟩), .agg #[.int .i64 on, .int .i64 c, .int .u8 k, .int .i64 s, .int .i64 nn]] w fun e w' => e = .returned (.bool true) ∧ ActP w w' base pb b rb rv rrv tv wv L n T V := by
  have HD := hid hd
  have HT := hid ht
  have B0 := hid (below_alloc w (.cells #[.int .i64 on, .int .i64 c, .int .u8 k, .int .i64 s, .int .i64 nn] 41)).drew
  have A0 := hid ((AS.start w on c k s nn ht.pr).below (Below.refl _ _).drew)
  have D0 := hid (hd.below B0.out)
  have hlt := hid hd.lt
  have hnt := hid (ds_ts hd ht pb (.inl rfl))
  have hpl := ht.pr.lt
  obtain ⟨c0, c1, c2, c3⟩ := ht.pr.cells
  have h2 : Hid (L.length < 1000000000000000000) := by show _ < _; omega
  obtain ⟨k0, k1, k2, k3, k4, k5, k6⟩ := hc
  have D1 : Hid (∀ m, Duo ((w.alloc (.cells #[.int .i64 on, .int .i64 c, .int .u8 k, .int .i64 s, .int .i64 nn] 41)).drewN m) b rb rv rrv L) := fun m => (hd.below (below_alloc w _)).below (below_drewN _ _)
  have B1 := hid (below_alloc w (.cells #[.int .i64 on, .int .i64 c, .int .u8 k, .int .i64 s, .int .i64 nn] 41))
  clear hd ht hL
  go_enter Try.func9, Try.ntmps9
  go_wp2
  go_quiet ((first
    | (go_at_call 14; refine (len20 b rv L _ (D1.out _).led).mono ?_; rintro e w4 ⟨rfl, rfl⟩; exact ⟨rfl, _, rfl⟩)
    | (go_at_call 17; refine (refLen rb rrv L _ (D1.out _).ref h2.out).mono ?_; rintro e w4 ⟨rfl, rfl⟩; exact ⟨rfl, _, rfl⟩)
    | (go_at_call 28; refine (mark28 b rv L _ (D1.out _).led).mono ?_; rintro e w4 ⟨rfl, rfl⟩; exact ⟨rfl, _, rfl⟩)
    | (go_at_call 29; refine (refMark rb rrv L _ (D1.out _).ref h2.out).mono ?_; rintro e w4 ⟨rfl, rfl⟩; exact ⟨rfl, _, rfl⟩)))
  go_wp2
  go_ret
  exact ⟨by simp, actP_below (below_drew' B1.out _) HD.out HT.out⟩
end Go.Proofs.Ytadcindaafjckaa
