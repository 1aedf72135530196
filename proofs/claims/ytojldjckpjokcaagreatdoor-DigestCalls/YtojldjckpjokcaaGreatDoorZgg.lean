/- The helper act, call by call: Copy. -/
import Derived.Test.YtojldjckpjokcaaGreatDoorZge
import Derived.Test.YtojldjckpjokcaaGreatDoorZgd
namespace Go.Proofs.YtojldjckpjokcaaGreatDoor.Dg
open Go.ChangeShapes Go.WideShapes Go.ChangeAt Go.RowKit
open Go.Proofs.YtojldjckpjokcaaGreatDoor.By
open Go.Proofs.YtojldjckpjokcaaGreatDoor.Sh (Blk size_alloc)
section
variable {w0 W W' : World} {B : Nat} {K KP KQ : Nat → KD} {pb rb qb : Nat → Nat} {lb mb xb : Nat} {lv mv tv wv tv' wv' : Value} {L M : List Rn} {tl : List TE}
theorem PW.put (h : PW w0 B K pb rb qb lb lv mb mv L xb tv wv tl W) {k b r q : Nat} {x : KD} (hk3 : k < 3) (hp : IsP W b x) (hq : IsQ W r q x) (hB1 : B ≤ b) (hB2 : B ≤ r) (hB3 : B ≤ q) (hf1 : ∀ i, i < 3 → K i ≠ none → pb i ≠ b) (hf2 : ∀ i, i < 3 → K i ≠ none → qb i ≠ q ∧ rb i ≠ r) :
    PW w0 B (upd K k x) (upd pb k b) (upd rb k r) (upd qb k q) lb lv mb mv L xb tv wv tl ((W.setCell ⟨xb, k, none⟩ (pvl b x)).setCell ⟨xb, 3 + k, none⟩ (qvl r x)) := by
  have g1 := h.gw.setP hk3 hp hB1 hf1
  exact ⟨g1.setQ hk3 (setX_Q h.gw.x hq (Kp.setCell _ _ _)) hB2 hB3 hf2, (h.rw.setX h.gw.x (Kp.setCell _ _ _)).setX g1.x (Kp.setCell _ _ _)⟩
set_option maxRecDepth 4000 in
set_option maxHeartbeats 4000000 in
theorem PW.copyN256 (h : PW w0 B K pb rb qb lb lv mb mv L xb tv wv tl W) (on to al : Int) (pv : Value) (hK : K (pk on) = some (false, none)) :
    Calls Tryz.prog 10 #[.pointer (some ⟨xb, 0, none⟩), .agg #[.int .i64 on, .int .i64 2, .int .i64 to, pv, .int .u8 al]] W fun e w' => e = .returned (.bool true) ∧ ∃ b1 r1 q1, PW w0 B (upd K (pk to) none) (upd pb (pk to) b1) (upd rb (pk to) r1) (upd qb (pk to) q1) lb lv mb mv L xb tv wv tl w' := by
  have HX := hid (Sh.Blk.new W [.int .i64 on, .int .i64 2, .int .i64 to, pv, .int .u8 al] 43)
  have G0 := hid (h.gw.below (below_alloc W (.cells #[.int .i64 on, .int .i64 2, .int .i64 to, pv, .int .u8 al] 43)))
  have R0 := hid (h.rw.kx (Kx.below (below_alloc W (.cells #[.int .i64 on, .int .i64 2, .int .i64 to, pv, .int .u8 al] 43))))
  clear h
  go_enter Tryz.func10, Tryz.ntmps10
  go_wp2_with fail
  obtain ⟨W1, hW1⟩ : ∃ x, W.alloc (.cells #[.int .i64 on, .int .i64 2, .int .i64 to, pv, .int .u8 al] 43) = x := ⟨_, rfl⟩
  obtain ⟨ob, hob⟩ : ∃ x, W.heap.size = x := ⟨_, rfl⟩
  have HX1 : Hid (Blk W1 ob [.int .i64 on, .int .i64 2, .int .i64 to, pv, .int .u8 al] 43) := by rw [← hW1, ← hob]; exact HX.out
  rw [hW1] at G0 R0
  rw [hW1, hob]
  clear hW1 hob HX
  have o0 := HX1.out.cell 0 _ rfl
  have o1 := HX1.out.cell 1 _ rfl
  obtain ⟨k, hk⟩ : ∃ k, pk on = k := ⟨_, rfl⟩
  have hk3 : k < 3 := by rw [← hk]; exact pk_lt on
  rw [hk] at hK
  have HK := hid hK
  refine (pick3 on W1).mono ?_
  rintro e w1 ⟨rfl, rfl⟩
  rw [hk]
  clear hk
  have cp : w1.cell? ⟨xb, k, none⟩ = some (.iface 101 (.agg #[.pointer (some ⟨pb k, 0, none⟩)])) := by have := G0.out.x.cell k _ (xc_p _ _ _ _ _ _ _ _ k hk3); rw [hK] at this; exact this
  have cq : w1.cell? ⟨xb, 3 + k, none⟩ = some (.pointer (some ⟨rb k, 0, none⟩)) := by have := G0.out.x.cell (3 + k) _ (xc_q _ _ _ _ _ _ _ _ k hk3); rw [hK] at this; exact this
  have cl := G0.out.x.cell 6 _ rfl
  have cm := G0.out.x.cell 7 _ rfl
  have hk3' : (k : Int) < 3 := by omega
  clear hK
  obtain ⟨j, hj⟩ : ∃ j, pk to = j := ⟨_, rfl⟩
  have hj3 : j < 3 := by rw [← hj]; exact pk_lt to
  have hj4 : (j : Int) < 3 := by omega
  have HPK : Hid (∀ w, Calls Tryz.prog 25 #[.int .i64 to, .int .i64 3] w fun e w' => e = .returned (.int .i64 (j : Int)) ∧ w' = w) := fun w => by rw [← hj]; exact pick3 to w
  have HJ := hid hj
  clear hj
  have o2 := HX1.out.cell 2 _ rfl
  go_wp2_with fail
  refine (G0.out.copyP hk3 HK.out).mono ?_
  rintro e w2 ⟨b1, hc1, rfl, hp2, hb2⟩
  have H2 := hid (PW.below ⟨G0.out, R0.out⟩ hb2)
  have X2 := hid (HX1.out.below hb2)
  have P2 := hid hp2
  have F0 := hid (show B ≤ b1 ∧ ∀ i, i < 3 → K i ≠ none → pb i ≠ b1 from ⟨Nat.le_trans G0.out.hB hc1, fun i hi hn => by have := G0.out.ltP i hi hn; omega⟩)
  clear hp2 hb2 hc1
  rw [show pvl b1 (cnK false none) = Value.nilIface from rfl]
  go_wp2_with fail
  refine (H2.out.gw.copyQ hk3 HK.out).mono ?_
  rintro e w4 ⟨r1, q1, hc2, hc3, rfl, hq4, hb4⟩
  have H4 := hid (H2.out.below hb4)
  have X4 := hid (X2.out.below hb4)
  have P4 := hid (P2.out.below hb4)
  have Q4 := hid hq4
  have F2 := hid (show B ≤ r1 ∧ B ≤ q1 ∧ ∀ i, i < 3 → K i ≠ none → qb i ≠ q1 ∧ rb i ≠ r1 from ⟨Nat.le_trans H2.out.gw.hB hc2, Nat.le_trans H2.out.gw.hB hc3, fun i hi hn => by have := H2.out.gw.ltQ i hi hn; omega⟩)
  clear hq4 hb4 hc2 hc3 P2 H2 X2
  rw [show qvl r1 (cnK false none) = (Value.pointer none) from rfl]
  have hxo : ob ≠ xb := Sh.Blk.ne X4.out H4.out.gw.x (by decide)
  have ob1 := X4.out.cell 2 _ rfl
  have cj := H4.out.gw.x.cell j _ (xc_p _ _ _ _ _ _ _ _ j hj3)
  have fj := H4.out.gw.x.frozen j
  have cj2 := (H4.out.gw.x.set j Value.nilIface).cell (3 + j) _ (by rw [List.getElem?_set, if_neg (by omega)]; exact xc_q _ _ _ _ _ _ _ _ j hj3)
  have fj2 := (H4.out.gw.x.set j Value.nilIface).frozen (3 + j)
  have ob2 := (X4.out.other hxo j Value.nilIface).cell 2 _ rfl
  have ob3 := ((X4.out.other hxo j Value.nilIface).other hxo (3 + j) (Value.pointer none)).cell 2 _ rfl
  go_wp2_with fail
  go_region_held3 (fun W' => W'.cell? ⟨ob, 2, none⟩ = some (.int .i64 to)) (go_keep) (first | (go_at_call 25; go_must (refine (HPK.out _).mono ?_; rintro e wz ⟨rfl, rfl⟩)))
  go_wp2_with fail
  go_region_held3 (fun W' => W'.cell? ⟨ob, 2, none⟩ = some (.int .i64 to)) (go_keep) (first | (go_at_call 25; go_must (refine (HPK.out _).mono ?_; rintro e wz ⟨rfl, rfl⟩)))
  go_wp2
  go_ret
  rw [HJ.out]
  exact ⟨by simp, b1, r1, q1, (H4.out.put (x := none) hj3 P4.out Q4.out F0.out.1 F2.out.1 F2.out.2.1 F0.out.2 F2.out.2.2).below (below_drewN _ 2)⟩
set_option maxRecDepth 4000 in
set_option maxHeartbeats 4000000 in
theorem PW.copyS256 (h : PW w0 B K pb rb qb lb lv mb mv L xb tv wv tl W) (on to al : Int) (pv : Value) (mf : Nat × (Nat → Int)) (hK : K (pk on) = some (false, (some mf))) :
    Calls Tryz.prog 10 #[.pointer (some ⟨xb, 0, none⟩), .agg #[.int .i64 on, .int .i64 2, .int .i64 to, pv, .int .u8 al]] W fun e w' => e = .returned (.bool true) ∧ ∃ b1 r1 q1, PW w0 B (upd K (pk to) (some (false, some mf))) (upd pb (pk to) b1) (upd rb (pk to) r1) (upd qb (pk to) q1) lb lv mb mv L xb tv wv tl w' := by
  have HX := hid (Sh.Blk.new W [.int .i64 on, .int .i64 2, .int .i64 to, pv, .int .u8 al] 43)
  have G0 := hid (h.gw.below (below_alloc W (.cells #[.int .i64 on, .int .i64 2, .int .i64 to, pv, .int .u8 al] 43)))
  have R0 := hid (h.rw.kx (Kx.below (below_alloc W (.cells #[.int .i64 on, .int .i64 2, .int .i64 to, pv, .int .u8 al] 43))))
  clear h
  go_enter Tryz.func10, Tryz.ntmps10
  go_wp2_with fail
  obtain ⟨W1, hW1⟩ : ∃ x, W.alloc (.cells #[.int .i64 on, .int .i64 2, .int .i64 to, pv, .int .u8 al] 43) = x := ⟨_, rfl⟩
  obtain ⟨ob, hob⟩ : ∃ x, W.heap.size = x := ⟨_, rfl⟩
  have HX1 : Hid (Blk W1 ob [.int .i64 on, .int .i64 2, .int .i64 to, pv, .int .u8 al] 43) := by rw [← hW1, ← hob]; exact HX.out
  rw [hW1] at G0 R0
  rw [hW1, hob]
  clear hW1 hob HX
  have o0 := HX1.out.cell 0 _ rfl
  have o1 := HX1.out.cell 1 _ rfl
  obtain ⟨k, hk⟩ : ∃ k, pk on = k := ⟨_, rfl⟩
  have hk3 : k < 3 := by rw [← hk]; exact pk_lt on
  rw [hk] at hK
  have HK := hid hK
  refine (pick3 on W1).mono ?_
  rintro e w1 ⟨rfl, rfl⟩
  rw [hk]
  clear hk
  have cp : w1.cell? ⟨xb, k, none⟩ = some (.iface 101 (.agg #[.pointer (some ⟨pb k, 0, none⟩)])) := by have := G0.out.x.cell k _ (xc_p _ _ _ _ _ _ _ _ k hk3); rw [hK] at this; exact this
  have cq : w1.cell? ⟨xb, 3 + k, none⟩ = some (.pointer (some ⟨rb k, 0, none⟩)) := by have := G0.out.x.cell (3 + k) _ (xc_q _ _ _ _ _ _ _ _ k hk3); rw [hK] at this; exact this
  have cl := G0.out.x.cell 6 _ rfl
  have cm := G0.out.x.cell 7 _ rfl
  have hk3' : (k : Int) < 3 := by omega
  clear hK
  obtain ⟨j, hj⟩ : ∃ j, pk to = j := ⟨_, rfl⟩
  have hj3 : j < 3 := by rw [← hj]; exact pk_lt to
  have hj4 : (j : Int) < 3 := by omega
  have HPK : Hid (∀ w, Calls Tryz.prog 25 #[.int .i64 to, .int .i64 3] w fun e w' => e = .returned (.int .i64 (j : Int)) ∧ w' = w) := fun w => by rw [← hj]; exact pick3 to w
  have HJ := hid hj
  clear hj
  have o2 := HX1.out.cell 2 _ rfl
  go_wp2_with fail
  refine (G0.out.copyP hk3 HK.out).mono ?_
  rintro e w2 ⟨b1, hc1, rfl, hp2, hb2⟩
  have H2 := hid (PW.below ⟨G0.out, R0.out⟩ hb2)
  have X2 := hid (HX1.out.below hb2)
  have P2 := hid hp2
  have F0 := hid (show B ≤ b1 ∧ ∀ i, i < 3 → K i ≠ none → pb i ≠ b1 from ⟨Nat.le_trans G0.out.hB hc1, fun i hi hn => by have := G0.out.ltP i hi hn; omega⟩)
  clear hp2 hb2 hc1
  rw [show pvl b1 (cnK false (some mf)) = (Value.iface 101 (.agg #[.pointer (some ⟨b1, 0, none⟩)])) from rfl]
  go_wp2_with fail
  refine (H2.out.gw.copyQ hk3 HK.out).mono ?_
  rintro e w4 ⟨r1, q1, hc2, hc3, rfl, hq4, hb4⟩
  have H4 := hid (H2.out.below hb4)
  have X4 := hid (X2.out.below hb4)
  have P4 := hid (P2.out.below hb4)
  have Q4 := hid hq4
  have F2 := hid (show B ≤ r1 ∧ B ≤ q1 ∧ ∀ i, i < 3 → K i ≠ none → qb i ≠ q1 ∧ rb i ≠ r1 from ⟨Nat.le_trans H2.out.gw.hB hc2, Nat.le_trans H2.out.gw.hB hc3, fun i hi hn => by have := H2.out.gw.ltQ i hi hn; omega⟩)
  clear hq4 hb4 hc2 hc3 P2 H2 X2
  rw [show qvl r1 (cnK false (some mf)) = (Value.pointer (some ⟨r1, 0, none⟩)) from rfl]
  have hxo : ob ≠ xb := Sh.Blk.ne X4.out H4.out.gw.x (by decide)
  have ob1 := X4.out.cell 2 _ rfl
  have cj := H4.out.gw.x.cell j _ (xc_p _ _ _ _ _ _ _ _ j hj3)
  have fj := H4.out.gw.x.frozen j
  have cj2 := (H4.out.gw.x.set j (Value.iface 101 (.agg #[.pointer (some ⟨b1, 0, none⟩)]))).cell (3 + j) _ (by rw [List.getElem?_set, if_neg (by omega)]; exact xc_q _ _ _ _ _ _ _ _ j hj3)
  have fj2 := (H4.out.gw.x.set j (Value.iface 101 (.agg #[.pointer (some ⟨b1, 0, none⟩)]))).frozen (3 + j)
  have ob2 := (X4.out.other hxo j (Value.iface 101 (.agg #[.pointer (some ⟨b1, 0, none⟩)]))).cell 2 _ rfl
  have ob3 := ((X4.out.other hxo j (Value.iface 101 (.agg #[.pointer (some ⟨b1, 0, none⟩)]))).other hxo (3 + j) (Value.pointer (some ⟨r1, 0, none⟩))).cell 2 _ rfl
  go_wp2_with fail
  go_region_held3 (fun W' => W'.cell? ⟨ob, 2, none⟩ = some (.int .i64 to)) (go_keep) (first | (go_at_call 25; go_must (refine (HPK.out _).mono ?_; rintro e wz ⟨rfl, rfl⟩)))
  go_wp2_with fail
  go_region_held3 (fun W' => W'.cell? ⟨ob, 2, none⟩ = some (.int .i64 to)) (go_keep) (first | (go_at_call 25; go_must (refine (HPK.out _).mono ?_; rintro e wz ⟨rfl, rfl⟩)))
  go_wp2
  go_ret
  rw [HJ.out]
  exact ⟨by simp, b1, r1, q1, (H4.out.put (x := (some (false, some mf))) hj3 P4.out Q4.out F0.out.1 F2.out.1 F2.out.2.1 F0.out.2 F2.out.2.2).below (below_drewN _ 2)⟩
set_option maxRecDepth 4000 in
set_option maxHeartbeats 4000000 in
theorem PW.copyN512 (h : PW w0 B K pb rb qb lb lv mb mv L xb tv wv tl W) (on to al : Int) (pv : Value) (hK : K (pk on) = some (true, none)) :
    Calls Tryz.prog 10 #[.pointer (some ⟨xb, 0, none⟩), .agg #[.int .i64 on, .int .i64 2, .int .i64 to, pv, .int .u8 al]] W fun e w' => e = .returned (.bool true) ∧ ∃ b1 r1 q1, PW w0 B (upd K (pk to) none) (upd pb (pk to) b1) (upd rb (pk to) r1) (upd qb (pk to) q1) lb lv mb mv L xb tv wv tl w' := by
  have HX := hid (Sh.Blk.new W [.int .i64 on, .int .i64 2, .int .i64 to, pv, .int .u8 al] 43)
  have G0 := hid (h.gw.below (below_alloc W (.cells #[.int .i64 on, .int .i64 2, .int .i64 to, pv, .int .u8 al] 43)))
  have R0 := hid (h.rw.kx (Kx.below (below_alloc W (.cells #[.int .i64 on, .int .i64 2, .int .i64 to, pv, .int .u8 al] 43))))
  clear h
  go_enter Tryz.func10, Tryz.ntmps10
  go_wp2_with fail
  obtain ⟨W1, hW1⟩ : ∃ x, W.alloc (.cells #[.int .i64 on, .int .i64 2, .int .i64 to, pv, .int .u8 al] 43) = x := ⟨_, rfl⟩
  obtain ⟨ob, hob⟩ : ∃ x, W.heap.size = x := ⟨_, rfl⟩
  have HX1 : Hid (Blk W1 ob [.int .i64 on, .int .i64 2, .int .i64 to, pv, .int .u8 al] 43) := by rw [← hW1, ← hob]; exact HX.out
  rw [hW1] at G0 R0
  rw [hW1, hob]
  clear hW1 hob HX
  have o0 := HX1.out.cell 0 _ rfl
  have o1 := HX1.out.cell 1 _ rfl
  obtain ⟨k, hk⟩ : ∃ k, pk on = k := ⟨_, rfl⟩
  have hk3 : k < 3 := by rw [← hk]; exact pk_lt on
  rw [hk] at hK
  have HK := hid hK
  refine (pick3 on W1).mono ?_
  rintro e w1 ⟨rfl, rfl⟩
  rw [hk]
  clear hk
  have cp : w1.cell? ⟨xb, k, none⟩ = some (.iface 106 (.agg #[.pointer (some ⟨pb k, 0, none⟩)])) := by have := G0.out.x.cell k _ (xc_p _ _ _ _ _ _ _ _ k hk3); rw [hK] at this; exact this
  have cq : w1.cell? ⟨xb, 3 + k, none⟩ = some (.pointer (some ⟨rb k, 0, none⟩)) := by have := G0.out.x.cell (3 + k) _ (xc_q _ _ _ _ _ _ _ _ k hk3); rw [hK] at this; exact this
  have cl := G0.out.x.cell 6 _ rfl
  have cm := G0.out.x.cell 7 _ rfl
  have hk3' : (k : Int) < 3 := by omega
  clear hK
  obtain ⟨j, hj⟩ : ∃ j, pk to = j := ⟨_, rfl⟩
  have hj3 : j < 3 := by rw [← hj]; exact pk_lt to
  have hj4 : (j : Int) < 3 := by omega
  have HPK : Hid (∀ w, Calls Tryz.prog 25 #[.int .i64 to, .int .i64 3] w fun e w' => e = .returned (.int .i64 (j : Int)) ∧ w' = w) := fun w => by rw [← hj]; exact pick3 to w
  have HJ := hid hj
  clear hj
  have o2 := HX1.out.cell 2 _ rfl
  go_wp2_with fail
  refine (G0.out.copyP hk3 HK.out).mono ?_
  rintro e w2 ⟨b1, hc1, rfl, hp2, hb2⟩
  have H2 := hid (PW.below ⟨G0.out, R0.out⟩ hb2)
  have X2 := hid (HX1.out.below hb2)
  have P2 := hid hp2
  have F0 := hid (show B ≤ b1 ∧ ∀ i, i < 3 → K i ≠ none → pb i ≠ b1 from ⟨Nat.le_trans G0.out.hB hc1, fun i hi hn => by have := G0.out.ltP i hi hn; omega⟩)
  clear hp2 hb2 hc1
  rw [show pvl b1 (cnK true none) = Value.nilIface from rfl]
  go_wp2_with fail
  refine (H2.out.gw.copyQ hk3 HK.out).mono ?_
  rintro e w4 ⟨r1, q1, hc2, hc3, rfl, hq4, hb4⟩
  have H4 := hid (H2.out.below hb4)
  have X4 := hid (X2.out.below hb4)
  have P4 := hid (P2.out.below hb4)
  have Q4 := hid hq4
  have F2 := hid (show B ≤ r1 ∧ B ≤ q1 ∧ ∀ i, i < 3 → K i ≠ none → qb i ≠ q1 ∧ rb i ≠ r1 from ⟨Nat.le_trans H2.out.gw.hB hc2, Nat.le_trans H2.out.gw.hB hc3, fun i hi hn => by have := H2.out.gw.ltQ i hi hn; omega⟩)
  clear hq4 hb4 hc2 hc3 P2 H2 X2
  rw [show qvl r1 (cnK true none) = (Value.pointer none) from rfl]
  have hxo : ob ≠ xb := Sh.Blk.ne X4.out H4.out.gw.x (by decide)
  have ob1 := X4.out.cell 2 _ rfl
  have cj := H4.out.gw.x.cell j _ (xc_p _ _ _ _ _ _ _ _ j hj3)
  have fj := H4.out.gw.x.frozen j
  have cj2 := (H4.out.gw.x.set j Value.nilIface).cell (3 + j) _ (by rw [List.getElem?_set, if_neg (by omega)]; exact xc_q _ _ _ _ _ _ _ _ j hj3)
  have fj2 := (H4.out.gw.x.set j Value.nilIface).frozen (3 + j)
  have ob2 := (X4.out.other hxo j Value.nilIface).cell 2 _ rfl
  have ob3 := ((X4.out.other hxo j Value.nilIface).other hxo (3 + j) (Value.pointer none)).cell 2 _ rfl
  go_wp2_with fail
  go_region_held3 (fun W' => W'.cell? ⟨ob, 2, none⟩ = some (.int .i64 to)) (go_keep) (first | (go_at_call 25; go_must (refine (HPK.out _).mono ?_; rintro e wz ⟨rfl, rfl⟩)))
  go_wp2_with fail
  go_region_held3 (fun W' => W'.cell? ⟨ob, 2, none⟩ = some (.int .i64 to)) (go_keep) (first | (go_at_call 25; go_must (refine (HPK.out _).mono ?_; rintro e wz ⟨rfl, rfl⟩)))
  go_wp2
  go_ret
  rw [HJ.out]
  exact ⟨by simp, b1, r1, q1, (H4.out.put (x := none) hj3 P4.out Q4.out F0.out.1 F2.out.1 F2.out.2.1 F0.out.2 F2.out.2.2).below (below_drewN _ 2)⟩
set_option maxRecDepth 4000 in
set_option maxHeartbeats 4000000 in
theorem PW.copyS512 (h : PW w0 B K pb rb qb lb lv mb mv L xb tv wv tl W) (on to al : Int) (pv : Value) (mf : Nat × (Nat → Int)) (hK : K (pk on) = some (true, (some mf))) :
    Calls Tryz.prog 10 #[.pointer (some ⟨xb, 0, none⟩), .agg #[.int .i64 on, .int .i64 2, .int .i64 to, pv, .int .u8 al]] W fun e w' => e = .returned (.bool true) ∧ ∃ b1 r1 q1, PW w0 B (upd K (pk to) (some (true, some mf))) (upd pb (pk to) b1) (upd rb (pk to) r1) (upd qb (pk to) q1) lb lv mb mv L xb tv wv tl w' := by
  have HX := hid (Sh.Blk.new W [.int .i64 on, .int .i64 2, .int .i64 to, pv, .int .u8 al] 43)
  have G0 := hid (h.gw.below (below_alloc W (.cells #[.int .i64 on, .int .i64 2, .int .i64 to, pv, .int .u8 al] 43)))
  have R0 := hid (h.rw.kx (Kx.below (below_alloc W (.cells #[.int .i64 on, .int .i64 2, .int .i64 to, pv, .int .u8 al] 43))))
  clear h
  go_enter Tryz.func10, Tryz.ntmps10
  go_wp2_with fail
  obtain ⟨W1, hW1⟩ : ∃ x, W.alloc (.cells #[.int .i64 on, .int .i64 2, .int .i64 to, pv, .int .u8 al] 43) = x := ⟨_, rfl⟩
  obtain ⟨ob, hob⟩ : ∃ x, W.heap.size = x := ⟨_, rfl⟩
  have HX1 : Hid (Blk W1 ob [.int .i64 on, .int .i64 2, .int .i64 to, pv, .int .u8 al] 43) := by rw [← hW1, ← hob]; exact HX.out
  rw [hW1] at G0 R0
  rw [hW1, hob]
  clear hW1 hob HX
  have o0 := HX1.out.cell 0 _ rfl
  have o1 := HX1.out.cell 1 _ rfl
  obtain ⟨k, hk⟩ : ∃ k, pk on = k := ⟨_, rfl⟩
  have hk3 : k < 3 := by rw [← hk]; exact pk_lt on
  rw [hk] at hK
  have HK := hid hK
  refine (pick3 on W1).mono ?_
  rintro e w1 ⟨rfl, rfl⟩
  rw [hk]
  clear hk
  have cp : w1.cell? ⟨xb, k, none⟩ = some (.iface 106 (.agg #[.pointer (some ⟨pb k, 0, none⟩)])) := by have := G0.out.x.cell k _ (xc_p _ _ _ _ _ _ _ _ k hk3); rw [hK] at this; exact this
  have cq : w1.cell? ⟨xb, 3 + k, none⟩ = some (.pointer (some ⟨rb k, 0, none⟩)) := by have := G0.out.x.cell (3 + k) _ (xc_q _ _ _ _ _ _ _ _ k hk3); rw [hK] at this; exact this
  have cl := G0.out.x.cell 6 _ rfl
  have cm := G0.out.x.cell 7 _ rfl
  have hk3' : (k : Int) < 3 := by omega
  clear hK
  obtain ⟨j, hj⟩ : ∃ j, pk to = j := ⟨_, rfl⟩
  have hj3 : j < 3 := by rw [← hj]; exact pk_lt to
  have hj4 : (j : Int) < 3 := by omega
  have HPK : Hid (∀ w, Calls Tryz.prog 25 #[.int .i64 to, .int .i64 3] w fun e w' => e = .returned (.int .i64 (j : Int)) ∧ w' = w) := fun w => by rw [← hj]; exact pick3 to w
  have HJ := hid hj
  clear hj
  have o2 := HX1.out.cell 2 _ rfl
  go_wp2_with fail
  refine (G0.out.copyP hk3 HK.out).mono ?_
  rintro e w2 ⟨b1, hc1, rfl, hp2, hb2⟩
  have H2 := hid (PW.below ⟨G0.out, R0.out⟩ hb2)
  have X2 := hid (HX1.out.below hb2)
  have P2 := hid hp2
  have F0 := hid (show B ≤ b1 ∧ ∀ i, i < 3 → K i ≠ none → pb i ≠ b1 from ⟨Nat.le_trans G0.out.hB hc1, fun i hi hn => by have := G0.out.ltP i hi hn; omega⟩)
  clear hp2 hb2 hc1
  rw [show pvl b1 (cnK true (some mf)) = (Value.iface 106 (.agg #[.pointer (some ⟨b1, 0, none⟩)])) from rfl]
  go_wp2_with fail
  refine (H2.out.gw.copyQ hk3 HK.out).mono ?_
  rintro e w4 ⟨r1, q1, hc2, hc3, rfl, hq4, hb4⟩
  have H4 := hid (H2.out.below hb4)
  have X4 := hid (X2.out.below hb4)
  have P4 := hid (P2.out.below hb4)
  have Q4 := hid hq4
  have F2 := hid (show B ≤ r1 ∧ B ≤ q1 ∧ ∀ i, i < 3 → K i ≠ none → qb i ≠ q1 ∧ rb i ≠ r1 from ⟨Nat.le_trans H2.out.gw.hB hc2, Nat.le_trans H2.out.gw.hB hc3, fun i hi hn => by have := H2.out.gw.ltQ i hi hn; omega⟩)
  clear hq4 hb4 hc2 hc3 P2 H2 X2
  rw [show qvl r1 (cnK true (some mf)) = (Value.pointer (some ⟨r1, 0, none⟩)) from rfl]
  have hxo : ob ≠ xb := Sh.Blk.ne X4.out H4.out.gw.x (by decide)
  have ob1 := X4.out.cell 2 _ rfl
  have cj := H4.out.gw.x.cell j _ (xc_p _ _ _ _ _ _ _ _ j hj3)
  have fj := H4.out.gw.x.frozen j
  have cj2 := (H4.out.gw.x.set j (Value.iface 106 (.agg #[.pointer (some ⟨b1, 0, none⟩)]))).cell (3 + j) _ (by rw [List.getElem?_set, if_neg (by omega)]; exact xc_q _ _ _ _ _ _ _ _ j hj3)
  have fj2 := (H4.out.gw.x.set j (Value.iface 106 (.agg #[.pointer (some ⟨b1, 0, none⟩)]))).frozen (3 + j)
  have ob2 := (X4.out.other hxo j (Value.iface 106 (.agg #[.pointer (some ⟨b1, 0, none⟩)]))).cell 2 _ rfl
  have ob3 := ((X4.out.other hxo j (Value.iface 106 (.agg #[.pointer (some ⟨b1, 0, none⟩)]))).other hxo (3 + j) (Value.pointer (some ⟨r1, 0, none⟩))).cell 2 _ rfl
  go_wp2_with fail
  go_region_held3 (fun W' => W'.cell? ⟨ob, 2, none⟩ = some (.int .i64 to)) (go_keep) (first | (go_at_call 25; go_must (refine (HPK.out _).mono ?_; rintro e wz ⟨rfl, rfl⟩)))
  go_wp2_with fail
  go_region_held3 (fun W' => W'.cell? ⟨ob, 2, none⟩ = some (.int .i64 to)) (go_keep) (first | (go_at_call 25; go_must (refine (HPK.out _).mono ?_; rintro e wz ⟨rfl, rfl⟩)))
  go_wp2
  go_ret
  rw [HJ.out]
  exact ⟨by simp, b1, r1, q1, (H4.out.put (x := (some (true, some mf))) hj3 P4.out Q4.out F0.out.1 F2.out.1 F2.out.2.1 F0.out.2 F2.out.2.2).below (below_drewN _ 2)⟩
theorem PW.copy (h : PW w0 B K pb rb qb lb lv mb mv L xb tv wv tl W) (on to al : Int) (pv : Value) (a : Bool) (sk : SK) (hK : K (pk on) = some (a, sk)) :
    Calls Tryz.prog 10 #[.pointer (some ⟨xb, 0, none⟩), .agg #[.int .i64 on, .int .i64 2, .int .i64 to, pv, .int .u8 al]] W fun e w' => e = .returned (.bool true) ∧ ∃ b1 r1 q1, PW w0 B (upd K (pk to) (cnK a sk)) (upd pb (pk to) b1) (upd rb (pk to) r1) (upd qb (pk to) q1) lb lv mb mv L xb tv wv tl w' := by
  match a, sk, hK with
  | false, none, hK => exact h.copyN256 on to al pv hK
  | false, some mf, hK => exact h.copyS256 on to al pv mf hK
  | true, none, hK => exact h.copyN512 on to al pv hK
  | true, some mf, hK => exact h.copyS512 on to al pv mf hK
end
end Go.Proofs.YtojldjckpjokcaaGreatDoor.Dg
