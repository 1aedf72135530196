/- The helper made: a new state, of both sides. The helper act: a state is made. The helper act: any call. -/
import Derived.Test.YtojldjckpjokcaaGreatDoorZgd
import Derived.Test.YtojldjckpjokcaaGreatDoorZgc
import Derived.Deep.RegionHeld3
import Derived.Test.YtojldjckpjokcaaGreatDoorZge
import Derived.Test.YtojldjckpjokcaaGreatDoorZgf
import Derived.Test.YtojldjckpjokcaaGreatDoorZgg
namespace Go.Proofs.YtojldjckpjokcaaGreatDoor.Dg
open Go.ChangeShapes Go.WideShapes Go.ChangeAt Go.RowKit
open Go.Proofs.YtojldjckpjokcaaGreatDoor.By
open Go.Proofs.YtojldjckpjokcaaGreatDoor.Sh (Blk size_alloc)
theorem new256 (w : World) : Calls Tryz.prog 37 #[] w fun e w' => ∃ b, w.heap.size ≤ b ∧ e = .returned (.iface 101 (.agg #[.pointer (some ⟨b, 0, none⟩)])) ∧ IsP w' b (some (false, some (0, fun _ => 0))) ∧ Below w.heap.size w w' := dnew false w
theorem new512 (w : World) : Calls Tryz.prog 39 #[] w fun e w' => ∃ b, w.heap.size ≤ b ∧ e = .returned (.iface 106 (.agg #[.pointer (some ⟨b, 0, none⟩)])) ∧ IsP w' b (some (true, some (0, fun _ => 0))) ∧ Below w.heap.size w w' := dnew true w
/-- No message is longer. -/
def mlK : KD → Nat | none => 0 | some (_, sk) => ml sk
def Mx (K : Nat → KD) (c : Nat) : Prop := ∀ k, k < 3 → mlK (K k) ≤ c
theorem Mx.mono {K : Nat → KD} {c d : Nat} (h : Mx K c) (hd : c ≤ d) : Mx K d := fun k hk => Nat.le_trans (h k hk) hd
theorem Mx.upd {K : Nat → KD} {c d k : Nat} {x : KD} (h : Mx K c) (hd : c ≤ d) (hx : mlK x ≤ d) : Mx (upd K k x) d := fun i hi => by
  by_cases e : i = k
  · rw [e, upd_at]; exact hx
  · rw [upd_ne _ _ _ _ e]; exact Nat.le_trans (h i hi) hd
section
variable {w0 W W' : World} {B : Nat} {K KP KQ : Nat → KD} {pb rb qb : Nat → Nat} {lb mb xb : Nat} {lv mv tv wv tv' wv' : Value} {L M : List Rn} {tl : List TE}
set_option maxRecDepth 4000 in
set_option maxHeartbeats 4000000 in
theorem PW.made256 (h : PW w0 B K pb rb qb lb lv mb mv L xb tv wv tl W) (k : Nat) (hk3 : k < 3) :
    Calls Tryz.prog 9 #[.pointer (some ⟨xb, 0, none⟩), .int .i64 k, .int .u8 1] W fun e w' => e = .returned (.bool true) ∧ ∃ b1 r1 q1, PW w0 B (upd K k (some (false, some (0, fun _ => 0)))) (upd pb k b1) (upd rb k r1) (upd qb k q1) lb lv mb mv L xb tv wv tl w' := by
  have P0 := hid h
  have hk3' : (k : Int) < 3 := by omega
  clear h
  go_enter Tryz.func9, Tryz.ntmps9
  go_wp2_with fail
  refine (of256 _).mono ?_
  rintro e w1 ⟨rfl, hb⟩
  have P1 := hid ((P0.out.below hb).below (below_alloc w1 (.cells #[.int .u8 1, .int .i64 32, .int .i64 64, .int .u8 1, .int .i64 64, .func (.func 37) #[] #[], .func (.func 38) #[] #[]] 61)))
  have H1 := hid (Sh.Blk.new w1 [.int .u8 1, .int .i64 32, .int .i64 64, .int .u8 1, .int .i64 64, .func (.func 37) #[] #[], .func (.func 38) #[] #[]] 61)
  clear hb
  go_wp2_with fail
  obtain ⟨W1, hW1⟩ : ∃ x, w1.alloc (.cells #[.int .u8 1, .int .i64 32, .int .i64 64, .int .u8 1, .int .i64 64, .func (.func 37) #[] #[], .func (.func 38) #[] #[]] 61) = x := ⟨_, rfl⟩
  obtain ⟨ha, hha⟩ : ∃ x, w1.heap.size = x := ⟨_, rfl⟩
  have H1' : Hid (Blk W1 ha [.int .u8 1, .int .i64 32, .int .i64 64, .int .u8 1, .int .i64 64, .func (.func 37) #[] #[], .func (.func 38) #[] #[]] 61) := by rw [← hW1, ← hha]; exact H1.out
  rw [hW1] at P1
  rw [hW1, hha]
  clear hW1 hha H1
  refine (rof256 _).mono ?_
  rintro e w2 ⟨rfl, hb⟩
  have P2 := hid ((P1.out.below hb).below (below_alloc w2 (.cells #[.int .u8 1, .int .i64 32, .int .i64 64, .int .u8 1, .int .i64 64] 70)))
  have H2 := hid ((H1'.out.below hb).below (below_alloc w2 (.cells #[.int .u8 1, .int .i64 32, .int .i64 64, .int .u8 1, .int .i64 64] 70)))
  have R2 := hid (Sh.Blk.new w2 [.int .u8 1, .int .i64 32, .int .i64 64, .int .u8 1, .int .i64 64] 70)
  have n5 := (H1'.out.below hb).cell 5 _ rfl
  have n5' := H2.out.cell 5 _ rfl
  clear hb P1 H1'
  go_upto_region 9 with fail
  obtain ⟨W2, hW2⟩ : ∃ x, w2.alloc (.cells #[.int .u8 1, .int .i64 32, .int .i64 64, .int .u8 1, .int .i64 64] 70) = x := ⟨_, rfl⟩
  obtain ⟨rk, hrk⟩ : ∃ x, w2.heap.size = x := ⟨_, rfl⟩
  have R2' : Hid (Blk W2 rk [.int .u8 1, .int .i64 32, .int .i64 64, .int .u8 1, .int .i64 64] 70) := by rw [← hW2, ← hrk]; exact R2.out
  rw [hW2] at P2 H2 n5'
  rw [hW2, hrk]
  clear hW2 hrk R2 n5
  go_region_held3 (fun W' => W'.cell? ⟨ha, 5, none⟩ = some (.func (.func 37) #[] #[])) (go_keep) (first | (go_at_call 37; go_must (refine (new256 _).mono ?_; rintro e w3 ⟨b1, hb1, rfl, hp3, hb3⟩; have P3 := hid ((P2.out.below (below_drewN _ 1)).below hb3); have H3 := hid ((H2.out.below (below_drewN _ 1)).below hb3); have R3 := hid ((R2'.out.below (below_drewN _ 1)).below hb3); have Q3 := hid hp3; have HB1 := hid (show W2.heap.size ≤ b1 from hb1); have cp3 := P3.out.gw.x.cell k _ (xc_p _ _ _ _ _ _ _ _ k hk3); have fp3 := P3.out.gw.x.frozen k; have h53 := H3.out.cell 5 _ rfl; have hne : ha ≠ xb := Sh.Blk.ne H3.out P3.out.gw.x (by decide); have h54 := (H3.out.other hne k (Value.iface 101 (.agg #[.pointer (some ⟨b1, 0, none⟩)]))).cell 5 _ rfl; clear hp3 hb3 hb1)))
  have F0 := hid (show B ≤ b1 ∧ ∀ i, i < 3 → K i ≠ none → pb i ≠ b1 from ⟨Nat.le_trans P2.out.gw.hB HB1.out, fun i hi hn => by have := P2.out.gw.ltP i hi hn; have := HB1.out; omega⟩)
  have G4 := hid (P3.out.gw.setP (x := (some (false, some (0, fun _ => 0)))) hk3 Q3.out F0.out.1 F0.out.2)
  have W4 := hid (P3.out.rw.setX P3.out.gw.x (Kp.setCell xb k (pvl b1 (some (false, some (0, fun _ => 0))))))
  have R4 := hid (R3.out.other (Sh.Blk.ne R3.out P3.out.gw.x (by decide)) k (pvl b1 (some (false, some (0, fun _ => 0)))))
  rw [show pvl b1 (some (false, some (0, fun _ => 0))) = Value.iface 101 (.agg #[.pointer (some ⟨b1, 0, none⟩)]) from rfl] at G4 W4 R4
  obtain ⟨w4, hw4⟩ : ∃ x, w3.setCell ⟨xb, k, none⟩ (Value.iface 101 (.agg #[.pointer (some ⟨b1, 0, none⟩)])) = x := ⟨_, rfl⟩
  rw [hw4] at G4 W4 R4
  clear P3 H3 R3 Q3 F0 cp3 fp3 h53 h54 hne HB1 P2 H2 R2' n5'
  go_upto_region 10 with fail
  rw [hw4]
  clear hw4
  have l4 : (LDR ⟨rk, 0, none⟩).run Tryz.prog w4.drew = .ok (.agg #[.int .u8 1, .int .i64 32, .int .i64 64, .int .u8 1, .int .i64 64]) w4.drew := ldR (range0 (R4.out.below (below_drewN w4 1))) rfl
  go_region_held3 (fun W' => (LDR ⟨rk, 0, none⟩).run Tryz.prog W' = .ok (.agg #[.int .u8 1, .int .i64 32, .int .i64 64, .int .u8 1, .int .i64 64]) W') (assumption) (first | (go_at_call 24; go_must (refine (wnew256 _).mono ?_; rintro e w5 ⟨r1, q1, hr1, hq1, rfl, hq5, hb5⟩; have G5 := hid ((G4.out.below (below_drewN _ 1)).below hb5); have W5 := hid ((W4.out.kx (Kx.below (below_drewN _ 1))).kx (Kx.below hb5)); have R5 := hid ((R4.out.below (below_drewN _ 1)).below hb5); have Q5 := hid hq5; have HB5 := hid (show w4.heap.size ≤ r1 ∧ w4.heap.size ≤ q1 from ⟨hr1, hq1⟩); have l5 := ldR (range0 R5.out) rfl; have cq5 := G5.out.x.cell (3 + k) _ (xc_q _ _ _ _ _ _ _ _ k hk3); have fq5 := G5.out.x.frozen (3 + k); have hne : rk ≠ xb := Sh.Blk.ne R5.out G5.out.x (by decide); have l6 := ldR (range0 (R5.out.other hne (3 + k) (Value.pointer (some ⟨r1, 0, none⟩)))) rfl; clear hq5 hb5 hr1 hq1)))
  have F5 := hid (show B ≤ r1 ∧ B ≤ q1 ∧ ∀ i, i < 3 → K i ≠ none → qb i ≠ q1 ∧ rb i ≠ r1 from ⟨Nat.le_trans G4.out.hB HB5.out.1, Nat.le_trans G4.out.hB HB5.out.2, fun i hi hn => by have := G4.out.ltQ i hi hn; have := HB5.out; omega⟩)
  have G6 := hid (G5.out.setQ (x := (some (false, some (0, fun _ => 0)))) hk3 Q5.out F5.out.1 F5.out.2.1 F5.out.2.2)
  have W6 := hid (W5.out.setX G5.out.x (Kp.setCell xb (3 + k) (qvl r1 (some (false, some (0, fun _ => 0))))))
  have cs6 : (w5.setCell ⟨xb, 3 + k, none⟩ (Value.pointer (some ⟨r1, 0, none⟩))).cell? ⟨xb, k, none⟩ = some (Value.iface 101 (.agg #[.pointer (some ⟨b1, 0, none⟩)])) := by have := G6.out.x.cell k _ (xc_p _ _ _ _ _ _ _ _ k hk3); rw [upd_at, upd_at] at this; exact this
  rw [show qvl r1 (some (false, some (0, fun _ => 0))) = Value.pointer (some ⟨r1, 0, none⟩) from rfl] at G6 W6
  clear G5 W5 R5 Q5 HB5 l4 l5 l6 cq5 fq5 hne F5 G4 W4 R4
  go_wp2
  go_ret
  exact ⟨by simp, b1, r1, q1, G6.out, W6.out⟩
set_option maxRecDepth 4000 in
set_option maxHeartbeats 4000000 in
theorem PW.made512 (h : PW w0 B K pb rb qb lb lv mb mv L xb tv wv tl W) (k : Nat) (hk3 : k < 3) :
    Calls Tryz.prog 9 #[.pointer (some ⟨xb, 0, none⟩), .int .i64 k, .int .u8 2] W fun e w' => e = .returned (.bool true) ∧ ∃ b1 r1 q1, PW w0 B (upd K k (some (true, some (0, fun _ => 0)))) (upd pb k b1) (upd rb k r1) (upd qb k q1) lb lv mb mv L xb tv wv tl w' := by
  have P0 := hid h
  have hk3' : (k : Int) < 3 := by omega
  clear h
  go_enter Tryz.func9, Tryz.ntmps9
  go_wp2_with fail
  refine (of512 _).mono ?_
  rintro e w1 ⟨rfl, hb⟩
  have P1 := hid ((P0.out.below hb).below (below_alloc w1 (.cells #[.int .u8 2, .int .i64 64, .int .i64 128, .int .u8 2, .int .i64 128, .func (.func 39) #[] #[], .func (.func 40) #[] #[]] 61)))
  have H1 := hid (Sh.Blk.new w1 [.int .u8 2, .int .i64 64, .int .i64 128, .int .u8 2, .int .i64 128, .func (.func 39) #[] #[], .func (.func 40) #[] #[]] 61)
  clear hb
  go_wp2_with fail
  obtain ⟨W1, hW1⟩ : ∃ x, w1.alloc (.cells #[.int .u8 2, .int .i64 64, .int .i64 128, .int .u8 2, .int .i64 128, .func (.func 39) #[] #[], .func (.func 40) #[] #[]] 61) = x := ⟨_, rfl⟩
  obtain ⟨ha, hha⟩ : ∃ x, w1.heap.size = x := ⟨_, rfl⟩
  have H1' : Hid (Blk W1 ha [.int .u8 2, .int .i64 64, .int .i64 128, .int .u8 2, .int .i64 128, .func (.func 39) #[] #[], .func (.func 40) #[] #[]] 61) := by rw [← hW1, ← hha]; exact H1.out
  rw [hW1] at P1
  rw [hW1, hha]
  clear hW1 hha H1
  refine (rof512 _).mono ?_
  rintro e w2 ⟨rfl, hb⟩
  have P2 := hid ((P1.out.below hb).below (below_alloc w2 (.cells #[.int .u8 2, .int .i64 64, .int .i64 128, .int .u8 2, .int .i64 128] 70)))
  have H2 := hid ((H1'.out.below hb).below (below_alloc w2 (.cells #[.int .u8 2, .int .i64 64, .int .i64 128, .int .u8 2, .int .i64 128] 70)))
  have R2 := hid (Sh.Blk.new w2 [.int .u8 2, .int .i64 64, .int .i64 128, .int .u8 2, .int .i64 128] 70)
  have n5 := (H1'.out.below hb).cell 5 _ rfl
  have n5' := H2.out.cell 5 _ rfl
  clear hb P1 H1'
  go_upto_region 9 with fail
  obtain ⟨W2, hW2⟩ : ∃ x, w2.alloc (.cells #[.int .u8 2, .int .i64 64, .int .i64 128, .int .u8 2, .int .i64 128] 70) = x := ⟨_, rfl⟩
  obtain ⟨rk, hrk⟩ : ∃ x, w2.heap.size = x := ⟨_, rfl⟩
  have R2' : Hid (Blk W2 rk [.int .u8 2, .int .i64 64, .int .i64 128, .int .u8 2, .int .i64 128] 70) := by rw [← hW2, ← hrk]; exact R2.out
  rw [hW2] at P2 H2 n5'
  rw [hW2, hrk]
  clear hW2 hrk R2 n5
  go_region_held3 (fun W' => W'.cell? ⟨ha, 5, none⟩ = some (.func (.func 39) #[] #[])) (go_keep) (first | (go_at_call 39; go_must (refine (new512 _).mono ?_; rintro e w3 ⟨b1, hb1, rfl, hp3, hb3⟩; have P3 := hid ((P2.out.below (below_drewN _ 1)).below hb3); have H3 := hid ((H2.out.below (below_drewN _ 1)).below hb3); have R3 := hid ((R2'.out.below (below_drewN _ 1)).below hb3); have Q3 := hid hp3; have HB1 := hid (show W2.heap.size ≤ b1 from hb1); have cp3 := P3.out.gw.x.cell k _ (xc_p _ _ _ _ _ _ _ _ k hk3); have fp3 := P3.out.gw.x.frozen k; have h53 := H3.out.cell 5 _ rfl; have hne : ha ≠ xb := Sh.Blk.ne H3.out P3.out.gw.x (by decide); have h54 := (H3.out.other hne k (Value.iface 106 (.agg #[.pointer (some ⟨b1, 0, none⟩)]))).cell 5 _ rfl; clear hp3 hb3 hb1)))
  have F0 := hid (show B ≤ b1 ∧ ∀ i, i < 3 → K i ≠ none → pb i ≠ b1 from ⟨Nat.le_trans P2.out.gw.hB HB1.out, fun i hi hn => by have := P2.out.gw.ltP i hi hn; have := HB1.out; omega⟩)
  have G4 := hid (P3.out.gw.setP (x := (some (true, some (0, fun _ => 0)))) hk3 Q3.out F0.out.1 F0.out.2)
  have W4 := hid (P3.out.rw.setX P3.out.gw.x (Kp.setCell xb k (pvl b1 (some (true, some (0, fun _ => 0))))))
  have R4 := hid (R3.out.other (Sh.Blk.ne R3.out P3.out.gw.x (by decide)) k (pvl b1 (some (true, some (0, fun _ => 0)))))
  rw [show pvl b1 (some (true, some (0, fun _ => 0))) = Value.iface 106 (.agg #[.pointer (some ⟨b1, 0, none⟩)]) from rfl] at G4 W4 R4
  obtain ⟨w4, hw4⟩ : ∃ x, w3.setCell ⟨xb, k, none⟩ (Value.iface 106 (.agg #[.pointer (some ⟨b1, 0, none⟩)])) = x := ⟨_, rfl⟩
  rw [hw4] at G4 W4 R4
  clear P3 H3 R3 Q3 F0 cp3 fp3 h53 h54 hne HB1 P2 H2 R2' n5'
  go_upto_region 10 with fail
  rw [hw4]
  clear hw4
  have l4 : (LDR ⟨rk, 0, none⟩).run Tryz.prog w4.drew = .ok (.agg #[.int .u8 2, .int .i64 64, .int .i64 128, .int .u8 2, .int .i64 128]) w4.drew := ldR (range0 (R4.out.below (below_drewN w4 1))) rfl
  go_region_held3 (fun W' => (LDR ⟨rk, 0, none⟩).run Tryz.prog W' = .ok (.agg #[.int .u8 2, .int .i64 64, .int .i64 128, .int .u8 2, .int .i64 128]) W') (assumption) (first | (go_at_call 24; go_must (refine (wnew512 _).mono ?_; rintro e w5 ⟨r1, q1, hr1, hq1, rfl, hq5, hb5⟩; have G5 := hid ((G4.out.below (below_drewN _ 1)).below hb5); have W5 := hid ((W4.out.kx (Kx.below (below_drewN _ 1))).kx (Kx.below hb5)); have R5 := hid ((R4.out.below (below_drewN _ 1)).below hb5); have Q5 := hid hq5; have HB5 := hid (show w4.heap.size ≤ r1 ∧ w4.heap.size ≤ q1 from ⟨hr1, hq1⟩); have l5 := ldR (range0 R5.out) rfl; have cq5 := G5.out.x.cell (3 + k) _ (xc_q _ _ _ _ _ _ _ _ k hk3); have fq5 := G5.out.x.frozen (3 + k); have hne : rk ≠ xb := Sh.Blk.ne R5.out G5.out.x (by decide); have l6 := ldR (range0 (R5.out.other hne (3 + k) (Value.pointer (some ⟨r1, 0, none⟩)))) rfl; clear hq5 hb5 hr1 hq1)))
  have F5 := hid (show B ≤ r1 ∧ B ≤ q1 ∧ ∀ i, i < 3 → K i ≠ none → qb i ≠ q1 ∧ rb i ≠ r1 from ⟨Nat.le_trans G4.out.hB HB5.out.1, Nat.le_trans G4.out.hB HB5.out.2, fun i hi hn => by have := G4.out.ltQ i hi hn; have := HB5.out; omega⟩)
  have G6 := hid (G5.out.setQ (x := (some (true, some (0, fun _ => 0)))) hk3 Q5.out F5.out.1 F5.out.2.1 F5.out.2.2)
  have W6 := hid (W5.out.setX G5.out.x (Kp.setCell xb (3 + k) (qvl r1 (some (true, some (0, fun _ => 0))))))
  have cs6 : (w5.setCell ⟨xb, 3 + k, none⟩ (Value.pointer (some ⟨r1, 0, none⟩))).cell? ⟨xb, k, none⟩ = some (Value.iface 106 (.agg #[.pointer (some ⟨b1, 0, none⟩)])) := by have := G6.out.x.cell k _ (xc_p _ _ _ _ _ _ _ _ k hk3); rw [upd_at, upd_at] at this; exact this
  rw [show qvl r1 (some (true, some (0, fun _ => 0))) = Value.pointer (some ⟨r1, 0, none⟩) from rfl] at G6 W6
  clear G5 W5 R5 Q5 HB5 l4 l5 l6 cq5 fq5 hne F5 G4 W4 R4
  go_wp2
  go_ret
  exact ⟨by simp, b1, r1, q1, G6.out, W6.out⟩
set_option maxRecDepth 4000 in
set_option maxHeartbeats 4000000 in
theorem PW.madeN (h : PW w0 B K pb rb qb lb lv mb mv L xb tv wv tl W) (k : Nat) (al : Int) (h1 : ¬ al = 1) (h2 : ¬ al = 2) :
    Calls Tryz.prog 9 #[.pointer (some ⟨xb, 0, none⟩), .int .i64 k, .int .u8 al] W fun e w' => e = .returned (.bool true) ∧ PW w0 B K pb rb qb lb lv mb mv L xb tv wv tl w' := by
  have P0 := hid h
  clear h
  go_enter Tryz.func9, Tryz.ntmps9
  go_wp2_with fail
  refine (of_zero al _ h1 h2).mono ?_
  rintro e w1 ⟨rfl, hb⟩
  have P1 := hid ((P0.out.below hb).below (below_alloc w1 (.cells #[.int .u8 0, .int .i64 0, .int .i64 0, .int .u8 0, .int .i64 0, .nilFunc, .nilFunc] 61)))
  clear hb
  go_wp2_with fail
  refine (rof_no al _ h1 h2).mono ?_
  rintro e w2 ⟨rfl, hb⟩
  have P2 := hid ((P1.out.below hb).below (below_alloc w2 (.cells #[.int .u8 0, .int .i64 0, .int .i64 0, .int .u8 0, .int .i64 0] 70)))
  clear hb P1
  go_wp2
  go_ret
  exact ⟨by simp, P2.out⟩
theorem PW.made (h : PW w0 B K pb rb qb lb lv mb mv L xb tv wv tl W) (k : Nat) (hk3 : k < 3) (al : Int) :
    Calls Tryz.prog 9 #[.pointer (some ⟨xb, 0, none⟩), .int .i64 k, .int .u8 al] W fun e w' => e = .returned (.bool true) ∧ ∃ K' pb' rb' qb', PW w0 B K' pb' rb' qb' lb lv mb mv L xb tv wv tl w' ∧ ∀ c, Mx K c → Mx K' c := by
  by_cases h1 : al = 1
  · subst h1
    refine (h.made256 k hk3).mono ?_
    rintro e w' ⟨rfl, b1, r1, q1, h'⟩
    exact ⟨rfl, _, _, _, _, h', fun c hc => hc.upd (Nat.le_refl _) (Nat.zero_le _)⟩
  by_cases h2 : al = 2
  · subst h2
    refine (h.made512 k hk3).mono ?_
    rintro e w' ⟨rfl, b1, r1, q1, h'⟩
    exact ⟨rfl, _, _, _, _, h', fun c hc => hc.upd (Nat.le_refl _) (Nat.zero_le _)⟩
  refine (h.madeN k al h1 h2).mono ?_
  rintro e w' ⟨rfl, h'⟩
  exact ⟨rfl, _, _, _, _, h', fun _ hc => hc⟩
end
end Go.Proofs.YtojldjckpjokcaaGreatDoor.Dg
namespace Go.Proofs.YtojldjckpjokcaaGreatDoor.Dg
open Go.ChangeShapes Go.WideShapes Go.ChangeAt Go.RowKit
open Go.Proofs.YtojldjckpjokcaaGreatDoor.By
open Go.Proofs.YtojldjckpjokcaaGreatDoor.Sh (Blk size_alloc)
section
variable {w0 W W' : World} {B : Nat} {K KP KQ : Nat → KD} {pb rb qb : Nat → Nat} {lb mb xb : Nat} {lv mv tv wv tv' wv' : Value} {L M : List Rn} {tl : List TE}
set_option maxRecDepth 4000 in
set_option maxHeartbeats 4000000 in
theorem PW.newLo (h : PW w0 B K pb rb qb lb lv mb mv L xb tv wv tl W) (on to al : Int) (pv : Value) (cc : Int) (hcc : cc < 0) :
    Calls Tryz.prog 10 #[.pointer (some ⟨xb, 0, none⟩), .agg #[.int .i64 on, .int .i64 cc, .int .i64 to, pv, .int .u8 al]] W fun e w' => e = .returned (.bool true) ∧ ∃ K' pb' rb' qb', PW w0 B K' pb' rb' qb' lb lv mb mv L xb tv wv tl w' ∧ ∀ c, Mx K c → Mx K' c := by
  have HX := hid (Sh.Blk.new W [.int .i64 on, .int .i64 cc, .int .i64 to, pv, .int .u8 al] 43)
  have G0 := hid (h.gw.below (below_alloc W (.cells #[.int .i64 on, .int .i64 cc, .int .i64 to, pv, .int .u8 al] 43)))
  have R0 := hid (h.rw.kx (Kx.below (below_alloc W (.cells #[.int .i64 on, .int .i64 cc, .int .i64 to, pv, .int .u8 al] 43))))
  clear h
  go_enter Tryz.func10, Tryz.ntmps10
  go_wp2_with fail
  obtain ⟨W1, hW1⟩ : ∃ x, W.alloc (.cells #[.int .i64 on, .int .i64 cc, .int .i64 to, pv, .int .u8 al] 43) = x := ⟨_, rfl⟩
  obtain ⟨ob, hob⟩ : ∃ x, W.heap.size = x := ⟨_, rfl⟩
  have HX1 : Hid (Blk W1 ob [.int .i64 on, .int .i64 cc, .int .i64 to, pv, .int .u8 al] 43) := by rw [← hW1, ← hob]; exact HX.out
  rw [hW1] at G0 R0
  rw [hW1, hob]
  clear hW1 hob HX
  have o0 := HX1.out.cell 0 _ rfl
  have o1 := HX1.out.cell 1 _ rfl
  obtain ⟨k, hk⟩ : ∃ k, pk on = k := ⟨_, rfl⟩
  have hk3 : k < 3 := by rw [← hk]; exact pk_lt on
  refine (pick3 on W1).mono ?_
  rintro e w1 ⟨rfl, rfl⟩
  rw [hk]
  clear hk
  have cp := G0.out.x.cell k _ (xc_p _ _ _ _ _ _ _ _ k hk3)
  have cq := G0.out.x.cell (3 + k) _ (xc_q _ _ _ _ _ _ _ _ k hk3)
  have cl := G0.out.x.cell 6 _ rfl
  have cm := G0.out.x.cell 7 _ rfl
  have hk3' : (k : Int) < 3 := by omega
  have o4 := HX1.out.cell 4 _ rfl
  go_wp2_with fail
  refine (PW.made ⟨G0.out, R0.out⟩ k hk3 al).mono ?_
  rintro e w2 ⟨rfl, K', pb', rb', qb', hP, hX⟩
  have P2 := hid hP
  have X2 := hid hX
  clear hP hX
  go_wp2
  go_ret
  exact ⟨by simp, K', pb', rb', qb', P2.out, X2.out⟩
set_option maxRecDepth 4000 in
set_option maxHeartbeats 4000000 in
theorem PW.newHi (h : PW w0 B K pb rb qb lb lv mb mv L xb tv wv tl W) (on to al : Int) (pv : Value) (cc : Int) (hcc : 4 < cc) :
    Calls Tryz.prog 10 #[.pointer (some ⟨xb, 0, none⟩), .agg #[.int .i64 on, .int .i64 cc, .int .i64 to, pv, .int .u8 al]] W fun e w' => e = .returned (.bool true) ∧ ∃ K' pb' rb' qb', PW w0 B K' pb' rb' qb' lb lv mb mv L xb tv wv tl w' ∧ ∀ c, Mx K c → Mx K' c := by
  have HX := hid (Sh.Blk.new W [.int .i64 on, .int .i64 cc, .int .i64 to, pv, .int .u8 al] 43)
  have G0 := hid (h.gw.below (below_alloc W (.cells #[.int .i64 on, .int .i64 cc, .int .i64 to, pv, .int .u8 al] 43)))
  have R0 := hid (h.rw.kx (Kx.below (below_alloc W (.cells #[.int .i64 on, .int .i64 cc, .int .i64 to, pv, .int .u8 al] 43))))
  clear h
  go_enter Tryz.func10, Tryz.ntmps10
  go_wp2_with fail
  obtain ⟨W1, hW1⟩ : ∃ x, W.alloc (.cells #[.int .i64 on, .int .i64 cc, .int .i64 to, pv, .int .u8 al] 43) = x := ⟨_, rfl⟩
  obtain ⟨ob, hob⟩ : ∃ x, W.heap.size = x := ⟨_, rfl⟩
  have HX1 : Hid (Blk W1 ob [.int .i64 on, .int .i64 cc, .int .i64 to, pv, .int .u8 al] 43) := by rw [← hW1, ← hob]; exact HX.out
  rw [hW1] at G0 R0
  rw [hW1, hob]
  clear hW1 hob HX
  have o0 := HX1.out.cell 0 _ rfl
  have o1 := HX1.out.cell 1 _ rfl
  obtain ⟨k, hk⟩ : ∃ k, pk on = k := ⟨_, rfl⟩
  have hk3 : k < 3 := by rw [← hk]; exact pk_lt on
  refine (pick3 on W1).mono ?_
  rintro e w1 ⟨rfl, rfl⟩
  rw [hk]
  clear hk
  have cp := G0.out.x.cell k _ (xc_p _ _ _ _ _ _ _ _ k hk3)
  have cq := G0.out.x.cell (3 + k) _ (xc_q _ _ _ _ _ _ _ _ k hk3)
  have cl := G0.out.x.cell 6 _ rfl
  have cm := G0.out.x.cell 7 _ rfl
  have hk3' : (k : Int) < 3 := by omega
  have hc0 : ¬ cc < 0 := by omega
  have o4 := HX1.out.cell 4 _ rfl
  go_wp2_with fail
  refine (PW.made ⟨G0.out, R0.out⟩ k hk3 al).mono ?_
  rintro e w2 ⟨rfl, K', pb', rb', qb', hP, hX⟩
  have P2 := hid hP
  have X2 := hid hX
  clear hP hX
  go_wp2
  go_ret
  exact ⟨by simp, K', pb', rb', qb', P2.out, X2.out⟩
set_option maxRecDepth 4000 in
set_option maxHeartbeats 4000000 in
theorem PW.newNil (h : PW w0 B K pb rb qb lb lv mb mv L xb tv wv tl W) (on to al : Int) (pv : Value) (cc : Int) (hnil : K (pk on) = none) (h0 : ¬ cc < 0) (h4 : ¬ 4 < cc) :
    Calls Tryz.prog 10 #[.pointer (some ⟨xb, 0, none⟩), .agg #[.int .i64 on, .int .i64 cc, .int .i64 to, pv, .int .u8 al]] W fun e w' => e = .returned (.bool true) ∧ ∃ K' pb' rb' qb', PW w0 B K' pb' rb' qb' lb lv mb mv L xb tv wv tl w' ∧ ∀ c, Mx K c → Mx K' c := by
  have HX := hid (Sh.Blk.new W [.int .i64 on, .int .i64 cc, .int .i64 to, pv, .int .u8 al] 43)
  have G0 := hid (h.gw.below (below_alloc W (.cells #[.int .i64 on, .int .i64 cc, .int .i64 to, pv, .int .u8 al] 43)))
  have R0 := hid (h.rw.kx (Kx.below (below_alloc W (.cells #[.int .i64 on, .int .i64 cc, .int .i64 to, pv, .int .u8 al] 43))))
  clear h
  go_enter Tryz.func10, Tryz.ntmps10
  go_wp2_with fail
  obtain ⟨W1, hW1⟩ : ∃ x, W.alloc (.cells #[.int .i64 on, .int .i64 cc, .int .i64 to, pv, .int .u8 al] 43) = x := ⟨_, rfl⟩
  obtain ⟨ob, hob⟩ : ∃ x, W.heap.size = x := ⟨_, rfl⟩
  have HX1 : Hid (Blk W1 ob [.int .i64 on, .int .i64 cc, .int .i64 to, pv, .int .u8 al] 43) := by rw [← hW1, ← hob]; exact HX.out
  rw [hW1] at G0 R0
  rw [hW1, hob]
  clear hW1 hob HX
  have o0 := HX1.out.cell 0 _ rfl
  have o1 := HX1.out.cell 1 _ rfl
  obtain ⟨k, hk⟩ : ∃ k, pk on = k := ⟨_, rfl⟩
  have hk3 : k < 3 := by rw [← hk]; exact pk_lt on
  rw [hk] at hnil
  refine (pick3 on W1).mono ?_
  rintro e w1 ⟨rfl, rfl⟩
  rw [hk]
  clear hk
  have cp : w1.cell? ⟨xb, k, none⟩ = some .nilIface := by have := G0.out.x.cell k _ (xc_p _ _ _ _ _ _ _ _ k hk3); rw [hnil] at this; exact this
  have cq := G0.out.x.cell (3 + k) _ (xc_q _ _ _ _ _ _ _ _ k hk3)
  have cl := G0.out.x.cell 6 _ rfl
  have cm := G0.out.x.cell 7 _ rfl
  have hk3' : (k : Int) < 3 := by omega
  have o4 := HX1.out.cell 4 _ rfl
  go_wp2_with fail
  refine (PW.made ⟨G0.out, R0.out⟩ k hk3 al).mono ?_
  rintro e w2 ⟨rfl, K', pb', rb', qb', hP, hX⟩
  have P2 := hid hP
  have X2 := hid hX
  clear hP hX
  go_wp2
  go_ret
  exact ⟨by simp, K', pb', rb', qb', P2.out, X2.out⟩
end
end Go.Proofs.YtojldjckpjokcaaGreatDoor.Dg
namespace Go.Proofs.YtojldjckpjokcaaGreatDoor.Dg
open Go.ChangeShapes Go.WideShapes Go.ChangeAt Go.RowKit
open Go.Proofs.YtojldjckpjokcaaGreatDoor.By
open Go.Proofs.YtojldjckpjokcaaGreatDoor.Sh (Blk size_alloc)
theorem wrK_ml (g : Nat → Int) (n : Nat) (k : SK) : ml (wrK g n k) ≤ ml k + n := by
  match k with
  | none => exact Nat.zero_le _
  | some (m, f) => exact Nat.le_refl _
theorem cnK_ml (a : Bool) (k : SK) : mlK (cnK a k) ≤ ml k := by
  match k with
  | none => exact Nat.zero_le _
  | some (m, f) => exact Nat.le_refl _
theorem wrN_le (a : Bool) (n : Nat) (k : SK) : wrN a n k ≤ n / 64 + 1 := by
  match k with
  | none => exact Nat.zero_le _
  | some (m, f) =>
    cases a
    · show (m + n) / 64 - m / 64 ≤ n / 64 + 1; omega
    · show (m + n) / 128 - m / 128 ≤ n / 64 + 1; omega
theorem suN_le (a : Bool) (k : SK) : suN a k ≤ 2 := by
  match k with
  | none => exact Nat.zero_le _
  | some (m, f) =>
    cases a
    · show Sh.last m ≤ 2; unfold Sh.last Sh.zs; omega
    · show Sg.last m ≤ 2; unfold Sg.last Sg.zs; omega
/-- Little was recorded more. -/
theorem more_ev {L : List Rn} (hp : Pos L) (hb : tot L ≤ 100000) (a : Bool) (n : Nat) (hn : n ≤ 300) : tot (evs a L n) ≤ tot L + 300 := by
  cases a
  · show tot (Sh.evs256 L n) ≤ tot L + 300; rw [Sh.evs256_tot hp n (by omega)]; omega
  · show tot (Sg.evs512 L n) ≤ tot L + 300; rw [Sg.evs512_tot hp n (by omega)]; omega
theorem more_wi {L : List Rn} (hp : Pos L) (hb : tot L ≤ 100000) (a : Bool) (k : SK) : tot (wiL a L k) ≤ tot L + 300 := by
  match k with
  | none => show tot L ≤ tot L + 300; omega
  | some (m, f) => show tot (putL L ⟨8, fmn a, 1⟩) ≤ tot L + 300; rw [Sg.putL_tot hp rfl (by omega)]; omega
section
variable {w0 W W' : World} {B : Nat} {K KP KQ : Nat → KD} {pb rb qb : Nat → Nat} {lb mb xb : Nat} {lv mv tv wv tv' wv' : Value} {L M : List Rn} {tl : List TE}
/-- Any call. -/
theorem PW.act (h : PW w0 B K pb rb qb lb lv mb mv L xb tv wv tl W) (on to al : Int) (cc : Int) (pv : Value) (pn c : Nat) (g : Nat → Int) (hg : ∀ i, 0 ≤ g i ∧ g i < 256) (hp : ∀ W', Below B w0 W' → By.RB W' pv pn g) (hpn : pn ≤ 8192) (hmx : Mx K c) (hc : c + pn ≤ 800000) (htl : tl.length ≤ 900) (hroom : tot L ≤ 100000) :
    Calls Tryz.prog 10 #[.pointer (some ⟨xb, 0, none⟩), .agg #[.int .i64 on, .int .i64 cc, .int .i64 to, pv, .int .u8 al]] W fun e w' => e = .returned (.bool true) ∧ ∃ K' pb' rb' qb' lv' mv' L' tv' wv' tl', PW w0 B K' pb' rb' qb' lb lv' mb mv' L' xb tv' wv' tl' w' ∧ Mx K' (c + pn) ∧ tot L' ≤ tot L + 300 ∧ tl'.length ≤ tl.length + 1 := by
  have hpos := h.gw.l.pos
  have hm0 : Mx K (c + pn) := hmx.mono (by omega)
  have hl0 : tot L ≤ tot L + 300 := by omega
  by_cases clo : cc < 0
  · refine (h.newLo on to al pv cc clo).mono ?_
    rintro e w' ⟨rfl, K', pb', rb', qb', h', hx⟩
    exact ⟨rfl, _, _, _, _, _, _, _, _, _, _, h', hx _ hm0, hl0, by omega⟩
  by_cases chi : 4 < cc
  · refine (h.newHi on to al pv cc chi).mono ?_
    rintro e w' ⟨rfl, K', pb', rb', qb', h', hx⟩
    exact ⟨rfl, _, _, _, _, _, _, _, _, _, _, h', hx _ hm0, hl0, by omega⟩
  cases hK : K (pk on) with
  | none =>
    refine (h.newNil on to al pv cc hK clo chi).mono ?_
    rintro e w' ⟨rfl, K', pb', rb', qb', h', hx⟩
    exact ⟨rfl, _, _, _, _, _, _, _, _, _, _, h', hx _ hm0, hl0, by omega⟩
  | some x =>
    obtain ⟨a, sk⟩ := x
    have hml : ml sk ≤ c := by have := hmx _ (pk_lt on); rw [hK] at this; exact this
    by_cases c0 : cc = 0
    · subst c0
      refine (h.write on to al pv a sk pn g hK hg hp (by omega) (by omega) hroom).mono ?_
      rintro e w' ⟨rfl, lv', mv', h'⟩
      exact ⟨rfl, _, _, _, _, _, _, _, _, _, _, h', hmx.upd (by omega) (Nat.le_trans (wrK_ml g pn sk) (by omega)), more_ev hpos hroom a _ (Nat.le_trans (wrN_le a pn sk) (by omega)), by omega⟩
    by_cases c1 : cc = 1
    · subst c1
      refine (h.sum on to al pv a sk hK (by omega) (by omega) hroom).mono ?_
      rintro e w' ⟨rfl, lv', mv', tv', wv', u, v, h'⟩
      exact ⟨rfl, _, _, _, _, _, _, _, _, _, _, h', hm0, more_ev hpos hroom a _ (Nat.le_trans (suN_le a sk) (by omega)), by simp⟩
    by_cases c2 : cc = 2
    · subst c2
      refine (h.copy on to al pv a sk hK).mono ?_
      rintro e w' ⟨rfl, b1, r1, q1, h'⟩
      exact ⟨rfl, _, _, _, _, _, _, _, _, _, _, h', hmx.upd (by omega) (Nat.le_trans (cnK_ml a sk) (by omega)), hl0, by omega⟩
    by_cases c3 : cc = 3
    · subst c3
      refine (h.wipe on to al pv a sk hK hroom).mono ?_
      rintro e w' ⟨rfl, lv', mv', h'⟩
      exact ⟨rfl, _, _, _, _, _, _, _, _, _, _, h', hmx.upd (by omega) (Nat.zero_le _), more_wi hpos hroom a sk, by omega⟩
    have c4 : cc = 4 := by omega
    subst c4
    refine (h.form on to al pv a sk hK (by omega)).mono ?_
    rintro e w' ⟨rfl, tv', wv', u, v, h'⟩
    exact ⟨rfl, _, _, _, _, _, _, _, _, _, _, h', hm0, hl0, by simp⟩
end
end Go.Proofs.YtojldjckpjokcaaGreatDoor.Dg
