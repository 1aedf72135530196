/- The acts of AesScript: the form. -/
import Derived.Test.YtehhnneomoddgaaDoorAact
import Derived.Test.YtehhnneomoddgaaDoorArw
import Derived.Test.YtehhnneomoddgaaDoorAact60
import Derived.Deep.RegionLaw
import Derived.Deep.DeepCutAuto
namespace Go.Proofs.YtehhnneomoddgaaDoor.Ae
open Go.ChangeShapes Go.WideShapes Go.ChangeAt Go.RowKit
open Go.Proofs.YtehhnneomoddgaaDoor.By Go.Proofs.YtehhnneomoddgaaDoor.Gf
open Go.Proofs.YtehhnneomoddgaaDoor.Kc (own_kept own_mono own8_type)
section
variable {tl : List TE} {w0 W W' : World} {xb lb mb : Nat} {lv mv tv wv : Value} {cv rv : Nat → Value} {D E : Nat → KD} {L M : List Rn}
set_option maxRecDepth 4000 in
set_option maxHeartbeats 8000000 in
theorem PS.actForm1 (h : PS (RX w0 tv wv (tl.map (·.a)) (tl.map (·.b)) tl) w0 xb lb mb lv mv tv wv cv rv D D L L W) (on : Int) (pv : Value) (htl : tl.length ≤ 1000) :
    Calls Tryd.prog 7 #[.pointer (some ⟨xb, 0, none⟩), .agg #[.int .i64 on, .int .i64 2, pv, .bool true]] W fun e w' => e = .returned (.bool true) ∧ ∃ tv' wv' q, PS (RX w0 tv' wv' ((tl ++ [q]).map (·.a)) ((tl ++ [q]).map (·.b)) (tl ++ [q])) w0 xb lb mb lv mv tv' wv' cv rv D D L L w' := by
  have HX := hid (Blk.new W [.int .i64 on, .int .i64 2, pv, .bool true] 39)
  have HB := hid (below_alloc W (.cells #[.int .i64 on, .int .i64 2, pv, .bool true] 39))
  have G0 := hid (h.below HB.out)
  have HTL := hid htl
  clear htl
  clear h
  go_enter Tryd.func7, Tryd.ntmps7
  go_wp2_with fail
  obtain ⟨W1, hW1⟩ : ∃ x, W.alloc (.cells #[.int .i64 on, .int .i64 2, pv, .bool true] 39) = x := ⟨_, rfl⟩
  obtain ⟨ob, hob⟩ : ∃ x, W.heap.size = x := ⟨_, rfl⟩
  have HX1 : Hid (Blk W1 ob [.int .i64 on, .int .i64 2, pv, .bool true] 39) := by rw [← hW1, ← hob]; exact HX.out
  rw [hW1] at G0 HB
  rw [hW1]
  have hob2 := hob
  rw [hob]
  clear hW1 HX
  have o0 := HX1.out.cell 0 _ rfl
  have o1 := HX1.out.cell 1 _ rfl
  have o2 := HX1.out.cell 2 _ rfl
  have o3 := HX1.out.cell 3 _ rfl
  refine (pickN on 2 (by omega) (by omega) W1).mono ?_
  rintro e w1 ⟨⟨k, hk2, rfl⟩, hw1⟩
  subst w1
  have cp := G0.out.here.cell k _ (pair_c _ _ _ _ _ _ k hk2)
  have cq := G0.out.here.cell (2 + k) _ (pair_r _ _ _ _ _ _ k hk2)
  have cl := G0.out.here.cell 4 _ rfl
  have cm := G0.out.here.cell 5 _ rfl
  have hk2' : (k : Int) < 2 := by omega
  go_wp2_with fail
  go_region_held3 (fun W => W.cell? ⟨xb, 4, none⟩ = some (.pointer (some ⟨lb, 0, none⟩)) ∧ W.cell? ⟨xb, 5, none⟩ = some (.pointer (some ⟨mb, 0, none⟩))) (go_keep) (fail)
  have G1 := hid (G0.out.below (W' := W1.drew) (below_drewN W1 1))
  have X1 := hid (show Blk W1.drew ob _ 39 from HX1.out.below (below_drewN W1 1))
  clear hob2 HB
  obtain ⟨V1, hV1⟩ : ∃ x, W1.drew = x := ⟨_, rfl⟩
  rw [hV1] at G1 X1
  rw [hV1]
  clear hV1 G0 HX1 cp cq cl cm o0 o1 o2 o3 hob
  have cp := G1.out.here.cell k _ (pair_c _ _ _ _ _ _ k hk2)
  have cq := G1.out.here.cell (2 + k) _ (pair_r _ _ _ _ _ _ k hk2)
  have cl := G1.out.here.cell 4 _ rfl
  have cm := G1.out.here.cell 5 _ rfl
  have o1 := X1.out.cell 1 _ rfl
  have o2 := X1.out.cell 2 _ rfl
  have o3 := X1.out.cell 3 _ rfl
  obtain ⟨i0, hi, hz0, hz1, hz2⟩ := info_parts infoY
  have cf := G1.out.here.cell 6 _ rfl
  have hlx := G1.out.here.lt
  have HKN := hid (kdN_le (G1.out.pc k hk2))
  go_wp2_with fail
  go_region_law (first | (refine step_append_lies _ rfl (.tmp 117) (.tmp 125) 33 rfl w0.heap.size 22 i0 (.slice none 0 0) 1 24 Tryd.underlying33 hi hz0 hz1 hz2 rfl (by decide) _ tl.length (tl.map (·.a)) rfl (rowG_kept R4.out (Kp.of_below (fun _ => False) (below_alloc w4 _)) (fun _ _ => id)) ⟨_, 0, none⟩ 1 1 [.slice au (kdN (D k)) cu] rfl rfl (cell_newG w4 _ _ _ rfl) (by intro v hv; simp at hv; subst hv; rfl) (by decide) (by have := HTL.out; simp [maxLen]; omega) (by have := HTL.out; omega) (by have := G4.out.size; simp; omega) _ rfl ?_; intro gq cgq w5 hown hgrow hat hltq; have PR := hid (G4.out.pushT (below_alloc w4 _) (by rw [List.length_map]; exact hown) (Kp.of_grown hgrow) (by rcases hat with e | e; exact .inl e.symm; exact .inr (fun g hg => by simp [Value.ownBlock] at hg; simp at e ⊢; omega))); have o6 := PR.out.1.cell 6 _ rfl; have p6 := PR.out.1.frozen 6; clear hown hgrow hat hltq) | (go_simp; go_at_call 24; refine (form_pc _ (cv k) (D k) ((G1.out.pc k hk2).ky (Ky.of_below (below_drewN V1 1)))).mono ?_; rintro e w4 ⟨u4, rfl, hu4, hb4⟩; obtain ⟨au, cu, rfl⟩ := own_sl hu4; have G4 := hid (G1.out.below (show Below V1.heap.size V1 w4 from ⟨hb4.os, hb4.tape, hb4.output, hb4.size, hb4.block⟩)); have U4 := hid hu4; have B4 := hid (show Below V1.heap.size V1 w4 from ⟨hb4.os, hb4.tape, hb4.output, hb4.size, hb4.block⟩); have R4 : Hid (w4.ownsRow w0.heap.size 22 1 tv tl.length (tl.map (·.a))) := (by have := G4.out.ex.r3; rw [List.length_map] at this; exact this); have j4 := G4.out.here.cell 6 _ rfl; have hl4 : xb < w4.heap.size := G4.out.here.lt; clear hu4 hb4))
  all_goals
    have G2 := hid PR.out.2.1
    have U2 := hid (G4.out.sf_own PR.out.2.2 U4.out)
    have HO2 := hid (fun q hq => TL.old (RW.tl G1.out.ex) q hq)
    clear PR U4 R4 j4 hl4 o6 p6 G4 cf cp hlx
    obtain ⟨V2, hV2⟩ : ∃ x, w5.setCell ⟨xb, 6, none⟩ (Value.slice (some ⟨gq, 0, none⟩) (tl.length + 1) cgq) = x := ⟨_, rfl⟩
    rw [hV2] at G2 U2
    rw [hV2]
    clear hV2
    have cf := G2.out.here.cell 7 _ rfl
    have cq' := G2.out.here.cell (2 + k) _ (pair_r _ _ _ _ _ _ k hk2)
    have hlx := G2.out.here.lt
    clear cq cl cm
    go_wp2_with fail
    go_region_law (first | (refine step_append_lies _ rfl (.tmp 133) (.tmp 141) 33 rfl w0.heap.size 22 i0 (.slice none 0 0) 1 24 Tryd.underlying33 hi hz0 hz1 hz2 rfl (by decide) _ tl.length (tl.map (·.b)) rfl (rowG_kept R4.out (Kp.of_below (fun _ => False) (below_alloc w4 _)) (fun _ _ => id)) ⟨_, 0, none⟩ 1 1 [.slice au (kdN (D k)) cu] rfl rfl (cell_newG w4 _ _ _ rfl) (by intro v hv; simp at hv; subst hv; rfl) (by decide) (by have := HTL.out; simp [maxLen]; omega) (by have := HTL.out; omega) (by have := G4.out.size; simp; omega) _ rfl ?_; intro gq cgq w5 hown hgrow hat hltq; have PR := hid (G4.out.pushW (below_alloc w4 _) (by rw [List.length_map]; exact hown) (Kp.of_grown hgrow) (by rcases hat with e | e; exact .inl e.symm; exact .inr (fun g hg => by simp [Value.ownBlock] at hg; simp at e ⊢; omega))); have o6 := PR.out.1.cell 7 _ rfl; have p6 := PR.out.1.frozen 7; clear hown hgrow hat hltq) | (go_simp; go_at_call 25; refine (form_qc _ (rv k) (D k) ((G2.out.qc k hk2).ky (Ky.of_below (below_drewN V2 1)))).mono ?_; rintro e w4 ⟨u4, rfl, hu4, hb4⟩; obtain ⟨au, cu, rfl⟩ := own_sl hu4; have G4 := hid (G2.out.below (show Below V2.heap.size V2 w4 from ⟨hb4.os, hb4.tape, hb4.output, hb4.size, hb4.block⟩)); have U4 := hid hu4; have B4 := hid (show Below V2.heap.size V2 w4 from ⟨hb4.os, hb4.tape, hb4.output, hb4.size, hb4.block⟩); have R4 : Hid (w4.ownsRow w0.heap.size 22 1 wv tl.length (tl.map (·.b))) := (by have := G4.out.ex.r4; rw [List.length_map] at this; exact this); have j4 := G4.out.here.cell 7 _ rfl; have hl4 : xb < w4.heap.size := G4.out.here.lt; clear hu4 hb4))
    all_goals
      have G5 := hid PR.out.2.1
      have U5 := hid (G4.out.sf_own PR.out.2.2 (own_below U2.out B4.out))
      have U6 := hid (G4.out.sf_own PR.out.2.2 U4.out)
      clear PR
      go_wp2_with fail
      go_ret
      exact ⟨rfl, _, _, _, G5.out.told _ V1.heap.size _ U5.out (own_mono U6.out (by have := G2.out.size; exact this)) G1.out.size HO2.out HKN.out⟩
theorem PS.actForm (h : PS (RX w0 tv wv (tl.map (·.a)) (tl.map (·.b)) tl) w0 xb lb mb lv mv tv wv cv rv D D L L W) (on : Int) (pv : Value) (mute : Bool) (htl : tl.length ≤ 1000) :
    Calls Tryd.prog 7 #[.pointer (some ⟨xb, 0, none⟩), .agg #[.int .i64 on, .int .i64 2, pv, .bool mute]] W fun e w' => e = .returned (.bool true) ∧ ∃ tv' wv' q, PS (RX w0 tv' wv' ((tl ++ [q]).map (·.a)) ((tl ++ [q]).map (·.b)) (tl ++ [q])) w0 xb lb mb lv mv tv' wv' cv rv D D L L w' := by
  cases mute
  · exact h.actForm0 on pv htl
  · exact h.actForm1 on pv htl
end
end Go.Proofs.YtehhnneomoddgaaDoor.Ae
