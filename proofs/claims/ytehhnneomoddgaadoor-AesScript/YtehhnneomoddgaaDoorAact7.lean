/- The acts of AesScript: a new cipher; any act. -/
import Derived.Test.YtehhnneomoddgaaDoorAmake
import Derived.Test.YtehhnneomoddgaaDoorAact2
import Derived.Test.YtehhnneomoddgaaDoorAact3
import Derived.Test.YtehhnneomoddgaaDoorAact4
import Derived.Test.YtehhnneomoddgaaDoorAact5
import Derived.Test.YtehhnneomoddgaaDoorAact61
namespace Go.Proofs.YtehhnneomoddgaaDoor.Ae
open Go.ChangeShapes Go.WideShapes Go.ChangeAt Go.RowKit
open Go.Proofs.YtehhnneomoddgaaDoor.By Go.Proofs.YtehhnneomoddgaaDoor.Gf
open Go.Proofs.YtehhnneomoddgaaDoor.Kc (own_kept own_mono own8_type)
theorem len_tot {L : List Rn} (h : Pos L) : (L.length : Int) ≤ tot L := by
  induction L with
  | nil => exact Int.le_refl _
  | cons q L ih =>
    have h1 := ih (fun x hx => h x (by simp [hx]))
    have h2 := h q (by simp)
    have e : tot (q :: L) = q.c + tot L := by simp [tot]
    rw [e, List.length_cons]
    omega
theorem room_tot {L : List Rn} (h : Pos L) (ht : tot L ≤ 100000) : Room L := ⟨by omega, by have := len_tot h; omega⟩
theorem more_put {L : List Rn} (h : Pos L) (hb : tot L ≤ 100000) (k s : Int) (mute : Bool) : tot (sel mute L (putL L ⟨k, s, 1⟩)) ≤ tot L + 1 := by
  cases mute
  · show tot (putL L ⟨k, s, 1⟩) ≤ tot L + 1; rw [putL_tot h rfl (by omega)]; omega
  · show tot L ≤ tot L + 1; omega
theorem more_none (L : List Rn) (mute : Bool) : tot (sel mute L L) ≤ tot L + 1 := by
  cases mute <;> (show tot L ≤ tot L + 1; omega)
theorem more_E {L : List Rn} (h : Pos L) (hb : tot L ≤ 100000) (d : KD) (mute : Bool) : tot (sel mute L (evE L d)) ≤ tot L + 1 := by
  match d with
  | none => exact more_none L mute
  | some (k, key) => exact more_put h hb _ _ mute
theorem more_W {L : List Rn} (h : Pos L) (hb : tot L ≤ 100000) (d : KD) (mute : Bool) : tot (sel mute L (evW L d)) ≤ tot L + 1 := by
  match d with
  | none => exact more_none L mute
  | some (k, key) => exact more_put h hb _ _ mute
theorem more_N {L : List Rn} (h : Pos L) (hb : tot L ≤ 100000) (d : KD) (mute : Bool) : tot (sel mute L (evN L d)) ≤ tot L + 1 := by
  match d with
  | none => exact more_none L mute
  | some (k, key) => exact more_put h hb _ _ mute
section
variable {tl : List TE} {w0 W W' : World} {xb lb mb : Nat} {lv mv tv wv : Value} {cv rv : Nat → Value} {D E : Nat → KD} {L M : List Rn}
set_option maxRecDepth 4000 in
set_option maxHeartbeats 8000000 in
theorem PS.actNew (h : PS (RX w0 tv wv (tl.map (·.a)) (tl.map (·.b)) tl) w0 xb lb mb lv mv tv wv cv rv D D L L W) (on : Int) (pa : Option Addr) (pn pc : Nat) (mute : Bool) (f : Nat → Int) (hf : ∀ i, 0 ≤ f i ∧ f i < 256) (hp : ∀ V, Below w0.heap.size w0 V → By.RB V (.slice pa pn pc) pn f) (hpn : pn ≤ 140737488351232) (hr : Room L) :
    Calls Tryd.prog 7 #[.pointer (some ⟨xb, 0, none⟩), .agg #[.int .i64 on, .int .i64 6, .slice pa pn pc, .bool mute]] W fun e w' => e = .returned (.bool true) ∧ ∃ lv' mv' cv' rv' D', PS (RX w0 tv wv (tl.map (·.a)) (tl.map (·.b)) tl) w0 xb lb mb lv' mv' tv wv cv' rv' D' D' (sel mute L (evN L (newK pn (kf f)))) (sel mute L (evN L (newK pn (kf f)))) w' := by
  have HX := hid (Blk.new W [.int .i64 on, .int .i64 6, .slice pa pn pc, .bool mute] 39)
  have HB := hid (below_alloc W (.cells #[.int .i64 on, .int .i64 6, .slice pa pn pc, .bool mute] 39))
  have G0 := hid (h.below HB.out)
  have HP := hid hp
  have HR := hid hr
  have HF := hid hf
  clear hp hr hf
  clear h
  go_enter Tryd.func7, Tryd.ntmps7
  go_wp2_with fail
  obtain ⟨W1, hW1⟩ : ∃ x, W.alloc (.cells #[.int .i64 on, .int .i64 6, .slice pa pn pc, .bool mute] 39) = x := ⟨_, rfl⟩
  obtain ⟨ob, hob⟩ : ∃ x, W.heap.size = x := ⟨_, rfl⟩
  have HX1 : Hid (Blk W1 ob [.int .i64 on, .int .i64 6, .slice pa pn pc, .bool mute] 39) := by rw [← hW1, ← hob]; exact HX.out
  rw [hW1] at G0 HB
  rw [hW1]
  have hob2 := hob
  rw [hob]
  clear hW1 HX
  have o0 := HX1.out.cell 0 _ rfl
  have o1 := HX1.out.cell 1 _ rfl
  have o2 := HX1.out.cell 2 _ rfl
  have o3 := HX1.out.cell 3 _ rfl
  refine (pickN on 2 (by omega) (by omega) W1).mono ?_
  rintro e w1 ⟨⟨k, hk2, rfl⟩, hw1⟩
  subst w1
  have cp := G0.out.here.cell k _ (pair_c _ _ _ _ _ _ k hk2)
  have cq := G0.out.here.cell (2 + k) _ (pair_r _ _ _ _ _ _ k hk2)
  have cl := G0.out.here.cell 4 _ rfl
  have cm := G0.out.here.cell 5 _ rfl
  have hk2' : (k : Int) < 2 := by omega
  go_wp2_with fail
  go_region_held3 (fun W => W.cell? ⟨xb, 4, none⟩ = some (.pointer (some ⟨lb, 0, none⟩)) ∧ W.cell? ⟨xb, 5, none⟩ = some (.pointer (some ⟨mb, 0, none⟩))) (go_keep) (fail)
  have G1 := hid (G0.out.below (W' := W1.drew) (below_drewN W1 1))
  have X1 := hid (show Blk W1.drew ob _ 39 from HX1.out.below (below_drewN W1 1))
  clear hob2 HB
  obtain ⟨V1, hV1⟩ : ∃ x, W1.drew = x := ⟨_, rfl⟩
  rw [hV1] at G1 X1
  rw [hV1]
  clear hV1 G0 HX1 cp cq cl cm o0 o1 o2 o3 hob
  have cp := G1.out.here.cell k _ (pair_c _ _ _ _ _ _ k hk2)
  have cq := G1.out.here.cell (2 + k) _ (pair_r _ _ _ _ _ _ k hk2)
  have cl := G1.out.here.cell 4 _ rfl
  have cm := G1.out.here.cell 5 _ rfl
  have o1 := X1.out.cell 1 _ rfl
  have o2 := X1.out.cell 2 _ rfl
  have o3 := X1.out.cell 3 _ rfl
  go_upto_if 32 with fail
  go_cut [6, 7] (fun a b V => a = lpv (lo lb mute) ∧ b = lpv (lo mb mute) ∧ V = V1)
  case first =>
    cases mute
    · go_wp2_with fail
      go_meet
      case rel => exact ⟨rfl, rfl, rfl⟩
    · go_wp2_with fail
      go_meet
      case rel => exact ⟨rfl, rfl, rfl⟩
  case rest =>
  obtain ⟨rfl, rfl, hw⟩ := hcut
  have hw' := hw.symm
  clear hw
  subst hw'
  have o21 := X1.out.cell 2 _ rfl
  cases mute
  · go_wp2_with fail
    refine (G1.out.make k hk2 pa pn pc f HF.out HP.out hpn false HR.out G1.out.yg).mono ?_
    rintro e w2 ⟨rfl, lv', mv', cv', rv', D', hP⟩
    have P2 := hid hP
    clear hP
    go_wp2
    go_ret
    exact ⟨by simp, lv', mv', cv', rv', D', P2.out⟩
  · go_wp2_with fail
    refine (G1.out.make k hk2 pa pn pc f HF.out HP.out hpn true HR.out G1.out.yg).mono ?_
    rintro e w2 ⟨rfl, lv', mv', cv', rv', D', hP⟩
    have P2 := hid hP
    clear hP
    go_wp2
    go_ret
    exact ⟨by simp, lv', mv', cv', rv', D', P2.out⟩
/-- Any act. -/
theorem PS.act (h : PS (RX w0 tv wv (tl.map (·.a)) (tl.map (·.b)) tl) w0 xb lb mb lv mv tv wv cv rv D D L L W) (on cc : Int) (pa : Option Addr) (pn pc : Nat) (mute : Bool) (f : Nat → Int) (hf : ∀ i, 0 ≤ f i ∧ f i < 256) (hp : ∀ V, Below w0.heap.size w0 V → By.RB V (.slice pa pn pc) pn f) (hpn : pn ≤ 140737488351232) (htl : tl.length ≤ 1000) (hroom : tot L ≤ 100000) :
    Calls Tryd.prog 7 #[.pointer (some ⟨xb, 0, none⟩), .agg #[.int .i64 on, .int .i64 cc, .slice pa pn pc, .bool mute]] W fun e w' => e = .returned (.bool true) ∧ ∃ lv' mv' tv' wv' cv' rv' D' L' tl', PS (RX w0 tv' wv' (tl'.map (·.a)) (tl'.map (·.b)) tl') w0 xb lb mb lv' mv' tv' wv' cv' rv' D' D' L' L' w' ∧ tot L' ≤ tot L + 1 ∧ tl'.length ≤ tl.length + 1 := by
  have hpos := h.led.pos
  have hr := room_tot hpos hroom
  have hl0 : tot L ≤ tot L + 1 := by omega
  by_cases c0 : cc = 0
  · subst c0
    refine (h.actEnc on pa pn pc mute f hp hpn hr).mono ?_
    rintro e w' ⟨rfl, k, lv', mv', hk, h'⟩
    exact ⟨rfl, _, _, _, _, _, _, _, _, _, h', more_E hpos hroom _ _, by omega⟩
  by_cases c1 : cc = 1
  · subst c1
    refine (h.actDec on pa pn pc mute f hp hpn hr).mono ?_
    rintro e w' ⟨rfl, k, lv', mv', hk, h'⟩
    exact ⟨rfl, _, _, _, _, _, _, _, _, _, h', more_E hpos hroom _ _, by omega⟩
  by_cases c2 : cc = 2
  · subst c2
    refine (h.actForm on (.slice pa pn pc) mute htl).mono ?_
    rintro e w' ⟨rfl, tv', wv', q, h'⟩
    exact ⟨rfl, _, _, _, _, _, _, _, _, _, h', hl0, by simp⟩
  by_cases c3 : cc = 3
  · subst c3
    refine (h.actLen on (.slice pa pn pc) mute).mono ?_
    rintro e w' ⟨rfl, h', -⟩
    exact ⟨rfl, _, _, _, _, _, _, _, _, _, h', hl0, by omega⟩
  by_cases c4 : cc = 4
  · subst c4
    refine (h.actClone on (.slice pa pn pc) mute).mono ?_
    rintro e w' ⟨rfl, cv', rv', D', h'⟩
    exact ⟨rfl, _, _, _, _, _, _, _, _, _, h', hl0, by omega⟩
  by_cases c5 : cc = 5
  · subst c5
    refine (h.actWipe on (.slice pa pn pc) hr mute).mono ?_
    rintro e w' ⟨rfl, k, lv', mv', hk, h'⟩
    exact ⟨rfl, _, _, _, _, _, _, _, _, _, h', more_W hpos hroom _ _, by omega⟩
  by_cases c6 : cc = 6
  · subst c6
    refine (h.actNew on pa pn pc mute f hf hp hpn hr).mono ?_
    rintro e w' ⟨rfl, lv', mv', cv', rv', D', h'⟩
    exact ⟨rfl, _, _, _, _, _, _, _, _, _, h', more_N hpos hroom _ _, by omega⟩
  refine (h.actAny on cc (.slice pa pn pc) mute ⟨c0, c1, c2, c3, c4, c5, c6⟩).mono ?_
  rintro e w' ⟨rfl, h'⟩
  exact ⟨rfl, _, _, _, _, _, _, _, _, _, h', hl0, by omega⟩
end
end Go.Proofs.YtehhnneomoddgaaDoor.Ae
