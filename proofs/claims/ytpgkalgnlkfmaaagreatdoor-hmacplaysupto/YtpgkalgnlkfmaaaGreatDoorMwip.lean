/- The program's macs: Wipe. -/
import Derived.Test.YtpgkalgnlkfmaaaGreatDoorMcall
namespace Go.Proofs.YtpgkalgnlkfmaaaGreatDoor.Dg
open Go.ChangeShapes Go.WideShapes Go.ChangeAt Go.RowKit
open Go.Proofs.YtpgkalgnlkfmaaaGreatDoor.By
open Go.Proofs.YtpgkalgnlkfmaaaGreatDoor.Sh (Blk size_alloc)
def b3 (b0 b1 b2 : Nat) : Nat → Nat
  | 0 => b0
  | 1 => b1
  | _ => b2
/-- A mac whose first k states are wiped. -/
structure WI (a : Bool) (K f : Nat → Int) (m b b0 b1 b2 : Nat) (S SL : Nat → Prop) (w : World) (lo : Option Nat) (L : List Rn) (k : Nat) (W : World) : Prop where
  here : Blk W b (mc4 ⟨a, K, m, f, b0, b1, b2⟩) 38
  st : ∀ j, k ≤ j → j < 3 → IsD W (b3 b0 b1 b2 j) a (st3 a K f m j)
  lg : LG SL w W lo L
  kp : Kp S w W
theorem WI.step {a : Bool} {K f : Nat → Int} {m b b0 b1 b2 : Nat} {S SL : Nat → Prop} {w : World} {lo : Option Nat} {L : List Rn} {k : Nat} {W W' : World} (h : WI a K f m b b0 b1 b2 S SL w lo L k W) (hk3 : k < 3) (n01 : b0 ≠ b1) (n02 : b0 ≠ b2) (n12 : b1 ≠ b2) (hS : ∀ j, j < 3 → S (b3 b0 b1 b2 j)) (hk : Kp (fun j => j = b3 b0 b1 b2 k) W W') : WI a K f m b b0 b1 b2 S SL w lo L (k + 1) W' := by
  obtain ⟨cs, hc⟩ := (h.st k (Nat.le_refl _) hk3).blk
  have ne : ∀ i j, i < j → j < 3 → b3 b0 b1 b2 i ≠ b3 b0 b1 b2 j := fun i j hij hj => by
    have : (i = 0 ∧ j = 1) ∨ (i = 0 ∧ j = 2) ∨ (i = 1 ∧ j = 2) := by omega
    rcases this with ⟨rfl, rfl⟩ | ⟨rfl, rfl⟩ | ⟨rfl, rfl⟩
    · exact n01
    · exact n02
    · exact n12
  refine ⟨h.here.kept hk (fun e => Blk.ne h.here hc (by cases a <;> decide) e), fun j hj hj3 => (h.st j (by omega) hj3).kept hk (fun e => ne k j (by omega) hj3 e.symm), Sg.LG.kept h.lg hk (fun j e => ⟨cs, tyS a, (show j = b3 b0 b1 b2 k from e) ▸ hc, by cases a <;> decide, by cases a <;> decide⟩), h.kp.trans hk (fun i _ e => by rw [show i = b3 b0 b1 b2 k from e]; exact hS k hk3)⟩
set_option maxRecDepth 8000 in
set_option maxHeartbeats 4000000 in
theorem wipe256 (b : Nat) (K f : Nat → Int) (m b0 b1 b2 : Nat) (lo : Option Nat) (L : List Rn) (S SL : Nat → Prop) (w : World) (hSL : ∀ j, SL j → S j) (h : IsMk w b ⟨false, K, m, f, b0, b1, b2⟩) (hSb : S b) (hS : ∀ j, j < 3 → S (b3 b0 b1 b2 j)) (hl : LG SL w w lo L) (hp : Pos L) (hroom : tot L ≤ 800000000) :
    Calls Tryz.prog 30 #[.pointer (some ⟨b, 0, none⟩), lpv lo] w fun e w' => e = .returned (.int .i64 0) ∧ Blk w' b nm4 38 ∧ LG SL w w' lo (putL L ⟨8, 312, 1⟩) ∧ Kp S w w' := by
  have BS := hid h
  have HS := hid hS
  have HL := hid hl
  clear h hl hS
  go_enter Tryz.func30, Tryz.ntmps30
  go_wp2_with fail
  refine (isNone256 b K f m b0 b1 b2 _ BS.out).mono ?_
  rintro e w1 ⟨rfl, hw1⟩
  subst w1
  go_wp2_with fail
  refine (form256 b K f m b0 b1 b2 _ BS.out).mono ?_
  rintro e w1 ⟨fv, rfl, hf, hb⟩
  obtain ⟨fa, fc, rfl⟩ := own_sl hf
  have I1 := hid (show WI false K f m b b0 b1 b2 S SL w lo L 0 w1 from ⟨BS.out.here.below hb, fun j _ hj3 => by
    match j, hj3 with
    | 0, _ => exact BS.out.s0.below hb
    | 1, _ => exact BS.out.s1.below hb
    | 2, _ => exact BS.out.s2.below hb, HL.out.below hb, Kp.of_below S hb⟩)
  clear hf hb
  have x1 : w1.cell? ⟨b, 1, none⟩ = some (.iface 110 (.agg #[.pointer (some ⟨b0, 0, none⟩)])) := I1.out.here.cell 1 _ rfl
  have x2 : w1.cell? ⟨b, 2, none⟩ = some (.iface 110 (.agg #[.pointer (some ⟨b1, 0, none⟩)])) := I1.out.here.cell 2 _ rfl
  have x3 : w1.cell? ⟨b, 3, none⟩ = some (.iface 110 (.agg #[.pointer (some ⟨b2, 0, none⟩)])) := I1.out.here.cell 3 _ rfl
  go_wp2_with fail
  go_loopw [17] (fun i wr => ∃ k : Nat, k ≤ 3 ∧ i = .int .i64 k ∧ WI false K f m b b0 b1 b2 S SL w lo L k wr) (fun i _ => 3 - (intOf i).toNat)
  case atStart => exact ⟨0, by omega, rfl, I1.out⟩
  case round =>
    clear I1 x1 x2 x3
    obtain ⟨k, hk, rfl, hwi⟩ := hrel
    match k, hk with
    | 0, hk3 =>
      have I := hid hwi
      clear hwi
      have hix := fun (w : World) => show (Instr.index 36 (.agg #[.iface 110 (.agg #[.pointer (some ⟨b0, 0, none⟩)]), .iface 110 (.agg #[.pointer (some ⟨b1, 0, none⟩)]), .iface 110 (.agg #[.pointer (some ⟨b2, 0, none⟩)])]) (.int .i64 0)).run Tryz.prog w = .ok (.iface 110 (.agg #[.pointer (some ⟨b0, 0, none⟩)])) w from by kernel_rfl
      go_wp2_with fail
      refine (dwipe false b0 _ _ none [] (fun j => j = b0) _ (I.out.st 0 (Nat.le_refl _) (by omega)) rfl trivial Sg.pos_nil' (by decide)).mono ?_
      rintro e w8 ⟨rfl, -, -, hk8⟩
      have I8 := hid (I.out.step (k := 0) (by omega) BS.out.n01 BS.out.n02 BS.out.n12 HS.out hk8)
      clear hk8 I hix
      go_wp2
      exact ⟨⟨1, by omega, rfl, I8.out⟩, by simp [intOf]⟩
    | 1, hk3 =>
      have I := hid hwi
      clear hwi
      have hix := fun (w : World) => show (Instr.index 36 (.agg #[.iface 110 (.agg #[.pointer (some ⟨b0, 0, none⟩)]), .iface 110 (.agg #[.pointer (some ⟨b1, 0, none⟩)]), .iface 110 (.agg #[.pointer (some ⟨b2, 0, none⟩)])]) (.int .i64 1)).run Tryz.prog w = .ok (.iface 110 (.agg #[.pointer (some ⟨b1, 0, none⟩)])) w from by kernel_rfl
      go_wp2_with fail
      refine (dwipe false b1 _ _ none [] (fun j => j = b1) _ (I.out.st 1 (Nat.le_refl _) (by omega)) rfl trivial Sg.pos_nil' (by decide)).mono ?_
      rintro e w8 ⟨rfl, -, -, hk8⟩
      have I8 := hid (I.out.step (k := 1) (by omega) BS.out.n01 BS.out.n02 BS.out.n12 HS.out hk8)
      clear hk8 I hix
      go_wp2
      exact ⟨⟨2, by omega, rfl, I8.out⟩, by simp [intOf]⟩
    | 2, hk3 =>
      have I := hid hwi
      clear hwi
      have hix := fun (w : World) => show (Instr.index 36 (.agg #[.iface 110 (.agg #[.pointer (some ⟨b0, 0, none⟩)]), .iface 110 (.agg #[.pointer (some ⟨b1, 0, none⟩)]), .iface 110 (.agg #[.pointer (some ⟨b2, 0, none⟩)])]) (.int .i64 2)).run Tryz.prog w = .ok (.iface 110 (.agg #[.pointer (some ⟨b2, 0, none⟩)])) w from by kernel_rfl
      go_wp2_with fail
      refine (dwipe false b2 _ _ none [] (fun j => j = b2) _ (I.out.st 2 (Nat.le_refl _) (by omega)) rfl trivial Sg.pos_nil' (by decide)).mono ?_
      rintro e w8 ⟨rfl, -, -, hk8⟩
      have I8 := hid (I.out.step (k := 2) (by omega) BS.out.n01 BS.out.n02 BS.out.n12 HS.out hk8)
      clear hk8 I hix
      go_wp2
      exact ⟨⟨3, by omega, rfl, I8.out⟩, by simp [intOf]⟩
    | 3, hk3 =>
      have I := hid hwi
      clear hwi
      have y0 := I.out.here.cell 0 _ rfl
      have y1 := I.out.here.cell 1 _ rfl
      have y2 := I.out.here.cell 2 _ rfl
      have y3 := I.out.here.cell 3 _ rfl
      have z0 := I.out.here.frozen 0
      have z1 := I.out.here.frozen 1
      have z2 := I.out.here.frozen 2
      have z3 := I.out.here.frozen 3
      go_wp2_with fail
      have HN := hid (show ∀ W5 : World, W5 = ((((wr.setCell ⟨b, 0, none⟩ (.int .i64 0)).setCell ⟨b, 1, none⟩ .nilIface).setCell ⟨b, 2, none⟩ .nilIface).setCell ⟨b, 3, none⟩ .nilIface) → Calls Tryz.prog 50 #[lpv lo, .agg #[.int .u8 8, .int .i64 312]] W5 (fun e w' => e = .returned (.tuple #[]) ∧ Blk w' b nm4 38 ∧ LG SL w w' lo (putL L ⟨8, 312, 1⟩) ∧ Kp S w w') from by
        rintro W5 rfl
        have k5 : Kp (fun j => j = b) wr ((((wr.setCell ⟨b, 0, none⟩ (.int .i64 0)).setCell ⟨b, 1, none⟩ .nilIface).setCell ⟨b, 2, none⟩ .nilIface).setCell ⟨b, 3, none⟩ .nilIface) := (((Kp.setCell b 0 _).trans (Kp.setCell b 1 _) (fun _ _ e => e)).trans (Kp.setCell b 2 _) (fun _ _ e => e)).trans (Kp.setCell b 3 _) (fun _ _ e => e)
        have h5 := (((I.out.here.set 0 (.int .i64 0)).set 1 .nilIface).set 2 .nilIface).set 3 .nilIface
        have l5 := Sg.LG.kept I.out.lg k5 (fun j e => ⟨_, 38, (show j = b from e) ▸ I.out.here, by decide, by decide⟩)
        have kp5 := I.out.kp.trans k5 (fun i _ e => by rw [show i = b from e]; exact hSb)
        obtain ⟨T, l6, hT, hTS⟩ := LG.own l5
        refine (Sg.note_lg T _ _ lo L 8 312 (by decide) (by decide) l6 (Kp.refl _ _) (big_of hp (by omega)).room).mono ?_
        rintro e w' ⟨rfl, g1', g2', g3⟩
        have g1 := Sg.LG.back g1' HL.out kp5.size hTS
        have g2 := kp5.trans g2' (fun i hi e => hSL i (hTS i hi e))
        exact ⟨rfl, g3 b _ _ h5 (by decide) (by decide), g1, g2⟩)
      clear y0 y1 y2 y3 z0 z1 z2 z3 I
      refine (HN.out _ rfl).mono ?_
      rintro e w9 ⟨rfl, g1, g2, g3⟩
      go_wp2
      go_ret
      exact ⟨rfl, g1, g2, g3⟩
set_option maxRecDepth 8000 in
set_option maxHeartbeats 4000000 in
theorem wipe512 (b : Nat) (K f : Nat → Int) (m b0 b1 b2 : Nat) (lo : Option Nat) (L : List Rn) (S SL : Nat → Prop) (w : World) (hSL : ∀ j, SL j → S j) (h : IsMk w b ⟨true, K, m, f, b0, b1, b2⟩) (hSb : S b) (hS : ∀ j, j < 3 → S (b3 b0 b1 b2 j)) (hl : LG SL w w lo L) (hp : Pos L) (hroom : tot L ≤ 800000000) :
    Calls Tryz.prog 30 #[.pointer (some ⟨b, 0, none⟩), lpv lo] w fun e w' => e = .returned (.int .i64 0) ∧ Blk w' b nm4 38 ∧ LG SL w w' lo (putL L ⟨8, 600, 1⟩) ∧ Kp S w w' := by
  have BS := hid h
  have HS := hid hS
  have HL := hid hl
  clear h hl hS
  go_enter Tryz.func30, Tryz.ntmps30
  go_wp2_with fail
  refine (isNone512 b K f m b0 b1 b2 _ BS.out).mono ?_
  rintro e w1 ⟨rfl, hw1⟩
  subst w1
  go_wp2_with fail
  refine (form512 b K f m b0 b1 b2 _ BS.out).mono ?_
  rintro e w1 ⟨fv, rfl, hf, hb⟩
  obtain ⟨fa, fc, rfl⟩ := own_sl hf
  have I1 := hid (show WI true K f m b b0 b1 b2 S SL w lo L 0 w1 from ⟨BS.out.here.below hb, fun j _ hj3 => by
    match j, hj3 with
    | 0, _ => exact BS.out.s0.below hb
    | 1, _ => exact BS.out.s1.below hb
    | 2, _ => exact BS.out.s2.below hb, HL.out.below hb, Kp.of_below S hb⟩)
  clear hf hb
  have x1 : w1.cell? ⟨b, 1, none⟩ = some (.iface 115 (.agg #[.pointer (some ⟨b0, 0, none⟩)])) := I1.out.here.cell 1 _ rfl
  have x2 : w1.cell? ⟨b, 2, none⟩ = some (.iface 115 (.agg #[.pointer (some ⟨b1, 0, none⟩)])) := I1.out.here.cell 2 _ rfl
  have x3 : w1.cell? ⟨b, 3, none⟩ = some (.iface 115 (.agg #[.pointer (some ⟨b2, 0, none⟩)])) := I1.out.here.cell 3 _ rfl
  go_wp2_with fail
  go_loopw [17] (fun i wr => ∃ k : Nat, k ≤ 3 ∧ i = .int .i64 k ∧ WI true K f m b b0 b1 b2 S SL w lo L k wr) (fun i _ => 3 - (intOf i).toNat)
  case atStart => exact ⟨0, by omega, rfl, I1.out⟩
  case round =>
    clear I1 x1 x2 x3
    obtain ⟨k, hk, rfl, hwi⟩ := hrel
    match k, hk with
    | 0, hk3 =>
      have I := hid hwi
      clear hwi
      have hix := fun (w : World) => show (Instr.index 36 (.agg #[.iface 115 (.agg #[.pointer (some ⟨b0, 0, none⟩)]), .iface 115 (.agg #[.pointer (some ⟨b1, 0, none⟩)]), .iface 115 (.agg #[.pointer (some ⟨b2, 0, none⟩)])]) (.int .i64 0)).run Tryz.prog w = .ok (.iface 115 (.agg #[.pointer (some ⟨b0, 0, none⟩)])) w from by kernel_rfl
      go_wp2_with fail
      refine (dwipe true b0 _ _ none [] (fun j => j = b0) _ (I.out.st 0 (Nat.le_refl _) (by omega)) rfl trivial Sg.pos_nil' (by decide)).mono ?_
      rintro e w8 ⟨rfl, -, -, hk8⟩
      have I8 := hid (I.out.step (k := 0) (by omega) BS.out.n01 BS.out.n02 BS.out.n12 HS.out hk8)
      clear hk8 I hix
      go_wp2
      exact ⟨⟨1, by omega, rfl, I8.out⟩, by simp [intOf]⟩
    | 1, hk3 =>
      have I := hid hwi
      clear hwi
      have hix := fun (w : World) => show (Instr.index 36 (.agg #[.iface 115 (.agg #[.pointer (some ⟨b0, 0, none⟩)]), .iface 115 (.agg #[.pointer (some ⟨b1, 0, none⟩)]), .iface 115 (.agg #[.pointer (some ⟨b2, 0, none⟩)])]) (.int .i64 1)).run Tryz.prog w = .ok (.iface 115 (.agg #[.pointer (some ⟨b1, 0, none⟩)])) w from by kernel_rfl
      go_wp2_with fail
      refine (dwipe true b1 _ _ none [] (fun j => j = b1) _ (I.out.st 1 (Nat.le_refl _) (by omega)) rfl trivial Sg.pos_nil' (by decide)).mono ?_
      rintro e w8 ⟨rfl, -, -, hk8⟩
      have I8 := hid (I.out.step (k := 1) (by omega) BS.out.n01 BS.out.n02 BS.out.n12 HS.out hk8)
      clear hk8 I hix
      go_wp2
      exact ⟨⟨2, by omega, rfl, I8.out⟩, by simp [intOf]⟩
    | 2, hk3 =>
      have I := hid hwi
      clear hwi
      have hix := fun (w : World) => show (Instr.index 36 (.agg #[.iface 115 (.agg #[.pointer (some ⟨b0, 0, none⟩)]), .iface 115 (.agg #[.pointer (some ⟨b1, 0, none⟩)]), .iface 115 (.agg #[.pointer (some ⟨b2, 0, none⟩)])]) (.int .i64 2)).run Tryz.prog w = .ok (.iface 115 (.agg #[.pointer (some ⟨b2, 0, none⟩)])) w from by kernel_rfl
      go_wp2_with fail
      refine (dwipe true b2 _ _ none [] (fun j => j = b2) _ (I.out.st 2 (Nat.le_refl _) (by omega)) rfl trivial Sg.pos_nil' (by decide)).mono ?_
      rintro e w8 ⟨rfl, -, -, hk8⟩
      have I8 := hid (I.out.step (k := 2) (by omega) BS.out.n01 BS.out.n02 BS.out.n12 HS.out hk8)
      clear hk8 I hix
      go_wp2
      exact ⟨⟨3, by omega, rfl, I8.out⟩, by simp [intOf]⟩
    | 3, hk3 =>
      have I := hid hwi
      clear hwi
      have y0 := I.out.here.cell 0 _ rfl
      have y1 := I.out.here.cell 1 _ rfl
      have y2 := I.out.here.cell 2 _ rfl
      have y3 := I.out.here.cell 3 _ rfl
      have z0 := I.out.here.frozen 0
      have z1 := I.out.here.frozen 1
      have z2 := I.out.here.frozen 2
      have z3 := I.out.here.frozen 3
      go_wp2_with fail
      have HN := hid (show ∀ W5 : World, W5 = ((((wr.setCell ⟨b, 0, none⟩ (.int .i64 0)).setCell ⟨b, 1, none⟩ .nilIface).setCell ⟨b, 2, none⟩ .nilIface).setCell ⟨b, 3, none⟩ .nilIface) → Calls Tryz.prog 50 #[lpv lo, .agg #[.int .u8 8, .int .i64 600]] W5 (fun e w' => e = .returned (.tuple #[]) ∧ Blk w' b nm4 38 ∧ LG SL w w' lo (putL L ⟨8, 600, 1⟩) ∧ Kp S w w') from by
        rintro W5 rfl
        have k5 : Kp (fun j => j = b) wr ((((wr.setCell ⟨b, 0, none⟩ (.int .i64 0)).setCell ⟨b, 1, none⟩ .nilIface).setCell ⟨b, 2, none⟩ .nilIface).setCell ⟨b, 3, none⟩ .nilIface) := (((Kp.setCell b 0 _).trans (Kp.setCell b 1 _) (fun _ _ e => e)).trans (Kp.setCell b 2 _) (fun _ _ e => e)).trans (Kp.setCell b 3 _) (fun _ _ e => e)
        have h5 := (((I.out.here.set 0 (.int .i64 0)).set 1 .nilIface).set 2 .nilIface).set 3 .nilIface
        have l5 := Sg.LG.kept I.out.lg k5 (fun j e => ⟨_, 38, (show j = b from e) ▸ I.out.here, by decide, by decide⟩)
        have kp5 := I.out.kp.trans k5 (fun i _ e => by rw [show i = b from e]; exact hSb)
        obtain ⟨T, l6, hT, hTS⟩ := LG.own l5
        refine (Sg.note_lg T _ _ lo L 8 600 (by decide) (by decide) l6 (Kp.refl _ _) (big_of hp (by omega)).room).mono ?_
        rintro e w' ⟨rfl, g1', g2', g3⟩
        have g1 := Sg.LG.back g1' HL.out kp5.size hTS
        have g2 := kp5.trans g2' (fun i hi e => hSL i (hTS i hi e))
        exact ⟨rfl, g3 b _ _ h5 (by decide) (by decide), g1, g2⟩)
      clear y0 y1 y2 y3 z0 z1 z2 z3 I
      refine (HN.out _ rfl).mono ?_
      rintro e w9 ⟨rfl, g1, g2, g3⟩
      go_wp2
      go_ret
      exact ⟨rfl, g1, g2, g3⟩
theorem wipeM (b : Nat) (x : MB) (lo : Option Nat) (L : List Rn) (S SL : Nat → Prop) (w : World) (hSL : ∀ j, SL j → S j) (h : IsMk w b x) (hSb : S b) (hS : ∀ j, j < 3 → S (b3 x.b0 x.b1 x.b2 j)) (hl : LG SL w w lo L) (hp : Pos L) (hroom : tot L ≤ 800000000) :
    Calls Tryz.prog 30 #[.pointer (some ⟨b, 0, none⟩), lpv lo] w fun e w' => e = .returned (.int .i64 0) ∧ Blk w' b nm4 38 ∧ LG SL w w' lo (putL L ⟨8, fm3n x.a, 1⟩) ∧ Kp S w w' := by
  obtain ⟨a, K, m, f, b0, b1, b2⟩ := x
  cases a
  · exact wipe256 b K f m b0 b1 b2 lo L S SL w hSL h hSb hS hl hp hroom
  · exact wipe512 b K f m b0 b1 b2 lo L S SL w hSL h hSb hS hl hp hroom
theorem GM.wipe {w0 W : World} {B : Nat} {s1 s2 : List EM} {l1 l2 : List LE} {b lb : Nat} {x : MB} {rv : Value} {L : List Rn} (h : GM w0 B (s1 ++ (b, some x) :: s2) (l1 ++ ⟨true, lb, rv, L⟩ :: l2) W) (hroom : tot L ≤ 800000000) :
    Calls Tryz.prog 30 #[.pointer (some ⟨b, 0, none⟩), .pointer (some ⟨lb, 0, none⟩)] W fun e w' => e = .returned (.int .i64 0) ∧ ∃ rv', GM w0 B (s1 ++ (b, none) :: s2) (l1 ++ ⟨true, lb, rv', putL L ⟨8, fm3n x.a, 1⟩⟩ :: l2) w' ∧ Ko W w' := by
  have hm := h.mid
  have hf3 : ∀ j, j < 3 → FM (b, some x) (b3 x.b0 x.b1 x.b2 j) := fun j hj => by
    have : j = 0 ∨ j = 1 ∨ j = 2 := by omega
    rcases this with rfl | rfl | rfl
    · exact .inr ⟨x, rfl, .inl rfl⟩
    · exact .inr ⟨x, rfl, .inr (.inl rfl)⟩
    · exact .inr ⟨x, rfl, .inr (.inr rfl)⟩
  refine (wipeM b x (some lb) L (fun j => FM (b, some x) j ∨ SE ⟨true, lb, rv, L⟩ j) (SE ⟨true, lb, rv, L⟩) W (fun _ e => .inr e) hm (.inl (.inl rfl)) (fun j hj => .inl (hf3 j hj)) h.lg h.midL.1.pos hroom).mono ?_
  rintro e w' ⟨rfl, g1, g2, g3⟩
  obtain ⟨rv', k1, k2⟩ := lg_led g2
  refine ⟨rfl, rv', h.turn (p' := (b, none)) (e' := ⟨true, lb, rv', putL L ⟨8, fm3n x.a, 1⟩⟩) g3 (fun j hj _ => hj) g1 (fun j hj => .inl ?_) k1 (fun j hj => ?_)⟩
  · rcases hj with e | ⟨y, e, _⟩
    · exact .inl e
    · cases e
  · rcases hj with e | e
    · exact .inl (.inl e)
    · by_cases hlt : j < W.heap.size
      · exact .inl (k2 j e hlt)
      · exact .inr (by omega)
end Go.Proofs.YtpgkalgnlkfmaaaGreatDoor.Dg
