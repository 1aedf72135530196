/- PBKDF2: what the program's laid, xorInto and tag answer. -/
import Derived.Test.YtkmkbofokoimkaaDoorIpb0
import Derived.Test.YtkmkbofokoimkaaDoorNnum
import Derived.Deep.RegionHeld3
namespace Go.Proofs.YtkmkbofokoimkaaDoor.Dg
open Go.ChangeShapes Go.WideShapes Go.ChangeAt Go.RowKit
open Go.Proofs.YtkmkbofokoimkaaDoor.By
open Go.Proofs.YtkmkbofokoimkaaDoor.Sh (Blk size_alloc)
theorem laid4 (i : Nat) (w : World) : Calls Tryd.prog 36 #[.int .u32 i] w fun e w' => ∃ v, e = .returned v ∧ By.Own w' w.heap.size v 4 (i4 i) ∧ Below w.heap.size w w' := by
  have E : ∀ W : World, By.Own (W.alloc (.cells #[.int .u8 ((i : Int) / 16777216 % 256), .int .u8 ((i : Int) / 65536 % 256), .int .u8 ((i : Int) / 256 % 256), .int .u8 ((i : Int) % 256)] 5)) W.heap.size (.slice (some ⟨W.heap.size, 0, none⟩) 4 4) 4 (i4 i) := fun W => by
    refine By.own_lit W _ 4 _ (i4_b i) (by decide) rfl ?_
    show [Value.int .u8 ((i : Int) / 16777216 % 256), .int .u8 ((i : Int) / 65536 % 256), .int .u8 ((i : Int) / 256 % 256), .int .u8 ((i : Int) % 256)] = bl 4 (i4 i)
    rw [show bl 4 (i4 i) = [Value.int .u8 (i4 i 0), .int .u8 (i4 i 1), .int .u8 (i4 i 2), .int .u8 (i4 i 3)] from rfl]
    have e0 : i4 i 0 = (i : Int) / 16777216 % 256 := by unfold i4; rw [show 256 ^ (3 - 0) = 16777216 from rfl]; omega
    have e1 : i4 i 1 = (i : Int) / 65536 % 256 := by unfold i4; rw [show 256 ^ (3 - 1) = 65536 from rfl]; omega
    have e2 : i4 i 2 = (i : Int) / 256 % 256 := by unfold i4; rw [show 256 ^ (3 - 2) = 256 from rfl]; omega
    have e3 : i4 i 3 = (i : Int) % 256 := by unfold i4; rw [show 256 ^ (3 - 3) = 1 from rfl]; omega
    rw [e0, e1, e2, e3]
  have H := hid E
  clear E
  go_enter Tryd.func36, Tryd.ntmps36
  go_wp2
  go_ret
  exact ⟨_, rfl, H.out w, below_alloc _ _⟩
theorem xor1 (g cap n base bu : Nat) (uv : Value) (f h : Nat → Int) (w : World) (ho : By.Own w base (.slice (some ⟨g, 0, none⟩) n cap) n f) (hu : By.Own w bu uv n h) (hne : ∀ p, uv.ownBlock = some p → p ≠ g) (h0 : 0 < n) (hn : n ≤ 64) :
    Calls Tryd.prog 37 #[.slice (some ⟨g, 0, none⟩) n cap, uv] w fun e w' => e = .returned (.tuple #[]) ∧ By.Own w' base (.slice (some ⟨g, 0, none⟩) n cap) n (fun j => bx (f j) (h j)) ∧ w.grownBy w' (some g) := by
  have HO := hid ho
  have HU := hid hu
  obtain ⟨ug, uc, rfl, -⟩ := own_cells hu h0
  have NE := hid (hne ug rfl)
  clear ho hu hne
  go_enter Tryd.func37, Tryd.ntmps37
  go_wp2
  go_loopw [8] (fun i wr => ∃ k : Nat, k ≤ n ∧ i = .int .i64 k ∧ By.Own wr base (.slice (some ⟨g, 0, none⟩) n cap) n (fun i => if i < k then bx (f i) (h i) else f i) ∧ w.grownBy wr (some g)) (fun i _ => n - (intOf i).toNat)
  case atStart => exact ⟨0, Nat.zero_le _, rfl, HO.out, World.grownBy.refl _ _⟩
  case round =>
    obtain ⟨k, hk, rfl, hown, hgr⟩ := hrel
    have HW := hid hown
    have HG := hid hgr
    by_cases hlt : k < n
    · have hcell : wr.cell? ⟨g, k, none⟩ = some (.int .u8 (f k)) := by
        rw [hown.2.cellAt k (by omega), bl_get _ _ _ hlt, if_neg (by omega)]
      have hfz := hown.2.frozenAt k
      have hux : wr.cell? ⟨ug, k, none⟩ = some (.int .u8 (h k)) := by
        have hk' := Sg.own_kept HU.out (Kp.of_grown hgr) (fun p hp e => NE.out (by cases hp; exact (Option.some.inj e).symm))
        rw [hk'.2.cellAt k (by omega), bl_get _ _ _ hlt]
      clear hown hgr
      obtain ⟨x, ex⟩ : ∃ x, f k = x := ⟨_, rfl⟩
      obtain ⟨y, ey⟩ : ∃ y, h k = y := ⟨_, rfl⟩
      have EX := hid ex
      have EY := hid ey
      rw [ex] at hcell
      rw [ey] at hux
      clear ex ey
      go_wp2
      have S := own_store HW.out k (bx x y) (bx_b _ _)
      refine ⟨⟨k + 1, by omega, by go_num, own_congr S.1 (fun i => ?_) (fun i hi => ?_), grown_trans HG.out S.2⟩, by simp [intOf]; omega⟩
      · show 0 ≤ (if i < k + 1 then bx (f i) (h i) else f i) ∧ (if i < k + 1 then bx (f i) (h i) else f i) < 256
        split
        · exact bx_b _ _
        · exact HO.out.1 i
      · show (if i = k then bx x y else if i < k then bx (f i) (h i) else f i) = if i < k + 1 then bx (f i) (h i) else f i
        by_cases h : i = k
        · subst h; rw [if_pos rfl, if_pos (by omega), EX.out, EY.out]
        · rw [if_neg h]; by_cases h2 : i < k
          · rw [if_pos h2, if_pos (by omega)]
          · rw [if_neg h2, if_neg (by omega)]
    · clear hown hgr
      go_wp2
      go_end0
      exact ⟨rfl, own_congr HW.out (fun i => bx_b _ _) (fun i hi => by rw [if_pos (by omega)]), HG.out⟩
theorem div_step (a : Bool) (m n : Nat) : m / bk a + ((m + n) / bk a - m / bk a) = (m + n) / bk a := by
  have : m / bk a ≤ (m + n) / bk a := Nat.div_le_div_right (by omega)
  omega
set_option maxHeartbeats 2000000 in
theorem tag_on (b P N : Nat) (x : MB) (pv : Nat → Value) (pn : Nat → Nat) (pf : Nat → Nat → Int) (ml : Nat → Nat) (mf : Nat → Nat → Int) (cs : List Value) (lo : Option Nat) (L : List Rn) (T : Nat → Prop) (w : World) (h : IsMk w b x) (hl : LG T w w lo L) (hk : KT w) (t0 : ¬ T 0) (t1 : ¬ T 1) (hb : 1 < b) (hp : Pos L)
    (hP : Blk w P cs 22) (hcs : ∀ k, k < N → cs[k]? = some (pv k)) (nP : ¬ T P)
    (hr : ∀ k, k < N → ∀ w', Kp (fun j => T j ∨ j = b) w w' → By.RB w' (pv k) (pn k) (pf k)) (m0 : ml 0 = 0) (m1 : ∀ k, k < N → ml (k + 1) = ml k + pn k) (f0 : mf 0 = nof) (f1 : ∀ k, k < N → mf (k + 1) = cat (ml k) (mf k) (pf k))
    (hN : N ≤ 2) (hm' : ∀ k, k ≤ N → ml k ≤ 1000004) (hroom : tq L ≤ 2100000000) :
    Calls Tryd.prog 35 #[lpv lo, .pointer (some ⟨b, 0, none⟩), .slice (some ⟨P, 0, none⟩) N N] w fun e w' => ∃ u c, e = .returned u ∧ By.Own w' w.heap.size u (sz x.a) (hm x.a x.K (ml N) (mf N)) ∧ IsMk w' b ⟨x.a, x.K, ml N, mf N, c, x.b1, x.b2⟩ ∧ LG T w w' lo (evs x.a L (ue x.a (ml N))) ∧ Kp (fun j => T j ∨ j = b) w w' := by
  obtain ⟨a, K, m', f', b0, b1, b2⟩ := x
  have HC := hid (pb_reset h hl hk t0 t1 hb hp)
  have nPb : P ≠ b := Blk.ne hP h.here (by decide)
  have HPB := hid (show ∀ w', Kp (fun j => T j ∨ j = b) w w' → Blk w' P cs 22 from fun w' hk => hP.kept hk (fun e => e.elim nP nPb))
  have HCS := hid hcs
  have HR := hid hr
  have M0 := hid m0
  have M1 := hid m1
  have F0 := hid f0
  have F1 := hid f1
  have HM := hid hm'
  have HF := hid (show ∀ n, n ≤ 20000 → tq (evs a L n) ≤ 2100000002 from fun n hn => by
    have h1 := evs_fine a hp n (by omega) (by omega)
    have h2 : n / 1048576 = 0 := by omega
    omega)
  have HD := hid (show ∀ k, k ≤ N → ml k / bk a ≤ 15640 from fun k hk => by have h1 := bk_div a (ml k); have := hm' k hk; omega)
  clear h hl hk t0 t1 hp hP hcs nP hr m0 m1 f0 f1 hm' hroom nPb
  go_enter Tryd.func35, Tryd.ntmps35
  go_wp2_with fail
  refine HC.out.mono ?_
  rintro e w1 ⟨rfl, c, h1⟩
  have P1 := hid h1
  clear h1 HC
  go_wp2_with fail
  go_loopw [15] (fun i wr => ∃ k : Nat, k ≤ N ∧ i = .int .i64 k ∧ PB w T b lo (evs a L (ml k / bk a)) ⟨a, K, ml k, mf k, c, b1, b2⟩ wr) (fun i _ => N - (intOf i).toNat)
  case atStart =>
    refine ⟨0, Nat.zero_le _, rfl, ?_⟩
    rw [M0.out, F0.out, Nat.zero_div, evs_zero]
    exact P1.out
  case round =>
    clear P1
    obtain ⟨k, hk, rfl, hpb⟩ := hrel
    have PK := hid hpb
    by_cases hlt : k < N
    · have hx := (HPB.out _ hpb.kp).cell k _ (HCS.out k hlt)
      obtain ⟨-, va, vc, ev, -⟩ := HR.out k hlt _ hpb.kp
      rw [ev] at hx
      have EV := hid ev
      clear hpb ev
      go_wp2_with fail
      refine (PK.out.write (pn k) ((ml k + pn k) / bk a - ml k / bk a) rfl (.slice va (pn k) vc) (pf k) (fun w' hk' => by rw [← EV.out]; exact HR.out k hlt w' hk') (by have h1 := M1.out k hlt; have h2 := HM.out (k + 1) hlt; show ml k + pn k ≤ _; omega) (by have h1 := M1.out k hlt; have h2 := HM.out (k + 1) hlt; have h3 := HF.out (ml k / bk a) (by have := HD.out k hk; omega); omega)).mono ?_
      rintro e w2 ⟨rfl, h2⟩
      have P2 := hid h2
      clear h2
      go_wp2_with fail
      refine ⟨⟨k + 1, hlt, by go_num, ?_⟩, by simp [intOf]; omega⟩
      rw [M1.out k hlt, F1.out k hlt, ← div_step, ← evs_add]
      exact P2.out
    · have e : k = N := by omega
      clear hpb
      have EK := hid e
      clear e
      go_wp2_with fail
      refine (PK.out.sum (by have := HM.out k hk; show ml k ≤ _; omega) (by have h3 := HF.out (ml k / bk a) (by have := HD.out k hk; omega); omega)).mono ?_
      rintro e w5 ⟨u, rfl, hu, h5⟩
      have P5 := hid h5
      have U5 := hid hu
      clear h5 hu PK
      go_wp2
      go_ret
      have ek := EK.out
      subst ek
      have g1 := P5.out.lg
      have er : sev a (evs a L (ml k / bk a)) (ml k) = evs a L (ue a (ml k)) := by
        unfold sev ue
        rw [evs_add]
      rw [er] at g1
      exact ⟨u, c, rfl, U5.out, P5.out.mc, g1, P5.out.kp⟩
end Go.Proofs.YtkmkbofokoimkaaDoor.Dg
