/- The program's 'expanded': a key's round keys. What the program's New, Clone, Wipe and Form answer. What the program's Clone, Wipe and Form answer; what a cipher that is none answers. What a cipher that is none answers; blocks held against each other; the statements' helpers 'block', 'rising' and 'runs'. -/
import Derived.Test.YtpohogpkfdebdaaGreatDoorYg
import Derived.Test.YtpohogpkfdebdaaGreatDoorYj
import Derived.Test.YtpohogpkfdebdaaGreatDoorZa
import Derived.Test.YtpohogpkfdebdaaGreatDoorZr
import Derived.ChangeKeysEq
namespace Go.Proofs.YtpohogpkfdebdaaGreatDoor.Ae
open Go.ChangeShapes Go.WideShapes Go.ChangeAt Go.RowKit
open Go.Proofs.YtpohogpkfdebdaaGreatDoor.By Go.Proofs.YtpohogpkfdebdaaGreatDoor.Gf
/-- A word turned by 8 to the left, as bytes. -/
def rotw (t : Nat → Nat) (j : Nat) : Nat := t ((j + 1) % 4)
theorem rot8 (x : Int) (h0 : 0 ≤ x) (h1 : x < 4294967296) : Wd.Rot 32 x 8 = x % 16777216 * 256 + x / 16777216 := by
  have h := Wd.turned32 x 8 h0 h1
  rw [← h]
  show bits .or .u32 (x * 256 % 4294967296) (x / 16777216) = _
  rw [show x * 256 % 4294967296 = x % 16777216 * 256 % 4294967296 from by omega]
  exact Wd.or_be32 _ _ (by omega) (by omega) (by omega) (by omega)
theorem be4 (t : Nat → Nat) : BE (fun i => Byt (cb t) 4 (0 + i)) 4 = (t 0 : Int) * 16777216 + t 1 * 65536 + t 2 * 256 + t 3 := by
  rw [Wd.BE_congr _ (cb t) 4 (fun i hi => by rw [Byt_in _ _ _ (by omega) (by omega)]; congr 1; omega)]
  show (((0 * 256 + (t 0 : Int)) * 256 + (t 1 : Int)) * 256 + (t 2 : Int)) * 256 + (t 3 : Int) = _
  omega
theorem rotw_cells (t : Nat → Nat) (ht : ∀ i, i < 4 → t i < 256) (X : Int) (hX : X = (t 1 : Int) * 16777216 + t 2 * 65536 + t 3 * 256 + t 0) : #[Value.int .u8 (X / 16777216), .int .u8 (X / 65536 % 256), .int .u8 (X / 256 % 256), .int .u8 (X % 256)] = (bl 4 (cb (rotw t))).toArray := by
  have e : bl 4 (cb (rotw t)) = [.int .u8 (t 1 : Nat), .int .u8 (t 2 : Nat), .int .u8 (t 3 : Nat), .int .u8 (t 0 : Nat)] := rfl
  have h0 := ht 0 (by decide)
  have h1 := ht 1 (by decide)
  have h2 := ht 2 (by decide)
  have h3 := ht 3 (by decide)
  rw [e, show X / 16777216 = (t 1 : Int) from by omega, show X / 65536 % 256 = (t 2 : Int) from by omega, show X / 256 % 256 = (t 3 : Int) from by omega, show X % 256 = (t 0 : Int) from by omega]
/-- The round keys as they lie in a cipher: noughts behind them. -/
def rk (k : Nat) (key : Nat → Nat) : Nat → Nat := upto (16 * (k + 7)) (wds k key (3 * k + 28))
theorem zero240 (f : Nat → Nat) : Tryz.zeroCells228 = (bl 240 (cb (upto 0 f))).toArray := by kernel_rfl
/-- One word more. -/
theorem wput (f g : Nat → Nat) (i : Nat) (x : Nat → Nat) (hi : i < 60) (ho : ∀ p, p < 4 * i → g p = f p) (hx : ∀ j, j < 4 → g (4 * i + j) = x j) : put (bl 240 (cb (upto (4 * i) f))) (4 * i) (bl 4 (cb x)) = bl 240 (cb (upto (4 * (i + 1)) g)) := by
  apply List.ext_getElem?
  intro p
  rw [put_get _ _ _ _ (by rw [bl_length, bl_length]; omega), bl_length]
  by_cases h : p < 240
  · rw [bl_get _ _ _ h, bl_get _ _ _ h]
    by_cases e : 4 * i ≤ p ∧ p < 4 * i + 4
    · rw [if_pos e, bl_get _ _ _ (by omega)]
      congr 2
      show ((x (p - 4 * i) : Nat) : Int) = ((upto (4 * (i + 1)) g p : Nat) : Int)
      unfold upto
      rw [if_pos (by omega), ← hx (p - 4 * i) (by omega), show 4 * i + (p - 4 * i) = p from by omega]
    · rw [if_neg e]
      congr 2
      show ((upto (4 * i) f p : Nat) : Int) = ((upto (4 * (i + 1)) g p : Nat) : Int)
      unfold upto
      by_cases h2 : p < 4 * i
      · rw [if_pos h2, if_pos (by omega), ho p h2]
      · rw [if_neg h2, if_neg (by omega)]
  · rw [List.getElem?_eq_none (l := bl 240 (cb (upto (4 * (i + 1)) g))) (by rw [bl_length]; omega), if_neg (by omega), List.getElem?_eq_none (by rw [bl_length]; omega)]
theorem upto_get (n : Nat) (f : Nat → Nat) (i : Nat) (h : i < n) : upto n f i = f i := by unfold upto; rw [if_pos h]
theorem pw_ix (j I : Nat) (hj : 0 < j) (hI : 0 < I) (h : I % j = 0) : I / j - 1 = (I - 1) / j := by
  obtain ⟨c, rfl⟩ : ∃ c, I = j * c := ⟨I / j, by have := Nat.div_add_mod I j; omega⟩
  have hc : 0 < c := Nat.pos_of_ne_zero (fun e => by subst e; simp at hI)
  obtain ⟨d, rfl⟩ : ∃ d, c = d + 1 := ⟨c - 1, by omega⟩
  rw [Nat.mul_div_cancel_left _ hj, show j * (d + 1) - 1 = (j - 1) + j * d from by rw [Nat.mul_add]; omega, Nat.add_mul_div_left _ _ hj, Nat.div_eq_of_lt (by omega)]
  omega
theorem pw_next (j I : Nat) (hj : 0 < j) (hI : 0 < I) : pw (I / j) = if I % j = 0 then mul (pw ((I - 1) / j)) 2 else pw ((I - 1) / j) := by
  by_cases h : I % j = 0
  · rw [if_pos h, ← pw_ix j I hj hI h]
    have h1 : 0 < I / j := Nat.div_pos (Nat.le_of_dvd hI (Nat.dvd_of_mod_eq_zero h)) hj
    obtain ⟨d, hd⟩ : ∃ d, I / j = d + 1 := ⟨I / j - 1, by omega⟩
    rw [hd]; rfl
  · rw [if_neg h]
    congr 1
    have h2 := Nat.div_add_mod I j
    have h3 := Nat.mod_lt I hj
    rw [show I - 1 = (I % j - 1) + j * (I / j) from by omega, Nat.add_mul_div_left _ _ hj, Nat.div_eq_of_lt (show I % j - 1 < j from by omega), Nat.zero_add]
set_option maxRecDepth 8000 in
set_option maxHeartbeats 8000000 in
theorem expanded1 (k : Nat) (hk : k = 4 ∨ k = 6 ∨ k = 8) (key : Nat → Nat) (hkey : ∀ i, key i < 256) (kb ko cap : Nat) (w : World) (hc : 4 * k ≤ cap) (hcell : ∀ i, i < 4 * k → w.cell? ⟨kb, ko + i, none⟩ = some (.int .u8 (key i : Nat))) :
    Calls Tryz.prog 193 #[.slice (some ⟨kb, ko, none⟩) (4 * k) cap] w fun e w' => e = .returned (.agg (bl 240 (cb (rk k key))).toArray) ∧ Below w.heap.size w w' := by
  have HC := hid hcell
  have hkb := block_lt_of_cell (hcell 0 (by omega))
  have HK := hid hkey
  have hk4 : 4 ≤ k := by omega
  have hk8 : k ≤ 8 := by omega
  have HKK := hid hk
  clear hcell hkey hk
  have hq : ((4 * k : Nat) : Int).tdiv 4 = (k : Int) := by rw [Int.tdiv_eq_ediv_of_nonneg (by omega)]; omega
  have hq2 : (4 * (k : Int)).tdiv 4 = (k : Int) := by rw [Int.tdiv_eq_ediv_of_nonneg (by omega)]; omega
  have BA := hid ((below_alloc w (.cells Tryz.zeroCells228 228)).alloc (by simp) (.cells Tryz.zeroCells228 228))
  have A0 := hid ((Blk.newAt w _ _ 228 _ rfl (zero240 key)).alloc (.cells Tryz.zeroCells228 228))
  have A1 := hid (Blk.newAt (w.alloc (.cells Tryz.zeroCells228 228)) _ _ 228 (w.heap.size + 1) (by simp) (zero240 key))
  go_enter Tryz.func193, Tryz.ntmps193
  go_wp2_with fail
  generalize ((w.alloc (.cells Tryz.zeroCells228 228)).alloc (.cells Tryz.zeroCells228 228)) = W2 at *
  go_loopw [13] (fun i wr => ∃ j : Nat, j ≤ k ∧ i = .int .i64 (j : Int) ∧ Blk wr w.heap.size (bl 240 (cb (upto 0 key))) 228 ∧ Blk wr (w.heap.size + 1) (bl 240 (cb (upto (4 * j) key))) 228 ∧ Below w.heap.size w wr) (fun i _ => k - (intOf i).toNat)
  case atStart => exact ⟨0, Nat.zero_le _, rfl, A0.out, A1.out, BA.out⟩
  case round =>
    clear A0 A1 BA hq hq2
    obtain ⟨j, hj, rfl, b0, b1, hbel⟩ := hrel
    have B0 := hid b0
    have B1 := hid b1
    have HB := hid hbel
    have HZ := hid b1.lt
    clear b0 b1 hbel
    by_cases hlt : j < k
    · have hd1 : decide ((j : Int) < (k : Int)) = true := decide_eq_true (by omega)
      have hsq := fun W o => sliceQ W (w.heap.size + 1) o
      have hcp := fun ty => copy4 wr.drew (w.heap.size + 1) (j * 4) 4 kb (ko + 4 * j) (4 * k - 4 * j) (cap - 4 * j) ty 228 _ (fun i => key (4 * j + i)) (B1.out.drewN 1) (by rw [bl_length]; omega) (by omega) (fun i hi => by
        rw [Nat.add_assoc]
        exact (HB.out.cell (p := ⟨kb, ko + (4 * j + i), none⟩) hkb).trans (HC.out (4 * j + i) (by omega)))
      have hj60 : (j : Int) < 60 := by omega
      go_wp2_with fail
      go_region
      all_goals
        go_wp2_with fail
        have hz := HZ.out
        refine ⟨⟨j + 1, by omega, by go_num, (B0.out.drewN 1).kept (Kp.setCells _ _ _) (by omega), ?_, below_cells (below_dr HB.out) _ _ _ (by omega) (below_dr HB.out).size⟩, by simp [intOf]; omega⟩
        have b2 := (B1.out.drewN 1).put (j * 4) (bl 4 (cb (fun i => key (4 * j + i))))
        rw [Nat.mul_comm j 4, wput key key j _ (by omega) (fun _ _ => rfl) (fun _ _ => rfl)] at b2
        rw [Nat.mul_comm j 4]
        exact b2
    · have ej : j = k := by omega
      subst ej
      have hd1 : decide ((j : Int) < (j : Int)) = false := decide_eq_false (by omega)
      go_wp2_with fail
      go_loopw [6, 7, 8] (fun pv i t wr => ∃ I : Nat, j ≤ I ∧ I ≤ 4 * (j + 7) ∧ i = .int .i64 (I : Int) ∧ pv = .int .u8 ((pw ((I - 1) / j) : Nat) : Int) ∧ Blk wr w.heap.size (bl 240 (cb (upto 0 key))) 228 ∧ Blk wr (w.heap.size + 1) (bl 240 (cb (upto (4 * I) (wds j key (I - j))))) 228 ∧ Below w.heap.size w wr) (fun _ i _ _ => 4 * j + 28 - (intOf i).toNat)
      case atStart =>
        refine ⟨j, Nat.le_refl _, by omega, rfl, ?_, B0.out, by rw [Nat.sub_self]; exact B1.out, HB.out⟩
        rw [show (j - 1) / j = 0 from Nat.div_eq_of_lt (by omega)]
        rfl
      case round =>
        clear B0 B1 HB HZ
        obtain ⟨I, hI1, hI2, rfl, rfl, b0, b1, hbel⟩ := hrel
        have B0 := hid b0
        have B1 := hid b1
        have HB := hid hbel
        have HZ := hid b1.lt
        clear b0 b1 hbel
        have HF := hid (wds_lt j key HK.out (I - j))
        have WN := hid (show ∀ p, wds j key (I + 1 - j) p = if p / 4 = I then nxt j I (wds j key (I - j)) (p % 4) else wds j key (I - j) p from fun p => by
          rw [show I + 1 - j = (I - j) + 1 from by omega]
          show (if p / 4 = j + (I - j) then nxt j (j + (I - j)) (wds j key (I - j)) (p % 4) else wds j key (I - j) p) = _
          rw [show j + (I - j) = I from by omega])
        have PN := hid (show pw (I / j) = if I % j = 0 then mul (pw ((I - 1) / j)) 2 else pw ((I - 1) / j) from pw_next j I (by omega) (by omega))
        have PV := hid (pw_lt ((I - 1) / j))
        have PE := hid (show I % j = 0 → I / j - 1 = (I - 1) / j from fun h => pw_ix j I (by omega) (by omega) h)
        obtain ⟨f, ef⟩ : ∃ f, wds j key (I - j) = f := ⟨_, rfl⟩
        rw [ef] at B1 HF WN
        have EF := hid ef
        clear ef
        obtain ⟨pv, epv⟩ : ∃ pv, pw ((I - 1) / j) = pv := ⟨_, rfl⟩
        rw [epv] at PN PV
        have EPV := hid epv
        rw [epv]
        clear epv
        by_cases hlt : I < 4 * (j + 7)
        · have hd2 : decide ((I : Int) < 4 * ((j : Int) + 6 + 1)) = true := decide_eq_true (by omega)
          obtain ⟨P, hP⟩ : ∃ P, I = P + 1 := ⟨I - 1, by omega⟩
          have hPi : (I : Int) - 1 = (P : Int) := by omega
          have HP := hid hP
          have hP60 : (P : Int) < 60 := by omega
          obtain ⟨Q, hQ⟩ : ∃ Q, I = Q + j := ⟨I - j, by omega⟩
          have hQi : (I : Int) - (j : Int) = (Q : Int) := by omega
          have HQ := hid hQ
          have hQ60 : (Q : Int) < 60 := by omega
          have hQw : IntKind.i64.wrap (Q : Int) = (Q : Int) := by rw [IntKind.wrap_i64]; omega
          have hI60 : (I : Int) < 60 := by omega
          have hj0 : ¬ (j : Int) = 0 := by omega
          have hR : (I : Int).tmod (j : Int) = ((I % j : Nat) : Int) := by rw [Int.tmod_eq_emod_of_nonneg (by omega)]; rfl
          have l1 := LDq_run (B1.out.range (P * 4) (bl 4 (cb (fun a => f (4 * P + a)))) (fun a v hv => by
            obtain ⟨ha, rfl⟩ := bl_get_inv _ _ _ _ hv
            rw [bl_get _ _ _ (by omega)]
            exact congrArg (fun z : Nat => some (Value.int .u8 (z : Int))) (by rw [upto_get _ _ _ (by omega), Nat.mul_comm P 4]))) (bl_length _ _)
          have N0 := hid (Blk.newAt wr _ _ 222 _ rfl zero4)
          have s1 := SVq_run (cs := bl 4 (cb (fun a => f (4 * P + a)))) (N0.out.there 0 4 (by rw [bl_length]; omega)) (bl_length _ _) (bl_one _ _)
          have QT := hid (show Blk _ wr.heap.size (bl 4 (cb (fun a => f (4 * P + a)))) 222 from by rw [← put_all (bl 4 (cb (fun _ => 0))) (bl 4 (cb (fun a => f (4 * P + a)))) (by rw [bl_length, bl_length])]; exact N0.out.put 0 (bl 4 (cb (fun a => f (4 * P + a)))))
          have hz := HZ.out
          have K1 := hid ((Kp.of_below (fun k => k = wr.heap.size) (below_alloc wr (.cells (bl 4 (cb (fun _ => 0))).toArray 222))).trans (Kp.setCells wr.heap.size 0 (bl 4 (cb (fun a => f (4 * P + a))))) (fun _ _ e => e))
          rw [← zero4] at K1
          have QA := hid (B0.out.kept K1.out (by omega))
          have QG := hid (B1.out.kept K1.out (by omega))
          have QB := hid (HB.out.trans (K1.out.below HB.out.size (fun k hk e => by omega)))
          have hsq := fun W g o => sliceQ W g o
          generalize ((wr.alloc (Obj.cells #[Value.int IntKind.u8 0, Value.int IntKind.u8 0, Value.int IntKind.u8 0, Value.int IntKind.u8 0] 222)).setCells wr.heap.size 0 (bl 4 (cb fun a => f (4 * P + a)))) = W3 at *
          clear K1 N0
          have hPb : P < 60 := by omega
          have hQb : Q < 60 := by omega
          have hQ4 : 4 * Q + 4 ≤ 4 * I := by omega
          clear hP hQ
          by_cases hA : I % j = 0
          · have NX := hid (show ∀ a, nxt j I f a = f (4 * Q + a) ^^^ (box (f (4 * P + (a + 1) % 4)) ^^^ (if a = 0 then pv else 0)) from fun a => by
              unfold nxt
              rw [if_pos hA, show I - j = Q from by have := HQ.out; omega, show I - 1 = P from by have := HP.out; omega, PE.out hA, EPV.out])
            have HA := hid hA
            rw [hA] at hR
            clear hA
            have hR0 : (I : Int).tmod (j : Int) = 0 := hR
            clear hR
            have RT := hid (rb_blk QT.out (fun i => ⟨Int.natCast_nonneg _, Int.ofNat_lt.2 (HF.out _)⟩) (by simp [maxLen]))
            have TE := hid (be4 (fun a => f (4 * P + a)))
            have t0 := HF.out (4 * P + 0)
            have t1 := HF.out (4 * P + 1)
            have t2 := HF.out (4 * P + 2)
            have t3 := HF.out (4 * P + 3)
            obtain ⟨X, eX⟩ : ∃ X : Int, X = (f (4 * P + 0) : Int) * 16777216 + f (4 * P + 1) * 65536 + f (4 * P + 2) * 256 + f (4 * P + 3) := ⟨_, rfl⟩
            have hX0 : 0 ≤ X := by omega
            have hX1 : X < 4294967296 := by omega
            have RE := hid (rot8 X hX0 hX1)
            obtain ⟨Y, eY⟩ : ∃ Y : Int, Y = X % 16777216 * 256 + X / 16777216 := ⟨_, rfl⟩
            have hY0 : 0 ≤ Y := by omega
            have hY1 : Y < 4294967296 := by omega
            have hYt : Y = (f (4 * P + 1) : Int) * 16777216 + f (4 * P + 2) * 65536 + f (4 * P + 3) * 256 + f (4 * P + 0) := by omega
            have YC := hid (rotw_cells (fun a => f (4 * P + a)) (fun a _ => HF.out _) Y hYt)
            have TK : Hid (∀ d, Calls Tryz.prog 244 #[.slice (some ⟨wr.heap.size, 0, none⟩) 4 4, .int .i64 0] (W3.drewN d) fun e w' => e = .returned (.int .u32 X) ∧ w' = W3.drewN d) := fun d => by
              have h := Wd.take36 (.slice (some ⟨wr.heap.size, 0, none⟩) 4 4) 4 (cb fun a => f (4 * P + a)) 0 (W3.drewN d) (RT.out.drewN d) (by omega) (by omega) (by omega)
              rw [TE.out] at h
              rw [eX]
              exact h
            have TU : Hid (∀ W, Calls Tryz.prog 243 #[.int .u32 X, .int .i64 8] W fun e w' => e = .returned (.int .u32 Y) ∧ ∃ k, w' = W.drewN k) := fun W => by
              have h := Wd.turn9 X 8 W hX0 hX1
              rw [RE.out, ← eY] at h
              exact h
            have LY : Hid (∀ W : World, Calls Tryz.prog 242 #[.int .u32 Y] W fun e w' => e = .returned (.slice (some ⟨W.heap.size, 0, none⟩) 4 4) ∧ w' = W.alloc (.cells (bl 4 (cb (rotw fun a => f (4 * P + a)))).toArray 5)) := fun W => by
              rw [← YC.out]
              exact Wd.lay19_go Y W hY0 hY1
            clear eX eY hYt YC RE TE RT
            have hcp : ∀ d ty, (Builtin.copy_ #[23, 23] ty #[.slice (some ⟨wr.heap.size, 0, none⟩) 4 4, .slice (some ⟨W3.heap.size, 0, none⟩) 4 4]).run Tryz.prog ((W3.drewN d).alloc (.cells (bl 4 (cb (rotw fun a => f (4 * P + a)))).toArray 5)) = .ok (.int .i64 4) (((W3.drewN d).alloc (.cells (bl 4 (cb (rotw fun a => f (4 * P + a)))).toArray 5)).setCells wr.heap.size 0 (bl 4 (cb (rotw fun a => f (4 * P + a))))) := fun d ty =>
              copy4 _ wr.heap.size 0 4 W3.heap.size 0 4 4 ty 222 _ (rotw fun a => f (4 * P + a)) ((QT.out.drewN d).alloc _) (by rw [bl_length]; omega) (by omega) (fun i hi => by rw [Nat.zero_add]; exact (Blk.newAt (W3.drewN d) _ _ 5 W3.heap.size rfl rfl).cell i _ (bl_get 4 _ i hi))
            have hcp1 : ∀ d ty, (Builtin.copy_ #[23, 23] ty #[.slice (some ⟨wr.heap.size, 0, none⟩) 4 4, .slice (some ⟨W3.heap.size, 0, none⟩) 4 4]).run Tryz.prog ((W3.drew.drewN d).alloc (.cells (bl 4 (cb (rotw fun a => f (4 * P + a)))).toArray 5)) = .ok (.int .i64 4) (((W3.drew.drewN d).alloc (.cells (bl 4 (cb (rotw fun a => f (4 * P + a)))).toArray 5)).setCells wr.heap.size 0 (bl 4 (cb (rotw fun a => f (4 * P + a))))) := fun d ty =>
              copy4 _ wr.heap.size 0 4 W3.heap.size 0 4 4 ty 222 _ (rotw fun a => f (4 * P + a)) ((QT.out.drewN d).alloc _) (by rw [bl_length]; omega) (by omega) (fun i hi => by rw [Nat.zero_add]; exact (Blk.newAt (W3.drew.drewN d) _ _ 5 W3.heap.size rfl rfl).cell i _ (bl_get 4 _ i hi))
            have U4 : Hid (∀ d, Kp (fun x => x = wr.heap.size) W3 (((W3.drewN d).alloc (.cells (bl 4 (cb (rotw fun a => f (4 * P + a)))).toArray 5)).setCells wr.heap.size 0 (bl 4 (cb (rotw fun a => f (4 * P + a))))) ∧ Blk (((W3.drewN d).alloc (.cells (bl 4 (cb (rotw fun a => f (4 * P + a)))).toArray 5)).setCells wr.heap.size 0 (bl 4 (cb (rotw fun a => f (4 * P + a))))) wr.heap.size (bl 4 (cb (rotw fun a => f (4 * P + a)))) 222) := fun d => by
              refine ⟨((Kp.of_below _ (below_drewN W3 d)).trans (Kp.of_below _ (below_alloc _ _)) (fun _ _ e => e)).trans (Kp.setCells _ _ _) (fun _ _ e => e), ?_⟩
              have b := ((QT.out.drewN d).alloc (.cells (bl 4 (cb (rotw fun a => f (4 * P + a)))).toArray 5)).put 0 (bl 4 (cb (rotw fun a => f (4 * P + a))))
              rwa [put_all _ _ (by rw [bl_length, bl_length])] at b
            go_wp2_with fail
            go_region_law (first | (go_simp; go_at_call 244; refine (TK.out 1).mono ?_; rintro e w' ⟨rfl, rfl⟩) | (go_simp; go_at_call 243; refine (TU.out _).mono ?_; rintro e w' ⟨rfl, d, rfl⟩) | (go_simp; go_at_call 242; refine (LY.out _).mono ?_; rintro e w' ⟨rfl, rfl⟩))
            all_goals
              obtain ⟨k4, q4⟩ := U4.out (1 + d)
              generalize (((W3.drewN (1 + d)).alloc (.cells (bl 4 (cb (rotw fun a => f (4 * P + a)))).toArray 5)).setCells wr.heap.size 0 (bl 4 (cb (rotw fun a => f (4 * P + a))))) = W4 at *
              have QA := hid (QA.out.kept k4 (by omega))
              have QG := hid (QG.out.kept k4 (by omega))
              have QB := hid (QB.out.trans (k4.below QB.out.size (fun k hk e => by omega)))
              have Q4 := hid q4
              clear k4 q4 hcp hcp1 U4 TK TU LY QT
              go_wp2_with fail
              refine (putBox wr.heap.size 4 222 (rotw fun a => f (4 * P + a)) (fun a _ => HF.out _) (by omega) _ Q4.out).mono ?_
              rintro e W5 ⟨rfl, q5, k5⟩
              have QA := hid (QA.out.kept k5 (by omega))
              have QG := hid (QG.out.kept k5 (by omega))
              have QB := hid (QB.out.trans (k5.below QB.out.size (fun k hk e => by omega)))
              have Q5 := hid q5
              have x5 := q5.cell 0 _ (bl_get 4 _ 0 (by decide))
              have f5 := q5.frozen 0
              have hbx := box_lt (rotw (fun a => f (4 * P + a)) 0)
              change W5.cell? ⟨wr.heap.size, 0, none⟩ = some (.int .u8 ((box (rotw (fun a => f (4 * P + a)) 0) : Nat) : Int)) at x5
              obtain ⟨z, ez⟩ : ∃ z, box (rotw (fun a => f (4 * P + a)) 0) = z := ⟨_, rfl⟩
              rw [ez] at x5 hbx
              have EZ := hid ez
              have hpv := PV.out
              have HX := hid (xor8 z pv hbx hpv)
              clear q5 k5 ez
              go_wp2_with (go_at_call 245; refine (mul_walk pv 2 _ hpv (by decide)).mono ?_; rintro e w' ⟨rfl, hw'⟩; subst w')
              rw [HX.out]
              have k6 := Kp.setCell (w := W5) wr.heap.size 0 (.int .u8 ((z ^^^ pv : Nat) : Int))
              have QA := hid (QA.out.kept k6 (by omega))
              have QG := hid (QG.out.kept k6 (by omega))
              have QB := hid (QB.out.trans (k6.below QB.out.size (fun k hk e => by omega)))
              have QT := hid (show Blk (W5.setCell ⟨wr.heap.size, 0, none⟩ (.int .u8 ((z ^^^ pv : Nat) : Int))) wr.heap.size (bl 4 (cb (fun a => box (f (4 * P + (a + 1) % 4)) ^^^ (if a = 0 then pv else 0)))) 222 from by
                have b := Q5.out.set 0 (.int .u8 ((z ^^^ pv : Nat) : Int))
                rw [bl_set] at b
                rw [bl_congr 4 (cb (fun a => box (f (4 * P + (a + 1) % 4)) ^^^ (if a = 0 then pv else 0))) (fun i => if i = 0 then ((z ^^^ pv : Nat) : Int) else cb (fun i => box (rotw (fun a => f (4 * P + a)) i)) i) (fun i _ => by
                  by_cases e : i = 0
                  · subst e
                    show (((box (f (4 * P + (0 + 1) % 4)) ^^^ (if (0 : Nat) = 0 then pv else 0) : Nat)) : Int) = if (0 : Nat) = 0 then ((z ^^^ pv : Nat) : Int) else _
                    rw [if_pos rfl, if_pos rfl, ← EZ.out]; rfl
                  · show (((box (f (4 * P + (i + 1) % 4)) ^^^ (if i = 0 then pv else 0) : Nat)) : Int) = if i = 0 then ((z ^^^ pv : Nat) : Int) else _
                    rw [if_neg e, if_neg e, Nat.xor_zero]; rfl)]
                exact b)
              clear Q5 x5 f5
              generalize W5.setCell ⟨wr.heap.size, 0, none⟩ (.int .u8 ((z ^^^ pv : Nat) : Int)) = W6' at *
              have BTT : Hid (∀ a, a < 4 → (box (f (4 * P + (a + 1) % 4)) ^^^ (if a = 0 then pv else 0)) < 256) := fun a _ => xor_lt _ _ (box_lt _) (by split; exact PV.out; decide)
              have XC := hid (xor4 (w.heap.size + 1) (Q * 4) 4 wr.heap.size 0 4 (fun a => f (4 * Q + a)) (fun a => box (f (4 * P + (a + 1) % 4)) ^^^ (if a = 0 then pv else 0)) W6'.drew (fun a _ => HF.out _) BTT.out
                (fun a ha => by
                  have h1 := QG.out.cell (Q * 4 + a) _ (bl_get 240 _ _ (by omega))
                  rw [show cb (upto (4 * I) f) (Q * 4 + a) = ((f (4 * Q + a) : Nat) : Int) from congrArg Nat.cast (by rw [upto_get _ _ _ (by omega), Nat.mul_comm Q 4])] at h1
                  exact h1)
                (fun a ha => by rw [Nat.zero_add]; exact QT.out.cell a _ (bl_get 4 _ a ha)))
              have hcp : Hid (∀ W6, Blk W6 W6'.heap.size (bl 4 (cb (xr (fun a => f (4 * Q + a)) (fun a => box (f (4 * P + (a + 1) % 4)) ^^^ (if a = 0 then pv else 0))))) 5 → Below W6'.heap.size W6'.drew W6 → ∀ ty, (Builtin.copy_ #[23, 23] ty #[.slice (some ⟨w.heap.size + 1, I * 4, none⟩) 4 4, .slice (some ⟨W6'.heap.size, 0, none⟩) 4 4]).run Tryz.prog W6 = .ok (.int .i64 4) (W6.setCells (w.heap.size + 1) (I * 4) (bl 4 (cb (xr (fun a => f (4 * Q + a)) (fun a => box (f (4 * P + (a + 1) % 4)) ^^^ (if a = 0 then pv else 0))))))) := fun W6 n6 hb6 ty =>
                copy4 W6 (w.heap.size + 1) (I * 4) 4 W6'.heap.size 0 4 4 ty 228 _ (xr (fun a => f (4 * Q + a)) (fun a => box (f (4 * P + (a + 1) % 4)) ^^^ (if a = 0 then pv else 0))) ((QG.out.drewN 1).below hb6) (by rw [bl_length]; omega) (by omega) (fun i hi => by rw [Nat.zero_add]; exact n6.cell i _ (bl_get 4 _ i hi))
              go_wp2_with fail
              go_region_law (go_simp; go_at_call 246; refine XC.out.mono ?_; rintro e W6 ⟨rfl, n6, hb6⟩; have hcq := hcp.out W6 n6 hb6; have HB6 := hid hb6; clear n6 hb6)
              all_goals
                go_wp2_with fail
                have hz := HZ.out
                refine ⟨⟨I + 1, by omega, by omega, by go_num, ?_, ((QA.out.drewN 1).below HB6.out).kept (Kp.setCells _ _ _) (by omega), ?_, below_cells ((below_dr QB.out).trans (HB6.out.mono QB.out.size)) _ _ _ (by omega) ((below_dr QB.out).trans (HB6.out.mono QB.out.size)).size⟩, by simp [intOf]; omega⟩
                · rw [show I + 1 - 1 = I from rfl, PN.out]
                  rw [HA.out, if_pos rfl]
                · have b6 := ((QG.out.drewN 1).below HB6.out).put (I * 4) (bl 4 (cb (xr (fun a => f (4 * Q + a)) (fun a => box (f (4 * P + (a + 1) % 4)) ^^^ (if a = 0 then pv else 0)))))
                  rw [Nat.mul_comm I 4, wput f (wds j key (I + 1 - j)) I _ (by omega) (fun p hp => by rw [WN.out, if_neg (by omega)]) (fun a ha => by rw [WN.out, if_pos (by omega), show (4 * I + a) % 4 = a from by omega]; exact NX.out a)] at b6
                  rw [Nat.mul_comm I 4]
                  exact b6
          · have hnx := hid hA
            by_cases hB : j = 8 ∧ I % 8 = 4
            · have NX := hid (show ∀ a, nxt j I f a = f (4 * Q + a) ^^^ box (f (4 * P + a)) from fun a => by
                unfold nxt
                rw [if_neg hnx.out, if_pos hB, show I - j = Q from by have := HQ.out; omega, show I - 1 = P from by have := HP.out; omega])
              obtain ⟨R, eR⟩ : ∃ R, I % j = R := ⟨_, rfl⟩
              have hR4 : (R : Int) = 4 := by rw [← eR, hB.1, hB.2]; rfl
              rw [eR] at hR hA
              have ER := hid eR
              have hRi : ¬ (R : Int) = 0 := by omega
              have hd3 : decide ((R : Int) = 0) = false := decide_eq_false hRi
              have hd4 : ((R : Int) == 0) = false := by rw [beq_eq_false_iff_ne]; exact hRi
              have hj8 : (j : Int) = 8 := by omega
              have hd5 : ((j : Int) == 8) = true := by rw [beq_iff_eq]; exact hj8
              have hd6 : ((R : Int) == 4) = true := by rw [beq_iff_eq]; exact hR4
              have hd7 : decide ((j : Int) = 8) = true := decide_eq_true hj8
              have hd8 : decide ((R : Int) = 4) = true := decide_eq_true hR4
              clear eR hB hj8 hR4
              go_wp2_with fail
              refine (putBox wr.heap.size 4 222 (fun a => f (4 * P + a)) (fun a _ => HF.out _) (by omega) _ QT.out).mono ?_
              rintro e W4 ⟨rfl, q4, k4⟩
              have QT := hid q4
              have QA := hid (QA.out.kept k4 (by omega))
              have QG := hid (QG.out.kept k4 (by omega))
              have QB := hid (QB.out.trans (k4.below QB.out.size (fun k hk e => by omega)))
              clear q4 k4
              have XC := hid (xor4 (w.heap.size + 1) (Q * 4) 4 wr.heap.size 0 4 (fun a => f (4 * Q + a)) (fun a => box (f (4 * P + a))) W4.drew (fun a _ => HF.out _) (fun a _ => box_lt _)
                (fun a ha => by
                  have h1 := QG.out.cell (Q * 4 + a) _ (bl_get 240 _ _ (by omega))
                  rw [show cb (upto (4 * I) f) (Q * 4 + a) = ((f (4 * Q + a) : Nat) : Int) from congrArg Nat.cast (by rw [upto_get _ _ _ (by omega), Nat.mul_comm Q 4])] at h1
                  exact h1)
                (fun a ha => by rw [Nat.zero_add]; exact QT.out.cell a _ (bl_get 4 _ a ha)))
              have hcp : Hid (∀ W6, Blk W6 W4.heap.size (bl 4 (cb (xr (fun a => f (4 * Q + a)) (fun a => box (f (4 * P + a)))))) 5 → Below W4.heap.size W4.drew W6 → ∀ ty, (Builtin.copy_ #[23, 23] ty #[.slice (some ⟨w.heap.size + 1, I * 4, none⟩) 4 4, .slice (some ⟨W4.heap.size, 0, none⟩) 4 4]).run Tryz.prog W6 = .ok (.int .i64 4) (W6.setCells (w.heap.size + 1) (I * 4) (bl 4 (cb (xr (fun a => f (4 * Q + a)) (fun a => box (f (4 * P + a)))))))) := fun W6 n6 hb6 ty =>
                copy4 W6 (w.heap.size + 1) (I * 4) 4 W4.heap.size 0 4 4 ty 228 _ (xr (fun a => f (4 * Q + a)) (fun a => box (f (4 * P + a)))) ((QG.out.drewN 1).below hb6) (by rw [bl_length]; omega) (by omega) (fun i hi => by rw [Nat.zero_add]; exact n6.cell i _ (bl_get 4 _ i hi))
              go_wp2_with fail
              go_region_law (go_simp; go_at_call 246; refine XC.out.mono ?_; rintro e W6 ⟨rfl, n6, hb6⟩; have hcq := hcp.out W6 n6 hb6; have HB6 := hid hb6; clear n6 hb6)
              all_goals
                go_wp2_with fail
                have hz := HZ.out
                refine ⟨⟨I + 1, by omega, by omega, by go_num, ?_, ((QA.out.drewN 1).below HB6.out).kept (Kp.setCells _ _ _) (by omega), ?_, below_cells ((below_dr QB.out).trans (HB6.out.mono QB.out.size)) _ _ _ (by omega) ((below_dr QB.out).trans (HB6.out.mono QB.out.size)).size⟩, by simp [intOf]; omega⟩
                · rw [show I + 1 - 1 = I from rfl, PN.out]
                  rw [ER.out, if_neg hA]
                · have b6 := ((QG.out.drewN 1).below HB6.out).put (I * 4) (bl 4 (cb (xr (fun a => f (4 * Q + a)) (fun a => box (f (4 * P + a))))))
                  rw [Nat.mul_comm I 4, wput f (wds j key (I + 1 - j)) I _ (by omega) (fun p hp => by rw [WN.out, if_neg (by omega)]) (fun a ha => by rw [WN.out, if_pos (by omega), show (4 * I + a) % 4 = a from by omega]; exact NX.out a)] at b6
                  rw [Nat.mul_comm I 4]
                  exact b6
            · have NX := hid (show ∀ a, nxt j I f a = f (4 * Q + a) ^^^ f (4 * P + a) from fun a => by
                unfold nxt
                rw [if_neg hnx.out, if_neg hB, show I - j = Q from by have := HQ.out; omega, show I - 1 = P from by have := HP.out; omega])
              obtain ⟨R, eR⟩ : ∃ R, I % j = R := ⟨_, rfl⟩
              have hB4 : ¬ (j = 8 ∧ R = 4) := fun h => hB ⟨h.1, by rw [← h.1, eR]; exact h.2⟩
              rw [eR] at hR hA
              have ER := hid eR
              have HB4 := hid hB4
              clear eR hB hB4
              have hRi : ¬ (R : Int) = 0 := by omega
              have hd3 : decide ((R : Int) = 0) = false := decide_eq_false hRi
              have hd4 : ((R : Int) == 0) = false := by rw [beq_eq_false_iff_ne]; exact hRi
              by_cases h8 : j = 8
              · have h4 : ¬ (R : Int) = 4 := fun e => HB4.out ⟨h8, by omega⟩
                have hj8 : (j : Int) = 8 := by omega
                have hd5 : ((j : Int) == 8) = true := by rw [beq_iff_eq]; exact hj8
                have hd6 : ((R : Int) == 4) = false := by rw [beq_eq_false_iff_ne]; exact h4
                have hd7 : decide ((j : Int) = 8) = true := decide_eq_true hj8
                have hd8 : decide ((R : Int) = 4) = false := decide_eq_false h4
                clear h8 hj8
                have XC := hid (xor4 (w.heap.size + 1) (Q * 4) 4 wr.heap.size 0 4 (fun a => f (4 * Q + a)) (fun a => f (4 * P + a)) W3.drew (fun a _ => HF.out _) (fun a _ => HF.out _)
                  (fun a ha => by
                    have h1 := QG.out.cell (Q * 4 + a) _ (bl_get 240 _ _ (by omega))
                    rw [show cb (upto (4 * I) f) (Q * 4 + a) = ((f (4 * Q + a) : Nat) : Int) from congrArg Nat.cast (by rw [upto_get _ _ _ (by omega), Nat.mul_comm Q 4])] at h1
                    exact h1)
                  (fun a ha => by rw [Nat.zero_add]; exact QT.out.cell a _ (bl_get 4 _ a ha)))
                have hcp : Hid (∀ W6, Blk W6 W3.heap.size (bl 4 (cb (xr (fun a => f (4 * Q + a)) (fun a => f (4 * P + a))))) 5 → Below W3.heap.size W3.drew W6 → ∀ ty, (Builtin.copy_ #[23, 23] ty #[.slice (some ⟨w.heap.size + 1, I * 4, none⟩) 4 4, .slice (some ⟨W3.heap.size, 0, none⟩) 4 4]).run Tryz.prog W6 = .ok (.int .i64 4) (W6.setCells (w.heap.size + 1) (I * 4) (bl 4 (cb (xr (fun a => f (4 * Q + a)) (fun a => f (4 * P + a))))))) := fun W6 n6 hb6 ty =>
                  copy4 W6 (w.heap.size + 1) (I * 4) 4 W3.heap.size 0 4 4 ty 228 _ (xr (fun a => f (4 * Q + a)) (fun a => f (4 * P + a))) ((QG.out.drewN 1).below hb6) (by rw [bl_length]; omega) (by omega) (fun i hi => by rw [Nat.zero_add]; exact n6.cell i _ (bl_get 4 _ i hi))
                go_wp2_with fail
                go_region_law (go_simp; go_at_call 246; refine XC.out.mono ?_; rintro e W6 ⟨rfl, n6, hb6⟩; have hcq := hcp.out W6 n6 hb6; have HB6 := hid hb6; clear n6 hb6)
                all_goals
                  go_wp2_with fail
                  have hz := HZ.out
                  refine ⟨⟨I + 1, by omega, by omega, by go_num, ?_, ((QA.out.drewN 1).below HB6.out).kept (Kp.setCells _ _ _) (by omega), ?_, below_cells ((below_dr QB.out).trans (HB6.out.mono QB.out.size)) _ _ _ (by omega) ((below_dr QB.out).trans (HB6.out.mono QB.out.size)).size⟩, by simp [intOf]; omega⟩
                  · rw [show I + 1 - 1 = I from rfl, PN.out]
                    rw [ER.out, if_neg hA]
                  · have b6 := ((QG.out.drewN 1).below HB6.out).put (I * 4) (bl 4 (cb (xr (fun a => f (4 * Q + a)) (fun a => f (4 * P + a)))))
                    rw [Nat.mul_comm I 4, wput f (wds j key (I + 1 - j)) I _ (by omega) (fun p hp => by rw [WN.out, if_neg (by omega)]) (fun a ha => by rw [WN.out, if_pos (by omega), show (4 * I + a) % 4 = a from by omega]; exact NX.out a)] at b6
                    rw [Nat.mul_comm I 4]
                    exact b6
              · have hj8 : ¬ (j : Int) = 8 := by omega
                have hd5 : ((j : Int) == 8) = false := by rw [beq_eq_false_iff_ne]; exact hj8
                have hd7 : decide ((j : Int) = 8) = false := decide_eq_false hj8
                clear h8
                have XC := hid (xor4 (w.heap.size + 1) (Q * 4) 4 wr.heap.size 0 4 (fun a => f (4 * Q + a)) (fun a => f (4 * P + a)) W3.drew (fun a _ => HF.out _) (fun a _ => HF.out _)
                  (fun a ha => by
                    have h1 := QG.out.cell (Q * 4 + a) _ (bl_get 240 _ _ (by omega))
                    rw [show cb (upto (4 * I) f) (Q * 4 + a) = ((f (4 * Q + a) : Nat) : Int) from congrArg Nat.cast (by rw [upto_get _ _ _ (by omega), Nat.mul_comm Q 4])] at h1
                    exact h1)
                  (fun a ha => by rw [Nat.zero_add]; exact QT.out.cell a _ (bl_get 4 _ a ha)))
                have hcp : Hid (∀ W6, Blk W6 W3.heap.size (bl 4 (cb (xr (fun a => f (4 * Q + a)) (fun a => f (4 * P + a))))) 5 → Below W3.heap.size W3.drew W6 → ∀ ty, (Builtin.copy_ #[23, 23] ty #[.slice (some ⟨w.heap.size + 1, I * 4, none⟩) 4 4, .slice (some ⟨W3.heap.size, 0, none⟩) 4 4]).run Tryz.prog W6 = .ok (.int .i64 4) (W6.setCells (w.heap.size + 1) (I * 4) (bl 4 (cb (xr (fun a => f (4 * Q + a)) (fun a => f (4 * P + a))))))) := fun W6 n6 hb6 ty =>
                  copy4 W6 (w.heap.size + 1) (I * 4) 4 W3.heap.size 0 4 4 ty 228 _ (xr (fun a => f (4 * Q + a)) (fun a => f (4 * P + a))) ((QG.out.drewN 1).below hb6) (by rw [bl_length]; omega) (by omega) (fun i hi => by rw [Nat.zero_add]; exact n6.cell i _ (bl_get 4 _ i hi))
                go_wp2_with fail
                go_region_law (go_simp; go_at_call 246; refine XC.out.mono ?_; rintro e W6 ⟨rfl, n6, hb6⟩; have hcq := hcp.out W6 n6 hb6; have HB6 := hid hb6; clear n6 hb6)
                all_goals
                  go_wp2_with fail
                  have hz := HZ.out
                  refine ⟨⟨I + 1, by omega, by omega, by go_num, ?_, ((QA.out.drewN 1).below HB6.out).kept (Kp.setCells _ _ _) (by omega), ?_, below_cells ((below_dr QB.out).trans (HB6.out.mono QB.out.size)) _ _ _ (by omega) ((below_dr QB.out).trans (HB6.out.mono QB.out.size)).size⟩, by simp [intOf]; omega⟩
                  · rw [show I + 1 - 1 = I from rfl, PN.out]
                    rw [ER.out, if_neg hA]
                  · have b6 := ((QG.out.drewN 1).below HB6.out).put (I * 4) (bl 4 (cb (xr (fun a => f (4 * Q + a)) (fun a => f (4 * P + a)))))
                    rw [Nat.mul_comm I 4, wput f (wds j key (I + 1 - j)) I _ (by omega) (fun p hp => by rw [WN.out, if_neg (by omega)]) (fun a ha => by rw [WN.out, if_pos (by omega), show (4 * I + a) % 4 = a from by omega]; exact NX.out a)] at b6
                    rw [Nat.mul_comm I 4]
                    exact b6
        · have eI : I = 4 * (j + 7) := by omega
          have EI := hid eI
          have hd2 : decide ((I : Int) < 4 * ((j : Int) + 6 + 1)) = false := decide_eq_false (by omega)
          have hd9 : ¬ (I : Int) < 4 * ((j : Int) + 6 + 1) := by omega
          clear eI
          have RKE := hid (show bl 240 (cb (upto (4 * I) f)) = bl 240 (cb (rk j key)) from by
            rw [← EF.out, EI.out, show 4 * (j + 7) - j = 3 * j + 28 from by omega, show 4 * (4 * (j + 7)) = 16 * (j + 7) from by omega]; rfl)
          rw [RKE.out] at B1
          have l1 := LDw_run (range0 B1.out) (bl_length _ _)
          have s1 := SVw_run (cs := bl 240 (cb (rk j key))) (B0.out.there 0 240 (by rw [bl_length]; omega)) (bl_length _ _) (bl_one _ _)
          have b4 := B0.out.put 0 (bl 240 (cb (rk j key)))
          rw [put_all _ _ (by rw [bl_length, bl_length])] at b4
          have l2 := hid (LDw_run (range0 b4) (bl_length _ _))
          clear b4
          go_wp2_with fail
          have hz := HZ.out
          refine bodyPost_ret ?_ rfl ⟨rfl, below_cells HB.out _ _ _ (by omega) HB.out.size⟩
          exact results_cell1 Tryz.results193 rfl l2.out
end Go.Proofs.YtpohogpkfdebdaaGreatDoor.Ae
namespace Go.Proofs.YtpohogpkfdebdaaGreatDoor.Ae
open Go.ChangeShapes Go.WideShapes Go.ChangeAt Go.RowKit
open Go.Proofs.YtpohogpkfdebdaaGreatDoor.By Go.Proofs.YtpohogpkfdebdaaGreatDoor.Gf
theorem rk_lt (k : Nat) (key : Nat → Nat) (h : ∀ i, key i < 256) (i : Nat) : rk k key i < 256 := by
  unfold rk upto
  split
  · exact wds_lt _ _ h _ _
  · decide
theorem foldl_put (vs : List Value) (cs : List Value) (o n : Nat) : List.foldl (fun (a : Array Value) (x : Value × Nat) => a.setIfInBounds (o + x.2) x.1) cs.toArray (vs.zipIdx n) = (put cs (o + n) vs).toArray := by
  induction vs generalizing cs n with
  | nil => rfl
  | cons v r ih =>
    simp only [List.zipIdx_cons, List.foldl_cons]
    rw [List.setIfInBounds_toArray, ih]
    rfl
theorem put_cons (v : Value) (l vs : List Value) (o : Nat) : put (v :: l) (o + 1) vs = v :: put l o vs := by
  induction vs generalizing l o with
  | nil => rfl
  | cons u r ih => exact ih (l.set o u) (o + 1)
theorem zero_ci : Tryz.zeroCells231 = (cic 0 (fun _ => 0)).toArray := by kernel_rfl
theorem new_cells (k : Nat) (ws : Nat → Nat) : List.foldl (fun (a : Array Value) (x : Value × Nat) => a.setIfInBounds (1 + x.2) x.1) (Tryz.zeroCells231.setIfInBounds 0 (Value.int IntKind.i64 (k : Int))) (bl 240 (cb ws)).zipIdx = (cic k ws).toArray := by
  rw [zero_ci, List.setIfInBounds_toArray, foldl_put]
  show (put (cic k (fun _ => 0)) (0 + 1) (bl 240 (cb ws))).toArray = _
  unfold cic
  rw [put_cons, put_all _ _ (by rw [bl_length, bl_length])]
set_option maxRecDepth 8000 in
set_option maxHeartbeats 4000000 in
theorem new_ok16 (S : Nat → Prop) (w0 w : World) (lo : Option Nat) (L : List Rn) (key : Nat → Nat) (hkey : ∀ i, key i < 256) (kb ko cap : Nat) (hc : 4 * 4 ≤ cap) (h : LG S w0 w lo L) (h0 : Kp S w0 w) (hr : Room L)
    (hcell : ∀ W, Kp S w0 W → Kt w W → ∀ i, i < 4 * 4 → W.cell? ⟨kb, ko + i, none⟩ = some (.int .u8 (key i : Nat))) :
    Calls Tryz.prog 149 #[lpv lo, .slice (some ⟨kb, ko, none⟩) 16 cap] w fun e w' => ∃ g, e = .returned (.tuple #[.pointer (some ⟨g, 0, none⟩), .int .i64 0]) ∧ Ci w' g 4 (rk 4 key) ∧ w.heap.size ≤ g ∧ LG S w0 w' lo (putL L ⟨4, 16, 1⟩) ∧ Kp S w0 w' ∧ Kt w w' := by
  have HC := hid hcell
  have HL := hid h
  have H0 := hid h0
  have HR := hid hr
  have HK := hid hkey
  clear hcell h h0 hr hkey
  go_enter Tryz.func149, Tryz.ntmps149
  go_wp2_with fail
  refine (note_lg S w0 _ lo L 4 16 (by omega) (by omega) HL.out H0.out HR.out).mono ?_
  rintro e W3 ⟨rfl, l3, k3, t3⟩
  have L3 := hid l3
  have K3 := hid k3
  have T3 := hid t3
  have EX := hid (expanded1 4 (.inl rfl) key HK.out kb ko cap W3 hc (HC.out W3 k3 t3))
  clear l3 k3 t3
  go_wp2_with fail
  refine EX.out.mono ?_
  rintro e W4 ⟨rfl, hb4⟩
  have HB := hid hb4
  have hlen := bl_length 240 (cb (rk 4 key))
  clear hb4
  go_wp2_with fail
  go_ret2
  have nc := new_cells 4 (rk 4 key)
  have k4 := below_next HB.out (below_alloc W4 (.cells (cic 4 (rk 4 key)).toArray 231))
  refine ⟨W4.heap.size, rfl, ⟨Blk.newAt _ _ _ _ _ rfl nc, .inl rfl, rk_lt 4 key HK.out⟩, Nat.le_trans T3.out.1 HB.out.size, ?_, ?_, ?_⟩
  · erw [nc]
    exact L3.out.below k4
  · erw [nc]
    exact K3.out.trans (Kp.of_below _ k4) (fun _ _ e => e)
  · erw [nc]
    exact T3.out.trans (Kt.of_below k4)
set_option maxRecDepth 8000 in
set_option maxHeartbeats 4000000 in
theorem new_ok24 (S : Nat → Prop) (w0 w : World) (lo : Option Nat) (L : List Rn) (key : Nat → Nat) (hkey : ∀ i, key i < 256) (kb ko cap : Nat) (hc : 4 * 6 ≤ cap) (h : LG S w0 w lo L) (h0 : Kp S w0 w) (hr : Room L)
    (hcell : ∀ W, Kp S w0 W → Kt w W → ∀ i, i < 4 * 6 → W.cell? ⟨kb, ko + i, none⟩ = some (.int .u8 (key i : Nat))) :
    Calls Tryz.prog 149 #[lpv lo, .slice (some ⟨kb, ko, none⟩) 24 cap] w fun e w' => ∃ g, e = .returned (.tuple #[.pointer (some ⟨g, 0, none⟩), .int .i64 0]) ∧ Ci w' g 6 (rk 6 key) ∧ w.heap.size ≤ g ∧ LG S w0 w' lo (putL L ⟨4, 24, 1⟩) ∧ Kp S w0 w' ∧ Kt w w' := by
  have HC := hid hcell
  have HL := hid h
  have H0 := hid h0
  have HR := hid hr
  have HK := hid hkey
  clear hcell h h0 hr hkey
  go_enter Tryz.func149, Tryz.ntmps149
  go_wp2_with fail
  refine (note_lg S w0 _ lo L 4 24 (by omega) (by omega) HL.out H0.out HR.out).mono ?_
  rintro e W3 ⟨rfl, l3, k3, t3⟩
  have L3 := hid l3
  have K3 := hid k3
  have T3 := hid t3
  have EX := hid (expanded1 6 (.inr (.inl rfl)) key HK.out kb ko cap W3 hc (HC.out W3 k3 t3))
  clear l3 k3 t3
  go_wp2_with fail
  refine EX.out.mono ?_
  rintro e W4 ⟨rfl, hb4⟩
  have HB := hid hb4
  have hlen := bl_length 240 (cb (rk 6 key))
  clear hb4
  go_wp2_with fail
  go_ret2
  have nc := new_cells 6 (rk 6 key)
  have k4 := below_next HB.out (below_alloc W4 (.cells (cic 6 (rk 6 key)).toArray 231))
  refine ⟨W4.heap.size, rfl, ⟨Blk.newAt _ _ _ _ _ rfl nc, .inr (.inl rfl), rk_lt 6 key HK.out⟩, Nat.le_trans T3.out.1 HB.out.size, ?_, ?_, ?_⟩
  · erw [nc]
    exact L3.out.below k4
  · erw [nc]
    exact K3.out.trans (Kp.of_below _ k4) (fun _ _ e => e)
  · erw [nc]
    exact T3.out.trans (Kt.of_below k4)
set_option maxRecDepth 8000 in
set_option maxHeartbeats 4000000 in
theorem new_ok32 (S : Nat → Prop) (w0 w : World) (lo : Option Nat) (L : List Rn) (key : Nat → Nat) (hkey : ∀ i, key i < 256) (kb ko cap : Nat) (hc : 4 * 8 ≤ cap) (h : LG S w0 w lo L) (h0 : Kp S w0 w) (hr : Room L)
    (hcell : ∀ W, Kp S w0 W → Kt w W → ∀ i, i < 4 * 8 → W.cell? ⟨kb, ko + i, none⟩ = some (.int .u8 (key i : Nat))) :
    Calls Tryz.prog 149 #[lpv lo, .slice (some ⟨kb, ko, none⟩) 32 cap] w fun e w' => ∃ g, e = .returned (.tuple #[.pointer (some ⟨g, 0, none⟩), .int .i64 0]) ∧ Ci w' g 8 (rk 8 key) ∧ w.heap.size ≤ g ∧ LG S w0 w' lo (putL L ⟨4, 32, 1⟩) ∧ Kp S w0 w' ∧ Kt w w' := by
  have HC := hid hcell
  have HL := hid h
  have H0 := hid h0
  have HR := hid hr
  have HK := hid hkey
  clear hcell h h0 hr hkey
  go_enter Tryz.func149, Tryz.ntmps149
  go_wp2_with fail
  refine (note_lg S w0 _ lo L 4 32 (by omega) (by omega) HL.out H0.out HR.out).mono ?_
  rintro e W3 ⟨rfl, l3, k3, t3⟩
  have L3 := hid l3
  have K3 := hid k3
  have T3 := hid t3
  have EX := hid (expanded1 8 (.inr (.inr rfl)) key HK.out kb ko cap W3 hc (HC.out W3 k3 t3))
  clear l3 k3 t3
  go_wp2_with fail
  refine EX.out.mono ?_
  rintro e W4 ⟨rfl, hb4⟩
  have HB := hid hb4
  have hlen := bl_length 240 (cb (rk 8 key))
  clear hb4
  go_wp2_with fail
  go_ret2
  have nc := new_cells 8 (rk 8 key)
  have k4 := below_next HB.out (below_alloc W4 (.cells (cic 8 (rk 8 key)).toArray 231))
  refine ⟨W4.heap.size, rfl, ⟨Blk.newAt _ _ _ _ _ rfl nc, .inr (.inr rfl), rk_lt 8 key HK.out⟩, Nat.le_trans T3.out.1 HB.out.size, ?_, ?_, ?_⟩
  · erw [nc]
    exact L3.out.below k4
  · erw [nc]
    exact K3.out.trans (Kp.of_below _ k4) (fun _ _ e => e)
  · erw [nc]
    exact T3.out.trans (Kt.of_below k4)
end Go.Proofs.YtpohogpkfdebdaaGreatDoor.Ae
namespace Go.Proofs.YtpohogpkfdebdaaGreatDoor.Ae
open Go.ChangeShapes Go.WideShapes Go.ChangeAt Go.RowKit
open Go.Proofs.YtpohogpkfdebdaaGreatDoor.By Go.Proofs.YtpohogpkfdebdaaGreatDoor.Gf
open Go.Proofs.YtpohogpkfdebdaaGreatDoor.Kc (own_kept own_mono own8_type cat cat_bound wpList_cat below_grow)
theorem bl_take (n c : Nat) (f : Nat → Int) (h : n ≤ c) : (bl c f).take n = bl n f := by
  apply List.ext_getElem?
  intro i
  rw [List.getElem?_take]
  by_cases hi : i < n
  · rw [if_pos hi, bl_get _ _ _ (by omega), bl_get _ _ _ hi]
  · rw [if_neg hi, List.getElem?_eq_none (by rw [bl_length]; omega)]
theorem own_made (w : World) (n c B : Nat) (f : Nat → Int) (hf : ∀ i, 0 ≤ f i ∧ f i < 256) (hn : n ≤ c) (hc : c ≤ maxLen) (hB : B ≤ w.heap.size) : By.Own (w.alloc (.cells (bl c f).toArray 5)) B (.slice (some ⟨w.heap.size, 0, none⟩) n c) n f :=
  ⟨hf, by rw [bl_length]; omega, .inr ⟨_, c, _, rfl, hB, heap_alloc_last w _, hn, hc, by simp [bl_length], by simp [bl_take n c f hn]⟩⟩

/-- Nothing but the ledger's blocks and block x has turned. -/
def Kx (x : Nat) (w w' : World) : Prop := w.heap.size ≤ w'.heap.size ∧ ∀ g cs t, g ≠ x → Blk w g cs t → t ≠ 89 → t ≠ 78 → Blk w' g cs t
set_option maxRecDepth 8000 in
set_option maxHeartbeats 4000000 in
theorem clone_ci (g k : Nat) (ws : Nat → Nat) (w : World) (hc : Ci w g k ws) : Calls Tryz.prog 205 #[.pointer (some ⟨g, 0, none⟩)] w fun e w' => e = .returned (.tuple #[.pointer (some ⟨w.heap.size, 0, none⟩), .int .i64 0]) ∧ Ci w' w.heap.size k ws ∧ Below w.heap.size w w' := by
  have hk4 : 1 ≤ k := by have := hc.kk; omega
  have c0 := hid hc.c0
  have HC := hid hc
  have l1 := LDc_run (range0 hc.here) (cic_length _ _)
  have N0 := hid (Blk.newAt w _ _ 231 _ rfl zero_ci)
  have s1 := SVc_run (cs := cic k ws) (N0.out.there 0 241 (by rw [cic_length]; omega)) (cic_length _ _) (cic_one _ _)
  have b1 := N0.out.put 0 (cic k ws)
  rw [put_all _ _ (by rw [cic_length, cic_length])] at b1
  have B1 := hid b1
  clear b1 hc
  go_enter Tryz.func205, Tryz.ntmps205
  go_wp2_with (go_at_call 194; refine (isNone_ci g k _ c0.out hk4).mono ?_; rintro e w' ⟨rfl, hw'⟩; subst w')
  go_ret2
  exact ⟨rfl, ⟨B1.out, HC.out.kk, HC.out.lt⟩, below_cells (below_alloc w _) _ _ _ (Nat.le_refl _) (by simp)⟩
set_option maxRecDepth 8000 in
set_option maxHeartbeats 4000000 in
theorem wipe_ci (S : Nat → Prop) (w0 w : World) (lo : Option Nat) (L : List Rn) (g k : Nat) (ws : Nat → Nat) (hc : Ci w g k ws) (h : LG S w0 w lo L) (h0 : Kp S w0 w) (hr : Room L) (hS : g < w0.heap.size → S g) :
    Calls Tryz.prog 206 #[.pointer (some ⟨g, 0, none⟩), lpv lo] w fun e w' => e = .returned (.int .i64 0) ∧ NoCi w' g ∧ LG S w0 w' lo (putL L ⟨8, ((16 * (k + 7) : Nat) : Int), 1⟩) ∧ Kp S w0 w' ∧ Kx g w w' := by
  have hk4 : 1 ≤ k := by have := hc.kk; omega
  have hk8 : k ≤ 8 := by have := hc.kk; omega
  have c0 := hid hc.c0
  have HC := hid hc
  have HL := hid h
  have H0 := hid h0
  have HR := hid hr
  have HS := hid hS
  clear hc h h0 hr hS
  go_enter Tryz.func206, Tryz.ntmps206
  go_wp2_with (first | (go_at_call 194; refine (isNone_ci g k _ c0.out hk4).mono ?_; rintro e w' ⟨rfl, hw'⟩; subst w') | (go_at_call 249; refine (formSize_ci g k _ c0.out hk8).mono ?_; rintro e w' ⟨rfl, hw'⟩; subst w'))
  refine (note_lg S w0 _ lo L 8 ((16 * (k + 7) : Nat) : Int) (by omega) (by omega) HL.out H0.out HR.out).mono ?_
  rintro e W3 ⟨rfl, l3, k3, t3⟩
  have L3 := hid l3
  have K3 := hid k3
  have T3 := hid t3
  have B3 := hid (t3.2 _ _ _ HC.out.here (by decide) (by decide))
  have s1 := SVc_run (cs := cic 0 (fun _ => 0)) (B3.out.there 0 241 (by rw [cic_length]; omega)) (cic_length _ _) (cic_one _ _)
  rw [← zero_ci] at s1
  clear l3 k3 t3
  go_wp2_with fail
  go_ret
  have b4 := B3.out.put 0 (cic 0 (fun _ => 0))
  rw [put_all _ _ (by rw [cic_length, cic_length])] at b4
  have k4 := Kp.setCells (w := W3) g 0 (cic 0 (fun _ => 0))
  refine ⟨rfl, ⟨_, b4⟩, L3.out.kept k4 (fun x e => ?_), K3.out.trans k4 (fun i hi e => by subst e; exact HS.out hi), Nat.le_trans T3.out.1 k4.size, fun x cs t hx hb h1 h2 => (T3.out.2 x cs t hb h1 h2).kept k4 hx⟩
  subst e
  exact ⟨_, _, B3.out, by decide, by decide⟩
set_option maxRecDepth 4000 in
theorem sliceF (W : World) (g n : Nat) (hn : n ≤ 14) : (Instr.sliceAt 228 (.pointer (some ⟨g, 1, none⟩)) none (some (.int .i64 (4 * ((n : Int) + 1)))) none).run Tryz.prog W = .ok (.slice (some ⟨g, 1, none⟩) (4 * (n + 1)) 60) W := by
  have hl : Tryz.prog.arrayLen 228 = 60 := by kernel_rfl
  have hs : (sizeOf (Tryz.prog.elem 228)).run Tryz.prog W = .ok 4 W := by kernel_rfl
  have h := run_sliceAt_array_h (P := Tryz.prog) W 228 ⟨g, 1, none⟩ Tryz.underlying228 .i64 (4 * ((n : Int) + 1)) (by omega) (by rw [hl]; omega)
  rw [h, hs, hl, Result.andThen_ok, slicedAt, if_neg (by omega), By.add_plain]
  simp only [Result.ok.injEq, Value.slice.injEq, and_true, true_and]
  omega
theorem make_c (c : Nat) (hc : c ≤ 1000) (w : World) : (Instr.makeSlice 23 (.int .i64 0) (.int .i64 c)).run Tryz.prog w = .ok (.slice (some ⟨w.heap.size, 0, none⟩) 0 c) (w.alloc (.cells (bl c (fun _ => 0)).toArray 5)) := by
  obtain ⟨i0, hi, hz0, hz1, hz2⟩ := info_parts info5
  have hr := run_make (P := Tryz.prog) w 23 5 i0 (.int .u8 0) Tryz.underlying23 hi hz0 .i64 .i64 0 c (by omega) (by omega) (by rw [hz2]; omega) (by omega)
  have e : madeCells #[Value.int .u8 0] c = (bl c (fun _ => 0)).toArray := by rw [← bl_zero]
  simp only [Int.toNat_natCast, hz1, Nat.mul_one, Value.cells, e] at hr
  exact hr
set_option maxRecDepth 8000 in
set_option maxHeartbeats 4000000 in
theorem form_ci (g k : Nat) (ws : Nat → Nat) (w : World) (hc : Ci w g k ws) : Calls Tryz.prog 207 #[.pointer (some ⟨g, 0, none⟩)] w fun e w' => ∃ v, e = .returned v ∧ By.Own w' w.heap.size v (16 * (k + 7)) (cb ws) ∧ Below w.heap.size w w' := by
  have hk4 : 1 ≤ k := by have := hc.kk; omega
  have hk8 : k ≤ 8 := by have := hc.kk; omega
  have c0 := hid hc.c0
  have HC := hid hc
  obtain ⟨n, en⟩ : ∃ n, k + 6 = n := ⟨_, rfl⟩
  have hn : n ≤ 14 := by omega
  have hmk : ∀ w, (Instr.makeSlice 23 (.int .i64 0) (.int .i64 (16 * ((k : Int) + 7)))).run Tryz.prog w = .ok (.slice (some ⟨w.heap.size, 0, none⟩) 0 (16 * (k + 7))) (w.alloc (.cells (bl (16 * (k + 7)) (fun _ => 0)).toArray 5)) := fun w => by
    have h := make_c (16 * (k + 7)) (by omega) w
    rwa [show ((16 * (k + 7) : Nat) : Int) = 16 * ((k : Int) + 7) from by omega] at h
  have hsf := fun W => sliceF W g n (by omega)
  have w1 : IntKind.i64.wrap ((n : Int) + 1) = (n : Int) + 1 := by rw [IntKind.wrap_i64]; omega
  have w2 : IntKind.i64.wrap (4 * ((n : Int) + 1)) = 4 * ((n : Int) + 1) := by rw [IntKind.wrap_i64]; omega
  have ow := hid (own_made w 0 (16 * (k + 7)) w.heap.size (fun _ => 0) (fun _ => by decide) (by omega) (by simp [maxLen]; omega) (Nat.le_refl _))
  have C1 := hid (hc.below (below_alloc w (.cells (bl (16 * (k + 7)) (fun _ => 0)).toArray 5)))
  have BW := hid (below_alloc w (.cells (bl (16 * (k + 7)) (fun _ => 0)).toArray 5))
  have c1 := hid C1.out.c0
  clear hc
  go_enter Tryz.func207, Tryz.ntmps207
  go_wp2_with (first | (go_at_call 194; refine (isNone_ci g k _ c0.out hk4).mono ?_; rintro e w' ⟨rfl, hw'⟩; subst w') | (go_at_call 249; refine (formSize_ci g k _ c0.out hk8).mono ?_; rintro e w' ⟨rfl, hw'⟩; subst w'))
  have RC := hid (rounds_ci g k (w.alloc (.cells (bl (16 * (k + 7)) (fun _ => 0)).toArray 5)).drew c1.out hk8)
  rw [en] at RC
  have EN := hid en
  clear en
  go_region_law (go_simp; go_at_call 196; refine RC.out.mono ?_; rintro e w' ⟨rfl, hw'⟩; subst w')
  all_goals
    go_simp
    go_wp2_with fail
    go_loopw [3, 20] (fun v i wr => ∃ j : Nat, j ≤ 4 * (n + 1) ∧ i = .int .i64 j ∧ By.Own wr w.heap.size v (4 * j) (cb ws) ∧ Below w.heap.size w wr) (fun _ i _ => 4 * (n + 1) - (intOf i).toNat)
    case atStart =>
      refine ⟨0, by omega, rfl, own_congr ow.out (fun i => ⟨Int.natCast_nonneg _, Int.ofNat_lt.2 (HC.out.lt i)⟩) (fun i hi => by omega), below_dr BW.out⟩
    case round =>
      obtain ⟨j, hj, rfl, o1, hbel⟩ := hrel
      have O1 := hid o1
      have HB := hid hbel
      have CJ := hid (HC.out.below hbel)
      clear o1 hbel
      by_cases hlt : j < 4 * (n + 1)
      · have hd : decide ((j : Int) < 4 * ((n : Int) + 1)) = true := decide_eq_true (by omega)
        have hje : j < 4 * (n + 1) := hlt
        have en := EN.out
        have l1 := LDq_run (CJ.out.here.range (1 + j * 4) (bl 4 (cb (fun i => ws (4 * j + i)))) (fun i v hv => by obtain ⟨hi, rfl⟩ := bl_get_inv _ _ _ _ hv; rw [show 1 + j * 4 + i = 1 + (4 * j + i) from by omega]; exact cic_at _ _ _ (by omega))) (bl_length _ _)
        have N0 := hid (Blk.newAt wr _ _ 222 _ rfl zero4)
        have s1 := SVq_run (cs := bl 4 (cb (fun i => ws (4 * j + i)))) (N0.out.there 0 4 (by rw [bl_length]; omega)) (bl_length _ _) (bl_one _ _)
        have N1 := hid (show Blk _ wr.heap.size (bl 4 (cb (fun i => ws (4 * j + i)))) 222 from by rw [← put_all (bl 4 (cb (fun _ => 0))) (bl 4 (cb (fun i => ws (4 * j + i)))) (by rw [bl_length, bl_length])]; exact N0.out.put 0 (bl 4 (cb (fun i => ws (4 * j + i)))))
        have K1 := hid ((below_alloc wr (.cells (bl 4 (cb (fun _ => 0))).toArray 222)).trans ((Kp.setCells wr.heap.size 0 (bl 4 (cb (fun i => ws (4 * j + i))))).below (by simp) (fun k hk e => by omega)))
        rw [← zero4] at K1
        have O2 := hid (own_below O1.out K1.out)
        have R1 := hid (rb_blk N1.out (fun i => ⟨Int.natCast_nonneg _, Int.ofNat_lt.2 (HC.out.lt (4 * j + i))⟩) (by simp [maxLen]))
        have HB2 := hid (below_next HB.out K1.out)
        have hsq := fun W => sliceQ W wr.heap.size 0
        generalize ((wr.alloc (Obj.cells #[Value.int IntKind.u8 0, Value.int IntKind.u8 0, Value.int IntKind.u8 0, Value.int IntKind.u8 0] 222)).setCells wr.heap.size 0 (bl 4 (cb fun i => ws (4 * j + i)))) = W2 at *
        clear K1 N0 N1 en
        go_wp2_with (at_builtin; go_must (refine wpList_cat rfl _ _ rfl w.heap.size (4 * j) 4 _ _ (cb ws) (cb fun i => ws (4 * j + i)) rfl O2.out rfl R1.out (by omega) HB2.out.size ?_))
        intro v' w' hown hgrow
        have O3 := hid (own_congr hown (g := cb ws) (fun i => ⟨Int.natCast_nonneg _, Int.ofNat_lt.2 (HC.out.lt i)⟩) (fun i hi => by
          unfold cat
          split
          · rfl
          · show ((ws (4 * j + (i - 4 * j)) : Nat) : Int) = ((ws i : Nat) : Int)
            rw [show 4 * j + (i - 4 * j) = i from by omega]))
        have B3 := hid (below_grow HB2.out HB2.out.size O2.out hgrow)
        clear hown hgrow
        go_wp2_with fail
        exact ⟨⟨j + 1, by omega, by go_num, by rw [show 4 * (j + 1) = 4 * j + 4 from by omega]; exact O3.out, B3.out⟩, by simp [intOf]; omega⟩
      · have ej : j = 4 * (n + 1) := by omega
        have hd : decide ((j : Int) < 4 * ((n : Int) + 1)) = false := decide_eq_false (by omega)
        have hd2 : ¬ (j : Int) < 4 * ((n : Int) + 1) := by omega
        have EJ := hid (show 4 * j = 16 * (k + 7) from by have := EN.out; omega)
        clear ej
        go_wp2_with fail
        go_ret
        exact ⟨_, rfl, by rw [← EJ.out]; exact O1.out, HB.out⟩
end Go.Proofs.YtpohogpkfdebdaaGreatDoor.Ae
namespace Go.Proofs.YtpohogpkfdebdaaGreatDoor.Ae
open Go.ChangeShapes Go.WideShapes Go.ChangeAt Go.RowKit
open Go.Proofs.YtpohogpkfdebdaaGreatDoor.By Go.Proofs.YtpohogpkfdebdaaGreatDoor.Gf
open Go.Proofs.YtpohogpkfdebdaaGreatDoor.Kc (own_kept own_mono own8_type cat cat_bound wpList_cat below_grow)
/-- The value is no cipher's. -/
def Nn (w : World) (v : Value) : Prop := v = .pointer none ∨ ∃ g, v = .pointer (some ⟨g, 0, none⟩) ∧ NoCi w g
theorem Nn.below {w w' : World} {v : Value} (h : Nn w v) (hb : Below w.heap.size w w') : Nn w' v := by
  rcases h with h | ⟨g, h, hn⟩
  · exact .inl h
  · exact .inr ⟨g, h, hn.below hb⟩
def nul (_ : Nat) : Nat := 0
theorem zeroN : #[Value.int IntKind.u8 0, Value.int IntKind.u8 0, Value.int IntKind.u8 0, Value.int IntKind.u8 0, Value.int IntKind.u8 0, Value.int IntKind.u8 0, Value.int IntKind.u8 0, Value.int IntKind.u8 0, Value.int IntKind.u8 0, Value.int IntKind.u8 0, Value.int IntKind.u8 0, Value.int IntKind.u8 0, Value.int IntKind.u8 0, Value.int IntKind.u8 0, Value.int IntKind.u8 0, Value.int IntKind.u8 0] = (bl 16 (cb nul)).toArray := rfl
theorem eqItems_run {P : Program} (w : World) (d : Nat) (e : TypeId) (k k' : IntKind) (hu : P.underlying e = some (.int k')) (xs ys : Array Value) (f g : Nat → Int) : ∀ (is : List Nat), (∀ i ∈ is, xs[i]? = some (.int k (f i)) ∧ ys[i]? = some (.int k (g i))) →
    (Op.eqItems (d + 1) e 1 xs ys is).run P w = .ok (is.all fun i => f i == g i) w
  | [], _ => by simp [Op.eqItems]
  | i :: is, h => by
    have h1 := (h i (by simp)).1
    have h2 := (h i (by simp)).2
    have ih := eqItems_run w d e k k' hu xs ys f g is (fun j hj => h j (by simp [hj]))
    have hp : ∀ (cs : Array Value) (v : Value), cs[i]? = some v → (Go.part e cs (i * 1)).run P w = .ok v w := fun cs v hv => by
      simp [Go.part, isAgg, run_underlying hu, hv]
    simp only [Op.eqItems, Sem.run_bind, hp _ _ h1, hp _ _ h2, Result.andThen_ok, run_equalIn_int w d e k k' (f i) (g i) hu]
    by_cases c : f i = g i
    · simp [c, ih]
    · simp [c]
/-- Are two blocks alike? -/
def eqb (f g : Nat → Nat) : Bool := (List.range 16).all fun i => cb f i == cb g i
theorem bl_arr (n : Nat) (f : Nat → Int) : ∀ i ∈ List.range n, (bl n f).toArray[i]? = some (.int .u8 (f i)) := fun i hi => by
  rw [List.getElem?_toArray]
  exact bl_get n f i (List.mem_range.1 hi)
theorem cof8 : Tryz.prog.cellsOf 5 = 1 := by kernel_rfl
@[go_sem high] theorem sameB (f g : Nat → Nat) (w : World) : (Op.equalIn 10000 175 (bv f) (bv g)).run Tryz.prog w = .ok (eqb f g) w := by
  obtain ⟨i, hi⟩ : ∃ i, Tryz.prog.info? 5 = some i := Option.isSome_iff_exists.1 (by kernel_rfl)
  have h := run_equalIn_array (P := Tryz.prog) w 9999 (bl 16 (cb f)).toArray (bl 16 (cb g)).toArray Tryz.underlying175 hi
  rw [cof8] at h
  show (Op.equalIn 10000 175 (.agg (bl 16 (cb f)).toArray) (.agg (bl 16 (cb g)).toArray)).run Tryz.prog w = _
  rw [h]
  exact eqItems_run w 9998 5 .u8 .u8 Tryz.underlying5 _ _ (cb f) (cb g) _ (fun i hi => ⟨bl_arr 16 (cb f) i hi, bl_arr 16 (cb g) i hi⟩)
@[go_sem high] theorem guardEq (a b : Operand) (f g : Nat → Nat) (w : World) : (eqGuard .eql 175 a b (bv f) (bv g)).run Tryz.prog w = .ok () w := by
  unfold bv
  simp [go_sem]
@[go_sem high] theorem guardNe (a b : Operand) (f g : Nat → Nat) (w : World) : (eqGuard .neq 175 a b (bv f) (bv g)).run Tryz.prog w = .ok () w := by
  unfold bv
  simp [go_sem]
@[go_sem high] theorem binEq (f g : Nat → Nat) (w : World) : (binOp .eql 175 (bv f) (bv g)).run Tryz.prog w = .ok (.bool (eqb f g)) w := by
  have h := sameB f g w
  unfold bv at h ⊢
  simp [go_sem, h]
@[go_sem high] theorem binNe (f g : Nat → Nat) (w : World) : (binOp .neq 175 (bv f) (bv g)).run Tryz.prog w = .ok (.bool (!eqb f g)) w := by
  have h := sameB f g w
  unfold bv at h ⊢
  simp [go_sem, h]
/-- Sixteen bytes that begin with these. -/
def blk (n : Nat) (f : Nat → Nat) (i : Nat) : Nat := if i < n then f i else 0
end Go.Proofs.YtpohogpkfdebdaaGreatDoor.Ae
