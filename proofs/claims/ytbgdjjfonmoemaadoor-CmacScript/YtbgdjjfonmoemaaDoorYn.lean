/- The program's 'expanded': a key's round keys. The document's list of words. -/
import Derived.Test.YtbgdjjfonmoemaaDoorYg
import Derived.Test.YtbgdjjfonmoemaaDoorYm
namespace Go.Proofs.YtbgdjjfonmoemaaDoor.Ae
open Go.ChangeShapes Go.WideShapes Go.ChangeAt Go.RowKit
open Go.Proofs.YtbgdjjfonmoemaaDoor.By Go.Proofs.YtbgdjjfonmoemaaDoor.Gf
/-- A word turned by 8 to the left, as bytes. -/
def rotw (t : Nat → Nat) (j : Nat) : Nat := t ((j + 1) % 4)
theorem rot8 (x : Int) (h0 : 0 ≤ x) (h1 : x < 4294967296) : Wd.Rot 32 x 8 = x % 16777216 * 256 + x / 16777216 := by
  have h := Wd.turned32 x 8 h0 h1
  rw [← h]
  show bits .or .u32 (x * 256 % 4294967296) (x / 16777216) = _
  rw [show x * 256 % 4294967296 = x % 16777216 * 256 % 4294967296 from by omega]
  exact Wd.or_be32 _ _ (by omega) (by omega) (by omega) (by omega)
theorem be4 (t : Nat → Nat) : BE (fun i => Byt (cb t) 4 (0 + i)) 4 = (t 0 : Int) * 16777216 + t 1 * 65536 + t 2 * 256 + t 3 := by
  rw [Wd.BE_congr _ (cb t) 4 (fun i hi => by rw [Byt_in _ _ _ (by omega) (by omega)]; congr 1; omega)]
  show (((0 * 256 + (t 0 : Int)) * 256 + (t 1 : Int)) * 256 + (t 2 : Int)) * 256 + (t 3 : Int) = _
  omega
theorem rotw_cells (t : Nat → Nat) (ht : ∀ i, i < 4 → t i < 256) (X : Int) (hX : X = (t 1 : Int) * 16777216 + t 2 * 65536 + t 3 * 256 + t 0) : #[Value.int .u8 (X / 16777216), .int .u8 (X / 65536 % 256), .int .u8 (X / 256 % 256), .int .u8 (X % 256)] = (bl 4 (cb (rotw t))).toArray := by
  have e : bl 4 (cb (rotw t)) = [.int .u8 (t 1 : Nat), .int .u8 (t 2 : Nat), .int .u8 (t 3 : Nat), .int .u8 (t 0 : Nat)] := rfl
  have h0 := ht 0 (by decide)
  have h1 := ht 1 (by decide)
  have h2 := ht 2 (by decide)
  have h3 := ht 3 (by decide)
  rw [e, show X / 16777216 = (t 1 : Int) from by omega, show X / 65536 % 256 = (t 2 : Int) from by omega, show X / 256 % 256 = (t 3 : Int) from by omega, show X % 256 = (t 0 : Int) from by omega]
/-- The round keys as they lie in a cipher: noughts behind them. -/
def rk (k : Nat) (key : Nat → Nat) : Nat → Nat := upto (16 * (k + 7)) (wds k key (3 * k + 28))
theorem zero240 (f : Nat → Nat) : Tryd.zeroCells101 = (bl 240 (cb (upto 0 f))).toArray := by kernel_rfl
/-- One word more. -/
theorem wput (f g : Nat → Nat) (i : Nat) (x : Nat → Nat) (hi : i < 60) (ho : ∀ p, p < 4 * i → g p = f p) (hx : ∀ j, j < 4 → g (4 * i + j) = x j) : put (bl 240 (cb (upto (4 * i) f))) (4 * i) (bl 4 (cb x)) = bl 240 (cb (upto (4 * (i + 1)) g)) := by
  apply List.ext_getElem?
  intro p
  rw [put_get _ _ _ _ (by rw [bl_length, bl_length]; omega), bl_length]
  by_cases h : p < 240
  · rw [bl_get _ _ _ h, bl_get _ _ _ h]
    by_cases e : 4 * i ≤ p ∧ p < 4 * i + 4
    · rw [if_pos e, bl_get _ _ _ (by omega)]
      congr 2
      show ((x (p - 4 * i) : Nat) : Int) = ((upto (4 * (i + 1)) g p : Nat) : Int)
      unfold upto
      rw [if_pos (by omega), ← hx (p - 4 * i) (by omega), show 4 * i + (p - 4 * i) = p from by omega]
    · rw [if_neg e]
      congr 2
      show ((upto (4 * i) f p : Nat) : Int) = ((upto (4 * (i + 1)) g p : Nat) : Int)
      unfold upto
      by_cases h2 : p < 4 * i
      · rw [if_pos h2, if_pos (by omega), ho p h2]
      · rw [if_neg h2, if_neg (by omega)]
  · rw [List.getElem?_eq_none (l := bl 240 (cb (upto (4 * (i + 1)) g))) (by rw [bl_length]; omega), if_neg (by omega), List.getElem?_eq_none (by rw [bl_length]; omega)]
theorem upto_get (n : Nat) (f : Nat → Nat) (i : Nat) (h : i < n) : upto n f i = f i := by unfold upto; rw [if_pos h]
theorem pw_ix (j I : Nat) (hj : 0 < j) (hI : 0 < I) (h : I % j = 0) : I / j - 1 = (I - 1) / j := by
  obtain ⟨c, rfl⟩ : ∃ c, I = j * c := ⟨I / j, by have := Nat.div_add_mod I j; omega⟩
  have hc : 0 < c := Nat.pos_of_ne_zero (fun e => by subst e; simp at hI)
  obtain ⟨d, rfl⟩ : ∃ d, c = d + 1 := ⟨c - 1, by omega⟩
  rw [Nat.mul_div_cancel_left _ hj, show j * (d + 1) - 1 = (j - 1) + j * d from by rw [Nat.mul_add]; omega, Nat.add_mul_div_left _ _ hj, Nat.div_eq_of_lt (by omega)]
  omega
theorem pw_next (j I : Nat) (hj : 0 < j) (hI : 0 < I) : pw (I / j) = if I % j = 0 then mul (pw ((I - 1) / j)) 2 else pw ((I - 1) / j) := by
  by_cases h : I % j = 0
  · rw [if_pos h, ← pw_ix j I hj hI h]
    have h1 : 0 < I / j := Nat.div_pos (Nat.le_of_dvd hI (Nat.dvd_of_mod_eq_zero h)) hj
    obtain ⟨d, hd⟩ : ∃ d, I / j = d + 1 := ⟨I / j - 1, by omega⟩
    rw [hd]; rfl
  · rw [if_neg h]
    congr 1
    have h2 := Nat.div_add_mod I j
    have h3 := Nat.mod_lt I hj
    rw [show I - 1 = (I % j - 1) + j * (I / j) from by omega, Nat.add_mul_div_left _ _ hj, Nat.div_eq_of_lt (show I % j - 1 < j from by omega), Nat.zero_add]
set_option maxRecDepth 8000 in
set_option maxHeartbeats 8000000 in
theorem expanded1 (k : Nat) (hk : k = 4 ∨ k = 6 ∨ k = 8) (key : Nat → Nat) (hkey : ∀ i, key i < 256) (kb ko cap : Nat) (w : World) (hc : 4 * k ≤ cap) (hcell : ∀ i, i < 4 * k → w.cell? ⟨kb, ko + i, none⟩ = some (.int .u8 (key i : Nat))) :
    Calls Tryd.prog 55 #[.slice (some ⟨kb, ko, none⟩) (4 * k) cap] w fun e w' => e = .returned (.agg (bl 240 (cb (rk k key))).toArray) ∧ Below w.heap.size w w' := by
  have HC := hid hcell
  have hkb := block_lt_of_cell (hcell 0 (by omega))
  have HK := hid hkey
  have hk4 : 4 ≤ k := by omega
  have hk8 : k ≤ 8 := by omega
  have HKK := hid hk
  clear hcell hkey hk
  have hq : ((4 * k : Nat) : Int).tdiv 4 = (k : Int) := by rw [Int.tdiv_eq_ediv_of_nonneg (by omega)]; omega
  have hq2 : (4 * (k : Int)).tdiv 4 = (k : Int) := by rw [Int.tdiv_eq_ediv_of_nonneg (by omega)]; omega
  have BA := hid ((below_alloc w (.cells Tryd.zeroCells101 101)).alloc (by simp) (.cells Tryd.zeroCells101 101))
  have A0 := hid ((Blk.newAt w _ _ 101 _ rfl (zero240 key)).alloc (.cells Tryd.zeroCells101 101))
  have A1 := hid (Blk.newAt (w.alloc (.cells Tryd.zeroCells101 101)) _ _ 101 (w.heap.size + 1) (by simp) (zero240 key))
  go_enter Tryd.func55, Tryd.ntmps55
  go_wp2_with fail
  generalize ((w.alloc (.cells Tryd.zeroCells101 101)).alloc (.cells Tryd.zeroCells101 101)) = W2 at *
  go_loopw [13] (fun i wr => ∃ j : Nat, j ≤ k ∧ i = .int .i64 (j : Int) ∧ Blk wr w.heap.size (bl 240 (cb (upto 0 key))) 101 ∧ Blk wr (w.heap.size + 1) (bl 240 (cb (upto (4 * j) key))) 101 ∧ Below w.heap.size w wr) (fun i _ => k - (intOf i).toNat)
  case atStart => exact ⟨0, Nat.zero_le _, rfl, A0.out, A1.out, BA.out⟩
  case round =>
    clear A0 A1 BA hq hq2
    obtain ⟨j, hj, rfl, b0, b1, hbel⟩ := hrel
    have B0 := hid b0
    have B1 := hid b1
    have HB := hid hbel
    have HZ := hid b1.lt
    clear b0 b1 hbel
    by_cases hlt : j < k
    · have hd1 : decide ((j : Int) < (k : Int)) = true := decide_eq_true (by omega)
      have hsq := fun W o => sliceQ W (w.heap.size + 1) o
      have hcp := fun ty => copy4 wr.drew (w.heap.size + 1) (j * 4) 4 kb (ko + 4 * j) (4 * k - 4 * j) (cap - 4 * j) ty 101 _ (fun i => key (4 * j + i)) (B1.out.drewN 1) (by rw [bl_length]; omega) (by omega) (fun i hi => by
        rw [Nat.add_assoc]
        exact (HB.out.cell (p := ⟨kb, ko + (4 * j + i), none⟩) hkb).trans (HC.out (4 * j + i) (by omega)))
      have hj60 : (j : Int) < 60 := by omega
      go_wp2_with fail
      go_region
      all_goals
        go_wp2_with fail
        have hz := HZ.out
        refine ⟨⟨j + 1, by omega, by go_num, (B0.out.drewN 1).kept (Kp.setCells _ _ _) (by omega), ?_, below_cells (below_dr HB.out) _ _ _ (by omega) (below_dr HB.out).size⟩, by simp [intOf]; omega⟩
        have b2 := (B1.out.drewN 1).put (j * 4) (bl 4 (cb (fun i => key (4 * j + i))))
        rw [Nat.mul_comm j 4, wput key key j _ (by omega) (fun _ _ => rfl) (fun _ _ => rfl)] at b2
        rw [Nat.mul_comm j 4]
        exact b2
    · have ej : j = k := by omega
      subst ej
      have hd1 : decide ((j : Int) < (j : Int)) = false := decide_eq_false (by omega)
      go_wp2_with fail
      go_loopw [6, 7, 8] (fun pv i t wr => ∃ I : Nat, j ≤ I ∧ I ≤ 4 * (j + 7) ∧ i = .int .i64 (I : Int) ∧ pv = .int .u8 ((pw ((I - 1) / j) : Nat) : Int) ∧ Blk wr w.heap.size (bl 240 (cb (upto 0 key))) 101 ∧ Blk wr (w.heap.size + 1) (bl 240 (cb (upto (4 * I) (wds j key (I - j))))) 101 ∧ Below w.heap.size w wr) (fun _ i _ _ => 4 * j + 28 - (intOf i).toNat)
      case atStart =>
        refine ⟨j, Nat.le_refl _, by omega, rfl, ?_, B0.out, by rw [Nat.sub_self]; exact B1.out, HB.out⟩
        rw [show (j - 1) / j = 0 from Nat.div_eq_of_lt (by omega)]
        rfl
      case round =>
        clear B0 B1 HB HZ
        obtain ⟨I, hI1, hI2, rfl, rfl, b0, b1, hbel⟩ := hrel
        have B0 := hid b0
        have B1 := hid b1
        have HB := hid hbel
        have HZ := hid b1.lt
        clear b0 b1 hbel
        have HF := hid (wds_lt j key HK.out (I - j))
        have WN := hid (show ∀ p, wds j key (I + 1 - j) p = if p / 4 = I then nxt j I (wds j key (I - j)) (p % 4) else wds j key (I - j) p from fun p => by
          rw [show I + 1 - j = (I - j) + 1 from by omega]
          show (if p / 4 = j + (I - j) then nxt j (j + (I - j)) (wds j key (I - j)) (p % 4) else wds j key (I - j) p) = _
          rw [show j + (I - j) = I from by omega])
        have PN := hid (show pw (I / j) = if I % j = 0 then mul (pw ((I - 1) / j)) 2 else pw ((I - 1) / j) from pw_next j I (by omega) (by omega))
        have PV := hid (pw_lt ((I - 1) / j))
        have PE := hid (show I % j = 0 → I / j - 1 = (I - 1) / j from fun h => pw_ix j I (by omega) (by omega) h)
        obtain ⟨f, ef⟩ : ∃ f, wds j key (I - j) = f := ⟨_, rfl⟩
        rw [ef] at B1 HF WN
        have EF := hid ef
        clear ef
        obtain ⟨pv, epv⟩ : ∃ pv, pw ((I - 1) / j) = pv := ⟨_, rfl⟩
        rw [epv] at PN PV
        have EPV := hid epv
        rw [epv]
        clear epv
        by_cases hlt : I < 4 * (j + 7)
        · have hd2 : decide ((I : Int) < 4 * ((j : Int) + 6 + 1)) = true := decide_eq_true (by omega)
          obtain ⟨P, hP⟩ : ∃ P, I = P + 1 := ⟨I - 1, by omega⟩
          have hPi : (I : Int) - 1 = (P : Int) := by omega
          have HP := hid hP
          have hP60 : (P : Int) < 60 := by omega
          obtain ⟨Q, hQ⟩ : ∃ Q, I = Q + j := ⟨I - j, by omega⟩
          have hQi : (I : Int) - (j : Int) = (Q : Int) := by omega
          have HQ := hid hQ
          have hQ60 : (Q : Int) < 60 := by omega
          have hQw : IntKind.i64.wrap (Q : Int) = (Q : Int) := by rw [IntKind.wrap_i64]; omega
          have hI60 : (I : Int) < 60 := by omega
          have hj0 : ¬ (j : Int) = 0 := by omega
          have hR : (I : Int).tmod (j : Int) = ((I % j : Nat) : Int) := by rw [Int.tmod_eq_emod_of_nonneg (by omega)]; rfl
          have l1 := LDq_run (B1.out.range (P * 4) (bl 4 (cb (fun a => f (4 * P + a)))) (fun a v hv => by
            obtain ⟨ha, rfl⟩ := bl_get_inv _ _ _ _ hv
            rw [bl_get _ _ _ (by omega)]
            exact congrArg (fun z : Nat => some (Value.int .u8 (z : Int))) (by rw [upto_get _ _ _ (by omega), Nat.mul_comm P 4]))) (bl_length _ _)
          have N0 := hid (Blk.newAt wr _ _ 100 _ rfl zero4)
          have s1 := SVq_run (cs := bl 4 (cb (fun a => f (4 * P + a)))) (N0.out.there 0 4 (by rw [bl_length]; omega)) (bl_length _ _) (bl_one _ _)
          have QT := hid (show Blk _ wr.heap.size (bl 4 (cb (fun a => f (4 * P + a)))) 100 from by rw [← put_all (bl 4 (cb (fun _ => 0))) (bl 4 (cb (fun a => f (4 * P + a)))) (by rw [bl_length, bl_length])]; exact N0.out.put 0 (bl 4 (cb (fun a => f (4 * P + a)))))
          have hz := HZ.out
          have K1 := hid ((Kp.of_below (fun k => k = wr.heap.size) (below_alloc wr (.cells (bl 4 (cb (fun _ => 0))).toArray 100))).trans (Kp.setCells wr.heap.size 0 (bl 4 (cb (fun a => f (4 * P + a))))) (fun _ _ e => e))
          rw [← zero4] at K1
          have QA := hid (B0.out.kept K1.out (by omega))
          have QG := hid (B1.out.kept K1.out (by omega))
          have QB := hid (HB.out.trans (K1.out.below HB.out.size (fun k hk e => by omega)))
          have hsq := fun W g o => sliceQ W g o
          generalize ((wr.alloc (Obj.cells #[Value.int IntKind.u8 0, Value.int IntKind.u8 0, Value.int IntKind.u8 0, Value.int IntKind.u8 0] 100)).setCells wr.heap.size 0 (bl 4 (cb fun a => f (4 * P + a)))) = W3 at *
          clear K1 N0
          have hPb : P < 60 := by omega
          have hQb : Q < 60 := by omega
          have hQ4 : 4 * Q + 4 ≤ 4 * I := by omega
          clear hP hQ
          by_cases hA : I % j = 0
          · have NX := hid (show ∀ a, nxt j I f a = f (4 * Q + a) ^^^ (box (f (4 * P + (a + 1) % 4)) ^^^ (if a = 0 then pv else 0)) from fun a => by
              unfold nxt
              rw [if_pos hA, show I - j = Q from by have := HQ.out; omega, show I - 1 = P from by have := HP.out; omega, PE.out hA, EPV.out])
            have HA := hid hA
            rw [hA] at hR
            clear hA
            have hR0 : (I : Int).tmod (j : Int) = 0 := hR
            clear hR
            have RT := hid (rb_blk QT.out (fun i => ⟨Int.natCast_nonneg _, Int.ofNat_lt.2 (HF.out _)⟩) (by simp [maxLen]))
            have TE := hid (be4 (fun a => f (4 * P + a)))
            have t0 := HF.out (4 * P + 0)
            have t1 := HF.out (4 * P + 1)
            have t2 := HF.out (4 * P + 2)
            have t3 := HF.out (4 * P + 3)
            obtain ⟨X, eX⟩ : ∃ X : Int, X = (f (4 * P + 0) : Int) * 16777216 + f (4 * P + 1) * 65536 + f (4 * P + 2) * 256 + f (4 * P + 3) := ⟨_, rfl⟩
            have hX0 : 0 ≤ X := by omega
            have hX1 : X < 4294967296 := by omega
            have RE := hid (rot8 X hX0 hX1)
            obtain ⟨Y, eY⟩ : ∃ Y : Int, Y = X % 16777216 * 256 + X / 16777216 := ⟨_, rfl⟩
            have hY0 : 0 ≤ Y := by omega
            have hY1 : Y < 4294967296 := by omega
            have hYt : Y = (f (4 * P + 1) : Int) * 16777216 + f (4 * P + 2) * 65536 + f (4 * P + 3) * 256 + f (4 * P + 0) := by omega
            have YC := hid (rotw_cells (fun a => f (4 * P + a)) (fun a _ => HF.out _) Y hYt)
            have TK : Hid (∀ d, Calls Tryd.prog 76 #[.slice (some ⟨wr.heap.size, 0, none⟩) 4 4, .int .i64 0] (W3.drewN d) fun e w' => e = .returned (.int .u32 X) ∧ w' = W3.drewN d) := fun d => by
              have h := Wd.take36 (.slice (some ⟨wr.heap.size, 0, none⟩) 4 4) 4 (cb fun a => f (4 * P + a)) 0 (W3.drewN d) (RT.out.drewN d) (by omega) (by omega) (by omega)
              rw [TE.out] at h
              rw [eX]
              exact h
            have TU : Hid (∀ W, Calls Tryd.prog 75 #[.int .u32 X, .int .i64 8] W fun e w' => e = .returned (.int .u32 Y) ∧ ∃ k, w' = W.drewN k) := fun W => by
              have h := Wd.turn9 X 8 W hX0 hX1
              rw [RE.out, ← eY] at h
              exact h
            have LY : Hid (∀ W : World, Calls Tryd.prog 74 #[.int .u32 Y] W fun e w' => e = .returned (.slice (some ⟨W.heap.size, 0, none⟩) 4 4) ∧ w' = W.alloc (.cells (bl 4 (cb (rotw fun a => f (4 * P + a)))).toArray 5)) := fun W => by
              rw [← YC.out]
              exact Wd.lay19_go Y W hY0 hY1
            clear eX eY hYt YC RE TE RT
            have hcp : ∀ d ty, (Builtin.copy_ #[22, 22] ty #[.slice (some ⟨wr.heap.size, 0, none⟩) 4 4, .slice (some ⟨W3.heap.size, 0, none⟩) 4 4]).run Tryd.prog ((W3.drewN d).alloc (.cells (bl 4 (cb (rotw fun a => f (4 * P + a)))).toArray 5)) = .ok (.int .i64 4) (((W3.drewN d).alloc (.cells (bl 4 (cb (rotw fun a => f (4 * P + a)))).toArray 5)).setCells wr.heap.size 0 (bl 4 (cb (rotw fun a => f (4 * P + a))))) := fun d ty =>
              copy4 _ wr.heap.size 0 4 W3.heap.size 0 4 4 ty 100 _ (rotw fun a => f (4 * P + a)) ((QT.out.drewN d).alloc _) (by rw [bl_length]; omega) (by omega) (fun i hi => by rw [Nat.zero_add]; exact (Blk.newAt (W3.drewN d) _ _ 5 W3.heap.size rfl rfl).cell i _ (bl_get 4 _ i hi))
            have hcp1 : ∀ d ty, (Builtin.copy_ #[22, 22] ty #[.slice (some ⟨wr.heap.size, 0, none⟩) 4 4, .slice (some ⟨W3.heap.size, 0, none⟩) 4 4]).run Tryd.prog ((W3.drew.drewN d).alloc (.cells (bl 4 (cb (rotw fun a => f (4 * P + a)))).toArray 5)) = .ok (.int .i64 4) (((W3.drew.drewN d).alloc (.cells (bl 4 (cb (rotw fun a => f (4 * P + a)))).toArray 5)).setCells wr.heap.size 0 (bl 4 (cb (rotw fun a => f (4 * P + a))))) := fun d ty =>
              copy4 _ wr.heap.size 0 4 W3.heap.size 0 4 4 ty 100 _ (rotw fun a => f (4 * P + a)) ((QT.out.drewN d).alloc _) (by rw [bl_length]; omega) (by omega) (fun i hi => by rw [Nat.zero_add]; exact (Blk.newAt (W3.drew.drewN d) _ _ 5 W3.heap.size rfl rfl).cell i _ (bl_get 4 _ i hi))
            have U4 : Hid (∀ d, Kp (fun x => x = wr.heap.size) W3 (((W3.drewN d).alloc (.cells (bl 4 (cb (rotw fun a => f (4 * P + a)))).toArray 5)).setCells wr.heap.size 0 (bl 4 (cb (rotw fun a => f (4 * P + a))))) ∧ Blk (((W3.drewN d).alloc (.cells (bl 4 (cb (rotw fun a => f (4 * P + a)))).toArray 5)).setCells wr.heap.size 0 (bl 4 (cb (rotw fun a => f (4 * P + a))))) wr.heap.size (bl 4 (cb (rotw fun a => f (4 * P + a)))) 100) := fun d => by
              refine ⟨((Kp.of_below _ (below_drewN W3 d)).trans (Kp.of_below _ (below_alloc _ _)) (fun _ _ e => e)).trans (Kp.setCells _ _ _) (fun _ _ e => e), ?_⟩
              have b := ((QT.out.drewN d).alloc (.cells (bl 4 (cb (rotw fun a => f (4 * P + a)))).toArray 5)).put 0 (bl 4 (cb (rotw fun a => f (4 * P + a))))
              rwa [put_all _ _ (by rw [bl_length, bl_length])] at b
            go_wp2_with fail
            go_region_law (first | (go_simp; go_at_call 76; refine (TK.out 1).mono ?_; rintro e w' ⟨rfl, rfl⟩) | (go_simp; go_at_call 75; refine (TU.out _).mono ?_; rintro e w' ⟨rfl, d, rfl⟩) | (go_simp; go_at_call 74; refine (LY.out _).mono ?_; rintro e w' ⟨rfl, rfl⟩))
            all_goals
              obtain ⟨k4, q4⟩ := U4.out (1 + d)
              generalize (((W3.drewN (1 + d)).alloc (.cells (bl 4 (cb (rotw fun a => f (4 * P + a)))).toArray 5)).setCells wr.heap.size 0 (bl 4 (cb (rotw fun a => f (4 * P + a))))) = W4 at *
              have QA := hid (QA.out.kept k4 (by omega))
              have QG := hid (QG.out.kept k4 (by omega))
              have QB := hid (QB.out.trans (k4.below QB.out.size (fun k hk e => by omega)))
              have Q4 := hid q4
              clear k4 q4 hcp hcp1 U4 TK TU LY QT
              go_wp2_with fail
              refine (putBox wr.heap.size 4 100 (rotw fun a => f (4 * P + a)) (fun a _ => HF.out _) (by omega) _ Q4.out).mono ?_
              rintro e W5 ⟨rfl, q5, k5⟩
              have QA := hid (QA.out.kept k5 (by omega))
              have QG := hid (QG.out.kept k5 (by omega))
              have QB := hid (QB.out.trans (k5.below QB.out.size (fun k hk e => by omega)))
              have Q5 := hid q5
              have x5 := q5.cell 0 _ (bl_get 4 _ 0 (by decide))
              have f5 := q5.frozen 0
              have hbx := box_lt (rotw (fun a => f (4 * P + a)) 0)
              change W5.cell? ⟨wr.heap.size, 0, none⟩ = some (.int .u8 ((box (rotw (fun a => f (4 * P + a)) 0) : Nat) : Int)) at x5
              obtain ⟨z, ez⟩ : ∃ z, box (rotw (fun a => f (4 * P + a)) 0) = z := ⟨_, rfl⟩
              rw [ez] at x5 hbx
              have EZ := hid ez
              have hpv := PV.out
              have HX := hid (xor8 z pv hbx hpv)
              clear q5 k5 ez
              go_wp2_with (go_at_call 77; refine (mul_walk pv 2 _ hpv (by decide)).mono ?_; rintro e w' ⟨rfl, hw'⟩; subst w')
              rw [HX.out]
              have k6 := Kp.setCell (w := W5) wr.heap.size 0 (.int .u8 ((z ^^^ pv : Nat) : Int))
              have QA := hid (QA.out.kept k6 (by omega))
              have QG := hid (QG.out.kept k6 (by omega))
              have QB := hid (QB.out.trans (k6.below QB.out.size (fun k hk e => by omega)))
              have QT := hid (show Blk (W5.setCell ⟨wr.heap.size, 0, none⟩ (.int .u8 ((z ^^^ pv : Nat) : Int))) wr.heap.size (bl 4 (cb (fun a => box (f (4 * P + (a + 1) % 4)) ^^^ (if a = 0 then pv else 0)))) 100 from by
                have b := Q5.out.set 0 (.int .u8 ((z ^^^ pv : Nat) : Int))
                rw [bl_set] at b
                rw [bl_congr 4 (cb (fun a => box (f (4 * P + (a + 1) % 4)) ^^^ (if a = 0 then pv else 0))) (fun i => if i = 0 then ((z ^^^ pv : Nat) : Int) else cb (fun i => box (rotw (fun a => f (4 * P + a)) i)) i) (fun i _ => by
                  by_cases e : i = 0
                  · subst e
                    show (((box (f (4 * P + (0 + 1) % 4)) ^^^ (if (0 : Nat) = 0 then pv else 0) : Nat)) : Int) = if (0 : Nat) = 0 then ((z ^^^ pv : Nat) : Int) else _
                    rw [if_pos rfl, if_pos rfl, ← EZ.out]; rfl
                  · show (((box (f (4 * P + (i + 1) % 4)) ^^^ (if i = 0 then pv else 0) : Nat)) : Int) = if i = 0 then ((z ^^^ pv : Nat) : Int) else _
                    rw [if_neg e, if_neg e, Nat.xor_zero]; rfl)]
                exact b)
              clear Q5 x5 f5
              generalize W5.setCell ⟨wr.heap.size, 0, none⟩ (.int .u8 ((z ^^^ pv : Nat) : Int)) = W6' at *
              have BTT : Hid (∀ a, a < 4 → (box (f (4 * P + (a + 1) % 4)) ^^^ (if a = 0 then pv else 0)) < 256) := fun a _ => xor_lt _ _ (box_lt _) (by split; exact PV.out; decide)
              have XC := hid (xor4 (w.heap.size + 1) (Q * 4) 4 wr.heap.size 0 4 (fun a => f (4 * Q + a)) (fun a => box (f (4 * P + (a + 1) % 4)) ^^^ (if a = 0 then pv else 0)) W6'.drew (fun a _ => HF.out _) BTT.out
                (fun a ha => by
                  have h1 := QG.out.cell (Q * 4 + a) _ (bl_get 240 _ _ (by omega))
                  rw [show cb (upto (4 * I) f) (Q * 4 + a) = ((f (4 * Q + a) : Nat) : Int) from congrArg Nat.cast (by rw [upto_get _ _ _ (by omega), Nat.mul_comm Q 4])] at h1
                  exact h1)
                (fun a ha => by rw [Nat.zero_add]; exact QT.out.cell a _ (bl_get 4 _ a ha)))
              have hcp : Hid (∀ W6, Blk W6 W6'.heap.size (bl 4 (cb (xr (fun a => f (4 * Q + a)) (fun a => box (f (4 * P + (a + 1) % 4)) ^^^ (if a = 0 then pv else 0))))) 5 → Below W6'.heap.size W6'.drew W6 → ∀ ty, (Builtin.copy_ #[22, 22] ty #[.slice (some ⟨w.heap.size + 1, I * 4, none⟩) 4 4, .slice (some ⟨W6'.heap.size, 0, none⟩) 4 4]).run Tryd.prog W6 = .ok (.int .i64 4) (W6.setCells (w.heap.size + 1) (I * 4) (bl 4 (cb (xr (fun a => f (4 * Q + a)) (fun a => box (f (4 * P + (a + 1) % 4)) ^^^ (if a = 0 then pv else 0))))))) := fun W6 n6 hb6 ty =>
                copy4 W6 (w.heap.size + 1) (I * 4) 4 W6'.heap.size 0 4 4 ty 101 _ (xr (fun a => f (4 * Q + a)) (fun a => box (f (4 * P + (a + 1) % 4)) ^^^ (if a = 0 then pv else 0))) ((QG.out.drewN 1).below hb6) (by rw [bl_length]; omega) (by omega) (fun i hi => by rw [Nat.zero_add]; exact n6.cell i _ (bl_get 4 _ i hi))
              go_wp2_with fail
              go_region_law (go_simp; go_at_call 78; refine XC.out.mono ?_; rintro e W6 ⟨rfl, n6, hb6⟩; have hcq := hcp.out W6 n6 hb6; have HB6 := hid hb6; clear n6 hb6)
              all_goals
                go_wp2_with fail
                have hz := HZ.out
                refine ⟨⟨I + 1, by omega, by omega, by go_num, ?_, ((QA.out.drewN 1).below HB6.out).kept (Kp.setCells _ _ _) (by omega), ?_, below_cells ((below_dr QB.out).trans (HB6.out.mono QB.out.size)) _ _ _ (by omega) ((below_dr QB.out).trans (HB6.out.mono QB.out.size)).size⟩, by simp [intOf]; omega⟩
                · rw [show I + 1 - 1 = I from rfl, PN.out]
                  rw [HA.out, if_pos rfl]
                · have b6 := ((QG.out.drewN 1).below HB6.out).put (I * 4) (bl 4 (cb (xr (fun a => f (4 * Q + a)) (fun a => box (f (4 * P + (a + 1) % 4)) ^^^ (if a = 0 then pv else 0)))))
                  rw [Nat.mul_comm I 4, wput f (wds j key (I + 1 - j)) I _ (by omega) (fun p hp => by rw [WN.out, if_neg (by omega)]) (fun a ha => by rw [WN.out, if_pos (by omega), show (4 * I + a) % 4 = a from by omega]; exact NX.out a)] at b6
                  rw [Nat.mul_comm I 4]
                  exact b6
          · have hnx := hid hA
            by_cases hB : j = 8 ∧ I % 8 = 4
            · have NX := hid (show ∀ a, nxt j I f a = f (4 * Q + a) ^^^ box (f (4 * P + a)) from fun a => by
                unfold nxt
                rw [if_neg hnx.out, if_pos hB, show I - j = Q from by have := HQ.out; omega, show I - 1 = P from by have := HP.out; omega])
              obtain ⟨R, eR⟩ : ∃ R, I % j = R := ⟨_, rfl⟩
              have hR4 : (R : Int) = 4 := by rw [← eR, hB.1, hB.2]; rfl
              rw [eR] at hR hA
              have ER := hid eR
              have hRi : ¬ (R : Int) = 0 := by omega
              have hd3 : decide ((R : Int) = 0) = false := decide_eq_false hRi
              have hd4 : ((R : Int) == 0) = false := by rw [beq_eq_false_iff_ne]; exact hRi
              have hj8 : (j : Int) = 8 := by omega
              have hd5 : ((j : Int) == 8) = true := by rw [beq_iff_eq]; exact hj8
              have hd6 : ((R : Int) == 4) = true := by rw [beq_iff_eq]; exact hR4
              have hd7 : decide ((j : Int) = 8) = true := decide_eq_true hj8
              have hd8 : decide ((R : Int) = 4) = true := decide_eq_true hR4
              clear eR hB hj8 hR4
              go_wp2_with fail
              refine (putBox wr.heap.size 4 100 (fun a => f (4 * P + a)) (fun a _ => HF.out _) (by omega) _ QT.out).mono ?_
              rintro e W4 ⟨rfl, q4, k4⟩
              have QT := hid q4
              have QA := hid (QA.out.kept k4 (by omega))
              have QG := hid (QG.out.kept k4 (by omega))
              have QB := hid (QB.out.trans (k4.below QB.out.size (fun k hk e => by omega)))
              clear q4 k4
              have XC := hid (xor4 (w.heap.size + 1) (Q * 4) 4 wr.heap.size 0 4 (fun a => f (4 * Q + a)) (fun a => box (f (4 * P + a))) W4.drew (fun a _ => HF.out _) (fun a _ => box_lt _)
                (fun a ha => by
                  have h1 := QG.out.cell (Q * 4 + a) _ (bl_get 240 _ _ (by omega))
                  rw [show cb (upto (4 * I) f) (Q * 4 + a) = ((f (4 * Q + a) : Nat) : Int) from congrArg Nat.cast (by rw [upto_get _ _ _ (by omega), Nat.mul_comm Q 4])] at h1
                  exact h1)
                (fun a ha => by rw [Nat.zero_add]; exact QT.out.cell a _ (bl_get 4 _ a ha)))
              have hcp : Hid (∀ W6, Blk W6 W4.heap.size (bl 4 (cb (xr (fun a => f (4 * Q + a)) (fun a => box (f (4 * P + a)))))) 5 → Below W4.heap.size W4.drew W6 → ∀ ty, (Builtin.copy_ #[22, 22] ty #[.slice (some ⟨w.heap.size + 1, I * 4, none⟩) 4 4, .slice (some ⟨W4.heap.size, 0, none⟩) 4 4]).run Tryd.prog W6 = .ok (.int .i64 4) (W6.setCells (w.heap.size + 1) (I * 4) (bl 4 (cb (xr (fun a => f (4 * Q + a)) (fun a => box (f (4 * P + a)))))))) := fun W6 n6 hb6 ty =>
                copy4 W6 (w.heap.size + 1) (I * 4) 4 W4.heap.size 0 4 4 ty 101 _ (xr (fun a => f (4 * Q + a)) (fun a => box (f (4 * P + a)))) ((QG.out.drewN 1).below hb6) (by rw [bl_length]; omega) (by omega) (fun i hi => by rw [Nat.zero_add]; exact n6.cell i _ (bl_get 4 _ i hi))
              go_wp2_with fail
              go_region_law (go_simp; go_at_call 78; refine XC.out.mono ?_; rintro e W6 ⟨rfl, n6, hb6⟩; have hcq := hcp.out W6 n6 hb6; have HB6 := hid hb6; clear n6 hb6)
              all_goals
                go_wp2_with fail
                have hz := HZ.out
                refine ⟨⟨I + 1, by omega, by omega, by go_num, ?_, ((QA.out.drewN 1).below HB6.out).kept (Kp.setCells _ _ _) (by omega), ?_, below_cells ((below_dr QB.out).trans (HB6.out.mono QB.out.size)) _ _ _ (by omega) ((below_dr QB.out).trans (HB6.out.mono QB.out.size)).size⟩, by simp [intOf]; omega⟩
                · rw [show I + 1 - 1 = I from rfl, PN.out]
                  rw [ER.out, if_neg hA]
                · have b6 := ((QG.out.drewN 1).below HB6.out).put (I * 4) (bl 4 (cb (xr (fun a => f (4 * Q + a)) (fun a => box (f (4 * P + a))))))
                  rw [Nat.mul_comm I 4, wput f (wds j key (I + 1 - j)) I _ (by omega) (fun p hp => by rw [WN.out, if_neg (by omega)]) (fun a ha => by rw [WN.out, if_pos (by omega), show (4 * I + a) % 4 = a from by omega]; exact NX.out a)] at b6
                  rw [Nat.mul_comm I 4]
                  exact b6
            · have NX := hid (show ∀ a, nxt j I f a = f (4 * Q + a) ^^^ f (4 * P + a) from fun a => by
                unfold nxt
                rw [if_neg hnx.out, if_neg hB, show I - j = Q from by have := HQ.out; omega, show I - 1 = P from by have := HP.out; omega])
              obtain ⟨R, eR⟩ : ∃ R, I % j = R := ⟨_, rfl⟩
              have hB4 : ¬ (j = 8 ∧ R = 4) := fun h => hB ⟨h.1, by rw [← h.1, eR]; exact h.2⟩
              rw [eR] at hR hA
              have ER := hid eR
              have HB4 := hid hB4
              clear eR hB hB4
              have hRi : ¬ (R : Int) = 0 := by omega
              have hd3 : decide ((R : Int) = 0) = false := decide_eq_false hRi
              have hd4 : ((R : Int) == 0) = false := by rw [beq_eq_false_iff_ne]; exact hRi
              by_cases h8 : j = 8
              · have h4 : ¬ (R : Int) = 4 := fun e => HB4.out ⟨h8, by omega⟩
                have hj8 : (j : Int) = 8 := by omega
                have hd5 : ((j : Int) == 8) = true := by rw [beq_iff_eq]; exact hj8
                have hd6 : ((R : Int) == 4) = false := by rw [beq_eq_false_iff_ne]; exact h4
                have hd7 : decide ((j : Int) = 8) = true := decide_eq_true hj8
                have hd8 : decide ((R : Int) = 4) = false := decide_eq_false h4
                clear h8 hj8
                have XC := hid (xor4 (w.heap.size + 1) (Q * 4) 4 wr.heap.size 0 4 (fun a => f (4 * Q + a)) (fun a => f (4 * P + a)) W3.drew (fun a _ => HF.out _) (fun a _ => HF.out _)
                  (fun a ha => by
                    have h1 := QG.out.cell (Q * 4 + a) _ (bl_get 240 _ _ (by omega))
                    rw [show cb (upto (4 * I) f) (Q * 4 + a) = ((f (4 * Q + a) : Nat) : Int) from congrArg Nat.cast (by rw [upto_get _ _ _ (by omega), Nat.mul_comm Q 4])] at h1
                    exact h1)
                  (fun a ha => by rw [Nat.zero_add]; exact QT.out.cell a _ (bl_get 4 _ a ha)))
                have hcp : Hid (∀ W6, Blk W6 W3.heap.size (bl 4 (cb (xr (fun a => f (4 * Q + a)) (fun a => f (4 * P + a))))) 5 → Below W3.heap.size W3.drew W6 → ∀ ty, (Builtin.copy_ #[22, 22] ty #[.slice (some ⟨w.heap.size + 1, I * 4, none⟩) 4 4, .slice (some ⟨W3.heap.size, 0, none⟩) 4 4]).run Tryd.prog W6 = .ok (.int .i64 4) (W6.setCells (w.heap.size + 1) (I * 4) (bl 4 (cb (xr (fun a => f (4 * Q + a)) (fun a => f (4 * P + a))))))) := fun W6 n6 hb6 ty =>
                  copy4 W6 (w.heap.size + 1) (I * 4) 4 W3.heap.size 0 4 4 ty 101 _ (xr (fun a => f (4 * Q + a)) (fun a => f (4 * P + a))) ((QG.out.drewN 1).below hb6) (by rw [bl_length]; omega) (by omega) (fun i hi => by rw [Nat.zero_add]; exact n6.cell i _ (bl_get 4 _ i hi))
                go_wp2_with fail
                go_region_law (go_simp; go_at_call 78; refine XC.out.mono ?_; rintro e W6 ⟨rfl, n6, hb6⟩; have hcq := hcp.out W6 n6 hb6; have HB6 := hid hb6; clear n6 hb6)
                all_goals
                  go_wp2_with fail
                  have hz := HZ.out
                  refine ⟨⟨I + 1, by omega, by omega, by go_num, ?_, ((QA.out.drewN 1).below HB6.out).kept (Kp.setCells _ _ _) (by omega), ?_, below_cells ((below_dr QB.out).trans (HB6.out.mono QB.out.size)) _ _ _ (by omega) ((below_dr QB.out).trans (HB6.out.mono QB.out.size)).size⟩, by simp [intOf]; omega⟩
                  · rw [show I + 1 - 1 = I from rfl, PN.out]
                    rw [ER.out, if_neg hA]
                  · have b6 := ((QG.out.drewN 1).below HB6.out).put (I * 4) (bl 4 (cb (xr (fun a => f (4 * Q + a)) (fun a => f (4 * P + a)))))
                    rw [Nat.mul_comm I 4, wput f (wds j key (I + 1 - j)) I _ (by omega) (fun p hp => by rw [WN.out, if_neg (by omega)]) (fun a ha => by rw [WN.out, if_pos (by omega), show (4 * I + a) % 4 = a from by omega]; exact NX.out a)] at b6
                    rw [Nat.mul_comm I 4]
                    exact b6
              · have hj8 : ¬ (j : Int) = 8 := by omega
                have hd5 : ((j : Int) == 8) = false := by rw [beq_eq_false_iff_ne]; exact hj8
                have hd7 : decide ((j : Int) = 8) = false := decide_eq_false hj8
                clear h8
                have XC := hid (xor4 (w.heap.size + 1) (Q * 4) 4 wr.heap.size 0 4 (fun a => f (4 * Q + a)) (fun a => f (4 * P + a)) W3.drew (fun a _ => HF.out _) (fun a _ => HF.out _)
                  (fun a ha => by
                    have h1 := QG.out.cell (Q * 4 + a) _ (bl_get 240 _ _ (by omega))
                    rw [show cb (upto (4 * I) f) (Q * 4 + a) = ((f (4 * Q + a) : Nat) : Int) from congrArg Nat.cast (by rw [upto_get _ _ _ (by omega), Nat.mul_comm Q 4])] at h1
                    exact h1)
                  (fun a ha => by rw [Nat.zero_add]; exact QT.out.cell a _ (bl_get 4 _ a ha)))
                have hcp : Hid (∀ W6, Blk W6 W3.heap.size (bl 4 (cb (xr (fun a => f (4 * Q + a)) (fun a => f (4 * P + a))))) 5 → Below W3.heap.size W3.drew W6 → ∀ ty, (Builtin.copy_ #[22, 22] ty #[.slice (some ⟨w.heap.size + 1, I * 4, none⟩) 4 4, .slice (some ⟨W3.heap.size, 0, none⟩) 4 4]).run Tryd.prog W6 = .ok (.int .i64 4) (W6.setCells (w.heap.size + 1) (I * 4) (bl 4 (cb (xr (fun a => f (4 * Q + a)) (fun a => f (4 * P + a))))))) := fun W6 n6 hb6 ty =>
                  copy4 W6 (w.heap.size + 1) (I * 4) 4 W3.heap.size 0 4 4 ty 101 _ (xr (fun a => f (4 * Q + a)) (fun a => f (4 * P + a))) ((QG.out.drewN 1).below hb6) (by rw [bl_length]; omega) (by omega) (fun i hi => by rw [Nat.zero_add]; exact n6.cell i _ (bl_get 4 _ i hi))
                go_wp2_with fail
                go_region_law (go_simp; go_at_call 78; refine XC.out.mono ?_; rintro e W6 ⟨rfl, n6, hb6⟩; have hcq := hcp.out W6 n6 hb6; have HB6 := hid hb6; clear n6 hb6)
                all_goals
                  go_wp2_with fail
                  have hz := HZ.out
                  refine ⟨⟨I + 1, by omega, by omega, by go_num, ?_, ((QA.out.drewN 1).below HB6.out).kept (Kp.setCells _ _ _) (by omega), ?_, below_cells ((below_dr QB.out).trans (HB6.out.mono QB.out.size)) _ _ _ (by omega) ((below_dr QB.out).trans (HB6.out.mono QB.out.size)).size⟩, by simp [intOf]; omega⟩
                  · rw [show I + 1 - 1 = I from rfl, PN.out]
                    rw [ER.out, if_neg hA]
                  · have b6 := ((QG.out.drewN 1).below HB6.out).put (I * 4) (bl 4 (cb (xr (fun a => f (4 * Q + a)) (fun a => f (4 * P + a)))))
                    rw [Nat.mul_comm I 4, wput f (wds j key (I + 1 - j)) I _ (by omega) (fun p hp => by rw [WN.out, if_neg (by omega)]) (fun a ha => by rw [WN.out, if_pos (by omega), show (4 * I + a) % 4 = a from by omega]; exact NX.out a)] at b6
                    rw [Nat.mul_comm I 4]
                    exact b6
        · have eI : I = 4 * (j + 7) := by omega
          have EI := hid eI
          have hd2 : decide ((I : Int) < 4 * ((j : Int) + 6 + 1)) = false := decide_eq_false (by omega)
          have hd9 : ¬ (I : Int) < 4 * ((j : Int) + 6 + 1) := by omega
          clear eI
          have RKE := hid (show bl 240 (cb (upto (4 * I) f)) = bl 240 (cb (rk j key)) from by
            rw [← EF.out, EI.out, show 4 * (j + 7) - j = 3 * j + 28 from by omega, show 4 * (4 * (j + 7)) = 16 * (j + 7) from by omega]; rfl)
          rw [RKE.out] at B1
          have l1 := LDw_run (range0 B1.out) (bl_length _ _)
          have s1 := SVw_run (cs := bl 240 (cb (rk j key))) (B0.out.there 0 240 (by rw [bl_length]; omega)) (bl_length _ _) (bl_one _ _)
          have b4 := B0.out.put 0 (bl 240 (cb (rk j key)))
          rw [put_all _ _ (by rw [bl_length, bl_length])] at b4
          have l2 := hid (LDw_run (range0 b4) (bl_length _ _))
          clear b4
          go_wp2_with fail
          have hz := HZ.out
          refine bodyPost_ret ?_ rfl ⟨rfl, below_cells HB.out _ _ _ (by omega) HB.out.size⟩
          exact results_cell1 Tryd.results55 rfl l2.out
end Go.Proofs.YtbgdjjfonmoemaaDoor.Ae
namespace Go.Proofs.YtbgdjjfonmoemaaDoor.Ae
open Go.ChangeShapes Go.WideShapes Go.ChangeAt Go.RowKit
open Go.Proofs.YtbgdjjfonmoemaaDoor.By Go.Proofs.YtbgdjjfonmoemaaDoor.Gf
open Go.Proofs.YtbgdjjfonmoemaaDoor.Kc (own_kept own_mono own8_type cat cat_bound wpList_cat below_grow)
theorem foldl_put' (vs : List Value) (cs : List Value) (o n : Nat) : List.foldl (fun (a : Array Value) (x : Value × Nat) => a.setIfInBounds (o + x.2) x.1) cs.toArray (vs.zipIdx n) = (put cs (o + n) vs).toArray := by
  induction vs generalizing cs n with
  | nil => rfl
  | cons v r ih =>
    simp only [List.zipIdx_cons, List.foldl_cons]
    rw [List.setIfInBounds_toArray, ih]
    rfl
theorem put_cons' (v : Value) (l vs : List Value) (o : Nat) : put (v :: l) (o + 1) vs = v :: put l o vs := by
  induction vs generalizing l o with
  | nil => rfl
  | cons u r ih => exact ih (l.set o u) (o + 1)
theorem info47 : (Tryd.prog.info? 100).map (fun i => (i.zero, i.size, i.bytes)) = some (some (.agg #[.int .u8 0, .int .u8 0, .int .u8 0, .int .u8 0]), 4, 4) := by kernel_rfl
theorem zero_aes : (Tryd.zeroCells126) = (.slice none 0 0 :: bl 256 (cb nul0)).toArray := by kernel_rfl
theorem built_aes (bs : Nat → Nat) : List.foldl (fun (a : Array Value) (x : Value × Nat) => a.setIfInBounds (1 + x.2) x.1) Tryd.zeroCells126 (bl 256 (cb bs)).zipIdx = (.slice none 0 0 :: bl 256 (cb bs)).toArray := by
  rw [zero_aes, foldl_put']
  show (put (Value.slice none 0 0 :: bl 256 (cb nul0)) (0 + 1) (bl 256 (cb bs))).toArray = _
  rw [put_cons', put_all _ _ (by rw [bl_length, bl_length])]
/-- A list of words of the call's own. -/
def OW (W : World) (B : Nat) (v : Value) (n : Nat) (f : Nat → Nat) : Prop := W.ownsRow B 100 4 v n (bl (4 * n) (cb f))
theorem OW.kept {W W' : World} {B n : Nat} {v : Value} {f : Nat → Nat} {S : Nat → Prop} (h : OW W B v n f) (hk : Kp S W W') (hne : ∀ g, v.ownBlock = some g → ¬ S g) : OW W' B v n f := by
  obtain ⟨hl, h | ⟨q, cap, cur, rfl, hb, hc, r⟩⟩ := h
  · exact ⟨hl, .inl h⟩
  · exact ⟨hl, .inr ⟨q, cap, cur, rfl, hb, by rw [hk.block q (Array.getElem?_eq_some_iff.1 hc).1 (hne q rfl)]; exact hc, r⟩⟩
theorem OW.below {W W' : World} {B n : Nat} {v : Value} {f : Nat → Nat} (h : OW W B v n f) (hb : Below W.heap.size W W') : OW W' B v n f := h.kept (Kp.of_below (fun _ => False) hb) (fun _ _ e => e)
theorem OW.base {W : World} {B n : Nat} {v : Value} {f : Nat → Nat} (h : OW W B v n f) : OW W 0 v n f := by
  obtain ⟨hl, h | ⟨q, cap, cur, rfl, hb, r⟩⟩ := h
  · exact ⟨hl, .inl h⟩
  · exact ⟨hl, .inr ⟨q, cap, cur, rfl, Nat.zero_le _, r⟩⟩
theorem OW.row {W : World} {B n : Nat} {v : Value} {f : Nat → Nat} (h : OW W B v n f) (k : Nat) (hk : v.ownBlock = some k) : B ≤ k ∧ k < W.heap.size ∧ ∃ cs, W.heap[k]? = some (.cells cs 100 (0, 0)) := by
  obtain ⟨hl, ⟨h, _⟩ | ⟨q, cap, cur, rfl, hb, hc, r⟩⟩ := h
  · rw [h] at hk; simp [Value.ownBlock] at hk
  · simp [Value.ownBlock] at hk; subst hk; exact ⟨hb, (Array.getElem?_eq_some_iff.1 hc).1, _, hc⟩
theorem OW.ne {W : World} {B n : Nat} {v : Value} {f : Nat → Nat} {g : Nat} {cs : List Value} {t : TypeId} (h : OW W B v n f) (hg : Blk W g cs t) (ht : t ≠ 100) : v.ownBlock ≠ some g := fun e => by
  obtain ⟨_, _, c, hc⟩ := h.row g e
  have := Option.some.inj (hc.symm.trans hg)
  simp only [Obj.cells.injEq] at this
  exact ht this.2.1.symm
theorem OW.slice {W : World} {B n : Nat} {v : Value} {f : Nat → Nat} (h : OW W B v n f) : ∃ a cap, v = .slice a n cap := by
  obtain ⟨hl, ⟨h, h0⟩ | ⟨q, cap, cur, rfl, r⟩⟩ := h
  · exact ⟨none, 0, by rw [h, h0]⟩
  · exact ⟨_, cap, rfl⟩
theorem OW.at {W : World} {B n : Nat} {v : Value} {f : Nat → Nat} (h : OW W B v n f) (hn : 0 < n) : ∃ q cap, v = .slice (some ⟨q, 0, none⟩) n cap ∧ n ≤ cap ∧ ∀ i, i < 4 * n → W.cell? ⟨q, i, none⟩ = some (.int .u8 ((f i : Nat) : Int)) := by
  have ho := h
  obtain ⟨hl, ⟨h, h0⟩ | ⟨q, cap, cur, rfl, hb, hc, h1, r⟩⟩ := h
  · omega
  · exact ⟨q, cap, rfl, h1, fun i hi => by rw [World.ownsRow.cellAt ho i (by omega)]; exact bl_get (4 * n) _ i hi⟩
theorem below_own {w W w1 : World} {B n : Nat} {v : Value} {f : Nat → Nat} (hb : Below B w W.drew) (hB : B ≤ W.heap.size) (ho : OW W B v n f) (hg : W.drew.grownBy w1 v.ownBlock) : Below B w w1 :=
  hb.grown hg hB (fun k hk => (ho.row k hk).1)
theorem grown_blk {W w1 : World} {B n : Nat} {v : Value} {f : Nat → Nat} {g : Nat} {cs : List Value} (hg : Blk W g cs 126) (ho : OW W B v n f) (hgr : W.drew.grownBy w1 v.ownBlock) : Blk w1 g cs 126 :=
  (hg.drewN 1).kept (Kp.of_grown hgr) (ho.ne hg (by decide))
/-- One word more. -/
theorem wpush (f g : Nat → Nat) (i : Nat) (x : Nat → Nat) (ho : ∀ p, p < 4 * i → g p = f p) (hx : ∀ j, j < 4 → g (4 * i + j) = x j) : bl (4 * i) (cb f) ++ bl 4 (cb x) = bl (4 * (i + 1)) (cb g) := by
  rw [bl_append]
  refine bl_congr _ _ _ (fun p hp => ?_)
  split
  · rename_i h
    show ((f p : Nat) : Int) = ((g p : Nat) : Int)
    rw [ho p h]
  · show ((x (p - 4 * i) : Nat) : Int) = ((g p : Nat) : Int)
    rw [← hx (p - 4 * i) (by omega), show 4 * i + (p - 4 * i) = p from by omega]
/-- The list is laid into the object. -/
theorem wset {w w1 : World} {ga n : Nat} {v0 v : Value} {f : Nat → Nat} (hb : Below w.heap.size w w1) (hg : w.heap.size ≤ ga) (G : Blk w1 ga (v0 :: bl 256 (cb box)) 126) (o : OW w1 w.heap.size v n f) :
    Blk (w1.setCell ⟨ga, 0, none⟩ v) ga (v :: bl 256 (cb box)) 126 ∧ OW (w1.setCell ⟨ga, 0, none⟩ v) w.heap.size v n f ∧ Below w.heap.size w (w1.setCell ⟨ga, 0, none⟩ v) :=
  ⟨G.set 0 v, o.kept (Kp.setCell ga 0 v) (fun g h e => o.ne G (by decide) (e ▸ h)), below_set hb _ _ _ hg hb.size⟩
/-- A word joined to another, as far as k. -/
def xo (ws t : Nat → Nat) (k i : Nat) : Nat := if i < k then t i ^^^ ws i else t i
theorem xo_zero (ws t : Nat → Nat) : bl 4 (cb (xo ws t 0)) = bl 4 (cb t) := bl_congr _ _ _ (fun i _ => by show ((xo ws t 0 i : Nat) : Int) = _; unfold xo; rw [if_neg (by omega)])
theorem xo_all (ws t : Nat → Nat) : bl 4 (cb (xo ws t 4)) = bl 4 (cb (fun a => t a ^^^ ws a)) := bl_congr _ _ _ (fun i hi => by show ((xo ws t 4 i : Nat) : Int) = _; unfold xo; rw [if_pos (by omega)])
theorem xo_at (ws t : Nat → Nat) (k : Nat) : xo ws t k k = t k := by unfold xo; rw [if_neg (by omega)]
theorem xo_set (ws t : Nat → Nat) (k : Nat) : (bl 4 (cb (xo ws t k))).set k (.int .u8 ((t k ^^^ ws k : Nat) : Int)) = bl 4 (cb (xo ws t (k + 1))) := by
  rw [bl_set]
  refine bl_congr _ _ _ (fun i _ => ?_)
  show (if i = k then _ else ((xo ws t k i : Nat) : Int)) = ((xo ws t (k + 1) i : Nat) : Int)
  unfold xo
  by_cases e : i = k
  · subst e; rw [if_pos rfl, if_pos (by omega)]
  · rw [if_neg e]
    by_cases h : i < k
    · rw [if_pos h, if_pos (by omega)]
    · rw [if_neg h, if_neg (by omega)]
end Go.Proofs.YtbgdjjfonmoemaaDoor.Ae
