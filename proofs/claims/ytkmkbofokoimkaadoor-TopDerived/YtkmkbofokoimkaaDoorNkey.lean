/- PBKDF2: Key and Block of the program. -/
import Derived.Test.YtkmkbofokoimkaaDoorNcl
import Derived.Test.YtkmkbofokoimkaaDoorZmt
namespace Go.Proofs.YtkmkbofokoimkaaDoor.Dg
open Go.ChangeShapes Go.WideShapes Go.ChangeAt Go.RowKit
open Go.Proofs.YtkmkbofokoimkaaDoor.By
open Go.Proofs.YtkmkbofokoimkaaDoor.Sh (Blk size_alloc)
/-- Codes, numbers of bytes, ledgers, by any count and any number. -/
def cok (c : Int) : Prop := 1 ≤ c ∧ c ≤ 1048576
def kok (c n : Int) : Prop := (1 ≤ c ∧ c ≤ 1048576) ∧ 0 ≤ n ∧ n ≤ 16320
def iok (c i : Int) : Prop := (1 ≤ c ∧ c ≤ 1048576) ∧ 1 ≤ i ∧ i ≤ 4294967295
instance (c : Int) : Decidable (cok c) := by unfold cok; infer_instance
instance (c n : Int) : Decidable (kok c n) := by unfold kok; infer_instance
instance (c n : Int) : Decidable (iok c n) := by unfold iok; infer_instance
def rc (c : Int) : Int := if cok c then 0 else 10
def kc (c n : Int) : Int := if cok c then (if n < 0 then 2 else if 16320 < n then 9 else 0) else 10
def ic (c i : Int) : Int := if cok c then (if 1 ≤ i ∧ i ≤ 4294967295 then 0 else 2) else 10
def kN (c n : Int) : Nat := if kok c n then n.toNat else 0
def iN (a : Bool) (c i : Int) : Nat := if iok c i then sz a else 0
def kl (a : Bool) (L : List Rn) (np ns : Nat) (c n : Int) : List Rn := if kok c n then del a L np ns c.toNat (qp a n.toNat) else L
def il (a : Bool) (L : List Rn) (np ns : Nat) (c i : Int) : List Rn := if iok c i then del a L np ns c.toNat 1 else L
theorem prefN (al : Int) (h1 : ¬ al = 1) (h2 : ¬ al = 2) (c : Int) (w : World) : Calls Tryd.prog 17 #[.int .u8 al, .int .i64 c] w fun e w' => e = .returned (.int .i64 4) ∧ w' = w := by
  have e1 : (al != 1) = true := by simp [h1]
  have e2 : (al != 2) = true := by simp [h2]
  clear h1 h2
  go_enter Tryd.func17, Tryd.ntmps17
  go_wp2
  go_ret
  exact ⟨rfl, rfl⟩
theorem prefA (a : Bool) (c : Int) (w : World) : Calls Tryd.prog 17 #[.int .u8 (an a), .int .i64 c] w fun e w' => e = .returned (.int .i64 (rc c)) ∧ w' = w := by
  by_cases h : cok c
  · have h1 : ¬ c < 1 := by have := h.1; omega
    have h2 : ¬ 1048576 < c := by have := h.2; omega
    rw [show rc c = 0 from if_pos h]
    clear h
    cases a
    · show Calls Tryd.prog 17 #[.int .u8 1, .int .i64 c] w _
      go_enter Tryd.func17, Tryd.ntmps17
      go_wp2
      go_ret
      exact ⟨rfl, rfl⟩
    · show Calls Tryd.prog 17 #[.int .u8 2, .int .i64 c] w _
      go_enter Tryd.func17, Tryd.ntmps17
      go_wp2
      go_ret
      exact ⟨rfl, rfl⟩
  · rw [show rc c = 10 from if_neg h]
    by_cases h1 : c < 1
    · clear h
      cases a
      · show Calls Tryd.prog 17 #[.int .u8 1, .int .i64 c] w _
        go_enter Tryd.func17, Tryd.ntmps17
        go_wp2
        go_ret
        exact ⟨rfl, rfl⟩
      · show Calls Tryd.prog 17 #[.int .u8 2, .int .i64 c] w _
        go_enter Tryd.func17, Tryd.ntmps17
        go_wp2
        go_ret
        exact ⟨rfl, rfl⟩
    · have h2 : 1048576 < c := by unfold cok at h; omega
      clear h
      cases a
      · show Calls Tryd.prog 17 #[.int .u8 1, .int .i64 c] w _
        go_enter Tryd.func17, Tryd.ntmps17
        go_wp2
        go_ret
        exact ⟨rfl, rfl⟩
      · show Calls Tryd.prog 17 #[.int .u8 2, .int .i64 c] w _
        go_enter Tryd.func17, Tryd.ntmps17
        go_wp2
        go_ret
        exact ⟨rfl, rfl⟩
theorem pmake_c (c : Nat) (hc : c ≤ 100000) (w : World) : (Instr.makeSlice 22 (.int .i64 0) (.int .i64 c)).run Tryd.prog w = .ok (.slice (some ⟨w.heap.size, 0, none⟩) 0 c) (w.alloc (.cells (bl c (fun _ => 0)).toArray 5)) := by
  obtain ⟨i0, hi, hz0, hz1, hz2⟩ := info_parts info5
  have hr := run_make (P := Tryd.prog) w 22 5 i0 (.int .u8 0) Tryd.underlying22 hi hz0 .i64 .i64 0 c (by omega) (by omega) (by rw [hz2]; omega) (by omega)
  have e : madeCells #[Value.int .u8 0] c = (bl c (fun _ => 0)).toArray := by rw [← bl_zero]
  simp only [Int.toNat_natCast, hz1, Nat.mul_one, Value.cells, e] at hr
  exact hr
theorem psub_h (pa : Option Addr) (n cap d : Nat) (w : World) (hn : d ≤ n) (hc : n ≤ cap) : (Instr.sliceAt 22 (.slice pa n cap) none (some (.int .i64 d)) none).run Tryd.prog w = .ok (.slice pa d cap) w := by
  have h1 : (d : Int) ≤ cap := by omega
  simp [Instr.sliceAt, Instr.slice, go_sem, h1]
theorem pmin_d (ts : Array TypeId) (t : TypeId) (x y d : Nat) (h : min x y = d) (w : World) : (Builtin.min_ ts t #[.int .i64 x, .int .i64 y]).run Tryd.prog w = .ok (.int .i64 d) w := by
  rw [run_min_int2 w ts t .i64 .i64 x y]
  congr 2
  split <;> omega
def slen : Value → Nat | .slice _ n _ => n | _ => 0
section
variable {w : World} {S : Nat → Prop} {b Bl Bm Bs Bc Bi : Nat} {lo : Option Nat} {L : List Rn} {a : Bool} {K : Nat → Int} {ns c : Nat} {f : Nat → Int} {v : Value}
set_option maxHeartbeats 2000000 in
theorem pfirst_on (C : NX w S b Bl Bm Bs Bc Bi lo L a ns f v c) (h0 : NU w S b Bi lo L a K ns c 1 0 w) (N : Nat) (hN : N ≤ 16320) :
    Calls Tryd.prog 18 #[.func (.func 27) #[] #[.pointer (some ⟨Bl, 0, none⟩), .pointer (some ⟨Bm, 0, none⟩), .pointer (some ⟨Bs, 0, none⟩), .pointer (some ⟨Bc, 0, none⟩), .pointer (some ⟨Bi, 0, none⟩)], .int .i64 N] w fun e w' => ∃ u, e = .returned u ∧ By.Own w' w.heap.size u N (dk a K ns f c) ∧ NU w S b Bi lo L a K ns c 1 (qp a N) w' := by
  have HC := hid C
  have HQ := hid (qp_511 a N hN)
  have b1 := below_alloc w (.cells (bl N fun _ => 0).toArray 5)
  have G1 := hid (h0.below b1)
  have O1 := hid (own_congr (Sh.own_made w 0 N w.heap.size (fun _ => 0) (fun _ => by decide) (Nat.zero_le _) (by simp [maxLen]; omega) (Nat.le_refl _)) (dk_b a K ns f c) (fun i hi => by omega))
  have hmk := pmake_c N (by omega) w
  have hs1 := sz_pos a
  have hs2 := sz_le a
  obtain ⟨s, hs⟩ : ∃ s, sz a = s := ⟨_, rfl⟩
  rw [hs] at hs1 hs2
  have HS := hid hs
  clear C h0 b1 hs
  go_enter Tryd.func18, Tryd.ntmps18
  go_wp2_with fail
  obtain ⟨W1, hW1⟩ : ∃ y, w.alloc (.cells (bl N fun _ => 0).toArray 5) = y := ⟨_, rfl⟩
  rw [hW1] at G1 O1 ⊢
  clear hW1 hmk
  go_loopw [5] (fun ov wr => ∃ k ol : Nat, k ≤ qp a N ∧ min (k * s) N = ol ∧ NU w S b Bi lo L a K ns c 1 k wr ∧ By.Own wr w.heap.size ov ol (dk a K ns f c)) (fun ov _ => N - slen ov)
  case atStart => exact ⟨0, 0, Nat.zero_le _, by rw [Nat.zero_mul, Nat.zero_min], G1.out, O1.out⟩
  case round =>
    clear G1 O1
    obtain ⟨k, ol, hk, hol, hnu, ho⟩ := hrel
    have hol2 : ol ≤ N := by rw [← hol]; exact Nat.min_le_right _ _
    have HK := hid hk
    have HO := hid hol
    have OO := hid ho
    have NN := hid hnu
    obtain ⟨oa, oc, rfl⟩ := own_sl ho
    clear hk hol ho hnu
    by_cases hlt : ol < N
    · have hlt' : (ol : Int) < (N : Int) := by omega
      have ek := hid (show k * s = ol by have := HO.out; omega)
      have hkq := hid (qp_lt a N k (by rw [HS.out, ek.out]; exact hlt))
      go_wp2_with fail
      refine (NN.out.call HC.out (by have := HK.out; have := HQ.out; omega) (by have := HK.out; have := HQ.out; omega)).mono ?_
      rintro e W2 ⟨u, rfl, hu, hn2, own2, z2⟩
      rw [HS.out, Nat.add_comm 1 k] at hu
      have U2 := hid hu
      have N2 := hid hn2
      have O2 := hid (own2 OO.out)
      obtain ⟨ua, uc, rfl⟩ := own_sl hu
      have huc := rb_cap hu.reads
      obtain ⟨d, hd⟩ : ∃ d, min s (N - ol) = d := ⟨_, rfl⟩
      have hd1 : d ≤ s := by rw [← hd]; exact Nat.min_le_left _ _
      have hd2 : 0 < d := by omega
      have hmin : ∀ (ts : Array TypeId) (t : TypeId) (w : World), (Builtin.min_ ts t #[.int .i64 (s : Int), .int .i64 ((N : Int) - (ol : Int))]).run Tryd.prog w = .ok (.int .i64 d) w := fun ts t w => by
        have := pmin_d ts t s (N - ol) d hd w
        rw [show ((N - ol : Nat) : Int) = (N : Int) - (ol : Int) by omega] at this
        exact this
      have hsl := psub_h ua s uc d W2 hd1 huc
      have R2 := hid (hu.reads.first d hd1)
      have HD := hid hd
      have Z2 := hid (show w.heap.size ≤ W2.heap.size from hn2.kp.size)
      clear hu hn2 own2 z2 NN OO hd
      go_wp2_with (at_builtin; go_must (refine wpList_catS rfl _ _ rfl w.heap.size ol d _ _ _ _ rfl O2.out rfl R2.out (by omega) Z2.out ?_))
      intro ov' w3 ho3 hk3 hs3
      have N3 := hid (N2.out.grow O2.out hk3)
      have O3 := hid (show By.Own w3 w.heap.size ov' (ol + d) (dk a K ns f c) from own_congr ho3 (dk_b a K ns f c) (fun i hi => by
        have h := dk_cat a K ns f c k d (by rw [HS.out]; exact hd1) i (by rw [HS.out, ek.out]; exact hi)
        rw [HS.out, ek.out] at h
        exact h))
      obtain ⟨na, nc, rfl⟩ := own_sl O3.out
      clear ho3 hk3 hs3 hmin hsl O2 N2
      go_wp2_with fail
      refine ⟨⟨k + 1, ol + d, hkq.out, ?_, N3.out, O3.out⟩, by simp [slen]; omega⟩
      have h1 := ek.out
      have h2 := HD.out
      rw [Nat.succ_mul]
      omega
    · have hlt' : ¬ (ol : Int) < (N : Int) := by omega
      have e : ol = N := by omega
      have EQ := hid (show qp a N = k by
        apply Classical.byContradiction
        intro h
        have h1 := HK.out
        have h2 := qp_spec a N
        have h3 : (k + 1) * sz a ≤ qp a N * sz a := Nat.mul_le_mul_right _ (by have : ¬ qp a N = k := h; omega)
        have h4 : (k + 1) * sz a = k * sz a + sz a := Nat.succ_mul _ _
        have h5 := HO.out
        have h6 := HS.out
        rw [h6] at h2 h3 h4
        omega)
      have EO := hid e
      clear e
      go_wp2
      go_ret
      have o := OO.out
      have n := NN.out
      rw [EO.out] at o
      rw [← EQ.out] at n
      exact ⟨_, rfl, by rw [EO.out]; exact o, n⟩
end
end Go.Proofs.YtkmkbofokoimkaaDoor.Dg
