/- PBKDF2: Key and Block of the program. PBKDF2: Key and Block of the program, whatever is asked. PBKDF2's calls with a ledger among several, and without one. -/
import Derived.Test.YtjhhnajgfngbhaaGreatDoorZnc
import Derived.Test.YtjhhnajgfngbhaaGreatDoorZmt
import Derived.Test.YtjhhnajgfngbhaaGreatDoorZnb
namespace Go.Proofs.YtjhhnajgfngbhaaGreatDoor.Dg
open Go.ChangeShapes Go.WideShapes Go.ChangeAt Go.RowKit
open Go.Proofs.YtjhhnajgfngbhaaGreatDoor.By
open Go.Proofs.YtjhhnajgfngbhaaGreatDoor.Sh (Blk size_alloc)
/-- Codes, numbers of bytes, ledgers, by any count and any number. -/
def cok (c : Int) : Prop := 1 ≤ c ∧ c ≤ 1048576
def kok (c n : Int) : Prop := (1 ≤ c ∧ c ≤ 1048576) ∧ 0 ≤ n ∧ n ≤ 16320
def iok (c i : Int) : Prop := (1 ≤ c ∧ c ≤ 1048576) ∧ 1 ≤ i ∧ i ≤ 4294967295
instance (c : Int) : Decidable (cok c) := by unfold cok; infer_instance
instance (c n : Int) : Decidable (kok c n) := by unfold kok; infer_instance
instance (c n : Int) : Decidable (iok c n) := by unfold iok; infer_instance
def rc (c : Int) : Int := if cok c then 0 else 10
def kc (c n : Int) : Int := if cok c then (if n < 0 then 2 else if 16320 < n then 9 else 0) else 10
def ic (c i : Int) : Int := if cok c then (if 1 ≤ i ∧ i ≤ 4294967295 then 0 else 2) else 10
def kN (c n : Int) : Nat := if kok c n then n.toNat else 0
def iN (a : Bool) (c i : Int) : Nat := if iok c i then sz a else 0
def kl (a : Bool) (L : List Rn) (np ns : Nat) (c n : Int) : List Rn := if kok c n then del a L np ns c.toNat (qp a n.toNat) else L
def il (a : Bool) (L : List Rn) (np ns : Nat) (c i : Int) : List Rn := if iok c i then del a L np ns c.toNat 1 else L
theorem prefN (al : Int) (h1 : ¬ al = 1) (h2 : ¬ al = 2) (c : Int) (w : World) : Calls Tryz.prog 26 #[.int .u8 al, .int .i64 c] w fun e w' => e = .returned (.int .i64 4) ∧ w' = w := by
  have e1 : (al != 1) = true := by simp [h1]
  have e2 : (al != 2) = true := by simp [h2]
  clear h1 h2
  go_enter Tryz.func26, Tryz.ntmps26
  go_wp2
  go_ret
  exact ⟨rfl, rfl⟩
theorem prefA (a : Bool) (c : Int) (w : World) : Calls Tryz.prog 26 #[.int .u8 (an a), .int .i64 c] w fun e w' => e = .returned (.int .i64 (rc c)) ∧ w' = w := by
  by_cases h : cok c
  · have h1 : ¬ c < 1 := by have := h.1; omega
    have h2 : ¬ 1048576 < c := by have := h.2; omega
    rw [show rc c = 0 from if_pos h]
    clear h
    cases a
    · show Calls Tryz.prog 26 #[.int .u8 1, .int .i64 c] w _
      go_enter Tryz.func26, Tryz.ntmps26
      go_wp2
      go_ret
      exact ⟨rfl, rfl⟩
    · show Calls Tryz.prog 26 #[.int .u8 2, .int .i64 c] w _
      go_enter Tryz.func26, Tryz.ntmps26
      go_wp2
      go_ret
      exact ⟨rfl, rfl⟩
  · rw [show rc c = 10 from if_neg h]
    by_cases h1 : c < 1
    · clear h
      cases a
      · show Calls Tryz.prog 26 #[.int .u8 1, .int .i64 c] w _
        go_enter Tryz.func26, Tryz.ntmps26
        go_wp2
        go_ret
        exact ⟨rfl, rfl⟩
      · show Calls Tryz.prog 26 #[.int .u8 2, .int .i64 c] w _
        go_enter Tryz.func26, Tryz.ntmps26
        go_wp2
        go_ret
        exact ⟨rfl, rfl⟩
    · have h2 : 1048576 < c := by unfold cok at h; omega
      clear h
      cases a
      · show Calls Tryz.prog 26 #[.int .u8 1, .int .i64 c] w _
        go_enter Tryz.func26, Tryz.ntmps26
        go_wp2
        go_ret
        exact ⟨rfl, rfl⟩
      · show Calls Tryz.prog 26 #[.int .u8 2, .int .i64 c] w _
        go_enter Tryz.func26, Tryz.ntmps26
        go_wp2
        go_ret
        exact ⟨rfl, rfl⟩
theorem pmake_c (c : Nat) (hc : c ≤ 100000) (w : World) : (Instr.makeSlice 22 (.int .i64 0) (.int .i64 c)).run Tryz.prog w = .ok (.slice (some ⟨w.heap.size, 0, none⟩) 0 c) (w.alloc (.cells (bl c (fun _ => 0)).toArray 5)) := by
  obtain ⟨i0, hi, hz0, hz1, hz2⟩ := info_parts info5
  have hr := run_make (P := Tryz.prog) w 22 5 i0 (.int .u8 0) Tryz.underlying22 hi hz0 .i64 .i64 0 c (by omega) (by omega) (by rw [hz2]; omega) (by omega)
  have e : madeCells #[Value.int .u8 0] c = (bl c (fun _ => 0)).toArray := by rw [← bl_zero]
  simp only [Int.toNat_natCast, hz1, Nat.mul_one, Value.cells, e] at hr
  exact hr
theorem psub_h (pa : Option Addr) (n cap d : Nat) (w : World) (hn : d ≤ n) (hc : n ≤ cap) : (Instr.sliceAt 22 (.slice pa n cap) none (some (.int .i64 d)) none).run Tryz.prog w = .ok (.slice pa d cap) w := by
  have h1 : (d : Int) ≤ cap := by omega
  simp [Instr.sliceAt, Instr.slice, go_sem, h1]
theorem pmin_d (ts : Array TypeId) (t : TypeId) (x y d : Nat) (h : min x y = d) (w : World) : (Builtin.min_ ts t #[.int .i64 x, .int .i64 y]).run Tryz.prog w = .ok (.int .i64 d) w := by
  rw [run_min_int2 w ts t .i64 .i64 x y]
  congr 2
  split <;> omega
def slen : Value → Nat | .slice _ n _ => n | _ => 0
section
variable {w : World} {S : Nat → Prop} {b Bl Bm Bs Bc Bi : Nat} {lo : Option Nat} {L : List Rn} {a : Bool} {K : Nat → Int} {ns c : Nat} {f : Nat → Int} {v : Value}
set_option maxHeartbeats 2000000 in
theorem pfirst_on (C : NX w S b Bl Bm Bs Bc Bi lo L a ns f v c) (h0 : NU w S b Bi lo L a K ns c 1 0 w) (N : Nat) (hN : N ≤ 16320) :
    Calls Tryz.prog 28 #[.func (.func 39) #[] #[.pointer (some ⟨Bl, 0, none⟩), .pointer (some ⟨Bm, 0, none⟩), .pointer (some ⟨Bs, 0, none⟩), .pointer (some ⟨Bc, 0, none⟩), .pointer (some ⟨Bi, 0, none⟩)], .int .i64 N] w fun e w' => ∃ u, e = .returned u ∧ By.Own w' w.heap.size u N (dk a K ns f c) ∧ NU w S b Bi lo L a K ns c 1 (qp a N) w' := by
  have HC := hid C
  have HQ := hid (qp_511 a N hN)
  have b1 := below_alloc w (.cells (bl N fun _ => 0).toArray 5)
  have G1 := hid (h0.below b1)
  have O1 := hid (own_congr (Sh.own_made w 0 N w.heap.size (fun _ => 0) (fun _ => by decide) (Nat.zero_le _) (by simp [maxLen]; omega) (Nat.le_refl _)) (dk_b a K ns f c) (fun i hi => by omega))
  have hmk := pmake_c N (by omega) w
  have hs1 := sz_pos a
  have hs2 := sz_le a
  obtain ⟨s, hs⟩ : ∃ s, sz a = s := ⟨_, rfl⟩
  rw [hs] at hs1 hs2
  have HS := hid hs
  clear C h0 b1 hs
  go_enter Tryz.func28, Tryz.ntmps28
  go_wp2_with fail
  obtain ⟨W1, hW1⟩ : ∃ y, w.alloc (.cells (bl N fun _ => 0).toArray 5) = y := ⟨_, rfl⟩
  rw [hW1] at G1 O1 ⊢
  clear hW1 hmk
  go_loopw [5] (fun ov wr => ∃ k ol : Nat, k ≤ qp a N ∧ min (k * s) N = ol ∧ NU w S b Bi lo L a K ns c 1 k wr ∧ By.Own wr w.heap.size ov ol (dk a K ns f c)) (fun ov _ => N - slen ov)
  case atStart => exact ⟨0, 0, Nat.zero_le _, by rw [Nat.zero_mul, Nat.zero_min], G1.out, O1.out⟩
  case round =>
    clear G1 O1
    obtain ⟨k, ol, hk, hol, hnu, ho⟩ := hrel
    have hol2 : ol ≤ N := by rw [← hol]; exact Nat.min_le_right _ _
    have HK := hid hk
    have HO := hid hol
    have OO := hid ho
    have NN := hid hnu
    obtain ⟨oa, oc, rfl⟩ := own_sl ho
    clear hk hol ho hnu
    by_cases hlt : ol < N
    · have hlt' : (ol : Int) < (N : Int) := by omega
      have ek := hid (show k * s = ol by have := HO.out; omega)
      have hkq := hid (qp_lt a N k (by rw [HS.out, ek.out]; exact hlt))
      go_wp2_with fail
      refine (NN.out.call HC.out (by have := HK.out; have := HQ.out; omega) (by have := HK.out; have := HQ.out; omega)).mono ?_
      rintro e W2 ⟨u, rfl, hu, hn2, own2, z2⟩
      rw [HS.out, Nat.add_comm 1 k] at hu
      have U2 := hid hu
      have N2 := hid hn2
      have O2 := hid (own2 OO.out)
      obtain ⟨ua, uc, rfl⟩ := own_sl hu
      have huc := rb_cap hu.reads
      obtain ⟨d, hd⟩ : ∃ d, min s (N - ol) = d := ⟨_, rfl⟩
      have hd1 : d ≤ s := by rw [← hd]; exact Nat.min_le_left _ _
      have hd2 : 0 < d := by omega
      have hmin : ∀ (ts : Array TypeId) (t : TypeId) (w : World), (Builtin.min_ ts t #[.int .i64 (s : Int), .int .i64 ((N : Int) - (ol : Int))]).run Tryz.prog w = .ok (.int .i64 d) w := fun ts t w => by
        have := pmin_d ts t s (N - ol) d hd w
        rw [show ((N - ol : Nat) : Int) = (N : Int) - (ol : Int) by omega] at this
        exact this
      have hsl := psub_h ua s uc d W2 hd1 huc
      have R2 := hid (hu.reads.first d hd1)
      have HD := hid hd
      have Z2 := hid (show w.heap.size ≤ W2.heap.size from hn2.kp.size)
      clear hu hn2 own2 z2 NN OO hd
      go_wp2_with (at_builtin; go_must (refine wpList_catS rfl _ _ rfl w.heap.size ol d _ _ _ _ rfl O2.out rfl R2.out (by omega) Z2.out ?_))
      intro ov' w3 ho3 hk3 hs3
      have N3 := hid (N2.out.grow O2.out hk3)
      have O3 := hid (show By.Own w3 w.heap.size ov' (ol + d) (dk a K ns f c) from own_congr ho3 (dk_b a K ns f c) (fun i hi => by
        have h := dk_cat a K ns f c k d (by rw [HS.out]; exact hd1) i (by rw [HS.out, ek.out]; exact hi)
        rw [HS.out, ek.out] at h
        exact h))
      obtain ⟨na, nc, rfl⟩ := own_sl O3.out
      clear ho3 hk3 hs3 hmin hsl O2 N2
      go_wp2_with fail
      refine ⟨⟨k + 1, ol + d, hkq.out, ?_, N3.out, O3.out⟩, by simp [slen]; omega⟩
      have h1 := ek.out
      have h2 := HD.out
      rw [Nat.succ_mul]
      omega
    · have hlt' : ¬ (ol : Int) < (N : Int) := by omega
      have e : ol = N := by omega
      have EQ := hid (show qp a N = k by
        apply Classical.byContradiction
        intro h
        have h1 := HK.out
        have h2 := qp_spec a N
        have h3 : (k + 1) * sz a ≤ qp a N * sz a := Nat.mul_le_mul_right _ (by have : ¬ qp a N = k := h; omega)
        have h4 : (k + 1) * sz a = k * sz a + sz a := Nat.succ_mul _ _
        have h5 := HO.out
        have h6 := HS.out
        rw [h6] at h2 h3 h4
        omega)
      have EO := hid e
      clear e
      go_wp2
      go_ret
      have o := OO.out
      have n := NN.out
      rw [EO.out] at o
      rw [← EQ.out] at n
      exact ⟨_, rfl, by rw [EO.out]; exact o, n⟩
end
end Go.Proofs.YtjhhnajgfngbhaaGreatDoor.Dg
namespace Go.Proofs.YtjhhnajgfngbhaaGreatDoor.Dg
open Go.ChangeShapes Go.WideShapes Go.ChangeAt Go.RowKit
open Go.Proofs.YtjhhnajgfngbhaaGreatDoor.By
open Go.Proofs.YtjhhnajgfngbhaaGreatDoor.Sh (Blk size_alloc)
theorem pkeyN (al : Int) (h1 : ¬ al = 1) (h2 : ¬ al = 2) (lp v v2 : Value) (c n : Int) (w : World) : Calls Tryz.prog 10 #[lp, .int .u8 al, v, v2, .int .i64 c, .int .i64 n] w fun e w' => e = .returned (.tuple #[.slice none 0 0, .int .i64 4]) ∧ w' = w := by
  go_enter Tryz.func10, Tryz.ntmps10
  go_wp2_with fail
  refine (prefN al h1 h2 c _).mono ?_
  rintro e w1 ⟨rfl, hw⟩
  subst w1
  go_wp2
  go_ret2
  exact ⟨rfl, rfl⟩
theorem pblkN (al : Int) (h1 : ¬ al = 1) (h2 : ¬ al = 2) (lp v v2 : Value) (c n : Int) (w : World) : Calls Tryz.prog 19 #[lp, .int .u8 al, v, v2, .int .i64 c, .int .i64 n] w fun e w' => e = .returned (.tuple #[.slice none 0 0, .int .i64 4]) ∧ w' = w := by
  go_enter Tryz.func19, Tryz.ntmps19
  go_wp2_with fail
  refine (prefN al h1 h2 c _).mono ?_
  rintro e w1 ⟨rfl, hw⟩
  subst w1
  go_wp2
  go_ret2
  exact ⟨rfl, rfl⟩
theorem pkey_bad (a : Bool) (c n : Int) (hn : ¬ kok c n) (lp v v2 : Value) (w : World) : Calls Tryz.prog 10 #[lp, .int .u8 (an a), v, v2, .int .i64 c, .int .i64 n] w fun e w' => e = .returned (.tuple #[.slice none 0 0, .int .i64 (kc c n)]) ∧ w' = w := by
  have R := hid (fun w => prefA a c w)
  by_cases hc : cok c
  · rw [show rc c = 0 from if_pos hc] at R
    rw [show kc c n = if n < 0 then 2 else if 16320 < n then 9 else 0 from if_pos hc]
    by_cases h1 : n < 0
    · rw [if_pos h1]
      clear hn hc
      go_enter Tryz.func10, Tryz.ntmps10
      go_wp2_with fail
      refine (R.out _).mono ?_
      rintro e w1 ⟨rfl, hw⟩
      subst w1
      go_wp2
      go_ret2
      exact ⟨rfl, rfl⟩
    · have h2 : 16320 < n := by unfold kok at hn; unfold cok at hc; omega
      rw [if_neg h1, if_pos h2]
      clear hn hc
      go_enter Tryz.func10, Tryz.ntmps10
      go_wp2_with fail
      refine (R.out _).mono ?_
      rintro e w1 ⟨rfl, hw⟩
      subst w1
      go_wp2
      go_ret2
      exact ⟨rfl, rfl⟩
  · rw [show rc c = 10 from if_neg hc] at R
    rw [show kc c n = 10 from if_neg hc]
    clear hn hc
    go_enter Tryz.func10, Tryz.ntmps10
    go_wp2_with fail
    refine (R.out _).mono ?_
    rintro e w1 ⟨rfl, hw⟩
    subst w1
    go_wp2
    go_ret2
    exact ⟨rfl, rfl⟩
theorem pblk_bad (a : Bool) (c i : Int) (hn : ¬ iok c i) (hi : -9223372036854775808 ≤ i ∧ i ≤ 9223372036854775807) (lp v v2 : Value) (w : World) : Calls Tryz.prog 19 #[lp, .int .u8 (an a), v, v2, .int .i64 c, .int .i64 i] w fun e w' => e = .returned (.tuple #[.slice none 0 0, .int .i64 (ic c i)]) ∧ w' = w := by
  have R := hid (fun w => prefA a c w)
  by_cases hc : cok c
  · rw [show rc c = 0 from if_pos hc] at R
    rw [show ic c i = 2 from by unfold ic; rw [if_pos hc, if_neg (by unfold iok at hn; unfold cok at hc; omega)]]
    by_cases h1 : i < 1
    · clear hn hc hi
      go_enter Tryz.func19, Tryz.ntmps19
      go_wp2_with fail
      refine (R.out _).mono ?_
      rintro e w1 ⟨rfl, hw⟩
      subst w1
      go_wp2
      go_ret2
      exact ⟨rfl, rfl⟩
    · have h2 : 4294967295 < i := by unfold iok at hn; unfold cok at hc; omega
      have h3 : i ≤ 9223372036854775807 := hi.2
      clear hn hc hi
      have h4 : i % 18446744073709551616 = i := by omega
      have h5 : IntKind.u64.wrap i = i := by rw [IntKind.wrap_u64]; exact h4
      go_enter Tryz.func19, Tryz.ntmps19
      go_wp2_with fail
      refine (R.out _).mono ?_
      rintro e w1 ⟨rfl, hw⟩
      subst w1
      go_wp2
      go_ret2
      exact ⟨rfl, rfl⟩
  · rw [show rc c = 10 from if_neg hc] at R
    rw [show ic c i = 10 from if_neg hc]
    clear hn hc hi
    go_enter Tryz.func19, Tryz.ntmps19
    go_wp2_with fail
    refine (R.out _).mono ?_
    rintro e w1 ⟨rfl, hw⟩
    subst w1
    go_wp2
    go_ret2
    exact ⟨rfl, rfl⟩
/-- The closure, made behind New. -/
theorem nx_made {w w1 w2 : World} {S : Nat → Prop} {a : Bool} {K : Nat → Int} {b b0 b1 b2 ns sc c i : Nat} {sa : Option Addr} {f : Nat → Int} {lo : Option Nat} {L : List Rn} (hk : KT w) (hS0 : ¬ S 0) (hS1 : ¬ S 1) (hr2 : ∀ w', Kp S w w' → By.RB w' (.slice sa ns sc) ns f)
    (h1 : IsMk w1 b ⟨a, K, 0, nof, b0, b1, b2⟩) (h2 : w.heap.size ≤ b) (h3 : LG S w w1 lo L) (h4 : Kp S w w1) (hp : Pos L) (hroom : tq L ≤ 1900000000) (hns : ns ≤ 1000000) (hc1 : 1 ≤ c) (hc2 : c ≤ 1048576) (hi : i < 4294967296)
    (hw : w2 = ((((w1.alloc (.cells #[lpv lo] 26)).alloc (.cells #[.pointer (some ⟨b, 0, none⟩)] 54)).alloc (.cells #[.slice sa ns sc] 22)).alloc (.cells #[.int .i64 c] 3)).alloc (.cells #[.int .u32 i] 60)) :
    ∃ T : Nat → Prop, NX w2 T b w1.heap.size (w1.heap.size + 1) (w1.heap.size + 1 + 1) (w1.heap.size + 1 + 1 + 1) (w1.heap.size + 1 + 1 + 1 + 1) lo L a ns f (.slice sa ns sc) c ∧ NU w2 T b (w1.heap.size + 1 + 1 + 1 + 1) lo L a K ns c i 0 w2 ∧ Kp S w w2 ∧ (∀ {w'}, Kp T w2 w' → Kp S w w') ∧ (∀ {w' L'}, LG T w2 w' lo L' → LG S w w' lo L') := by
  have hb2 : Below w1.heap.size w1 w2 := by rw [hw]; exact below_next (below_next (below_next (below_next (below_alloc w1 _) (below_alloc _ _)) (below_alloc _ _)) (below_alloc _ _)) (below_alloc _ _)
  have bl : Blk w2 w1.heap.size [lpv lo] 26 := by rw [hw]; exact ((((Sh.Blk.new w1 [lpv lo] _).below (below_alloc _ _)).below (below_alloc _ _)).below (below_alloc _ _)).below (below_alloc _ _)
  have bm : Blk w2 (w1.heap.size + 1) [.pointer (some ⟨b, 0, none⟩)] 54 := by
    have h := (((Sh.Blk.new (w1.alloc (.cells #[lpv lo] 26)) [.pointer (some ⟨b, 0, none⟩)] 54).below (below_alloc _ (.cells #[.slice sa ns sc] 22))).below (below_alloc _ (.cells #[.int .i64 c] 3))).below (below_alloc _ (.cells #[.int .u32 i] 60))
    rw [size_alloc] at h
    rw [hw]; exact h
  have bs : Blk w2 (w1.heap.size + 1 + 1) [.slice sa ns sc] 22 := by
    have h := ((Sh.Blk.new ((w1.alloc (.cells #[lpv lo] 26)).alloc (.cells #[.pointer (some ⟨b, 0, none⟩)] 54)) [.slice sa ns sc] 22).below (below_alloc _ (.cells #[.int .i64 c] 3))).below (below_alloc _ (.cells #[.int .u32 i] 60))
    rw [size_alloc, size_alloc] at h
    rw [hw]; exact h
  have bc : Blk w2 (w1.heap.size + 1 + 1 + 1) [.int .i64 c] 3 := by
    have h := (Sh.Blk.new (((w1.alloc (.cells #[lpv lo] 26)).alloc (.cells #[.pointer (some ⟨b, 0, none⟩)] 54)).alloc (.cells #[.slice sa ns sc] 22)) [.int .i64 c] 3).below (below_alloc _ (.cells #[.int .u32 i] 60))
    rw [size_alloc, size_alloc, size_alloc] at h
    rw [hw]; exact h
  have bi : Blk w2 (w1.heap.size + 1 + 1 + 1 + 1) [.int .u32 i] 60 := by
    have h := Sh.Blk.new ((((w1.alloc (.cells #[lpv lo] 26)).alloc (.cells #[.pointer (some ⟨b, 0, none⟩)] 54)).alloc (.cells #[.slice sa ns sc] 22)).alloc (.cells #[.int .i64 c] 3)) [.int .u32 i] 60
    rw [size_alloc, size_alloc, size_alloc, size_alloc] at h
    rw [hw]; exact h
  clear hw
  have hbl := h1.here.lt
  have K2 := h4.trans (Kp.of_below S hb2) (fun _ _ e => e)
  have L2 := h3.below hb2
  have M2 := h1.below hb2
  have z12 := hb2.size
  obtain ⟨T, l1, hT, hTS⟩ := LG.own L2
  have hlt := hk.lt
  have hkz := K2.size
  have hz1 := h4.size
  have hsz2 := bi.lt
  have sub : ∀ i, i < w.heap.size → (T i ∨ i = b ∨ i = w1.heap.size + 1 + 1 + 1 + 1) → S i := fun i hi e => e.elim (hTS i hi) (fun e => e.elim (fun e => by omega) (fun e => by omega))
  refine ⟨fun j => T j ∨ j = b ∨ j = w1.heap.size + 1 + 1 + 1 + 1, ?_, ?_, K2, fun hk' => K2.trans hk' sub, fun hl' => lg_back hl' L2 hkz sub⟩
  · refine ⟨hk.kept K2 hS0 hS1, fun e => hS0 (sub 0 (by omega) e), fun e => hS1 (sub 1 (by omega) e), .inr (.inl rfl), .inr (.inr rfl), by omega, bl, bm, bs, bc, fun e => ?_, fun e => ?_, fun e => ?_, fun e => ?_, fun w' hk' => hr2 w' (K2.trans hk' sub), hp, hroom, hns, hc1, hc2⟩
    · exact e.elim (hT.no bl (by decide)) (fun e => by omega)
    · exact e.elim (hT.no bm (by decide)) (fun e => by omega)
    · exact e.elim (hT.no bs (by decide)) (fun e => by omega)
    · exact e.elim (hT.no bc (by decide)) (fun e => by omega)
  · refine ⟨Kp.refl _ _, ⟨_, M2, rfl, rfl⟩, ?_, ?_⟩
    · rw [Nat.zero_mul, evs_zero]
      exact Sg.LG.start l1 (Below.refl _ _) (fun i _ e => .inl e)
    · rw [show (i + 0) % 4294967296 = i from by omega]
      exact bi
set_option maxHeartbeats 2000000 in
theorem pkey_ok (a : Bool) (np ns c N : Nat) (v v2 : Value) (g f : Nat → Int) (lo : Option Nat) (L : List Rn) (S : Nat → Prop) (w : World) (hk : KT w) (hS0 : ¬ S 0) (hS1 : ¬ S 1) (hl : LG S w w lo L) (hp : Pos L)
    (hr : ∀ w', Kp S w w' → By.RB w' v np g) (hr2 : ∀ w', Kp S w w' → By.RB w' v2 ns f) (hn : np ≤ 140737488353328) (hns : ns ≤ 1000000) (hc1 : 1 ≤ c) (hc2 : c ≤ 1048576) (hN : N ≤ 16320) (hroom : tq L ≤ 1800000000) :
    Calls Tryz.prog 10 #[lpv lo, .int .u8 (an a), v, v2, .int .i64 c, .int .i64 N] w fun e w' => ∃ u, e = .returned (.tuple #[u, .int .i64 0]) ∧ By.Own w' w.heap.size u N (dk a (kb a np g) ns f c) ∧ LG S w w' lo (del a L np ns c (qp a N)) ∧ Kp S w w' := by
  have HC := hid (newM a np v g lo L S w hk hS0 hS1 hl hp hr hn (by omega))
  have HK := hid hk
  have HS0 := hid hS0
  have HS1 := hid hS1
  have HP := hid hp
  have HR2 := hid hr2
  have HF := hid (kev_fine a hp np hn (by omega))
  have R := hid (fun w => prefA a c w)
  rw [show rc (c : Int) = 0 from if_pos (by unfold cok; omega)] at R
  have hN' : (N : Int) ≤ 16320 := by omega
  obtain ⟨-, xa, xc', rfl, -⟩ := hr2 w (Kp.refl _ _)
  clear hk hS0 hS1 hl hp hr hr2
  go_enter Tryz.func10, Tryz.ntmps10
  go_wp2_with fail
  refine (R.out _).mono ?_
  rintro e w1 ⟨rfl, hw⟩
  subst w1
  go_wp2_with fail
  refine HC.out.mono ?_
  rintro e w1 ⟨b, b0, b1, b2, rfl, h1, h2, h3, h4⟩
  have NXM := hid (fun w2 hw => nx_made (w2 := w2) (sa := xa) (ns := ns) (sc := xc') (c := c) (i := 1) HK.out HS0.out HS1.out HR2.out h1 h2.1 h3 h4 (kevP a HP.out np) (by have := HF.out; omega) hns hc1 hc2 (by omega) hw)
  have H4 := hid h4.size
  clear h1 h2 h3 h4 HC
  go_wp2_with fail
  refine (from_on lo b ns xc' xa c 1 _).mono ?_
  rintro e w2 ⟨rfl, hw⟩
  obtain ⟨T, X, U, K2, kT, lT⟩ := NXM.out w2 hw
  have HX := hid X
  have HU := hid U
  have KT' := hid (show ∀ w', Kp T w2 w' → Kp S w w' from fun w' h => kT h)
  have LT' := hid (show ∀ w' L', LG T w2 w' lo L' → LG S w w' lo L' from fun w' L' h => lT h)
  have KZ := hid K2.size
  clear hw X U K2 kT lT NXM
  go_wp2_with fail
  refine (pfirst_on HX.out HU.out N hN).mono ?_
  rintro e w3 ⟨u, rfl, hu, hnu⟩
  have U3 := hid (Sg.own_mono hu KZ.out)
  have L3 := hid (LT'.out _ _ hnu.lg)
  have K3 := hid (KT'.out _ hnu.kp)
  clear hu hnu
  go_wp2
  go_ret2
  exact ⟨u, rfl, U3.out, L3.out, K3.out⟩
set_option maxHeartbeats 2000000 in
theorem pblk_ok (a : Bool) (np ns c i : Nat) (v v2 : Value) (g f : Nat → Int) (lo : Option Nat) (L : List Rn) (S : Nat → Prop) (w : World) (hk : KT w) (hS0 : ¬ S 0) (hS1 : ¬ S 1) (hl : LG S w w lo L) (hp : Pos L)
    (hr : ∀ w', Kp S w w' → By.RB w' v np g) (hr2 : ∀ w', Kp S w w' → By.RB w' v2 ns f) (hn : np ≤ 140737488353328) (hns : ns ≤ 1000000) (hc1 : 1 ≤ c) (hc2 : c ≤ 1048576) (hi1 : 1 ≤ i) (hi2 : i ≤ 4294967295) (hroom : tq L ≤ 1800000000) :
    Calls Tryz.prog 19 #[lpv lo, .int .u8 (an a), v, v2, .int .i64 c, .int .i64 i] w fun e w' => ∃ u, e = .returned (.tuple #[u, .int .i64 0]) ∧ By.Own w' w.heap.size u (sz a) (xs a (kb a np g) ns f i (c - 1)) ∧ LG S w w' lo (del a L np ns c 1) ∧ Kp S w w' := by
  have HC := hid (newM a np v g lo L S w hk hS0 hS1 hl hp hr hn (by omega))
  have HK := hid hk
  have HS0 := hid hS0
  have HS1 := hid hS1
  have HP := hid hp
  have HR2 := hid hr2
  have HF := hid (kev_fine a hp np hn (by omega))
  have R := hid (fun w => prefA a c w)
  rw [show rc (c : Int) = 0 from if_pos (by unfold cok; omega)] at R
  have h1' : ¬ (i : Int) < 1 := by omega
  have h2' : (i : Int) ≤ 4294967295 := by omega
  have h5 : IntKind.u64.wrap (i : Int) = i := by rw [IntKind.wrap_u64]; omega
  have h6 : IntKind.u32.wrap (i : Int) = i := by rw [IntKind.wrap_u32]; omega
  have h7 : (i : Int) % 18446744073709551616 = i := by omega
  have h8 : (i : Int) % 4294967296 = i := by omega
  obtain ⟨-, xa, xc', rfl, -⟩ := hr2 w (Kp.refl _ _)
  clear hk hS0 hS1 hl hp hr hr2
  go_enter Tryz.func19, Tryz.ntmps19
  go_wp2_with fail
  refine (R.out _).mono ?_
  rintro e w1 ⟨rfl, hw⟩
  subst w1
  go_wp2_with fail
  refine HC.out.mono ?_
  rintro e w1 ⟨b, b0, b1, b2, rfl, h1, h2, h3, h4⟩
  have NXM := hid (fun w2 hw => nx_made (w2 := w2) (sa := xa) (ns := ns) (sc := xc') (c := c) (i := i) HK.out HS0.out HS1.out HR2.out h1 h2.1 h3 h4 (kevP a HP.out np) (by have := HF.out; omega) hns hc1 hc2 (by omega) hw)
  have H4 := hid h4.size
  clear h1 h2 h3 h4 HC
  go_wp2_with fail
  refine (from_on lo b ns xc' xa c i _).mono ?_
  rintro e w2 ⟨rfl, hw⟩
  obtain ⟨T, X, U, K2, kT, lT⟩ := NXM.out w2 hw
  have HX := hid X
  have HU := hid U
  have KT' := hid (show ∀ w', Kp T w2 w' → Kp S w w' from fun w' h => kT h)
  have LT' := hid (show ∀ w' L', LG T w2 w' lo L' → LG S w w' lo L' from fun w' L' h => lT h)
  have KZ := hid K2.size
  clear hw X U K2 kT lT NXM
  go_wp2_with fail
  refine (HU.out.call HX.out (by omega) (by omega)).mono ?_
  rintro e w3 ⟨u, rfl, hu, hnu, -, -⟩
  have U3 := hid (Sg.own_mono hu KZ.out)
  have L3 := hid (LT'.out _ _ hnu.lg)
  have K3 := hid (KT'.out _ hnu.kp)
  clear hu hnu
  go_wp2
  go_ret2
  exact ⟨u, rfl, U3.out, L3.out, K3.out⟩
theorem kc_ok {c n : Int} (h : kok c n) : kc c n = 0 := by
  unfold kok at h
  unfold kc
  rw [if_pos (by unfold cok; omega), if_neg (by omega), if_neg (by omega)]
theorem ic_ok {c i : Int} (h : iok c i) : ic c i = 0 := by
  unfold iok at h
  unfold ic
  rw [if_pos (by unfold cok; omega), if_pos (by omega)]
theorem pkey_any (a : Bool) (np ns : Nat) (c n : Int) (v v2 : Value) (g f : Nat → Int) (lo : Option Nat) (L : List Rn) (S : Nat → Prop) (w : World) (hk : KT w) (hS0 : ¬ S 0) (hS1 : ¬ S 1) (hl : LG S w w lo L) (hp : Pos L)
    (hr : ∀ w', Kp S w w' → By.RB w' v np g) (hr2 : ∀ w', Kp S w w' → By.RB w' v2 ns f) (hn : np ≤ 140737488353328) (hns : kok c n → ns ≤ 1000000) (hroom : tq L ≤ 1800000000) :
    Calls Tryz.prog 10 #[lpv lo, .int .u8 (an a), v, v2, .int .i64 c, .int .i64 n] w fun e w' => ∃ u, e = .returned (.tuple #[u, .int .i64 (kc c n)]) ∧ By.Own w' w.heap.size u (kN c n) (dk a (kb a np g) ns f c.toNat) ∧ LG S w w' lo (kl a L np ns c n) ∧ Kp S w w' := by
  by_cases h : kok c n
  · have hs := hns h
    rw [kc_ok h, show kN c n = n.toNat from if_pos h, show kl a L np ns c n = del a L np ns c.toNat (qp a n.toNat) from if_pos h]
    have h' := h
    unfold kok at h'
    obtain ⟨N, rfl⟩ : ∃ N : Nat, n = N := ⟨n.toNat, by omega⟩
    obtain ⟨C, rfl⟩ : ∃ C : Nat, c = C := ⟨c.toNat, by omega⟩
    exact pkey_ok a np ns C N v v2 g f lo L S w hk hS0 hS1 hl hp hr hr2 hn hs (by omega) (by omega) (by omega) hroom
  · refine (pkey_bad a c n h _ v v2 w).mono ?_
    rintro e w' ⟨rfl, rfl⟩
    exact ⟨_, rfl, by rw [show kN c n = 0 from if_neg h]; exact own_nil _ _ _ (dk_b _ _ _ _ _), by rw [show kl a L np ns c n = L from if_neg h]; exact hl, Kp.refl _ _⟩
theorem pblk_any (a : Bool) (np ns : Nat) (c i : Int) (hi : -9223372036854775808 ≤ i ∧ i ≤ 9223372036854775807) (v v2 : Value) (g f : Nat → Int) (lo : Option Nat) (L : List Rn) (S : Nat → Prop) (w : World) (hk : KT w) (hS0 : ¬ S 0) (hS1 : ¬ S 1) (hl : LG S w w lo L) (hp : Pos L)
    (hr : ∀ w', Kp S w w' → By.RB w' v np g) (hr2 : ∀ w', Kp S w w' → By.RB w' v2 ns f) (hn : np ≤ 140737488353328) (hns : iok c i → ns ≤ 1000000) (hroom : tq L ≤ 1800000000) :
    Calls Tryz.prog 19 #[lpv lo, .int .u8 (an a), v, v2, .int .i64 c, .int .i64 i] w fun e w' => ∃ u, e = .returned (.tuple #[u, .int .i64 (ic c i)]) ∧ By.Own w' w.heap.size u (iN a c i) (xs a (kb a np g) ns f i.toNat (c.toNat - 1)) ∧ LG S w w' lo (il a L np ns c i) ∧ Kp S w w' := by
  by_cases h : iok c i
  · have hs := hns h
    rw [ic_ok h, show iN a c i = sz a from if_pos h, show il a L np ns c i = del a L np ns c.toNat 1 from if_pos h]
    have h' := h
    unfold iok at h'
    obtain ⟨N, rfl⟩ : ∃ N : Nat, i = N := ⟨i.toNat, by omega⟩
    obtain ⟨C, rfl⟩ : ∃ C : Nat, c = C := ⟨c.toNat, by omega⟩
    exact pblk_ok a np ns C N v v2 g f lo L S w hk hS0 hS1 hl hp hr hr2 hn hs (by omega) (by omega) (by omega) (by omega) hroom
  · refine (pblk_bad a c i h hi _ v v2 w).mono ?_
    rintro e w' ⟨rfl, rfl⟩
    exact ⟨_, rfl, by rw [show iN a c i = 0 from if_neg h]; exact own_nil _ _ _ (xs_b _ _ _ _ _ _), by rw [show il a L np ns c i = L from if_neg h]; exact hl, Kp.refl _ _⟩
end Go.Proofs.YtjhhnajgfngbhaaGreatDoor.Dg
namespace Go.Proofs.YtjhhnajgfngbhaaGreatDoor.Dg
open Go.ChangeShapes Go.WideShapes Go.ChangeAt Go.RowKit
open Go.Proofs.YtjhhnajgfngbhaaGreatDoor.By
open Go.Proofs.YtjhhnajgfngbhaaGreatDoor.Sh (Blk size_alloc)
theorem klP (a : Bool) {L : List Rn} (h : Pos L) (np ns : Nat) (c n : Int) : Pos (kl a L np ns c n) := by unfold kl; split; exact delP a h _ _ _ _; exact h
theorem ilP (a : Bool) {L : List Rn} (h : Pos L) (np ns : Nat) (c n : Int) : Pos (il a L np ns c n) := by unfold il; split; exact delP a h _ _ _ _; exact h
theorem kl_fine (a : Bool) {L : List Rn} (h : Pos L) (np ns : Nat) (c n : Int) (hp : np ≤ 140737488353328) (hn : kok c n → ns ≤ 1000000) (hb : tq L ≤ 3000000000) : tq (kl a L np ns c n) ≤ tq L + 2100000 := by
  unfold kl
  split
  · rename_i hh
    have h' := hh
    unfold kok at h'
    exact del_fine a h np ns _ _ hb hp (hn hh) (by omega) (by have := qp_511 a n.toNat (by omega); omega)
  · omega
theorem il_fine (a : Bool) {L : List Rn} (h : Pos L) (np ns : Nat) (c n : Int) (hp : np ≤ 140737488353328) (hn : iok c n → ns ≤ 1000000) (hb : tq L ≤ 3000000000) : tq (il a L np ns c n) ≤ tq L + 2100000 := by
  unfold il
  split
  · rename_i hh
    have h' := hh
    unfold iok at h'
    exact del_fine a h np ns _ _ hb hp (hn hh) (by omega) (by omega)
  · omega
section
variable {w0 W : World} {B : Nat} {sts : List EM} {leds l1 l2 : List LE} {lb : Nat} {rv : Value} {L : List Rn}
theorem GM.pkey (h : GM w0 B sts (l1 ++ ⟨true, lb, rv, L⟩ :: l2) W) (a : Bool) (np ns : Nat) (c n : Int) (v v2 : Value) (g f : Nat → Int) (hr : ∀ w', Kp (SE ⟨true, lb, rv, L⟩) W w' → By.RB w' v np g) (hr2 : ∀ w', Kp (SE ⟨true, lb, rv, L⟩) W w' → By.RB w' v2 ns f) (hn : np ≤ 140737488353328) (hns : kok c n → ns ≤ 1000000) (hroom : tq L ≤ 1800000000) :
    Calls Tryz.prog 10 #[.pointer (some ⟨lb, 0, none⟩), .int .u8 (an a), v, v2, .int .i64 c, .int .i64 n] W fun e w' => ∃ u rv', e = .returned (.tuple #[u, .int .i64 (kc c n)]) ∧ By.Own w' W.heap.size u (kN c n) (dk a (kb a np g) ns f c.toNat) ∧ GM w0 B sts (l1 ++ ⟨true, lb, rv', kl a L np ns c n⟩ :: l2) w' ∧ Ko W w' := by
  refine (pkey_any a np ns c n v v2 g f (some lb) L (SE ⟨true, lb, rv, L⟩) W h.kt h.no.1 h.no.2 h.lg h.midL.1.pos hr hr2 hn hns hroom).mono ?_
  rintro e w' ⟨u, rfl, g1, g2, g3⟩
  obtain ⟨rv', k1, k2⟩ := h.goL g2 g3
  exact ⟨u, rv', rfl, g1, k1, k2⟩
theorem GM.pblk (h : GM w0 B sts (l1 ++ ⟨true, lb, rv, L⟩ :: l2) W) (a : Bool) (np ns : Nat) (c i : Int) (hi : -9223372036854775808 ≤ i ∧ i ≤ 9223372036854775807) (v v2 : Value) (g f : Nat → Int) (hr : ∀ w', Kp (SE ⟨true, lb, rv, L⟩) W w' → By.RB w' v np g) (hr2 : ∀ w', Kp (SE ⟨true, lb, rv, L⟩) W w' → By.RB w' v2 ns f) (hn : np ≤ 140737488353328) (hns : iok c i → ns ≤ 1000000) (hroom : tq L ≤ 1800000000) :
    Calls Tryz.prog 19 #[.pointer (some ⟨lb, 0, none⟩), .int .u8 (an a), v, v2, .int .i64 c, .int .i64 i] W fun e w' => ∃ u rv', e = .returned (.tuple #[u, .int .i64 (ic c i)]) ∧ By.Own w' W.heap.size u (iN a c i) (xs a (kb a np g) ns f i.toNat (c.toNat - 1)) ∧ GM w0 B sts (l1 ++ ⟨true, lb, rv', il a L np ns c i⟩ :: l2) w' ∧ Ko W w' := by
  refine (pblk_any a np ns c i hi v v2 g f (some lb) L (SE ⟨true, lb, rv, L⟩) W h.kt h.no.1 h.no.2 h.lg h.midL.1.pos hr hr2 hn hns hroom).mono ?_
  rintro e w' ⟨u, rfl, g1, g2, g3⟩
  obtain ⟨rv', k1, k2⟩ := h.goL g2 g3
  exact ⟨u, rv', rfl, g1, k1, k2⟩
end
/-- Without a ledger. -/
theorem pkey0 (a : Bool) (np ns : Nat) (c n : Int) (v v2 : Value) (g f : Nat → Int) (w : World) (hk : KT w) (hr : By.RB w v np g) (hr2 : By.RB w v2 ns f) (hn : np ≤ 140737488353328) (hns : kok c n → ns ≤ 1000000) :
    Calls Tryz.prog 10 #[.pointer none, .int .u8 (an a), v, v2, .int .i64 c, .int .i64 n] w fun e w' => ∃ u, e = .returned (.tuple #[u, .int .i64 (kc c n)]) ∧ By.Own w' w.heap.size u (kN c n) (dk a (kb a np g) ns f c.toNat) ∧ Below w.heap.size w w' := by
  refine (pkey_any a np ns c n v v2 g f none [] (fun _ => False) w hk id id trivial Sg.pos_nil' (fun w' hk' => hr.below (Sg.below_kp hk')) (fun w' hk' => hr2.below (Sg.below_kp hk')) hn hns (by decide)).mono ?_
  rintro e w' ⟨u, rfl, g1, -, g3⟩
  exact ⟨u, rfl, g1, Sg.below_kp g3⟩
theorem pkey0k (a : Bool) (np ns c N : Nat) (v v2 : Value) (g f : Nat → Int) (w : World) (hk : KT w) (hr : By.RB w v np g) (hr2 : By.RB w v2 ns f) (hn : np ≤ 140737488353328) (hns : ns ≤ 1000000) (hc1 : 1 ≤ c) (hc2 : c ≤ 1048576) (hN : N ≤ 16320) :
    Calls Tryz.prog 10 #[.pointer none, .int .u8 (an a), v, v2, .int .i64 c, .int .i64 N] w fun e w' => ∃ u, e = .returned (.tuple #[u, .int .i64 0]) ∧ By.Own w' w.heap.size u N (dk a (kb a np g) ns f c) ∧ Below w.heap.size w w' := by
  refine (pkey_ok a np ns c N v v2 g f none [] (fun _ => False) w hk id id trivial Sg.pos_nil' (fun w' hk' => hr.below (Sg.below_kp hk')) (fun w' hk' => hr2.below (Sg.below_kp hk')) hn hns hc1 hc2 hN (by decide)).mono ?_
  rintro e w' ⟨u, rfl, g1, -, g3⟩
  exact ⟨u, rfl, g1, Sg.below_kp g3⟩
theorem pblk0 (a : Bool) (np ns : Nat) (c i : Int) (hi : -9223372036854775808 ≤ i ∧ i ≤ 9223372036854775807) (v v2 : Value) (g f : Nat → Int) (w : World) (hk : KT w) (hr : By.RB w v np g) (hr2 : By.RB w v2 ns f) (hn : np ≤ 140737488353328) (hns : iok c i → ns ≤ 1000000) :
    Calls Tryz.prog 19 #[.pointer none, .int .u8 (an a), v, v2, .int .i64 c, .int .i64 i] w fun e w' => ∃ u, e = .returned (.tuple #[u, .int .i64 (ic c i)]) ∧ By.Own w' w.heap.size u (iN a c i) (xs a (kb a np g) ns f i.toNat (c.toNat - 1)) ∧ Below w.heap.size w w' := by
  refine (pblk_any a np ns c i hi v v2 g f none [] (fun _ => False) w hk id id trivial Sg.pos_nil' (fun w' hk' => hr.below (Sg.below_kp hk')) (fun w' hk' => hr2.below (Sg.below_kp hk')) hn hns (by decide)).mono ?_
  rintro e w' ⟨u, rfl, g1, -, g3⟩
  exact ⟨u, rfl, g1, Sg.below_kp g3⟩
theorem pblk0k (a : Bool) (np ns c i : Nat) (v v2 : Value) (g f : Nat → Int) (w : World) (hk : KT w) (hr : By.RB w v np g) (hr2 : By.RB w v2 ns f) (hn : np ≤ 140737488353328) (hns : ns ≤ 1000000) (hc1 : 1 ≤ c) (hc2 : c ≤ 1048576) (hi1 : 1 ≤ i) (hi2 : i ≤ 4294967295) :
    Calls Tryz.prog 19 #[.pointer none, .int .u8 (an a), v, v2, .int .i64 c, .int .i64 i] w fun e w' => ∃ u, e = .returned (.tuple #[u, .int .i64 0]) ∧ By.Own w' w.heap.size u (sz a) (xs a (kb a np g) ns f i (c - 1)) ∧ Below w.heap.size w w' := by
  refine (pblk_ok a np ns c i v v2 g f none [] (fun _ => False) w hk id id trivial Sg.pos_nil' (fun w' hk' => hr.below (Sg.below_kp hk')) (fun w' hk' => hr2.below (Sg.below_kp hk')) hn hns hc1 hc2 hi1 hi2 (by decide)).mono ?_
  rintro e w' ⟨u, rfl, g1, -, g3⟩
  exact ⟨u, rfl, g1, Sg.below_kp g3⟩
end Go.Proofs.YtjhhnajgfngbhaaGreatDoor.Dg
