/- What the library's division of a word pair by a word answers, and the program's product modulo a number. -/
import Derived.Test.YtpcnkiapbkmjbaaNsh
import Derived.Test.YtpcnkiapbkmjbaaNdp
import Derived.Test.YtpcnkiapbkmjbaaKmath
import Derived.WalkKit
import Derived.ProofKit
import Derived.Deep.QuietTactic
import Derived.BigQuiet
import Derived.WalkLawsBesides
import Derived.BigGuardPart
import Derived.Deep.CutBlock
namespace Go.Proofs.Ytpcnkiapbkmjbaa.Nv
open Go.ChangeShapes Go.WideShapes Go.ChangeAt Go.RowKit
theorem hidn {p : Prop} (h : p) : Hid p := h
theorem wN (a : Nat) (ha : a < 18446744073709551616) : IntKind.u64.wrap (a : Int) = (a : Int) := by rw [IntKind.wrap_u64]; omega
theorem mN (a : Nat) (ha : a < 18446744073709551616) : bits .and .u64 (a : Int) 4294967295 = ((a % 4294967296 : Nat) : Int) := by
  have h := bits_and_u64_nat a 4294967295 ha (by omega)
  rw [Nat.and_two_pow_sub_one_eq_mod a 32] at h
  exact h
theorem wP (a s : Nat) : IntKind.u64.wrap ((a : Int) * 2 ^ s) = ((a * 2 ^ s % 18446744073709551616 : Nat) : Int) := by
  rw [IntKind.wrap_u64]
  have : (a : Int) * 2 ^ s = ((a * 2 ^ s : Nat) : Int) := by simp
  rw [this]; omega
theorem tdN (a b : Nat) (ha : a < 18446744073709551616) : IntKind.u64.wrap ((a : Int).tdiv (b : Int)) = ((a / b : Nat) : Int) := by
  rw [show (a : Int).tdiv (b : Int) = ((a / b : Nat) : Int) from rfl]
  exact wN _ (Nat.lt_of_le_of_lt (Nat.div_le_self _ _) ha)
theorem wM (a b : Nat) : IntKind.u64.wrap ((a : Int) * (b : Int)) = ((a * b % 18446744073709551616 : Nat) : Int) := by
  rw [IntKind.wrap_u64, ← Int.natCast_mul]; omega
theorem wS (a b : Nat) (ha : a < 18446744073709551616) (hb : b < 18446744073709551616) : IntKind.u64.wrap ((a : Int) - (b : Int)) = (((a + 18446744073709551616 - b) % 18446744073709551616 : Nat) : Int) := by
  rw [IntKind.wrap_u64]; omega
theorem wA (a b : Nat) : IntKind.u64.wrap ((a : Int) + (b : Int)) = (((a + b) % 18446744073709551616 : Nat) : Int) := by
  rw [IntKind.wrap_u64]; omega
theorem joinN {hi lo s : Nat} (hs : s ≤ 63) (h1 : hi * 2 ^ s < 18446744073709551616) (hl : lo < 18446744073709551616) : bits .or .u64 ((hi * 2 ^ s : Nat) : Int) ((lo / 2 ^ (64 - s) : Nat) : Int) = ((hi * 2 ^ s + lo * 2 ^ s / 18446744073709551616 : Nat) : Int) := by
  rw [bits_or_u64_nat _ _ h1 (Nat.lt_of_le_of_lt (Nat.div_le_self _ _) hl)]
  have e := Wd.rot_div 64 s lo (by omega)
  have e' : lo * 2 ^ s / 18446744073709551616 = lo / 2 ^ (64 - s) := e
  rw [e', nat_join s _ _ (Nat.mul_mod_left _ _)]
  rw [Nat.div_lt_iff_lt_mul (Nat.two_pow_pos _), ← Nat.pow_add, show s + (64 - s) = 64 by omega]
  exact hl
set_option maxRecDepth 100000 in
set_option maxHeartbeats 4000000 in
theorem div_walk (hi lo y : Nat) (w : World) (hy0 : 0 < y) (hh : hi < y) (hy : y < 18446744073709551616) (hl : lo < 18446744073709551616) :
    Calls Try.prog 61 #[.int .u64 hi, .int .u64 lo, .int .u64 y] w fun e w' => ∃ q, e = .returned (.tuple #[q, .int .u64 (((hi * 18446744073709551616 + lo) % y : Nat) : Int)]) ∧ ∃ d, w' = w.drewN d := by
  obtain ⟨s, hs, hz, n1, n2⟩ := dd_norm hy0 hy
  go_enter Try.func61, Try.ntmps61
  by_cases h0 : hi = 0
  · subst h0
    go_wp2
    go_quiet (fail)
    go_wp2
    go_ret2
    have fin : (lo : Int) % (y : Int) = (((0 * 18446744073709551616 + lo) % y : Nat) : Int) := by simp
    rw [← fin]
    exact ⟨_, rfl, _, rfl⟩
  have h1 : hi * 2 ^ s < 18446744073709551616 := Nat.lt_of_le_of_lt (Nat.mul_le_mul_right _ (Nat.le_of_lt hh)) n2
  have W := hidn (dd_whole (hi := hi) (lo := lo) (y := y) (s := s))
  have hU := hidn (dd_u (hi := hi) (s := s) hh hl)
  have f1 := hidn (show IntKind.u64.wrap ((y : Int) * 2 ^ s) = ((y * 2 ^ s : Nat) : Int) by rw [wP, Nat.mod_eq_of_lt n2])
  have f4 := hidn (show IntKind.u64.wrap ((hi : Int) * 2 ^ s) = ((hi * 2 ^ s : Nat) : Int) by rw [wP, Nat.mod_eq_of_lt h1])
  have f5 := hidn (show (lo : Int) / 2 ^ (64 - s) = ((lo / 2 ^ (64 - s) : Nat) : Int) by simp)
  have f6 := hidn (joinN (lo := lo) hs h1 hl)
  have f7 := hidn (wP lo s)
  have g2 := hidn (show ∀ a : Nat, (a : Int) / 4294967296 = ((a / 4294967296 : Nat) : Int) from fun a => by omega)
  have hT : lo * 2 ^ s % 18446744073709551616 < 18446744073709551616 := Nat.mod_lt _ (by omega)
  go_upto_block 0 with (first | (go_at_call 64; refine (lzeros (y : Int) _ (by omega) (by omega)).mono ?_; rintro e w' ⟨rfl, rfl⟩; simp only [Int.toNat_natCast]; rw [hz]))
  · exfalso
    rename_i hd
    rw [f1.out] at hd
    have := n1
    generalize y * 2 ^ s = Y at *
    omega
  rw [f1.out, f4.out, f5.out, f6.out, f7.out]
  have hY := n2
  have hU' := hU.out
  have W' := W.out
  clear hU W f1 f4 f5 f6 f7 hz h0 h1
  generalize hi * 2 ^ s + lo * 2 ^ s / 18446744073709551616 = U at *
  generalize lo * 2 ^ s % 18446744073709551616 = T at *
  generalize y * 2 ^ s = Y at *
  rw [g2.out Y, g2.out T, mN Y n2, mN T hT]
  have q0 := hidn (di_start (u := U) (d := T / 4294967296) (g := Y / 4294967296) (e := Y % 4294967296) (by omega) (by omega) (by omega) (by omega) (by omega))
  rw [tdN U _ (by omega), wM, Nat.mod_eq_of_lt (show U / (Y / 4294967296) * (Y / 4294967296) < 18446744073709551616 from Nat.lt_of_le_of_lt (Nat.div_mul_le_self _ _) (by omega)), wS U _ (by omega) (Nat.lt_of_le_of_lt (Nat.div_mul_le_self _ _) (by omega))]
  rw [show (U + 18446744073709551616 - U / (Y / 4294967296) * (Y / 4294967296)) % 18446744073709551616 = U % (Y / 4294967296) from by
    have := Nat.div_add_mod U (Y / 4294967296)
    rw [Nat.mul_comm] at this
    have h2 := Nat.mod_lt U (show 0 < Y / 4294967296 by omega)
    generalize U / (Y / 4294967296) * (Y / 4294967296) = p at *
    generalize U % (Y / 4294967296) = m at *
    omega]
  generalize eg : Y / 4294967296 = g at *
  generalize ee : Y % 4294967296 = e at *
  generalize ed1 : T / 4294967296 = d1 at *
  generalize ed0 : T % 4294967296 = d0 at *
  have bg : 2147483648 ≤ g ∧ g < 4294967296 := by omega
  have be : e < 4294967296 := by omega
  have bd1 : d1 < 4294967296 := by omega
  have bd0 : d0 < 4294967296 := by omega
  have eY : Y = g * 4294967296 + e := by omega
  clear g2
  have A : Hid ((2147483648 ≤ g ∧ g < 4294967296) ∧ e < 4294967296 ∧ d1 < 4294967296 ∧ d0 < 4294967296 ∧ Y = g * 4294967296 + e ∧ U < Y ∧ Y < 18446744073709551616) := hidn ⟨bg, be, bd1, bd0, eY, hU', n2⟩
  have A2 : Hid (((U * 4294967296 + d1) % Y * 4294967296 + d0) % Y / 2 ^ s = (hi * 18446744073709551616 + lo) % y) := W'
  clear bg be bd1 bd0 eY eg ee ed1 ed0 n1 n2 hU' W' hT hY
  generalize hi * 2 ^ s = z1 at *
  generalize U / g = Q0 at *
  obtain ⟨Q2, eQ2⟩ : ∃ Q2, (U * 4294967296 + d1) / Y = Q2 := ⟨_, rfl⟩
  have eQ2 := hidn eQ2
  go_cut [15, 16] from 67 to 85 (fun a b W => a = .int .u64 (Q2 : Int) ∧ W = w')
  case first =>
    go_wp2_with fail
    go_loopw [15, 16] (fun a b wr => ∃ Q R : Nat, a = .int .u64 (Q : Int) ∧ b = .int .u64 (R : Int) ∧ DI U d1 g e Q R ∧ wr = w') (fun a _ _ => (intOf a).toNat)
    case atStart => exact ⟨_, _, rfl, rfl, q0.out, rfl⟩
    case round =>
      obtain ⟨Q, R, rfl, rfl, hD, rfl⟩ := hrel
      have HD := hidn hD
      clear hD
      have r2 := HD.out.rl
      have ql := HD.out.le
      obtain ⟨⟨A1, A1'⟩, A2e, A3, A4, A5, A6, A7⟩ := A.out
      have hu : U < g * 4294967296 + e := by rw [← A5]; exact A6
      have body : ∀ hc : 4294967296 ≤ Q ∨ 4294967296 * R + d1 < Q * e, 0 < Q := fun hc => Nat.lt_of_le_of_lt (Nat.zero_le _) (di_gt A1 A3 hu HD.out hc)
      have S := hidn (fun hc => di_next A1 A3 hu HD.out hc)
      have E := hidn (fun hc hr => di_last A1 A2e A3 hu HD.out hc hr)
      have Z := hidn (fun hc => di_stop A1 HD.out hc)
      have B := hidn body
      have C := hidn (And.intro A1' (And.intro r2 (And.intro ql A5)))
      have M := hidn (fun hq : Q < 4294967296 => show IntKind.u64.wrap ((Q : Int) * (e : Int)) = ((Q * e : Nat) : Int) by
        rw [wM, Nat.mod_eq_of_lt]
        exact Nat.lt_of_le_of_lt (Nat.mul_le_mul (show Q ≤ 4294967295 by omega) (show e ≤ 4294967295 by omega)) (by decide))
      have N := hidn (show IntKind.u64.wrap (IntKind.u64.wrap (4294967296 * (R : Int)) + (d1 : Int)) = ((4294967296 * R + d1 : Nat) : Int) by simp only [IntKind.wrap_u64]; omega)
      clear A1 A1' A2e A3 A4 A5 A6 A7 hu body r2 ql
      by_cases hq : (4294967296 : Int) ≤ (Q : Int)
      · go_upto_region 20 with fail
        have hc : 4294967296 ≤ Q ∨ 4294967296 * R + d1 < Q * e := .inl (by omega)
        have q1 := B.out hc
        obtain ⟨A1', r2, ql, A5⟩ := C.out
        obtain ⟨Q', e1⟩ : ∃ Q', Q - 1 = Q' := ⟨_, rfl⟩
        obtain ⟨R', e2⟩ : ∃ R', R + g = R' := ⟨_, rfl⟩
        rw [show IntKind.u64.wrap ((Q : Int) - 1) = (Q' : Int) by rw [IntKind.wrap_u64]; omega, show IntKind.u64.wrap ((R : Int) + (g : Int)) = (R' : Int) by rw [wA]; omega]
        by_cases hr : (4294967296 : Int) ≤ (R' : Int)
        · have E := hidn (show Q' = Q2 by rw [← e1, E.out hc (by omega), ← A5, eQ2.out])
          clear r2 q1 A1' ql e1 e2 hc A5
          go_wp2_with fail
          go_meet
          case rel => exact ⟨by rw [E.out], rfl⟩
        · have S := hidn (S.out hc (by omega))
          have q1 := hidn q1
          clear r2 A1' A5 ql hc
          have e1 := hidn e1
          have e2 := hidn e2
          go_wp2_with fail
          exact ⟨⟨Q', R', rfl, rfl, by rw [← e1.out, ← e2.out]; exact S.out, trivial⟩, by have := e1.out; have := q1.out; simp [intOf]; omega⟩
      · go_upto_region 18 with fail
        · rename_i hcc k a
          rw [N.out, M.out (by omega)] at hcc
          have hc : 4294967296 ≤ Q ∨ 4294967296 * R + d1 < Q * e := .inr (by exact Int.ofNat_lt.1 hcc)
          clear hcc
          have hc := hidn hc
          go_upto_region 20 with fail
          have hc := hc.out
          have q1 := B.out hc
          obtain ⟨A1', r2, ql, A5⟩ := C.out
          obtain ⟨Q', e1⟩ : ∃ Q', Q - 1 = Q' := ⟨_, rfl⟩
          obtain ⟨R', e2⟩ : ∃ R', R + g = R' := ⟨_, rfl⟩
          rw [show IntKind.u64.wrap ((Q : Int) - 1) = (Q' : Int) by rw [IntKind.wrap_u64]; omega, show IntKind.u64.wrap ((R : Int) + (g : Int)) = (R' : Int) by rw [wA]; omega]
          by_cases hr : (4294967296 : Int) ≤ (R' : Int)
          · have E := hidn (show Q' = Q2 by rw [← e1, E.out hc (by omega), ← A5, eQ2.out])
            clear r2 q1 A1' ql e1 e2 hc A5
            go_wp2_with fail
            go_meet
            case rel => exact ⟨by rw [E.out], rfl⟩
          · have S := hidn (S.out hc (by omega))
            have q1 := hidn q1
            clear r2 A1' A5 ql hc
            have e1 := hidn e1
            have e2 := hidn e2
            go_wp2_with fail
            exact ⟨⟨Q', R', rfl, rfl, by rw [← e1.out, ← e2.out]; exact S.out, trivial⟩, by have := e1.out; have := q1.out; simp [intOf]; omega⟩
        · rename_i hcc
          rw [N.out, M.out (by omega)] at hcc
          have hz := hidn (show Q = Q2 by rw [Z.out (Int.ofNat_le.1 hcc), ← C.out.2.2.2, eQ2.out])
          clear hcc
          go_meet
          case rel => exact ⟨by rw [hz.out], rfl⟩
  case rest =>
    obtain ⟨rfl, rfl⟩ := hcut
    go_upto_block 2 with fail
    · exfalso; have := A.out.1.1; omega
    obtain ⟨V, eV⟩ : ∃ V, (U * 4294967296 + d1) % Y = V := ⟨_, rfl⟩
    have A2 := A2.out
    rw [eV] at A2
    have rest := di_rest (u := U) (d := d1) (y := Y) (by have := A.out; omega) (by have := A.out; omega)
    have rest2 := di_rest (u := V) (d := d0) (y := Y) (by have := A.out; omega) (by have := A.out; omega)
    have lY : V < Y := by rw [← eV]; exact Nat.mod_lt _ (by have := A.out; omega)
    have mid : IntKind.u64.wrap (IntKind.u64.wrap (IntKind.u64.wrap ((U : Int) * 4294967296) + (d1 : Int)) - IntKind.u64.wrap ((Q2 : Int) * (Y : Int))) = (V : Int) := by
      rw [wM, show (U : Int) * 4294967296 = (U : Int) * ((4294967296 : Nat) : Int) from rfl, wM, wA, wS _ _ (Nat.mod_lt _ (by decide)) (Nat.mod_lt _ (by decide)), ← eQ2.out, rest, eV]
    rw [mid]
    have A3 : Hid ((2147483648 ≤ g ∧ g < 4294967296) ∧ e < 4294967296 ∧ d0 < 4294967296 ∧ True ∧ Y = g * 4294967296 + e ∧ V < Y ∧ Y < 18446744073709551616) := hidn (by have := A.out; exact ⟨this.1, this.2.1, this.2.2.2.1, trivial, this.2.2.2.2.1, lY, this.2.2.2.2.2.2⟩)
    clear rest mid q0 eQ2 eV
    have q0 := hidn (di_start (u := V) (d := d0) (g := g) (e := e) (by have := A3.out; omega) (by have := A3.out; omega) (by have := A3.out; omega) (by have := A3.out; omega) (by have := A3.out; omega))
    rw [tdN V g (by have := A3.out; omega), wM, Nat.mod_eq_of_lt (show V / g * g < 18446744073709551616 from Nat.lt_of_le_of_lt (Nat.div_mul_le_self _ _) (by have := A3.out; omega)), wS V _ (by have := A3.out; omega) (Nat.lt_of_le_of_lt (Nat.div_mul_le_self _ _) (by have := A3.out; omega))]
    rw [show (V + 18446744073709551616 - V / g * g) % 18446744073709551616 = V % g from by
      have := Nat.div_add_mod V g
      rw [Nat.mul_comm] at this
      have h2 := Nat.mod_lt V (show 0 < g by have := A3.out; omega)
      have h3 := A3.out
      generalize V / g * g = p at *
      generalize V % g = m at *
      omega]
    have A2 := hidn A2
    have rest2 := hidn rest2
    clear lY
    generalize V / g = Q1 at *
    obtain ⟨Q3, eQ3⟩ : ∃ Q3, (V * 4294967296 + d0) / Y = Q3 := ⟨_, rfl⟩
    have eQ3 := hidn eQ3
    go_cut [18, 16] from 102 to 120 (fun a b W => a = .int .u64 (Q3 : Int) ∧ W = wc)
    case first =>
      go_wp2_with fail
      go_loopw [18, 16] (fun a b wr => ∃ Q R : Nat, a = .int .u64 (Q : Int) ∧ b = .int .u64 (R : Int) ∧ DI V d0 g e Q R ∧ wr = wc) (fun a _ _ => (intOf a).toNat)
      case atStart => exact ⟨_, _, rfl, rfl, q0.out, rfl⟩
      case round =>
        obtain ⟨Q, R, rfl, rfl, hD, rfl⟩ := hrel
        have HD := hidn hD
        clear hD
        have r2 := HD.out.rl
        have ql := HD.out.le
        obtain ⟨⟨A1, A1'⟩, A2e, A3, A4, A5, A6, A7⟩ := A3.out
        have hu : V < g * 4294967296 + e := by rw [← A5]; exact A6
        have body : ∀ hc : 4294967296 ≤ Q ∨ 4294967296 * R + d0 < Q * e, 0 < Q := fun hc => Nat.lt_of_le_of_lt (Nat.zero_le _) (di_gt A1 A3 hu HD.out hc)
        have S := hidn (fun hc => di_next A1 A3 hu HD.out hc)
        have E := hidn (fun hc hr => di_last A1 A2e A3 hu HD.out hc hr)
        have Z := hidn (fun hc => di_stop A1 HD.out hc)
        have B := hidn body
        have C := hidn (And.intro A1' (And.intro r2 (And.intro ql A5)))
        have M := hidn (fun hq : Q < 4294967296 => show IntKind.u64.wrap ((Q : Int) * (e : Int)) = ((Q * e : Nat) : Int) by
          rw [wM, Nat.mod_eq_of_lt]
          exact Nat.lt_of_le_of_lt (Nat.mul_le_mul (show Q ≤ 4294967295 by omega) (show e ≤ 4294967295 by omega)) (by decide))
        have N := hidn (show IntKind.u64.wrap (IntKind.u64.wrap (4294967296 * (R : Int)) + (d0 : Int)) = ((4294967296 * R + d0 : Nat) : Int) by simp only [IntKind.wrap_u64]; omega)
        clear A1 A1' A2e A3 A4 A5 A6 A7 hu body r2 ql
        by_cases hq : (4294967296 : Int) ≤ (Q : Int)
        · go_upto_region 27 with fail
          have hc : 4294967296 ≤ Q ∨ 4294967296 * R + d0 < Q * e := .inl (by omega)
          have q1 := B.out hc
          obtain ⟨A1', r2, ql, A5⟩ := C.out
          obtain ⟨Q', e1⟩ : ∃ Q', Q - 1 = Q' := ⟨_, rfl⟩
          obtain ⟨R', e2⟩ : ∃ R', R + g = R' := ⟨_, rfl⟩
          rw [show IntKind.u64.wrap ((Q : Int) - 1) = (Q' : Int) by rw [IntKind.wrap_u64]; omega, show IntKind.u64.wrap ((R : Int) + (g : Int)) = (R' : Int) by rw [wA]; omega]
          by_cases hr : (4294967296 : Int) ≤ (R' : Int)
          · have E := hidn (show Q' = Q3 by rw [← e1, E.out hc (by omega), ← A5, eQ3.out])
            clear r2 q1 A1' ql e1 e2 hc A5
            go_wp2_with fail
            go_meet
            case rel => exact ⟨by rw [E.out], rfl⟩
          · have S := hidn (S.out hc (by omega))
            have q1 := hidn q1
            clear r2 A1' A5 ql hc
            have e1 := hidn e1
            have e2 := hidn e2
            go_wp2_with fail
            exact ⟨⟨Q', R', rfl, rfl, by rw [← e1.out, ← e2.out]; exact S.out, trivial⟩, by have := e1.out; have := q1.out; simp [intOf]; omega⟩
        · go_upto_region 25 with fail
          · rename_i hcc k a
            rw [N.out, M.out (by omega)] at hcc
            have hc : 4294967296 ≤ Q ∨ 4294967296 * R + d0 < Q * e := .inr (by exact Int.ofNat_lt.1 hcc)
            clear hcc
            have hc := hidn hc
            go_upto_region 27 with fail
            have hc := hc.out
            have q1 := B.out hc
            obtain ⟨A1', r2, ql, A5⟩ := C.out
            obtain ⟨Q', e1⟩ : ∃ Q', Q - 1 = Q' := ⟨_, rfl⟩
            obtain ⟨R', e2⟩ : ∃ R', R + g = R' := ⟨_, rfl⟩
            rw [show IntKind.u64.wrap ((Q : Int) - 1) = (Q' : Int) by rw [IntKind.wrap_u64]; omega, show IntKind.u64.wrap ((R : Int) + (g : Int)) = (R' : Int) by rw [wA]; omega]
            by_cases hr : (4294967296 : Int) ≤ (R' : Int)
            · have E := hidn (show Q' = Q3 by rw [← e1, E.out hc (by omega), ← A5, eQ3.out])
              clear r2 q1 A1' ql e1 e2 hc A5
              go_wp2_with fail
              go_meet
              case rel => exact ⟨by rw [E.out], rfl⟩
            · have S := hidn (S.out hc (by omega))
              have q1 := hidn q1
              clear r2 A1' A5 ql hc
              have e1 := hidn e1
              have e2 := hidn e2
              go_wp2_with fail
              exact ⟨⟨Q', R', rfl, rfl, by rw [← e1.out, ← e2.out]; exact S.out, trivial⟩, by have := e1.out; have := q1.out; simp [intOf]; omega⟩
          · rename_i hcc
            rw [N.out, M.out (by omega)] at hcc
            have hz := hidn (show Q = Q3 by rw [Z.out (Int.ofNat_le.1 hcc), ← C.out.2.2.2, eQ3.out])
            clear hcc
            go_meet
            case rel => exact ⟨by rw [hz.out], rfl⟩
    case rest =>
      obtain ⟨rfl, rfl⟩ := hcut
      go_wp2_with fail
      go_ret2
      have fin : IntKind.u64.wrap (IntKind.u64.wrap (IntKind.u64.wrap ((V : Int) * 4294967296) + (d0 : Int)) - IntKind.u64.wrap ((Q3 : Int) * (Y : Int))) / 2 ^ s = (((hi * 18446744073709551616 + lo) % y : Nat) : Int) := by
        rw [wM, show (V : Int) * 4294967296 = (V : Int) * ((4294967296 : Nat) : Int) from rfl, wM, wA, wS _ _ (Nat.mod_lt _ (by decide)) (Nat.mod_lt _ (by decide)), ← eQ3.out, rest2.out, show ((2 : Int) ^ s) = ((2 ^ s : Nat) : Int) by simp, ← Int.natCast_ediv, A2.out]
      rw [← fin]
      exact ⟨_, rfl, 0, rfl⟩
end Go.Proofs.Ytpcnkiapbkmjbaa.Nv
