/- What Equal and Find answer, and what they record, of the program and of the document. -/
import Derived.Test.YtpcnkiapbkmjbaaNlg
import Derived.Test.YtpcnkiapbkmjbaaBkit
namespace Go.Proofs.Ytpcnkiapbkmjbaa.Nv
open Go.ChangeShapes Go.WideShapes Go.ChangeAt Go.RowKit
open Go.Proofs.Ytpcnkiapbkmjbaa
theorem hidq {p : Prop} (h : p) : Hid p := h
theorem rb_byte {w : World} {v : Value} {n k : Nat} {f : Nat → Int} (h : By.RB w v n f) (hk : k < n) : ∃ b off cap, v = .slice (some ⟨b, off, none⟩) n cap ∧ w.cell? ⟨b, off + k, none⟩ = some (.int .u8 (f k)) := by
  obtain ⟨_, a, cap, rfl, _, _, hc⟩ := h
  rcases hc with ⟨h, _⟩ | ⟨b, off, rfl, hc⟩
  · omega
  · exact ⟨b, off, cap, rfl, hc k hk⟩
theorem rb_shape {w : World} {v : Value} {n : Nat} {f : Nat → Int} (h : By.RB w v n f) : ∃ a cap, v = .slice a n cap := by
  obtain ⟨_, a, cap, rfl, _⟩ := h
  exact ⟨a, cap, rfl⟩
/-- Do two rows of bytes agree at a place? -/
def eqp (f g : Nat → Int) (i : Nat) : Bool := decide (f i = g i)
def eqA (f g : Nat → Int) (n m : Nat) : Bool := decide (n = m ∧ far (eqp f g) n = n)
def eqL (f g : Nat → Int) (n m : Nat) : List Bool := if n = m then upTo true (eqp f g) n else []
/-- Is a byte another one than x? -/
def nep (f : Nat → Int) (x : Int) (i : Nat) : Bool := decide (¬ f i = x)
def fiA (f : Nat → Int) (x : Int) (n : Nat) : Int := if far (nep f x) n = n then -1 else (far (nep f x) n : Nat)
def fiL (f : Nat → Int) (x : Int) (n : Nat) : List Bool := upTo false (nep f x) n
theorem rep_len (L : List Rn) (h : Pos L) (hL : tot L ≤ 900000) (b : Bool) (k : Nat) (hk : k ≤ 200) : tot (nts L (List.replicate k b)) ≤ 1000000 := by
  have hl : (List.replicate k b).length = k := List.length_replicate
  have := nts_tot h (List.replicate k b) (by omega)
  omega
set_option maxRecDepth 100000 in
set_option maxHeartbeats 2000000 in
theorem eq_walk {w0 w : World} {lo : Option Nat} {rv0 : Value} {L : List Rn} (a b : Value) (n m : Nat) (f g : Nat → Int) (h : ST w0 lo rv0 w L) (hL : tot L ≤ 900000) (hn : n ≤ 200) (hm : m ≤ 200)
    (ha : ∀ w', Kp (lf lo rv0) w0 w' → By.RB w' a n f) (hb : ∀ w', Kp (lf lo rv0) w0 w' → By.RB w' b m g) :
    Calls Try.prog 13 #[lpv lo, a, b] w fun r w' => r = .returned (.bool (eqA f g n m)) ∧ ST w0 lo rv0 w' (nts L (eqL f g n m)) := by
  obtain ⟨a0, ca, rfl⟩ := rb_shape (ha w h.kp)
  obtain ⟨b0, cb, rfl⟩ := rb_shape (hb w h.kp)
  by_cases hnm : n = m
  · subst hnm
    have BR := hidq (fun (x : Bool) (W : World) (k : Nat) (hk : k ≤ 200) (hs : ST w0 lo rv0 W (nts L (List.replicate k true))) => branch_st x hs (rep_len L h.pos hL true k hk))
    have HA := hidq ha
    have HB := hidq hb
    have H0 := hidq h
    clear ha hb h hL
    go_enter Try.func13, Try.ntmps13
    go_wp2
    go_loopw [15] (fun i wr => ∃ k : Nat, k ≤ n ∧ i = .int .i64 k ∧ (∀ j, j < k → f j = g j) ∧ ST w0 lo rv0 wr (nts L (List.replicate k true))) (fun i _ => n - (intOf i).toNat)
    case atStart => exact ⟨0, Nat.zero_le _, rfl, fun j hj => absurd hj (Nat.not_lt_zero _), H0.out⟩
    case round =>
      obtain ⟨k, hk, rfl, hall, hs⟩ := hrel
      have HS := hidq hs
      have HALL := hidq hall
      clear hs hall
      by_cases hlt : k < n
      · obtain ⟨b1, o1, c1, e1, x1⟩ := rb_byte (HA.out _ HS.out.kp) hlt
        obtain ⟨b2, o2, c2, e2, x2⟩ := rb_byte (HB.out _ HS.out.kp) hlt
        simp only [Value.slice.injEq] at e1 e2
        obtain ⟨rfl, -, rfl⟩ := e1
        obtain ⟨rfl, -, rfl⟩ := e2
        have BQ := hidq (fun x W hs => BR.out x W k (by omega) hs)
        have Z1 := hidq (fun W (hk : Kp (lf lo rv0) w0 W) => show W.cell? ⟨b1, o1 + k, none⟩ = some (.int .u8 (f k)) from by
          obtain ⟨b, o, c, e, x⟩ := rb_byte (HA.out W hk) hlt
          simp only [Value.slice.injEq, Option.some.injEq, Addr.mk.injEq] at e
          obtain ⟨⟨rfl, rfl, -⟩, -, -⟩ := e
          exact x)
        have Z2 := hidq (fun W (hk : Kp (lf lo rv0) w0 W) => show W.cell? ⟨b2, o2 + k, none⟩ = some (.int .u8 (g k)) from by
          obtain ⟨b, o, c, e, x⟩ := rb_byte (HB.out W hk) hlt
          simp only [Value.slice.injEq, Option.some.injEq, Addr.mk.injEq] at e
          obtain ⟨⟨rfl, rfl, -⟩, -, -⟩ := e
          exact x)
        by_cases he : f k = g k
        · have HX : Hid (eqp f g k = true) := hidq (decide_eq_true he)
          rw [← he] at x2 Z2
          have HE := hidq he
          clear he
          go_wp2_with fail
          go_region_held3 (fun W => W.cell? ⟨b1, o1 + k, none⟩ = some (.int .u8 (f k)) ∧ W.cell? ⟨b2, o2 + k, none⟩ = some (.int .u8 (f k))) (go_keep) (first | (go_at_call 38; refine (BQ.out true _ (HS.out.below (below_drewN _ _))).mono ?_; rintro e w' ⟨rfl, hq⟩; have y1 := Z1.out w' hq.kp; have y2 := Z2.out w' hq.kp; have HQ := hidq hq; clear hq))
          go_wp2_with fail
          go_roundw
          case rel => exact ⟨k + 1, by omega, by go_num, fun j hj => by by_cases e : j = k; (subst e; exact HE.out); exact HALL.out j (by omega), by rw [← rep_snoc, nts_snoc]; first | exact HQ.out | exact HQ.out.below (below_drewN _ _)⟩
          case measure => simp [intOf]; omega
        · have HX : Hid (eqp f g k = false) := hidq (decide_eq_false he)
          have he1 : (f k == g k) = false := by simpa using he
          have EA : Hid (eqA f g n n = false) := hidq (by
            unfold eqA
            rw [far_at (p := eqp f g) hlt (fun j hj => decide_eq_true (HALL.out j hj)) HX.out]
            exact decide_eq_false (fun e => by omega))
          have EL : Hid (eqL f g n n = List.replicate k true ++ [false]) := hidq (by
            unfold eqL
            rw [if_pos rfl, upTo_at (p := eqp f g) hlt (fun j hj => decide_eq_true (HALL.out j hj)) HX.out]; rfl)
          go_wp2_with fail
          go_region_held3 (fun W => W.cell? ⟨b1, o1 + k, none⟩ = some (.int .u8 (f k)) ∧ W.cell? ⟨b2, o2 + k, none⟩ = some (.int .u8 (g k))) (go_keep) (first | (go_at_call 38; refine (BQ.out false _ (HS.out.below (below_drewN _ _))).mono ?_; rintro e w' ⟨rfl, hq⟩; have y1 := Z1.out w' hq.kp; have y2 := Z2.out w' hq.kp; have HQ := hidq hq; clear hq))
          go_wp2_with fail
          go_ret
          exact ⟨by rw [EA.out]; rfl, by rw [EL.out, nts_snoc]; first | exact HQ.out | exact HQ.out.below (below_drewN _ _)⟩
      · obtain rfl : k = n := by omega
        have EA : Hid (eqA f g k k = true) := hidq (by
          unfold eqA
          rw [far_all (p := eqp f g) (fun j hj => decide_eq_true (HALL.out j hj))]
          exact decide_eq_true ⟨rfl, rfl⟩)
        have EL : Hid (eqL f g k k = List.replicate k true) := hidq (by
          unfold eqL
          rw [if_pos rfl, upTo_all (p := eqp f g) (fun j hj => decide_eq_true (HALL.out j hj))])
        go_wp2
        go_ret
        exact ⟨by rw [EA.out]; rfl, by rw [EL.out]; exact HS.out⟩
  · have EA : Hid (eqA f g n m = false) := hidq (decide_eq_false (fun e => hnm e.1))
    have EL : Hid (eqL f g n m = []) := hidq (if_neg hnm)
    have H0 := hidq h
    have hnm2 : ¬ (n : Int) = (m : Int) := by omega
    clear ha hb h hL
    go_enter Try.func13, Try.ntmps13
    go_wp2
    go_ret
    exact ⟨by rw [EA.out]; rfl, by rw [EL.out]; exact H0.out⟩
set_option maxRecDepth 100000 in
set_option maxHeartbeats 2000000 in
theorem fi_walk {w0 w : World} {lo : Option Nat} {rv0 : Value} {L : List Rn} (a : Value) (x : Int) (n : Nat) (f : Nat → Int) (h : ST w0 lo rv0 w L) (hL : tot L ≤ 900000) (hn : n ≤ 200)
    (ha : ∀ w', Kp (lf lo rv0) w0 w' → By.RB w' a n f) :
    Calls Try.prog 19 #[lpv lo, a, .int .u8 x] w fun r w' => r = .returned (.int .i64 (fiA f x n)) ∧ ST w0 lo rv0 w' (nts L (fiL f x n)) := by
  obtain ⟨a0, ca, rfl⟩ := rb_shape (ha w h.kp)
  have BR := hidq (fun (y : Bool) (W : World) (k : Nat) (hk : k ≤ 200) (hs : ST w0 lo rv0 W (nts L (List.replicate k false))) => branch_st y hs (rep_len L h.pos hL false k hk))
  have HA := hidq ha
  have H0 := hidq h
  clear ha h hL
  go_enter Try.func19, Try.ntmps19
  go_wp2
  go_loopw [11] (fun i wr => ∃ k : Nat, k ≤ n ∧ i = .int .i64 k ∧ (∀ j, j < k → ¬ f j = x) ∧ ST w0 lo rv0 wr (nts L (List.replicate k false))) (fun i _ => n - (intOf i).toNat)
  case atStart => exact ⟨0, Nat.zero_le _, rfl, fun j hj => absurd hj (Nat.not_lt_zero _), H0.out⟩
  case round =>
    obtain ⟨k, hk, rfl, hall, hs⟩ := hrel
    have HS := hidq hs
    have HALL := hidq hall
    clear hs hall
    by_cases hlt : k < n
    · obtain ⟨b1, o1, c1, e1, x1⟩ := rb_byte (HA.out _ HS.out.kp) hlt
      simp only [Value.slice.injEq] at e1
      obtain ⟨rfl, -, rfl⟩ := e1
      have BQ := hidq (fun x W hs => BR.out x W k (by omega) hs)
      by_cases he : f k = x
      · have HX : Hid (nep f x k = false) := hidq (decide_eq_false (fun e => e he))
        have EA : Hid (fiA f x n = (k : Nat)) := hidq (by
          unfold fiA
          rw [far_at (p := nep f x) hlt (fun j hj => decide_eq_true (HALL.out j hj)) HX.out, if_neg (by omega)])
        have EL : Hid (fiL f x n = List.replicate k false ++ [true]) := hidq (by
          unfold fiL
          rw [upTo_at (p := nep f x) hlt (fun j hj => decide_eq_true (HALL.out j hj)) HX.out]; rfl)
        rw [he] at x1
        go_wp2_with (go_at_call 38; refine (BQ.out true _ HS.out).mono ?_; rintro e w' ⟨rfl, hq⟩; have HQ := hidq hq; clear hq)
        go_ret
        exact ⟨by rw [EA.out]; rfl, by rw [EL.out, nts_snoc]; first | exact HQ.out | exact HQ.out.below (below_drewN _ _)⟩
      · have he1 : (f k == x) = false := by simpa using he
        have HE := hidq he
        go_wp2_with (go_at_call 38; refine (BQ.out false _ HS.out).mono ?_; rintro e w' ⟨rfl, hq⟩; have HQ := hidq hq; clear hq)
        go_roundw
        case rel => exact ⟨k + 1, by omega, by go_num, fun j hj => by by_cases e : j = k; (subst e; exact HE.out); exact HALL.out j (by omega), by rw [← rep_snoc, nts_snoc]; first | exact HQ.out | exact HQ.out.below (below_drewN _ _)⟩
        case measure => simp [intOf]; omega
    · obtain rfl : k = n := by omega
      have EA : Hid (fiA f x k = -1) := hidq (by
        unfold fiA
        rw [far_all (p := nep f x) (fun j hj => decide_eq_true (HALL.out j hj)), if_pos rfl])
      have EL : Hid (fiL f x k = List.replicate k false) := hidq (by
        unfold fiL
        rw [upTo_all (p := nep f x) (fun j hj => decide_eq_true (HALL.out j hj))])
      go_wp2
      go_ret
      exact ⟨by rw [EA.out]; rfl, by rw [EL.out]; exact HS.out⟩
set_option maxRecDepth 100000 in
set_option maxHeartbeats 2000000 in
theorem req_walk {w0 w : World} {lo : Option Nat} {rv0 : Value} {L : List Rn} (a b : Value) (n m : Nat) (f g : Nat → Int) (h : RST w0 lo rv0 w L) (hL : tot L ≤ 900000) (hn : n ≤ 200) (hm : m ≤ 200)
    (ha : ∀ w', Kp (lf lo rv0) w0 w' → By.RB w' a n f) (hb : ∀ w', Kp (lf lo rv0) w0 w' → By.RB w' b m g) :
    Calls Try.prog 14 #[lpv lo, a, b] w fun r w' => r = .returned (.bool (eqA f g n m)) ∧ RST w0 lo rv0 w' (nts L (eqL f g n m)) := by
  obtain ⟨a0, ca, rfl⟩ := rb_shape (ha w h.kp)
  obtain ⟨b0, cb, rfl⟩ := rb_shape (hb w h.kp)
  by_cases hnm : n = m
  · subst hnm
    have BR := hidq (fun (x : Bool) (W : World) (k : Nat) (hk : k ≤ 200) (hs : RST w0 lo rv0 W (nts L (List.replicate k true))) => rbranch_st x hs (rep_len L h.pos hL true k hk))
    have HA := hidq ha
    have HB := hidq hb
    have H0 := hidq h
    clear ha hb h hL
    go_enter Try.func14, Try.ntmps14
    go_wp2
    go_loopw [7] (fun i wr => ∃ k : Nat, k ≤ n ∧ i = .int .i64 k ∧ (∀ j, j < k → f j = g j) ∧ RST w0 lo rv0 wr (nts L (List.replicate k true))) (fun i _ => n - (intOf i).toNat)
    case atStart => exact ⟨0, Nat.zero_le _, rfl, fun j hj => absurd hj (Nat.not_lt_zero _), H0.out⟩
    case round =>
      obtain ⟨k, hk, rfl, hall, hs⟩ := hrel
      have HS := hidq hs
      have HALL := hidq hall
      clear hs hall
      by_cases hlt : k < n
      · obtain ⟨b1, o1, c1, e1, x1⟩ := rb_byte (HA.out _ HS.out.kp) hlt
        obtain ⟨b2, o2, c2, e2, x2⟩ := rb_byte (HB.out _ HS.out.kp) hlt
        simp only [Value.slice.injEq] at e1 e2
        obtain ⟨rfl, -, rfl⟩ := e1
        obtain ⟨rfl, -, rfl⟩ := e2
        have BQ := hidq (fun x W hs => BR.out x W k (by omega) hs)
        have Z1 := hidq (fun W (hk : Kp (lf lo rv0) w0 W) => show W.cell? ⟨b1, o1 + k, none⟩ = some (.int .u8 (f k)) from by
          obtain ⟨b, o, c, e, x⟩ := rb_byte (HA.out W hk) hlt
          simp only [Value.slice.injEq, Option.some.injEq, Addr.mk.injEq] at e
          obtain ⟨⟨rfl, rfl, -⟩, -, -⟩ := e
          exact x)
        have Z2 := hidq (fun W (hk : Kp (lf lo rv0) w0 W) => show W.cell? ⟨b2, o2 + k, none⟩ = some (.int .u8 (g k)) from by
          obtain ⟨b, o, c, e, x⟩ := rb_byte (HB.out W hk) hlt
          simp only [Value.slice.injEq, Option.some.injEq, Addr.mk.injEq] at e
          obtain ⟨⟨rfl, rfl, -⟩, -, -⟩ := e
          exact x)
        by_cases he : f k = g k
        · have HX : Hid (eqp f g k = true) := hidq (decide_eq_true he)
          rw [← he] at x2 Z2
          have HE := hidq he
          clear he
          go_wp2_with fail
          go_region_held3 (fun W => W.cell? ⟨b1, o1 + k, none⟩ = some (.int .u8 (f k)) ∧ W.cell? ⟨b2, o2 + k, none⟩ = some (.int .u8 (f k))) (go_keep) (first | (go_at_call 39; refine (BQ.out true _ (HS.out.below (below_drewN _ _))).mono ?_; rintro e w' ⟨rfl, hq⟩; have y1 := Z1.out w' hq.kp; have y2 := Z2.out w' hq.kp; have HQ := hidq hq; clear hq))
          go_wp2_with fail
          go_roundw
          case rel => exact ⟨k + 1, by omega, by go_num, fun j hj => by by_cases e : j = k; (subst e; exact HE.out); exact HALL.out j (by omega), by rw [← rep_snoc, nts_snoc]; first | exact HQ.out | exact HQ.out.below (below_drewN _ _)⟩
          case measure => simp [intOf]; omega
        · have HX : Hid (eqp f g k = false) := hidq (decide_eq_false he)
          have he1 : (f k == g k) = false := by simpa using he
          have EA : Hid (eqA f g n n = false) := hidq (by
            unfold eqA
            rw [far_at (p := eqp f g) hlt (fun j hj => decide_eq_true (HALL.out j hj)) HX.out]
            exact decide_eq_false (fun e => by omega))
          have EL : Hid (eqL f g n n = List.replicate k true ++ [false]) := hidq (by
            unfold eqL
            rw [if_pos rfl, upTo_at (p := eqp f g) hlt (fun j hj => decide_eq_true (HALL.out j hj)) HX.out]; rfl)
          go_wp2_with fail
          go_region_held3 (fun W => W.cell? ⟨b1, o1 + k, none⟩ = some (.int .u8 (f k)) ∧ W.cell? ⟨b2, o2 + k, none⟩ = some (.int .u8 (g k))) (go_keep) (first | (go_at_call 39; refine (BQ.out false _ (HS.out.below (below_drewN _ _))).mono ?_; rintro e w' ⟨rfl, hq⟩; have y1 := Z1.out w' hq.kp; have y2 := Z2.out w' hq.kp; have HQ := hidq hq; clear hq))
          go_wp2_with fail
          go_ret
          exact ⟨by rw [EA.out]; rfl, by rw [EL.out, nts_snoc]; first | exact HQ.out | exact HQ.out.below (below_drewN _ _)⟩
      · obtain rfl : k = n := by omega
        have EA : Hid (eqA f g k k = true) := hidq (by
          unfold eqA
          rw [far_all (p := eqp f g) (fun j hj => decide_eq_true (HALL.out j hj))]
          exact decide_eq_true ⟨rfl, rfl⟩)
        have EL : Hid (eqL f g k k = List.replicate k true) := hidq (by
          unfold eqL
          rw [if_pos rfl, upTo_all (p := eqp f g) (fun j hj => decide_eq_true (HALL.out j hj))])
        go_wp2
        go_ret
        exact ⟨by rw [EA.out]; rfl, by rw [EL.out]; exact HS.out⟩
  · have EA : Hid (eqA f g n m = false) := hidq (decide_eq_false (fun e => hnm e.1))
    have EL : Hid (eqL f g n m = []) := hidq (if_neg hnm)
    have H0 := hidq h
    have hnm2 : ¬ (n : Int) = (m : Int) := by omega
    clear ha hb h hL
    go_enter Try.func14, Try.ntmps14
    go_wp2
    go_ret
    exact ⟨by rw [EA.out]; rfl, by rw [EL.out]; exact H0.out⟩
set_option maxRecDepth 100000 in
set_option maxHeartbeats 2000000 in
theorem rfi_walk {w0 w : World} {lo : Option Nat} {rv0 : Value} {L : List Rn} (a : Value) (x : Int) (n : Nat) (f : Nat → Int) (h : RST w0 lo rv0 w L) (hL : tot L ≤ 900000) (hn : n ≤ 200)
    (ha : ∀ w', Kp (lf lo rv0) w0 w' → By.RB w' a n f) :
    Calls Try.prog 20 #[lpv lo, a, .int .u8 x] w fun r w' => r = .returned (.int .i64 (fiA f x n)) ∧ RST w0 lo rv0 w' (nts L (fiL f x n)) := by
  obtain ⟨a0, ca, rfl⟩ := rb_shape (ha w h.kp)
  have BR := hidq (fun (y : Bool) (W : World) (k : Nat) (hk : k ≤ 200) (hs : RST w0 lo rv0 W (nts L (List.replicate k false))) => rbranch_st y hs (rep_len L h.pos hL false k hk))
  have HA := hidq ha
  have H0 := hidq h
  clear ha h hL
  go_enter Try.func20, Try.ntmps20
  go_wp2
  go_loopw [7] (fun i wr => ∃ k : Nat, k ≤ n ∧ i = .int .i64 k ∧ (∀ j, j < k → ¬ f j = x) ∧ RST w0 lo rv0 wr (nts L (List.replicate k false))) (fun i _ => n - (intOf i).toNat)
  case atStart => exact ⟨0, Nat.zero_le _, rfl, fun j hj => absurd hj (Nat.not_lt_zero _), H0.out⟩
  case round =>
    obtain ⟨k, hk, rfl, hall, hs⟩ := hrel
    have HS := hidq hs
    have HALL := hidq hall
    clear hs hall
    by_cases hlt : k < n
    · obtain ⟨b1, o1, c1, e1, x1⟩ := rb_byte (HA.out _ HS.out.kp) hlt
      simp only [Value.slice.injEq] at e1
      obtain ⟨rfl, -, rfl⟩ := e1
      have BQ := hidq (fun x W hs => BR.out x W k (by omega) hs)
      by_cases he : f k = x
      · have HX : Hid (nep f x k = false) := hidq (decide_eq_false (fun e => e he))
        have EA : Hid (fiA f x n = (k : Nat)) := hidq (by
          unfold fiA
          rw [far_at (p := nep f x) hlt (fun j hj => decide_eq_true (HALL.out j hj)) HX.out, if_neg (by omega)])
        have EL : Hid (fiL f x n = List.replicate k false ++ [true]) := hidq (by
          unfold fiL
          rw [upTo_at (p := nep f x) hlt (fun j hj => decide_eq_true (HALL.out j hj)) HX.out]; rfl)
        rw [he] at x1
        go_wp2_with (go_at_call 39; refine (BQ.out true _ HS.out).mono ?_; rintro e w' ⟨rfl, hq⟩; have HQ := hidq hq; clear hq)
        go_ret
        exact ⟨by rw [EA.out]; rfl, by rw [EL.out, nts_snoc]; first | exact HQ.out | exact HQ.out.below (below_drewN _ _)⟩
      · have he1 : (f k == x) = false := by simpa using he
        have HE := hidq he
        go_wp2_with (go_at_call 39; refine (BQ.out false _ HS.out).mono ?_; rintro e w' ⟨rfl, hq⟩; have HQ := hidq hq; clear hq)
        go_roundw
        case rel => exact ⟨k + 1, by omega, by go_num, fun j hj => by by_cases e : j = k; (subst e; exact HE.out); exact HALL.out j (by omega), by rw [← rep_snoc, nts_snoc]; first | exact HQ.out | exact HQ.out.below (below_drewN _ _)⟩
        case measure => simp [intOf]; omega
    · obtain rfl : k = n := by omega
      have EA : Hid (fiA f x k = -1) := hidq (by
        unfold fiA
        rw [far_all (p := nep f x) (fun j hj => decide_eq_true (HALL.out j hj)), if_pos rfl])
      have EL : Hid (fiL f x k = List.replicate k false) := hidq (by
        unfold fiL
        rw [upTo_all (p := nep f x) (fun j hj => decide_eq_true (HALL.out j hj))])
      go_wp2
      go_ret
      exact ⟨by rw [EA.out]; rfl, by rw [EL.out]; exact HS.out⟩
end Go.Proofs.Ytpcnkiapbkmjbaa.Nv
