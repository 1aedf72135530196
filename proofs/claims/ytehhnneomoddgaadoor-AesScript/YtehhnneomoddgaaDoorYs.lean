/- A cipher of either side, or none: what every call answers, as one function of the key. A cipher made of a list of bytes, on either side. The pair of AesScript: two ciphers of either side, a ledger each. A block through a cipher of the pair, on either side. -/
import Derived.Test.YtehhnneomoddgaaDoorYq
import Derived.Test.YtehhnneomoddgaaDoorYr
import Derived.Test.YtehhnneomoddgaaDoorYp
namespace Go.Proofs.YtehhnneomoddgaaDoor.Ae
open Go.ChangeShapes Go.WideShapes Go.ChangeAt Go.RowKit
open Go.Proofs.YtehhnneomoddgaaDoor.By Go.Proofs.YtehhnneomoddgaaDoor.Gf
/-- No cipher, or one of 4 k bytes of a key. -/
abbrev KD := Option (Nat × (Nat → Nat))
def PC (W : World) (v : Value) : KD → Prop
  | none => Nn W v
  | some (k, key) => ∃ g, v = .pointer (some ⟨g, 0, none⟩) ∧ Ci W g k (rk k key)
def QC (W : World) (v : Value) : KD → Prop
  | none => RN W v
  | some (k, key) => ∃ g, v = .pointer (some ⟨g, 0, none⟩) ∧ RC W g k key
def kdE (b : Nat → Nat) : KD → Nat → Nat
  | none => nul
  | some (k, key) => enc (rk k key) (k + 6) b
def kdD (b : Nat → Nat) : KD → Nat → Nat
  | none => nul
  | some (k, key) => dec (rk k key) (k + 6) b
def kdC : KD → Int
  | none => 1
  | some _ => 0
def kdL : KD → Nat
  | none => 0
  | some (k, _) => 4 * k
def kdN : KD → Nat
  | none => 0
  | some (k, _) => 16 * (k + 7)
def kdF : KD → Nat → Nat
  | none => nul
  | some (k, key) => rk k key
/-- The ledger behind a block; behind a wipe. -/
def evE (L : List Rn) : KD → List Rn
  | none => L
  | some (k, _) => putL L ⟨5, ((4 * k : Nat) : Int), 1⟩
def evW (L : List Rn) : KD → List Rn
  | none => L
  | some (k, _) => putL L ⟨8, ((16 * (k + 7) : Nat) : Int), 1⟩
theorem bv_e {f g : Nat → Nat} (h : E16 f g) : bv f = bv g := by
  unfold bv
  rw [bl_congr 16 (cb f) (cb g) (fun i hi => congrArg Nat.cast (h i hi))]
theorem enc_pc (S : Nat → Prop) (w0 w : World) (lo : Option Nat) (L : List Rn) (v : Value) (d : KD) (b : Nat → Nat) (hb : B16 b) (hc : PC w v d) (h : LG S w0 w lo L) (h0 : Kp S w0 w) (hr : Room L) (hk : KM w0) (s0 : ¬ S 0) :
    Calls Tryd.prog 19 #[v, lpv lo, bv b] w fun e w' => e = .returned (.tuple #[bv (kdE b d), .int .i64 (kdC d)]) ∧ LG S w0 w' lo (evE L d) ∧ Kp S w0 w' ∧ Kt w w' := by
  match d, hc with
  | none, hc =>
    refine (enc_nn v (lpv lo) b w hc).mono ?_
    rintro e w' ⟨rfl, hb'⟩
    exact ⟨rfl, h.below hb', h0.trans (Kp.of_below S hb') (fun _ _ e => e), Kt.of_below hb'⟩
  | some (k, key), ⟨g, ev, hci⟩ =>
    subst ev
    exact enc_ci S w0 w lo L g k (rk k key) b hb hci h h0 hr hk s0
theorem dec_pc (S : Nat → Prop) (w0 w : World) (lo : Option Nat) (L : List Rn) (v : Value) (d : KD) (b : Nat → Nat) (hb : B16 b) (hc : PC w v d) (h : LG S w0 w lo L) (h0 : Kp S w0 w) (hr : Room L) (hk : KU w0) (s0 : ¬ S 1) :
    Calls Tryd.prog 22 #[v, lpv lo, bv b] w fun e w' => e = .returned (.tuple #[bv (kdD b d), .int .i64 (kdC d)]) ∧ LG S w0 w' lo (evE L d) ∧ Kp S w0 w' ∧ Kt w w' := by
  match d, hc with
  | none, hc =>
    refine (dec_nn v (lpv lo) b w hc).mono ?_
    rintro e w' ⟨rfl, hb'⟩
    exact ⟨rfl, h.below hb', h0.trans (Kp.of_below S hb') (fun _ _ e => e), Kt.of_below hb'⟩
  | some (k, key), ⟨g, ev, hci⟩ =>
    subst ev
    exact dec_ci S w0 w lo L g k (rk k key) b hb hci h h0 hr hk s0
theorem enc_qc (S : Nat → Prop) (w0 w : World) (lo : Option Nat) (L : List Rn) (v : Value) (d : KD) (b : Nat → Nat) (hb : B16 b) (hc : QC w v d) (h : RLG S w0 w lo L) (h0 : Kp S w0 w) (hr : Room L) :
    Calls Tryd.prog 21 #[v, lpv lo, bv b] w fun e w' => e = .returned (.tuple #[bv (kdE b d), .int .i64 (kdC d)]) ∧ RLG S w0 w' lo (evE L d) ∧ Kp S w0 w' ∧ Ku w w' := by
  match d, hc with
  | none, hc =>
    refine (renc_rn v (lpv lo) b w hc).mono ?_
    rintro e w' ⟨rfl, hb'⟩
    exact ⟨rfl, h.below hb', h0.trans (Kp.of_below S hb') (fun _ _ e => e), Ku.of_below hb'⟩
  | some (k, key), ⟨g, ev, hci⟩ =>
    subst ev
    have h := renc_rc S w0 w lo L g k key b hb hci h h0 hr
    rw [← bv_e (enc_rk k key b)] at h
    exact h
theorem dec_qc (S : Nat → Prop) (w0 w : World) (lo : Option Nat) (L : List Rn) (v : Value) (d : KD) (b : Nat → Nat) (hb : B16 b) (hc : QC w v d) (h : RLG S w0 w lo L) (h0 : Kp S w0 w) (hr : Room L) :
    Calls Tryd.prog 23 #[v, lpv lo, bv b] w fun e w' => e = .returned (.tuple #[bv (kdD b d), .int .i64 (kdC d)]) ∧ RLG S w0 w' lo (evE L d) ∧ Kp S w0 w' ∧ Ku w w' := by
  match d, hc with
  | none, hc =>
    refine (rdec_rn v (lpv lo) b w hc).mono ?_
    rintro e w' ⟨rfl, hb'⟩
    exact ⟨rfl, h.below hb', h0.trans (Kp.of_below S hb') (fun _ _ e => e), Ku.of_below hb'⟩
  | some (k, key), ⟨g, ev, hci⟩ =>
    subst ev
    have h := rdec_rc S w0 w lo L g k key b hb hci h h0 hr
    rw [← bv_e (dec_rk k key b)] at h
    exact h
theorem len_pc (w : World) (v : Value) (d : KD) (hc : PC w v d) : Calls Tryd.prog 26 #[v] w fun e w' => e = .returned (.int .i64 ((kdL d : Nat) : Int)) ∧ w' = w := by
  match d, hc with
  | none, hc => exact keyLen_nn v w hc
  | some (k, key), ⟨g, ev, hci⟩ =>
    subst ev
    exact keyLen_ci g k w hci.c0 (by have := hci.kk; omega) (by have := hci.kk; omega)
theorem len_qc (w : World) (v : Value) (d : KD) (hc : QC w v d) : Calls Tryd.prog 27 #[v] w fun e w' => e = .returned (.int .i64 ((kdL d : Nat) : Int)) ∧ w' = w := by
  match d, hc with
  | none, hc => exact rlen_rn v w hc
  | some (k, key), ⟨g, ev, hci⟩ =>
    subst ev
    exact rlen_rc g k key w hci
theorem nul_b (i : Nat) : 0 ≤ cb nul i ∧ cb nul i < 256 := ⟨Int.natCast_nonneg _, by show ((nul i : Nat) : Int) < 256; unfold nul; decide⟩
theorem form_pc (w : World) (v : Value) (d : KD) (hc : PC w v d) : Calls Tryd.prog 24 #[v] w fun e w' => ∃ u, e = .returned u ∧ By.Own w' w.heap.size u (kdN d) (cb (kdF d)) ∧ Below w.heap.size w w' := by
  match d, hc with
  | none, hc =>
    refine (form_nn v w hc).mono ?_
    rintro e w' ⟨rfl, hw⟩
    subst w'
    exact ⟨_, rfl, By.own_nil _ _ _ nul_b, Below.refl _ _⟩
  | some (k, key), ⟨g, ev, hci⟩ =>
    subst ev
    exact form_ci g k (rk k key) w hci
theorem form_qc (w : World) (v : Value) (d : KD) (hc : QC w v d) : Calls Tryd.prog 25 #[v] w fun e w' => ∃ u, e = .returned u ∧ By.Own w' w.heap.size u (kdN d) (cb (kdF d)) ∧ Below w.heap.size w w' := by
  match d, hc with
  | none, hc =>
    refine (rform_rn v w hc).mono ?_
    rintro e w' ⟨rfl, hw⟩
    subst w'
    exact ⟨_, rfl, By.own_nil _ _ _ nul_b, Below.refl _ _⟩
  | some (k, key), ⟨g, ev, hci⟩ =>
    subst ev
    refine (rform_rc g k key w hci).mono ?_
    rintro e w' ⟨u, rfl, ho, hb⟩
    refine ⟨u, rfl, ⟨fun i => ⟨Int.natCast_nonneg _, Int.ofNat_lt.2 ?_⟩, ?_⟩, hb⟩
    · show rk k key i < 256
      unfold rk upto
      split
      · have := (ho.1 i).2; exact Int.ofNat_lt.1 this
      · decide
    · have h2 := ho.2
      rw [bl_congr _ (cb (wds k key (3 * k + 28))) (cb (rk k key)) (fun i hi => congrArg Nat.cast (by unfold rk; rw [upto_get _ _ _ hi]))] at h2
      exact h2
theorem clone_pc (w : World) (v : Value) (d : KD) (hc : PC w v d) : Calls Tryd.prog 28 #[v] w fun e w' => Below w.heap.size w w' ∧ match d with
    | none => e = .returned (.tuple #[.pointer none, .int .i64 1])
    | some (k, key) => e = .returned (.tuple #[.pointer (some ⟨w.heap.size, 0, none⟩), .int .i64 0]) ∧ Ci w' w.heap.size k (rk k key) := by
  match d, hc with
  | none, hc =>
    refine (clone_nn v w hc).mono ?_
    rintro e w' ⟨rfl, hw⟩
    subst w'
    exact ⟨Below.refl _ _, rfl⟩
  | some (k, key), ⟨g, ev, hci⟩ =>
    subst ev
    refine (clone_ci g k (rk k key) w hci).mono ?_
    rintro e w' ⟨rfl, h1, h2⟩
    exact ⟨h2, rfl, h1⟩
theorem clone_qc (w : World) (v : Value) (d : KD) (hc : QC w v d) : Calls Tryd.prog 29 #[v] w fun e w' => Below w.heap.size w w' ∧ match d with
    | none => e = .returned (.tuple #[.pointer none, .int .i64 1])
    | some (k, key) => e = .returned (.tuple #[.pointer (some ⟨w.heap.size, 0, none⟩), .int .i64 0]) ∧ RC w' w.heap.size k key := by
  match d, hc with
  | none, hc =>
    refine (rclone_rn v w hc).mono ?_
    rintro e w' ⟨rfl, hw⟩
    subst w'
    exact ⟨Below.refl _ _, rfl⟩
  | some (k, key), ⟨g, ev, hci⟩ =>
    subst ev
    refine (rclone_rc g k key w hci).mono ?_
    rintro e w' ⟨rfl, h1, h2⟩
    exact ⟨h2, rfl, h1⟩
theorem wipe_pc (S : Nat → Prop) (w0 w : World) (lo : Option Nat) (L : List Rn) (v : Value) (d : KD) (hc : PC w v d) (h : LG S w0 w lo L) (h0 : Kp S w0 w) (hr : Room L) (hS : ∀ g, v = .pointer (some ⟨g, 0, none⟩) → g < w0.heap.size → S g) :
    Calls Tryd.prog 30 #[v, lpv lo] w fun e w' => e = .returned (.int .i64 (kdC d)) ∧ PC w' v none ∧ LG S w0 w' lo (evW L d) ∧ Kp S w0 w' ∧ ∀ x cs t, v ≠ .pointer (some ⟨x, 0, none⟩) → Blk w x cs t → t ≠ 47 → t ≠ 74 → Blk w' x cs t := by
  match d, hc with
  | none, hc =>
    refine (wipe_nn v (lpv lo) w hc).mono ?_
    rintro e w' ⟨rfl, hw⟩
    subst w'
    exact ⟨rfl, hc, h, h0, fun _ _ _ _ hb _ _ => hb⟩
  | some (k, key), ⟨g, ev, hci⟩ =>
    subst ev
    refine (wipe_ci S w0 w lo L g k (rk k key) hci h h0 hr (hS g rfl)).mono ?_
    rintro e w' ⟨rfl, h1, h2, h3, h4⟩
    exact ⟨rfl, .inr ⟨g, rfl, h1⟩, h2, h3, fun x cs t hx hb t1 t2 => h4.2 x cs t (fun e => hx (by rw [e])) hb t1 t2⟩
theorem wipe_qc (S : Nat → Prop) (w0 w : World) (lo : Option Nat) (L : List Rn) (v : Value) (d : KD) (hc : QC w v d) (h : RLG S w0 w lo L) (h0 : Kp S w0 w) (hr : Room L) (hS : ∀ g, v = .pointer (some ⟨g, 0, none⟩) → g < w0.heap.size → S g) :
    Calls Tryd.prog 31 #[v, lpv lo] w fun e w' => e = .returned (.int .i64 (kdC d)) ∧ QC w' v none ∧ RLG S w0 w' lo (evW L d) ∧ Kp S w0 w' := by
  match d, hc with
  | none, hc =>
    refine (rwipe_rn v (lpv lo) w hc).mono ?_
    rintro e w' ⟨rfl, hw⟩
    subst w'
    exact ⟨rfl, hc, h, h0⟩
  | some (k, key), ⟨g, ev, hci⟩ =>
    subst ev
    exact rwipe_rc S w0 w lo L g k key hci h h0 hr (hS g rfl)
end Go.Proofs.YtehhnneomoddgaaDoor.Ae
namespace Go.Proofs.YtehhnneomoddgaaDoor.Ae
open Go.ChangeShapes Go.WideShapes Go.ChangeAt Go.RowKit
open Go.Proofs.YtehhnneomoddgaaDoor.By Go.Proofs.YtehhnneomoddgaaDoor.Gf
/-- What New makes of n bytes. -/
def newK (n : Nat) (key : Nat → Nat) : KD := if n = 16 ∨ n = 24 ∨ n = 32 then some (n / 4, key) else none
def evN (L : List Rn) : KD → List Rn
  | none => L
  | some (k, _) => putL L ⟨4, ((4 * k : Nat) : Int), 1⟩
theorem newK_no {n : Nat} (key : Nat → Nat) (h : ¬ (n = 16 ∨ n = 24 ∨ n = 32)) : newK n key = none := if_neg h
theorem newK_ok {k : Nat} (key : Nat → Nat) (h : k = 4 ∨ k = 6 ∨ k = 8) : newK (4 * k) key = some (k, key) := by
  unfold newK
  rw [if_pos (by omega), show 4 * k / 4 = k from by omega]
theorem new_pc (S : Nat → Prop) (w0 w : World) (lo : Option Nat) (L : List Rn) (n : Nat) (key : Nat → Nat) (hkey : ∀ i, key i < 256) (a : Option Addr) (cap : Nat) (hcap : n ≤ cap) (h : LG S w0 w lo L) (h0 : Kp S w0 w) (hr : Room L)
    (hv : 0 < n → ∃ kb ko, a = some ⟨kb, ko, none⟩ ∧ ∀ W, Kp S w0 W → Kt w W → ∀ i, i < n → W.cell? ⟨kb, ko + i, none⟩ = some (.int .u8 (key i : Nat))) :
    Calls Tryd.prog 14 #[lpv lo, .slice a n cap] w fun e w' => (LG S w0 w' lo (evN L (newK n key)) ∧ Kp S w0 w' ∧ Kt w w') ∧ match newK n key with
      | none => e = .returned (.tuple #[.pointer none, .int .i64 7])
      | some (k, key) => ∃ g, e = .returned (.tuple #[.pointer (some ⟨g, 0, none⟩), .int .i64 0]) ∧ Ci w' g k (rk k key) ∧ w.heap.size ≤ g := by
  by_cases hn : n = 16 ∨ n = 24 ∨ n = 32
  · obtain ⟨k, hk, rfl⟩ : ∃ k, (k = 4 ∨ k = 6 ∨ k = 8) ∧ n = 4 * k := ⟨n / 4, by omega, by omega⟩
    rw [newK_ok key hk]
    obtain ⟨kb, ko, rfl, hc⟩ := hv (by omega)
    refine (new_ok S w0 w lo L k hk key hkey kb ko cap hcap h h0 hr hc).mono ?_
    rintro e w' ⟨g, rfl, h1, h2, h3, h4, h5⟩
    exact ⟨⟨h3, h4, h5⟩, g, rfl, h1, h2⟩
  · rw [newK_no key hn]
    refine (new_bad (lpv lo) a n cap w (by omega) (by omega) (by omega)).mono ?_
    rintro e w' ⟨rfl, hw⟩
    subst w'
    exact ⟨⟨h, h0, Kt.refl _⟩, rfl⟩
theorem new_qc (S : Nat → Prop) (w0 w : World) (lo : Option Nat) (L : List Rn) (n : Nat) (key : Nat → Nat) (hkey : ∀ i, key i < 256) (a : Option Addr) (cap : Nat) (h : RLG S w0 w lo L) (h0 : Kp S w0 w) (hr : Room L)
    (hv : ∀ W, Kp S w0 W → Ku w W → By.RB W (.slice a n cap) n (cb key)) :
    Calls Tryd.prog 15 #[lpv lo, .slice a n cap] w fun e w' => (RLG S w0 w' lo (evN L (newK n key)) ∧ Kp S w0 w' ∧ Ku w w') ∧ match newK n key with
      | none => e = .returned (.tuple #[.pointer none, .int .i64 7])
      | some (k, key) => ∃ g, e = .returned (.tuple #[.pointer (some ⟨g, 0, none⟩), .int .i64 0]) ∧ RC w' g k key ∧ w.heap.size ≤ g := by
  by_cases hn : n = 16 ∨ n = 24 ∨ n = 32
  · obtain ⟨k, hk, rfl⟩ : ∃ k, (k = 4 ∨ k = 6 ∨ k = 8) ∧ n = 4 * k := ⟨n / 4, by omega, by omega⟩
    rw [newK_ok key hk]
    refine (rnew_ok S w0 w lo L k hk key hkey a cap h h0 hr hv).mono ?_
    rintro e w' ⟨g, rfl, h1, h2, h3, h4, h5⟩
    exact ⟨⟨h3, h4, h5⟩, g, rfl, h1, h2⟩
  · rw [newK_no key hn]
    refine (rnew_bad (lpv lo) a n cap w (by omega) (by omega) (by omega)).mono ?_
    rintro e w' ⟨rfl, hw⟩
    subst w'
    exact ⟨⟨h, h0, Ku.refl _⟩, rfl⟩
/-- Blocks that are no ledger's of either side, and no run's, stay. -/
def Ky (w w' : World) : Prop := w.heap.size ≤ w'.heap.size ∧ ∀ g cs t, Blk w g cs t → t ≠ 47 → t ≠ 49 → t ≠ 74 → Blk w' g cs t
theorem Kt.ky {w w' : World} (h : Kt w w') : Ky w w' := ⟨h.1, fun g cs t hg h1 _ h3 => h.2 g cs t hg h1 h3⟩
theorem Ku.ky {w w' : World} (h : Ku w w') : Ky w w' := ⟨h.1, fun g cs t hg _ h2 h3 => h.2 g cs t hg h2 h3⟩
theorem Ky.refl (w : World) : Ky w w := ⟨Nat.le_refl _, fun _ _ _ h _ _ _ => h⟩
theorem Ky.trans {a b c : World} (h : Ky a b) (k : Ky b c) : Ky a c := ⟨Nat.le_trans h.1 k.1, fun g cs t hg h1 h2 h3 => k.2 g cs t (h.2 g cs t hg h1 h2 h3) h1 h2 h3⟩
theorem Ky.of_below {w w' : World} (h : Below w.heap.size w w') : Ky w w' := ⟨h.size, fun _ _ _ hg _ _ _ => hg.below h⟩
theorem PC.ky {w w' : World} {v : Value} {d : KD} (h : PC w v d) (hk : Ky w w') : PC w' v d := by
  match d, h with
  | none, h =>
    rcases h with h | ⟨g, e, cs, hb⟩
    · exact .inl h
    · exact .inr ⟨g, e, cs, hk.2 _ _ _ hb (by decide) (by decide) (by decide)⟩
  | some (k, key), ⟨g, e, hc⟩ => exact ⟨g, e, hk.2 _ _ _ hc.here (by decide) (by decide) (by decide), hc.kk, hc.lt⟩
theorem OW.ky {W W' : World} {B n : Nat} {v : Value} {f : Nat → Nat} (h : OW W B v n f) (hk : Ky W W') : OW W' B v n f := by
  obtain ⟨hl, h | ⟨q, cap, cur, rfl, hb, hc, r⟩⟩ := h
  · exact ⟨hl, .inl h⟩
  · refine ⟨hl, .inr ⟨q, cap, cur, rfl, hb, ?_, r⟩⟩
    have := hk.2 q cur.toList 77 (by show W.heap[q]? = _; rw [hc]) (by decide) (by decide) (by decide)
    simpa [Blk] using this
theorem RC.ky {w w' : World} {g k : Nat} {key : Nat → Nat} (h : RC w g k key) (hk : Ky w w') : RC w' g k key := by
  obtain ⟨kk, a, cap, ga, wv, b, r⟩ := h
  exact ⟨kk, a, cap, ga, wv, hk.2 _ _ _ b (by decide) (by decide) (by decide), hk.2 _ _ _ r.here (by decide) (by decide) (by decide), OW.ky (B := 0) r.own hk, r.lt⟩
theorem QC.ky {w w' : World} {v : Value} {d : KD} (h : QC w v d) (hk : Ky w w') : QC w' v d := by
  match d, h with
  | none, h =>
    rcases h with h | ⟨g, x, y, e, hb⟩
    · exact .inl h
    · exact .inr ⟨g, x, y, e, hk.2 _ _ _ hb (by decide) (by decide) (by decide)⟩
  | some (k, key), ⟨g, e, hc⟩ => exact ⟨g, e, hc.ky hk⟩
end Go.Proofs.YtehhnneomoddgaaDoor.Ae
namespace Go.Proofs.YtehhnneomoddgaaDoor.Ae
open Go.ChangeShapes Go.WideShapes Go.ChangeAt Go.RowKit
open Go.Proofs.YtehhnneomoddgaaDoor.By Go.Proofs.YtehhnneomoddgaaDoor.Gf
/-- The ledger that is handed in. -/
def lo (lb : Nat) (mute : Bool) : Option Nat := match mute with | true => none | false => some lb
/-- The blocks that a call may turn by its ledger. -/
def SP (lb : Nat) (lv : Value) (mute : Bool) (j : Nat) : Prop := mute = false ∧ (j = lb ∨ lv.ownBlock = some j)
def sel (mute : Bool) (L L' : List Rn) : List Rn := match mute with | true => L | false => L'
def pairC (cv rv : Nat → Value) (lb mb : Nat) (tv wv : Value) : List Value := [cv 0, cv 1, rv 0, rv 1, .pointer (some ⟨lb, 0, none⟩), .pointer (some ⟨mb, 0, none⟩), tv, wv]
/-- Blocks of bytes, and of lists of bytes, stay. -/
def Kz (W W' : World) : Prop := ∀ g cs t, Blk W g cs t → t = 5 ∨ t = 22 → Blk W' g cs t
theorem Kz.below {W W' : World} (h : Below W.heap.size W W') : Kz W W' := fun _ _ _ hg _ => hg.below h
theorem Kz.trans {a b c : World} (h : Kz a b) (k : Kz b c) : Kz a c := fun g cs t hg ht => k g cs t (h g cs t hg ht) ht
theorem Ky.kz {W W' : World} (h : Ky W W') : Kz W W' := fun g cs t hg ht => by
  rcases ht with rfl | rfl
  · exact h.2 g cs _ hg (by decide) (by decide) (by decide)
  · exact h.2 g cs _ hg (by decide) (by decide) (by decide)
structure PS (X : World → Prop) (w0 : World) (xb lb mb : Nat) (lv mv tv wv : Value) (cv rv : Nat → Value) (D E : Nat → KD) (L M : List Rn) (W : World) : Prop where
  bel : Below w0.heap.size w0 W
  here : Blk W xb (pairC cv rv lb mb tv wv) 35
  xB : w0.heap.size ≤ xb
  lB : w0.heap.size ≤ lb
  mB : w0.heap.size ≤ mb
  led : Led W lb lv L
  rled : RLed W mb mv M
  lvB : ∀ g, lv.ownBlock = some g → w0.heap.size ≤ g
  mvB : ∀ g, mv.ownBlock = some g → w0.heap.size ≤ g
  dis : ∀ g, lv.ownBlock = some g → mv.ownBlock ≠ some g
  pc : ∀ j, j < 2 → PC W (cv j) (D j)
  qc : ∀ j, j < 2 → QC W (rv j) (E j)
  pB : ∀ j, j < 2 → ∀ g, cv j = .pointer (some ⟨g, 0, none⟩) → w0.heap.size ≤ g
  qB : ∀ j, j < 2 → ∀ g, rv j = .pointer (some ⟨g, 0, none⟩) → w0.heap.size ≤ g
  pne : ∀ g, cv 0 = .pointer (some ⟨g, 0, none⟩) → cv 1 ≠ .pointer (some ⟨g, 0, none⟩)
  qne : ∀ g, rv 0 = .pointer (some ⟨g, 0, none⟩) → rv 1 ≠ .pointer (some ⟨g, 0, none⟩)
  km : KM w0
  ku : KU w0
  exk : ∀ V V', Kz V V' → X V → X V'
  ex : X W
section
variable {X : World → Prop} {w0 W W' : World} {xb lb mb : Nat} {lv mv tv wv : Value} {cv rv : Nat → Value} {D E : Nat → KD} {L M L' : List Rn}
theorem PS.size (h : PS X w0 xb lb mb lv mv tv wv cv rv D E L M W) : w0.heap.size ≤ W.heap.size := h.bel.size
theorem PS.sp (h : PS X w0 xb lb mb lv mv tv wv cv rv D E L M W) {mute : Bool} {j : Nat} (hs : SP lb lv mute j) : w0.heap.size ≤ j := by
  rcases hs.2 with rfl | e
  · exact h.lB
  · exact h.lvB j e
theorem PS.sq (h : PS X w0 xb lb mb lv mv tv wv cv rv D E L M W) {mute : Bool} {j : Nat} (hs : SP mb mv mute j) : w0.heap.size ≤ j := by
  rcases hs.2 with rfl | e
  · exact h.mB
  · exact h.mvB j e
theorem PS.lg (h : PS X w0 xb lb mb lv mv tv wv cv rv D E L M W) (mute : Bool) : LG (SP lb lv mute) W W (lo lb mute) L := by
  cases mute
  · exact ⟨⟨rfl, .inl rfl⟩, lv, h.led, fun g hg _ => ⟨rfl, .inr hg⟩⟩
  · exact trivial
theorem PS.rlg (h : PS X w0 xb lb mb lv mv tv wv cv rv D E L M W) (mute : Bool) : RLG (SP mb mv mute) W W (lo mb mute) M := by
  cases mute
  · exact ⟨⟨rfl, .inl rfl⟩, mv, h.rled, fun g hg _ => ⟨rfl, .inr hg⟩⟩
  · exact trivial
theorem PS.kmW (h : PS X w0 xb lb mb lv mv tv wv cv rv D E L M W) : KM W := (h.km.kept (Kp.of_below (fun _ => False) h.bel) id)
theorem PS.kuW (h : PS X w0 xb lb mb lv mv tv wv cv rv D E L M W) : KU W := (h.ku.kept (Kp.of_below (fun _ => False) h.bel) id)
theorem PS.s0 (h : PS X w0 xb lb mb lv mv tv wv cv rv D E L M W) (mute : Bool) : ¬ SP lb lv mute 0 := fun e => by have := h.sp e; have := h.km.lt; omega
theorem PS.s1 (h : PS X w0 xb lb mb lv mv tv wv cv rv D E L M W) (mute : Bool) : ¬ SP lb lv mute 1 := fun e => by have := h.sp e; have := h.ku.lt; omega
theorem blk_ty {g : Nat} {cs cs' : List Value} {t t' : TypeId} (h : Blk W g cs t) (h' : Blk W g cs' t') : t = t' := by
  have := Option.some.inj (h.symm.trans h')
  simp only [Obj.cells.injEq] at this
  exact this.2.1
theorem own_blk {v : Value} {base : Nat} {g : Nat} (h : Own W base v L) (hg : v.ownBlock = some g) : ∃ cs, Blk W g cs 74 := by
  obtain ⟨cs, hc⟩ := own_type h hg
  exact ⟨cs.toList, by show W.heap[g]? = _; rw [hc]⟩
theorem PS.no_q (h : PS X w0 xb lb mb lv mv tv wv cv rv D E L M W) {mute : Bool} {g : Nat} (hg : g = mb ∨ mv.ownBlock = some g) : ¬ SP lb lv mute g := by
  have bl : Blk W lb _ 47 := h.led.here
  have bm : Blk W mb _ 49 := h.rled.here
  rintro ⟨_, e | e⟩ <;> rcases hg with e' | e'
  · subst e; subst e'; exact absurd (blk_ty bl bm) (by decide)
  · subst e; obtain ⟨cs, hc⟩ := own_blk h.rled.own e'; exact absurd (blk_ty bl hc) (by decide)
  · subst e'; obtain ⟨cs, hc⟩ := own_blk h.led.own e; exact absurd (blk_ty bm hc) (by decide)
  · exact h.dis g e e'
theorem PS.no_p (h : PS X w0 xb lb mb lv mv tv wv cv rv D E L M W) {mute : Bool} {g : Nat} (hg : g = lb ∨ lv.ownBlock = some g) : ¬ SP mb mv mute g := by
  rintro ⟨_, e⟩
  exact h.no_q (mute := false) e ⟨rfl, hg⟩
/-- Behind a call of the program's. -/
theorem PS.turnP (h : PS X w0 xb lb mb lv mv tv wv cv rv D E L M W) (mute : Bool) (hl : LG (SP lb lv mute) W W' (lo lb mute) L') (hk : Kp (SP lb lv mute) W W') (ht : Kt W W') : ∃ lv', PS X w0 xb lb mb lv' mv tv wv cv rv D E (sel mute L L') M W' := by
  have key : ∀ lv' L2, Led W' lb lv' L2 → (∀ g, lv'.ownBlock = some g → g < W.heap.size → lv.ownBlock = some g ∨ g = lb) → PS X w0 xb lb mb lv' mv tv wv cv rv D E L2 M W' := fun lv' L2 hl' ho => by
    refine ⟨h.bel.trans (hk.below h.size (fun k hk' e => by have := h.sp e; omega)), ht.2 _ _ _ h.here (by decide) (by decide), h.xB, h.lB, h.mB, hl', h.rled.kept hk (h.no_q (.inl rfl)) (fun g hg => h.no_q (.inr hg)), fun g hg => ?_, h.mvB, fun g hg hm => ?_, fun j hj => (h.pc j hj).ky ht.ky, fun j hj => (h.qc j hj).ky ht.ky, h.pB, h.qB, h.pne, h.qne, h.km, h.ku, h.exk, h.exk _ _ ht.ky.kz h.ex⟩
    · rcases Nat.lt_or_ge g W.heap.size with hlt | hge
      · rcases ho g hg hlt with e | e
        · exact h.lvB g e
        · subst e; exact h.lB
      · have := h.size; omega
    · obtain ⟨cs, hc⟩ := own_blk h.rled.own hm
      exact h.no_q (mute := false) (.inr hm) ⟨rfl, (ho g hg hc.lt).symm⟩
  cases mute with
  | true => exact ⟨lv, key lv L (h.led.kept hk (fun e => Bool.noConfusion e.1) (fun g _ e => Bool.noConfusion e.1)) (fun g hg _ => .inl hg)⟩
  | false =>
    obtain ⟨_, lv', hl', ho⟩ := hl
    exact ⟨lv', key lv' L' hl' (fun g hg hlt => (ho g hg hlt).2.symm)⟩
/-- Behind a call of the document's. -/
theorem PS.turnQ (h : PS X w0 xb lb mb lv mv tv wv cv rv D E L M W) (mute : Bool) (hl : RLG (SP mb mv mute) W W' (lo mb mute) L') (hk : Kp (SP mb mv mute) W W') (ht : Ku W W') : ∃ mv', PS X w0 xb lb mb lv mv' tv wv cv rv D E L (sel mute M L') W' := by
  have key : ∀ mv' L2, RLed W' mb mv' L2 → (∀ g, mv'.ownBlock = some g → g < W.heap.size → mv.ownBlock = some g ∨ g = mb) → PS X w0 xb lb mb lv mv' tv wv cv rv D E L L2 W' := fun mv' L2 hl' ho => by
    refine ⟨h.bel.trans (hk.below h.size (fun k hk' e => by have := h.sq e; omega)), ht.2 _ _ _ h.here (by decide) (by decide), h.xB, h.lB, h.mB, h.led.kept hk (h.no_p (.inl rfl)) (fun g hg => h.no_p (.inr hg)), hl', h.lvB, fun g hg => ?_, fun g hg hm => ?_, fun j hj => (h.pc j hj).ky ht.ky, fun j hj => (h.qc j hj).ky ht.ky, h.pB, h.qB, h.pne, h.qne, h.km, h.ku, h.exk, h.exk _ _ ht.ky.kz h.ex⟩
    · rcases Nat.lt_or_ge g W.heap.size with hlt | hge
      · rcases ho g hg hlt with e | e
        · exact h.mvB g e
        · subst e; exact h.mB
      · have := h.size; omega
    · obtain ⟨cs, hc⟩ := own_blk h.led.own hg
      exact h.no_p (mute := false) (.inr hg) ⟨rfl, (ho g hm hc.lt).symm⟩
  cases mute with
  | true => exact ⟨mv, key mv M (h.rled.kept hk (fun e => Bool.noConfusion e.1) (fun g _ e => Bool.noConfusion e.1)) (fun g hg _ => .inl hg)⟩
  | false =>
    obtain ⟨_, mv', hl', ho⟩ := hl
    exact ⟨mv', key mv' L' hl' (fun g hg hlt => (ho g hg hlt).2.symm)⟩
theorem PS.below (h : PS X w0 xb lb mb lv mv tv wv cv rv D E L M W) (hb : Below W.heap.size W W') : PS X w0 xb lb mb lv mv tv wv cv rv D E L M W' :=
  ⟨below_next h.bel hb, h.here.below hb, h.xB, h.lB, h.mB, h.led.below hb, h.rled.below hb, h.lvB, h.mvB, h.dis, fun j hj => (h.pc j hj).ky (Ky.of_below hb), fun j hj => (h.qc j hj).ky (Ky.of_below hb), h.pB, h.qB, h.pne, h.qne, h.km, h.ku, h.exk, h.exk _ _ (Kz.below hb) h.ex⟩
/-- The blocks that a wipe may turn. -/
def SW (lb : Nat) (lv v : Value) (mute : Bool) (j : Nat) : Prop := SP lb lv mute j ∨ v = .pointer (some ⟨j, 0, none⟩)
def upd {α : Type} (f : Nat → α) (k : Nat) (x : α) : Nat → α := fun i => if i = k then x else f i
theorem upd_at {α : Type} (f : Nat → α) (k : Nat) (x : α) : upd f k x k = x := by unfold upd; rw [if_pos rfl]
theorem upd_ne {α : Type} (f : Nat → α) (k : Nat) (x : α) (i : Nat) (h : i ≠ k) : upd f k x i = f i := by unfold upd; rw [if_neg h]
theorem PC.blk {v : Value} {d : KD} {g : Nat} (h : PC W v d) (e : v = .pointer (some ⟨g, 0, none⟩)) : ∃ cs, Blk W g cs 81 := by
  match d, h with
  | none, h =>
    rcases h with h | ⟨g', e', cs, hb⟩
    · rw [h] at e; simp at e
    · rw [e] at e'; simp at e'; subst e'; exact ⟨_, hb⟩
  | some (k, key), ⟨g', e', hc⟩ => rw [e] at e'; simp at e'; subst e'; exact ⟨_, hc.here⟩
theorem QC.blk {v : Value} {d : KD} {g : Nat} (h : QC W v d) (e : v = .pointer (some ⟨g, 0, none⟩)) : ∃ cs, Blk W g cs 86 := by
  match d, h with
  | none, h =>
    rcases h with h | ⟨g', x, y, e', hb⟩
    · rw [h] at e; simp at e
    · rw [e] at e'; simp at e'; subst e'; exact ⟨_, hb⟩
  | some (k, key), ⟨g', e', hc⟩ =>
    obtain ⟨_, a, cap, ga, wv, b, r⟩ := hc
    rw [e] at e'; simp at e'; subst e'; exact ⟨_, b⟩
theorem PS.ne_p (h : PS X w0 xb lb mb lv mv tv wv cv rv D E L M W) {j k g : Nat} (hj : j < 2) (hk : k < 2) (hne : j ≠ k) (e : cv k = .pointer (some ⟨g, 0, none⟩)) : cv j ≠ .pointer (some ⟨g, 0, none⟩) := by
  rcases (show (j = 0 ∧ k = 1) ∨ (j = 1 ∧ k = 0) by omega) with ⟨rfl, rfl⟩ | ⟨rfl, rfl⟩
  · exact fun e' => h.pne g e' e
  · exact h.pne g e
theorem PS.ne_q (h : PS X w0 xb lb mb lv mv tv wv cv rv D E L M W) {j k g : Nat} (hj : j < 2) (hk : k < 2) (hne : j ≠ k) (e : rv k = .pointer (some ⟨g, 0, none⟩)) : rv j ≠ .pointer (some ⟨g, 0, none⟩) := by
  rcases (show (j = 0 ∧ k = 1) ∨ (j = 1 ∧ k = 0) by omega) with ⟨rfl, rfl⟩ | ⟨rfl, rfl⟩
  · exact fun e' => h.qne g e' e
  · exact h.qne g e
theorem PC.blks {W' : World} {v : Value} {d : KD} (h : PC W v d) (hb : ∀ g cs, v = .pointer (some ⟨g, 0, none⟩) → Blk W g cs 81 → Blk W' g cs 81) : PC W' v d := by
  match d, h with
  | none, h =>
    rcases h with h | ⟨g, e, cs, hc⟩
    · exact .inl h
    · exact .inr ⟨g, e, cs, hb _ _ e hc⟩
  | some (k, key), ⟨g, e, hc⟩ => exact ⟨g, e, hb _ _ e hc.here, hc.kk, hc.lt⟩
theorem OW.blks {W W' : World} {B n : Nat} {v : Value} {f : Nat → Nat} (h : OW W B v n f) (hk : ∀ g cs, Blk W g cs 77 → Blk W' g cs 77) : OW W' B v n f := by
  obtain ⟨hl, h | ⟨q, cap, cur, rfl, hb, hc, r⟩⟩ := h
  · exact ⟨hl, .inl h⟩
  · refine ⟨hl, .inr ⟨q, cap, cur, rfl, hb, ?_, r⟩⟩
    have := hk q cur.toList (by show W.heap[q]? = _; rw [hc])
    simpa [Blk] using this
theorem QC.blks {W' : World} {v : Value} {d : KD} (h : QC W v d) (hb : ∀ g cs, v = .pointer (some ⟨g, 0, none⟩) → Blk W g cs 86 → Blk W' g cs 86)
    (ha : ∀ g cs, Blk W g cs 104 → Blk W' g cs 104) (h4 : ∀ g cs, Blk W g cs 77 → Blk W' g cs 77) : QC W' v d := by
  match d, h with
  | none, h =>
    rcases h with h | ⟨g, x, y, e, hc⟩
    · exact .inl h
    · exact .inr ⟨g, x, y, e, hb _ _ e hc⟩
  | some (k, key), ⟨g, e, hc⟩ =>
    obtain ⟨kk, a, cap, ga, wv, b, r⟩ := hc
    exact ⟨g, e, kk, a, cap, ga, wv, hb _ _ e b, ha _ _ r.here, OW.blks (B := 0) r.own h4, r.lt⟩
theorem PS.wipeP (h : PS X w0 xb lb mb lv mv tv wv cv rv D E L M W) (k : Nat) (hk : k < 2) (mute : Bool) (hr : Room L) :
    Calls Tryd.prog 30 #[cv k, lpv (lo lb mute)] W fun e w' => e = .returned (.int .i64 (kdC (D k))) ∧ ∃ lv', PS X w0 xb lb mb lv' mv tv wv cv rv (upd D k none) E (sel mute L (evW L (D k))) M w' := by
  have hlg : LG (SW lb lv (cv k) mute) W W (lo lb mute) L := by
    cases mute
    · exact ⟨.inl ⟨rfl, .inl rfl⟩, lv, h.led, fun g hg _ => .inl ⟨rfl, .inr hg⟩⟩
    · exact trivial
  refine (wipe_pc (SW lb lv (cv k) mute) W W (lo lb mute) L (cv k) (D k) (h.pc k hk) hlg (Kp.refl _ _) hr (fun g e _ => .inr e)).mono ?_
  rintro e w' ⟨rfl, hp, hl, hkp, hbl⟩
  refine ⟨rfl, ?_⟩
  have noP : ∀ {g cs t}, Blk W g cs t → t ≠ 81 → cv k ≠ .pointer (some ⟨g, 0, none⟩) := fun hg ht e => by
    obtain ⟨cs', hc⟩ := (h.pc k hk).blk e
    exact ht (blk_ty hg hc)
  have swB : ∀ j, SW lb lv (cv k) mute j → w0.heap.size ≤ j := fun j hj => by
    rcases hj with hj | hj
    · exact h.sp hj
    · exact h.pB k hk j hj
  have keep : ∀ g cs t, Blk W g cs t → t ≠ 47 → t ≠ 74 → t ≠ 81 → Blk w' g cs t := fun g cs t hg h1 h2 h3 => hbl g cs t (noP hg h3) hg h1 h2
  have noQ : ∀ {g}, (g = mb ∨ mv.ownBlock = some g) → ¬ SW lb lv (cv k) mute g := fun hg hs => by
    rcases hs with hs | hs
    · exact h.no_q hg hs
    · rcases hg with rfl | hg
      · exact noP (show Blk W _ _ 49 from h.rled.here) (by decide) hs
      · obtain ⟨cs, hc⟩ := own_blk h.rled.own hg
        exact noP hc (by decide) hs
  have noL : ∀ {g}, (g = lb ∨ lv.ownBlock = some g) → cv k ≠ .pointer (some ⟨g, 0, none⟩) := fun hg hs => by
    rcases hg with rfl | hg
    · exact noP (show Blk W _ _ 47 from h.led.here) (by decide) hs
    · obtain ⟨cs, hc⟩ := own_blk h.led.own hg
      exact noP hc (by decide) hs
  have key : ∀ lv' L2, Led w' lb lv' L2 → (∀ g, lv'.ownBlock = some g → g < W.heap.size → SW lb lv (cv k) false g) → PS X w0 xb lb mb lv' mv tv wv cv rv (upd D k none) E L2 M w' := fun lv' L2 hl' ho => by
    refine ⟨h.bel.trans (hkp.below h.size (fun j hj e => by have := swB j e; omega)), keep _ _ _ h.here (by decide) (by decide) (by decide), h.xB, h.lB, h.mB, hl', h.rled.kept hkp (noQ (.inl rfl)) (fun g hg => noQ (.inr hg)), fun g hg => ?_, h.mvB, fun g hg hm => ?_, fun j hj => ?_, fun j hj => ?_, h.pB, h.qB, h.pne, h.qne, h.km, h.ku, h.exk, h.exk _ _ (fun g cs t hg ht => by rcases ht with rfl | rfl <;> exact keep _ _ _ hg (by decide) (by decide) (by decide)) h.ex⟩
    · rcases Nat.lt_or_ge g W.heap.size with hlt | hge
      · rcases ho g hg hlt with e | e
        · exact h.sp e
        · exact h.pB k hk g e
      · have := h.size; omega
    · obtain ⟨cs, hc⟩ := own_blk h.rled.own hm
      rcases ho g hg hc.lt with e | e
      · exact h.no_q (.inr hm) e
      · exact noP hc (by decide) e
    · by_cases ej : j = k
      · subst ej; rw [upd_at]; exact hp
      · rw [upd_ne _ _ _ _ ej]
        exact (h.pc j hj).blks (fun g cs eg hg => hbl g cs _ (h.ne_p hk hj (Ne.symm ej) eg) hg (by decide) (by decide))
    · exact (h.qc j hj).blks (fun g cs _ hg => keep g cs _ hg (by decide) (by decide) (by decide)) (fun g cs hg => keep g cs _ hg (by decide) (by decide) (by decide)) (fun g cs hg => keep g cs _ hg (by decide) (by decide) (by decide))
  cases mute with
  | true => exact ⟨lv, key lv L (h.led.kept hkp (fun e => by rcases e with e | e; exact Bool.noConfusion e.1; exact noL (.inl rfl) e) (fun g hg e => by rcases e with e | e; exact Bool.noConfusion e.1; exact noL (.inr hg) e)) (fun g hg _ => .inl ⟨rfl, .inr hg⟩)⟩
  | false =>
    obtain ⟨_, lv', hl', ho⟩ := hl
    exact ⟨lv', key lv' (evW L (D k)) hl' ho⟩
theorem PS.wipeQ (h : PS X w0 xb lb mb lv mv tv wv cv rv D E L M W) (k : Nat) (hk : k < 2) (mute : Bool) (hr : Room M) :
    Calls Tryd.prog 31 #[rv k, lpv (lo mb mute)] W fun e w' => e = .returned (.int .i64 (kdC (E k))) ∧ ∃ mv', PS X w0 xb lb mb lv mv' tv wv cv rv D (upd E k none) L (sel mute M (evW M (E k))) w' := by
  have hlg : RLG (SW mb mv (rv k) mute) W W (lo mb mute) M := by
    cases mute
    · exact ⟨.inl ⟨rfl, .inl rfl⟩, mv, h.rled, fun g hg _ => .inl ⟨rfl, .inr hg⟩⟩
    · exact trivial
  refine (wipe_qc (SW mb mv (rv k) mute) W W (lo mb mute) M (rv k) (E k) (h.qc k hk) hlg (Kp.refl _ _) hr (fun g e _ => .inr e)).mono ?_
  rintro e w' ⟨rfl, hp, hl, hkp⟩
  refine ⟨rfl, ?_⟩
  have noR : ∀ {g cs t}, Blk W g cs t → t ≠ 86 → rv k ≠ .pointer (some ⟨g, 0, none⟩) := fun hg ht e => by
    obtain ⟨cs', hc⟩ := (h.qc k hk).blk e
    exact ht (blk_ty hg hc)
  have noS : ∀ {g cs t}, Blk W g cs t → t ≠ 49 → t ≠ 74 → ¬ SP mb mv mute g := fun hg h1 h2 e => by
    exact rled_apart h.rled hg h1 h2 e.2
  have swB : ∀ j, SW mb mv (rv k) mute j → w0.heap.size ≤ j := fun j hj => by
    rcases hj with hj | hj
    · exact h.sq hj
    · exact h.qB k hk j hj
  have keep : ∀ g cs t, Blk W g cs t → t ≠ 49 → t ≠ 74 → t ≠ 86 → Blk w' g cs t := fun g cs t hg h1 h2 h3 => hg.kept hkp (fun e => by
    rcases e with e | e
    · exact noS hg h1 h2 e
    · exact noR hg h3 e)
  have noP : ∀ {g}, (g = lb ∨ lv.ownBlock = some g) → ¬ SW mb mv (rv k) mute g := fun hg hs => by
    rcases hs with hs | hs
    · exact h.no_p hg hs
    · rcases hg with rfl | hg
      · exact noR (show Blk W _ _ 47 from h.led.here) (by decide) hs
      · obtain ⟨cs, hc⟩ := own_blk h.led.own hg
        exact noR hc (by decide) hs
  have noL : ∀ {g}, (g = mb ∨ mv.ownBlock = some g) → rv k ≠ .pointer (some ⟨g, 0, none⟩) := fun hg hs => by
    rcases hg with rfl | hg
    · exact noR (show Blk W _ _ 49 from h.rled.here) (by decide) hs
    · obtain ⟨cs, hc⟩ := own_blk h.rled.own hg
      exact noR hc (by decide) hs
  have key : ∀ mv' L2, RLed w' mb mv' L2 → (∀ g, mv'.ownBlock = some g → g < W.heap.size → SW mb mv (rv k) false g) → PS X w0 xb lb mb lv mv' tv wv cv rv D (upd E k none) L L2 w' := fun mv' L2 hl' ho => by
    refine ⟨h.bel.trans (hkp.below h.size (fun j hj e => by have := swB j e; omega)), keep _ _ _ h.here (by decide) (by decide) (by decide), h.xB, h.lB, h.mB, h.led.kept hkp (noP (.inl rfl)) (fun g hg => noP (.inr hg)), hl', h.lvB, fun g hg => ?_, fun g hg hm => ?_, fun j hj => ?_, fun j hj => ?_, h.pB, h.qB, h.pne, h.qne, h.km, h.ku, h.exk, h.exk _ _ (fun g cs t hg ht => by rcases ht with rfl | rfl <;> exact keep _ _ _ hg (by decide) (by decide) (by decide)) h.ex⟩
    · rcases Nat.lt_or_ge g W.heap.size with hlt | hge
      · rcases ho g hg hlt with e | e
        · exact h.sq e
        · exact h.qB k hk g e
      · have := h.size; omega
    · obtain ⟨cs, hc⟩ := own_blk h.led.own hg
      rcases ho g hm hc.lt with e | e
      · exact h.no_p (.inr hg) e
      · exact noR hc (by decide) e
    · exact (h.pc j hj).blks (fun g cs _ hg => keep g cs _ hg (by decide) (by decide) (by decide))
    · by_cases ej : j = k
      · subst ej; rw [upd_at]; exact hp
      · rw [upd_ne _ _ _ _ ej]
        exact (h.qc j hj).blks (fun g cs eg hg => hg.kept hkp (fun e => by
          rcases e with e | e
          · exact noS hg (by decide) (by decide) e
          · exact h.ne_q hk hj (Ne.symm ej) eg e)) (fun g cs hg => keep g cs _ hg (by decide) (by decide) (by decide)) (fun g cs hg => keep g cs _ hg (by decide) (by decide) (by decide))
  cases mute with
  | true => exact ⟨mv, key mv M (h.rled.kept hkp (fun e => by rcases e with e | e; exact Bool.noConfusion e.1; exact noL (.inl rfl) e) (fun g hg e => by rcases e with e | e; exact Bool.noConfusion e.1; exact noL (.inr hg) e)) (fun g hg _ => .inl ⟨rfl, .inr hg⟩)⟩
  | false =>
    obtain ⟨_, mv', hl', ho⟩ := hl
    exact ⟨mv', key mv' (evW M (E k)) hl' ho⟩
end
end Go.Proofs.YtehhnneomoddgaaDoor.Ae
namespace Go.Proofs.YtehhnneomoddgaaDoor.Ae
open Go.ChangeShapes Go.WideShapes Go.ChangeAt Go.RowKit
open Go.Proofs.YtehhnneomoddgaaDoor.By Go.Proofs.YtehhnneomoddgaaDoor.Gf
section
variable {X : World → Prop} {w0 W : World} {xb lb mb : Nat} {lv mv tv wv : Value} {cv rv : Nat → Value} {D E : Nat → KD} {L M : List Rn}
theorem PS.encP (h : PS X w0 xb lb mb lv mv tv wv cv rv D E L M W) (k : Nat) (hk : k < 2) (mute : Bool) (b : Nat → Nat) (hb : B16 b) (hr : Room L) :
    Calls Tryd.prog 19 #[cv k, lpv (lo lb mute), bv b] W fun e w' => e = .returned (.tuple #[bv (kdE b (D k)), .int .i64 (kdC (D k))]) ∧ (∃ lv', PS X w0 xb lb mb lv' mv tv wv cv rv D E (sel mute L (evE L (D k))) M w') ∧ Kt W w' := by
  refine (enc_pc (SP lb lv mute) W W (lo lb mute) L (cv k) (D k) b hb (h.pc k hk) (h.lg mute) (Kp.refl _ _) hr h.kmW (h.s0 mute)).mono ?_
  rintro e w' ⟨rfl, h1, h2, h3⟩
  exact ⟨rfl, h.turnP mute h1 h2 h3, h3⟩
theorem PS.encQ (h : PS X w0 xb lb mb lv mv tv wv cv rv D E L M W) (k : Nat) (hk : k < 2) (mute : Bool) (b : Nat → Nat) (hb : B16 b) (hr : Room M) :
    Calls Tryd.prog 21 #[rv k, lpv (lo mb mute), bv b] W fun e w' => e = .returned (.tuple #[bv (kdE b (E k)), .int .i64 (kdC (E k))]) ∧ (∃ mv', PS X w0 xb lb mb lv mv' tv wv cv rv D E L (sel mute M (evE M (E k))) w') ∧ Ku W w' := by
  refine (enc_qc (SP mb mv mute) W W (lo mb mute) M (rv k) (E k) b hb (h.qc k hk) (h.rlg mute) (Kp.refl _ _) hr).mono ?_
  rintro e w' ⟨rfl, h1, h2, h3⟩
  exact ⟨rfl, h.turnQ mute h1 h2 h3, h3⟩
theorem PS.decP (h : PS X w0 xb lb mb lv mv tv wv cv rv D E L M W) (k : Nat) (hk : k < 2) (mute : Bool) (b : Nat → Nat) (hb : B16 b) (hr : Room L) :
    Calls Tryd.prog 22 #[cv k, lpv (lo lb mute), bv b] W fun e w' => e = .returned (.tuple #[bv (kdD b (D k)), .int .i64 (kdC (D k))]) ∧ (∃ lv', PS X w0 xb lb mb lv' mv tv wv cv rv D E (sel mute L (evE L (D k))) M w') ∧ Kt W w' := by
  refine (dec_pc (SP lb lv mute) W W (lo lb mute) L (cv k) (D k) b hb (h.pc k hk) (h.lg mute) (Kp.refl _ _) hr h.kuW (h.s1 mute)).mono ?_
  rintro e w' ⟨rfl, h1, h2, h3⟩
  exact ⟨rfl, h.turnP mute h1 h2 h3, h3⟩
theorem PS.decQ (h : PS X w0 xb lb mb lv mv tv wv cv rv D E L M W) (k : Nat) (hk : k < 2) (mute : Bool) (b : Nat → Nat) (hb : B16 b) (hr : Room M) :
    Calls Tryd.prog 23 #[rv k, lpv (lo mb mute), bv b] W fun e w' => e = .returned (.tuple #[bv (kdD b (E k)), .int .i64 (kdC (E k))]) ∧ (∃ mv', PS X w0 xb lb mb lv mv' tv wv cv rv D E L (sel mute M (evE M (E k))) w') ∧ Ku W w' := by
  refine (dec_qc (SP mb mv mute) W W (lo mb mute) M (rv k) (E k) b hb (h.qc k hk) (h.rlg mute) (Kp.refl _ _) hr).mono ?_
  rintro e w' ⟨rfl, h1, h2, h3⟩
  exact ⟨rfl, h.turnQ mute h1 h2 h3, h3⟩
end
end Go.Proofs.YtehhnneomoddgaaDoor.Ae
