/- The statements' helpers 'block', 'rising' and 'awake'; the calls without a ledger. The calls without a ledger; the statements' helper 'awake' answers true. The statements' helper 'runs'; a ledger beside ciphers, all of them new; the statement AesKnown, walked. A block that a call answered is laid into a variable; the statement AesNone, walked. The statement AesBack, walked. -/
import Derived.Test.YtbgdjjfonmoemaaDoorYp
import Derived.Lib.SlBytesConst
namespace Go.Proofs.YtbgdjjfonmoemaaDoor.Ae
open Go.ChangeShapes Go.WideShapes Go.ChangeAt Go.RowKit
open Go.Proofs.YtbgdjjfonmoemaaDoor.By Go.Proofs.YtbgdjjfonmoemaaDoor.Gf
open Go.Proofs.YtbgdjjfonmoemaaDoor.Kc (own_kept own_mono own8_type cat cat_bound wpList_cat below_grow)
/-- The examples' answers. -/
def wn : List Nat := [105, 196, 224, 216, 106, 123, 4, 48, 216, 205, 183, 128, 112, 180, 197, 90, 221, 169, 124, 164, 134, 76, 223, 224, 110, 175, 112, 160, 236, 13, 113, 145, 142, 162, 183, 202, 81, 103, 69, 191, 234, 252, 73, 144, 75, 73, 96, 137]
def wnt (i : Nat) : Nat := wn.getD i 0
theorem wn48 : #[Value.int IntKind.u8 105, Value.int IntKind.u8 196, Value.int IntKind.u8 224, Value.int IntKind.u8 216, Value.int IntKind.u8 106, Value.int IntKind.u8 123, Value.int IntKind.u8 4, Value.int IntKind.u8 48, Value.int IntKind.u8 216, Value.int IntKind.u8 205, Value.int IntKind.u8 183, Value.int IntKind.u8 128, Value.int IntKind.u8 112, Value.int IntKind.u8 180, Value.int IntKind.u8 197, Value.int IntKind.u8 90, Value.int IntKind.u8 221, Value.int IntKind.u8 169, Value.int IntKind.u8 124, Value.int IntKind.u8 164, Value.int IntKind.u8 134, Value.int IntKind.u8 76, Value.int IntKind.u8 223, Value.int IntKind.u8 224, Value.int IntKind.u8 110, Value.int IntKind.u8 175, Value.int IntKind.u8 112, Value.int IntKind.u8 160, Value.int IntKind.u8 236, Value.int IntKind.u8 13, Value.int IntKind.u8 113, Value.int IntKind.u8 145, Value.int IntKind.u8 142, Value.int IntKind.u8 162, Value.int IntKind.u8 183, Value.int IntKind.u8 202, Value.int IntKind.u8 81, Value.int IntKind.u8 103, Value.int IntKind.u8 69, Value.int IntKind.u8 191, Value.int IntKind.u8 234, Value.int IntKind.u8 252, Value.int IntKind.u8 73, Value.int IntKind.u8 144, Value.int IntKind.u8 75, Value.int IntKind.u8 73, Value.int IntKind.u8 96, Value.int IntKind.u8 137] = (bl 48 (cb wnt)).toArray := by kernel_rfl
theorem zn48 : #[Value.int IntKind.u8 0, Value.int IntKind.u8 0, Value.int IntKind.u8 0, Value.int IntKind.u8 0, Value.int IntKind.u8 0, Value.int IntKind.u8 0, Value.int IntKind.u8 0, Value.int IntKind.u8 0, Value.int IntKind.u8 0, Value.int IntKind.u8 0, Value.int IntKind.u8 0, Value.int IntKind.u8 0, Value.int IntKind.u8 0, Value.int IntKind.u8 0, Value.int IntKind.u8 0, Value.int IntKind.u8 0, Value.int IntKind.u8 0, Value.int IntKind.u8 0, Value.int IntKind.u8 0, Value.int IntKind.u8 0, Value.int IntKind.u8 0, Value.int IntKind.u8 0, Value.int IntKind.u8 0, Value.int IntKind.u8 0, Value.int IntKind.u8 0, Value.int IntKind.u8 0, Value.int IntKind.u8 0, Value.int IntKind.u8 0, Value.int IntKind.u8 0, Value.int IntKind.u8 0, Value.int IntKind.u8 0, Value.int IntKind.u8 0, Value.int IntKind.u8 0, Value.int IntKind.u8 0, Value.int IntKind.u8 0, Value.int IntKind.u8 0, Value.int IntKind.u8 0, Value.int IntKind.u8 0, Value.int IntKind.u8 0, Value.int IntKind.u8 0, Value.int IntKind.u8 0, Value.int IntKind.u8 0, Value.int IntKind.u8 0, Value.int IntKind.u8 0, Value.int IntKind.u8 0, Value.int IntKind.u8 0, Value.int IntKind.u8 0, Value.int IntKind.u8 0] = (bl 48 (cb nul)).toArray := by kernel_rfl
/-- A list's bytes as numbers. -/
def kf (f : Nat → Int) (i : Nat) : Nat := (f i).toNat
theorem kf_eq {f : Nat → Int} (h : ∀ i, 0 ≤ f i ∧ f i < 256) (i : Nat) : ((kf f i : Nat) : Int) = f i := by have := h i; unfold kf; omega
theorem kf_lt {f : Nat → Int} (h : ∀ i, 0 ≤ f i ∧ f i < 256) (i : Nat) : kf f i < 256 := by have := h i; unfold kf; omega
theorem kf_cb (f : Nat → Nat) (i : Nat) : kf (cb f) i = f i := by unfold kf; exact Int.toNat_natCast _
theorem rb_one (w : World) (x : Int) (hx : 0 ≤ x ∧ x < 256) : By.RB (w.alloc (.cells #[.int .u8 x] 5)) (.slice (some ⟨w.heap.size, 0, none⟩) 1 1) 1 (fun _ => x) :=
  rb_blk (Blk.newAt w _ (bl 1 (fun _ => x)) 5 _ rfl (by rw [← bl_singleton])) (fun _ => hx) (by decide)
def ris (y i : Nat) : Nat := i * y % 256
theorem ris_lt (y i : Nat) : ris y i < 256 := Nat.mod_lt _ (by decide)
theorem ris_b (y i : Nat) : 0 ≤ cb (ris y) i ∧ cb (ris y) i < 256 := ⟨Int.natCast_nonneg _, Int.ofNat_lt.2 (ris_lt y i)⟩
theorem ris_next (y i : Nat) : ((ris y i : Int) + (y : Int)) % 256 = (ris y (i + 1) : Nat) := by
  unfold ris
  rw [Nat.succ_mul]
  omega
end Go.Proofs.YtbgdjjfonmoemaaDoor.Ae
namespace Go.Proofs.YtbgdjjfonmoemaaDoor.Ae
open Go.ChangeShapes Go.WideShapes Go.ChangeAt Go.RowKit
open Go.Proofs.YtbgdjjfonmoemaaDoor.By Go.Proofs.YtbgdjjfonmoemaaDoor.Gf
open Go.Proofs.YtbgdjjfonmoemaaDoor.Kc (own_kept own_mono own8_type cat cat_bound wpList_cat below_grow)
theorem new_ok (S : Nat → Prop) (w0 w : World) (lo : Option Nat) (L : List Rn) (k : Nat) (hk : k = 4 ∨ k = 6 ∨ k = 8) (key : Nat → Nat) (hkey : ∀ i, key i < 256) (kb ko cap : Nat) (hc : 4 * k ≤ cap) (h : LG S w0 w lo L) (h0 : Kp S w0 w) (hr : Room L)
    (hcell : ∀ W, Kp S w0 W → Kt w W → ∀ i, i < 4 * k → W.cell? ⟨kb, ko + i, none⟩ = some (.int .u8 (key i : Nat))) :
    Calls Tryd.prog 38 #[lpv lo, .slice (some ⟨kb, ko, none⟩) (4 * k) cap] w fun e w' => ∃ g, e = .returned (.tuple #[.pointer (some ⟨g, 0, none⟩), .int .i64 0]) ∧ Ci w' g k (rk k key) ∧ w.heap.size ≤ g ∧ LG S w0 w' lo (putL L ⟨4, ((4 * k : Nat) : Int), 1⟩) ∧ Kp S w0 w' ∧ Kt w w' := by
  rcases hk with rfl | rfl | rfl
  · exact new_ok16 S w0 w lo L key hkey kb ko cap hc h h0 hr hcell
  · exact new_ok24 S w0 w lo L key hkey kb ko cap hc h h0 hr hcell
  · exact new_ok32 S w0 w lo L key hkey kb ko cap hc h h0 hr hcell
theorem room0 : Room [] := ⟨by show (0 : Int) ≤ _; decide, by decide⟩
theorem below_kp {w w' : World} (h : Kp (fun _ => False) w w') : Below w.heap.size w w' := h.below (Nat.le_refl _) (fun _ _ e => e)
theorem newN (k : Nat) (hk : k = 4 ∨ k = 6 ∨ k = 8) (key : Nat → Nat) (hkey : ∀ i, key i < 256) (kb ko cap : Nat) (hc : 4 * k ≤ cap) (w : World) (hcell : ∀ i, i < 4 * k → w.cell? ⟨kb, ko + i, none⟩ = some (.int .u8 (key i : Nat))) :
    Calls Tryd.prog 38 #[.pointer none, .slice (some ⟨kb, ko, none⟩) (4 * k) cap] w fun e w' => ∃ g, e = .returned (.tuple #[.pointer (some ⟨g, 0, none⟩), .int .i64 0]) ∧ Ci w' g k (rk k key) ∧ w.heap.size ≤ g ∧ Below w.heap.size w w' := by
  have hb := block_lt_of_cell (hcell 0 (by omega))
  refine (new_ok (fun _ => False) w w none [] k hk key hkey kb ko cap hc trivial (Kp.refl _ _) room0 (fun W h _ i hi => ?_)).mono ?_
  · exact ((below_kp h).cell (p := ⟨kb, ko + i, none⟩) hb).trans (hcell i hi)
  · rintro e w' ⟨g, rfl, hc, hg, _, hkp, _⟩
    exact ⟨g, rfl, hc, hg, below_kp hkp⟩
theorem encN (g k : Nat) (ws b : Nat → Nat) (w : World) (hb : B16 b) (hc : Ci w g k ws) (hk : KM w) : Calls Tryd.prog 39 #[.pointer (some ⟨g, 0, none⟩), .pointer none, bv b] w fun e w' => e = .returned (.tuple #[bv (enc ws (k + 6) b), .int .i64 0]) ∧ Below w.heap.size w w' := by
  refine (enc_ci (fun _ => False) w w none [] g k ws b hb hc trivial (Kp.refl _ _) room0 hk id).mono ?_
  rintro e w' ⟨rfl, _, hkp, _⟩
  exact ⟨rfl, below_kp hkp⟩
/-- With a cipher's own round keys a block is enciphered as the numbers say. -/
theorem enc_rk (k : Nat) (key b : Nat → Nat) : E16 (enc (rk k key) (k + 6) b) (enc (wds k key (3 * k + 28)) (k + 6) b) :=
  enc_k (fun p hp => by unfold rk; rw [upto_get _ _ _ (by omega)]) b
theorem dec_rk (k : Nat) (key b : Nat → Nat) : E16 (dec (rk k key) (k + 6) b) (dec (wds k key (3 * k + 28)) (k + 6) b) :=
  dec_k (fun p hp => by unfold rk; rw [upto_get _ _ _ (by omega)]) b
theorem ris1 (i : Nat) (h : i < 40) : ris 1 i = i := by unfold ris; omega
theorem blk17 (i : Nat) (h : i < 16) : blk 16 (kf (cb (ris 17))) i = 17 * i := by
  unfold blk
  rw [if_pos h, kf_cb]
  unfold ris
  omega
theorem want0 : E16 (enc (rk 4 (kf (cb (ris 1)))) (4 + 6) (blk 16 (kf (cb (ris 17))))) (fun j => wnt (16 * 0 + j)) := by
  refine (enc_rk 4 _ _).trans ((aes128 _ _ (fun p hp => by rw [kf_cb]; exact ris1 p (by omega)) (fun i hi => blk17 i hi)).trans (fun j hj => ?_))
  have h : ∀ j, j < 16 → ofl [105, 196, 224, 216, 106, 123, 4, 48, 216, 205, 183, 128, 112, 180, 197, 90] j = wnt (16 * 0 + j) := by decide
  exact h j hj
theorem want1 : E16 (enc (rk 6 (kf (cb (ris 1)))) (6 + 6) (blk 16 (kf (cb (ris 17))))) (fun j => wnt (16 * 1 + j)) := by
  refine (enc_rk 6 _ _).trans ((aes192 _ _ (fun p hp => by rw [kf_cb]; exact ris1 p (by omega)) (fun i hi => blk17 i hi)).trans (fun j hj => ?_))
  have h : ∀ j, j < 16 → ofl [221, 169, 124, 164, 134, 76, 223, 224, 110, 175, 112, 160, 236, 13, 113, 145] j = wnt (16 * 1 + j) := by decide
  exact h j hj
theorem want2 : E16 (enc (rk 8 (kf (cb (ris 1)))) (8 + 6) (blk 16 (kf (cb (ris 17))))) (fun j => wnt (16 * 2 + j)) := by
  refine (enc_rk 8 _ _).trans ((aes256 _ _ (fun p hp => by rw [kf_cb]; exact ris1 p (by omega)) (fun i hi => blk17 i hi)).trans (fun j hj => ?_))
  have h : ∀ j, j < 16 → ofl [142, 162, 183, 202, 81, 103, 69, 191, 234, 252, 73, 144, 75, 73, 96, 137] j = wnt (16 * 2 + j) := by decide
  exact h j hj
theorem own_at {w : World} {B n : Nat} {v : Value} {f : Nat → Int} (h : By.Own w B v n f) (hn : 0 < n) : ∃ g cap, v = .slice (some ⟨g, 0, none⟩) n cap ∧ n ≤ cap ∧ ∀ i, i < n → w.cell? ⟨g, 0 + i, none⟩ = some (.int .u8 ((kf f i : Nat) : Int)) := by
  rcases h.shape with ⟨_, h0⟩ | ⟨g, cap, rfl, _, _, hc, _, hcell, _⟩
  · omega
  · exact ⟨g, cap, rfl, hc, fun i hi => by rw [Nat.zero_add, kf_eq h.1]; exact hcell i hi⟩
theorem eqb_false {f g : Nat → Nat} (h : ¬ E16 f g) : eqb f g = false := by
  rw [← Bool.not_eq_true]; exact fun e => h ((eqb_iff f g).1 e)
end Go.Proofs.YtbgdjjfonmoemaaDoor.Ae
namespace Go.Proofs.YtbgdjjfonmoemaaDoor.Ae
open Go.ChangeShapes Go.WideShapes Go.ChangeAt Go.RowKit
open Go.Proofs.YtbgdjjfonmoemaaDoor.By Go.Proofs.YtbgdjjfonmoemaaDoor.Gf
open Go.Proofs.YtbgdjjfonmoemaaDoor.Kc (own_kept own_mono own8_type cat cat_bound wpList_cat below_grow)
def NS (w : World) (x : Nat) : Prop := w.heap.size ≤ x
/-- Since w: a ledger of the call's own in block lb has L. -/
structure Lg (w W : World) (lb : Nat) (L : List Rn) : Prop where
  lg : LG (NS w) w W (some lb) L
  kp : Kp (NS w) w W
section
variable {w W W' : World} {lb : Nat} {L : List Rn}
theorem Lg.bel (h : Lg w W lb L) : Below w.heap.size w W := h.kp.below (Nat.le_refl _) (fun k hk e => by unfold NS at e; omega)
theorem Lg.below (h : Lg w W lb L) (hb : Below W.heap.size W W') : Lg w W' lb L := ⟨h.lg.below hb, h.kp.trans (Kp.of_below _ hb) (fun _ _ e => e)⟩
theorem Lg.km (h : Lg w W lb L) (hk : KM w) : KM W := hk.kept h.kp (by have := hk.lt; unfold NS; omega)
theorem Lg.ku (h : Lg w W lb L) (hk : KU w) : KU W := hk.kept h.kp (by have := hk.lt; unfold NS; omega)
theorem Lg.led (h : Lg w W lb L) : ∃ rv, Led W lb rv L := by obtain ⟨_, rv, hl, _⟩ := h.lg; exact ⟨rv, hl⟩
theorem newL (w W : World) (hb : Below w.heap.size w W) : Calls Tryd.prog 5 #[] W fun e w' => e = .returned (.pointer (some ⟨W.heap.size, 0, none⟩)) ∧ Lg w w' W.heap.size [] ∧ Below W.heap.size W w' := by
  refine (new9 W).mono ?_
  rintro e w' ⟨rfl, hl, hb'⟩
  exact ⟨rfl, ⟨⟨hb.size, _, hl, fun g hg => by simp [Value.ownBlock] at hg⟩, (Kp.of_below _ hb).trans (Kp.of_below _ hb') (fun _ _ e => e) |>.mono (fun _ _ e => e)⟩, hb'⟩
end
section
variable {w W : World} {lb : Nat} {L : List Rn}
theorem Lg.new (h : Lg w W lb L) (hr : Room L) (k : Nat) (hk : k = 4 ∨ k = 6 ∨ k = 8) (key : Nat → Nat) (hkey : ∀ i, key i < 256) (kb ko cap : Nat) (hc : 4 * k ≤ cap)
    (hcell : ∀ V, Below w.heap.size w V → Kt W V → ∀ i, i < 4 * k → V.cell? ⟨kb, ko + i, none⟩ = some (.int .u8 (key i : Nat))) :
    Calls Tryd.prog 38 #[.pointer (some ⟨lb, 0, none⟩), .slice (some ⟨kb, ko, none⟩) (4 * k) cap] W fun e w' => ∃ g, e = .returned (.tuple #[.pointer (some ⟨g, 0, none⟩), .int .i64 0]) ∧ Ci w' g k (rk k key) ∧ W.heap.size ≤ g ∧ Lg w w' lb (putL L ⟨4, ((4 * k : Nat) : Int), 1⟩) ∧ Kt W w' := by
  refine (new_ok (NS w) w W (some lb) L k hk key hkey kb ko cap hc h.lg h.kp hr (fun V hv ht => hcell V (hv.below (Nat.le_refl _) (fun k hk e => by unfold NS at e; omega)) ht)).mono ?_
  rintro e w' ⟨g, rfl, hc, hg, hl, hkp, ht⟩
  exact ⟨g, rfl, hc, hg, ⟨hl, hkp⟩, ht⟩
theorem Lg.enc (h : Lg w W lb L) (hr : Room L) (hk : KM w) (g k : Nat) (ws b : Nat → Nat) (hb : B16 b) (hc : Ci W g k ws) :
    Calls Tryd.prog 39 #[.pointer (some ⟨g, 0, none⟩), .pointer (some ⟨lb, 0, none⟩), bv b] W fun e w' => e = .returned (.tuple #[bv (enc ws (k + 6) b), .int .i64 0]) ∧ Lg w w' lb (putL L ⟨5, ((4 * k : Nat) : Int), 1⟩) ∧ Ci w' g k ws ∧ Kt W w' := by
  refine (enc_ci (NS w) w W (some lb) L g k ws b hb hc h.lg h.kp hr hk (by have := hk.lt; unfold NS; omega)).mono ?_
  rintro e w' ⟨rfl, hl, hkp, ht⟩
  exact ⟨rfl, ⟨hl, hkp⟩, ⟨ht.2 _ _ _ hc.here (by decide) (by decide), hc.kk, hc.lt⟩, ht⟩
theorem Lg.wipe (h : Lg w W lb L) (hr : Room L) (g k : Nat) (ws : Nat → Nat) (hc : Ci W g k ws) (hg : w.heap.size ≤ g) :
    Calls Tryd.prog 51 #[.pointer (some ⟨g, 0, none⟩), .pointer (some ⟨lb, 0, none⟩)] W fun e w' => e = .returned (.int .i64 0) ∧ Lg w w' lb (putL L ⟨8, ((16 * (k + 7) : Nat) : Int), 1⟩) ∧ NoCi w' g ∧ Kx g W w' := by
  refine (wipe_ci (NS w) w W (some lb) L g k ws hc h.lg h.kp hr (fun e => by omega)).mono ?_
  rintro e w' ⟨rfl, hn, hl, hkp, ht⟩
  exact ⟨rfl, ⟨hl, hkp⟩, hn, ht⟩
theorem Lg.runs (h : Lg w W lb L) (hn : L.length ≤ 1000) : Calls Tryd.prog 12 #[.pointer (some ⟨lb, 0, none⟩)] W fun e w' => ∃ v, e = .returned v ∧ RB w' v L ∧ Below W.heap.size W w' := by
  obtain ⟨rv, hl⟩ := h.led
  refine (runs22 lb rv L W hl (by omega)).mono ?_
  rintro e w' ⟨v, rfl, ho, hb⟩
  exact ⟨v, rfl, ho.reads, hb⟩
end
theorem sameL (a b : Value) (L : List Rn) (W : World) (ha : RB W a L) (hb : RB W b L) (hl : L.length < 1000000000000000000) : Calls Tryd.prog 11 #[a, b] W fun e w' => e = .returned (.bool true) ∧ ∃ d, w' = W.drewN d := by
  refine (same14 a b L L W ha hb hl hl).mono ?_
  rintro e w' ⟨rfl, d, rfl⟩
  exact ⟨by rw [decide_eq_true rfl], d, rfl⟩
theorem ev_ok (k s c : Int) (h1 : 0 ≤ k ∧ k < 256) (h2 : 0 ≤ s ∧ s ≤ 1000) (h3 : 0 ≤ c ∧ c ≤ 1000) : (⟨k, s, c⟩ : Rn).Ok :=
  ⟨h1, ⟨by show -9223372036854775808 ≤ s; omega, by show s ≤ 9223372036854775807; omega⟩, ⟨by show -9223372036854775808 ≤ c; omega, by show c ≤ 9223372036854775807; omega⟩⟩
def szl : List Value := [.int .i64 0, .int .i64 15, .int .i64 17, .int .i64 33]
theorem make_n (n : Nat) (hn : n ≤ 100) (w : World) : (Instr.makeSlice 22 (.int .i64 n) (.int .i64 n)).run Tryd.prog w = .ok (.slice (some ⟨w.heap.size, 0, none⟩) n n) (w.alloc (.cells (bl n (cb nul)).toArray 5)) := by
  obtain ⟨i0, hi, hz0, hz1, hz2⟩ := info_parts info5
  have hr := run_make (P := Tryd.prog) w 22 5 i0 (.int .u8 0) Tryd.underlying22 hi hz0 .i64 .i64 n n (by omega) (by omega) (by rw [hz2]; omega) (by omega)
  have e : madeCells #[Value.int .u8 0] n = (bl n (cb nul)).toArray := by
    have h := bl_zero n
    have e2 : bl n (fun _ => (0 : Int)) = bl n (cb nul) := rfl
    rw [← e2, ← h]
  simp only [Int.toNat_natCast, hz1, Nat.mul_one, Value.cells, e] at hr
  exact hr
theorem room_of {L : List Rn} (h1 : tot L ≤ 1000) (h2 : L.length ≤ 1000) : Room L := ⟨by omega, by omega⟩
end Go.Proofs.YtbgdjjfonmoemaaDoor.Ae
namespace Go.Proofs.YtbgdjjfonmoemaaDoor.Ae
open Go.ChangeShapes Go.WideShapes Go.ChangeAt Go.RowKit
open Go.Proofs.YtbgdjjfonmoemaaDoor.By Go.Proofs.YtbgdjjfonmoemaaDoor.Gf
open Go.Proofs.YtbgdjjfonmoemaaDoor.Kc (own_kept own_mono own8_type cat cat_bound wpList_cat below_grow)
/-- A new variable that holds the block z. -/
def Bx (W : World) (z : Nat → Nat) : World := (W.alloc (.cells #[Value.int IntKind.u8 0, Value.int IntKind.u8 0, Value.int IntKind.u8 0, Value.int IntKind.u8 0, Value.int IntKind.u8 0, Value.int IntKind.u8 0, Value.int IntKind.u8 0, Value.int IntKind.u8 0, Value.int IntKind.u8 0, Value.int IntKind.u8 0, Value.int IntKind.u8 0, Value.int IntKind.u8 0, Value.int IntKind.u8 0, Value.int IntKind.u8 0, Value.int IntKind.u8 0, Value.int IntKind.u8 0] 82)).setCells W.heap.size 0 (bl 16 (cb z))
theorem bx_s (W : World) (z : Nat → Nat) : (SVb ⟨W.heap.size, 0, none⟩ (bv z)).run Tryd.prog (W.alloc (.cells #[Value.int IntKind.u8 0, Value.int IntKind.u8 0, Value.int IntKind.u8 0, Value.int IntKind.u8 0, Value.int IntKind.u8 0, Value.int IntKind.u8 0, Value.int IntKind.u8 0, Value.int IntKind.u8 0, Value.int IntKind.u8 0, Value.int IntKind.u8 0, Value.int IntKind.u8 0, Value.int IntKind.u8 0, Value.int IntKind.u8 0, Value.int IntKind.u8 0, Value.int IntKind.u8 0, Value.int IntKind.u8 0] 82)) = .ok () (Bx W z) :=
  SVb_run (cs := bl 16 (cb z)) ((Blk.newAt W _ _ 82 _ rfl zeroN).there 0 16 (by rw [bl_length]; omega)) (bl_length _ _) (bl_one _ _)
theorem bx_b (W : World) (z : Nat → Nat) : Blk (Bx W z) W.heap.size (bl 16 (cb z)) 82 := by
  have b := (Blk.newAt W _ _ 82 _ rfl zeroN).put 0 (bl 16 (cb z))
  rw [put_all _ _ (by rw [bl_length, bl_length])] at b
  exact b
theorem bx_bel (W : World) (z : Nat → Nat) : Below W.heap.size W (Bx W z) := below_cells (below_alloc W _) _ _ _ (Nat.le_refl _) (by simp)
theorem ld_blk {W : World} {g : Nat} {z : Nat → Nat} (h : Blk W g (bl 16 (cb z)) 82) : (LDb ⟨g, 0, none⟩).run Tryd.prog W = .ok (bv z) W := LDb_run (range0 h) (bl_length _ _)
theorem bvnul : Value.agg #[Value.int IntKind.u8 0, Value.int IntKind.u8 0, Value.int IntKind.u8 0, Value.int IntKind.u8 0, Value.int IntKind.u8 0, Value.int IntKind.u8 0, Value.int IntKind.u8 0, Value.int IntKind.u8 0, Value.int IntKind.u8 0, Value.int IntKind.u8 0, Value.int IntKind.u8 0, Value.int IntKind.u8 0, Value.int IntKind.u8 0, Value.int IntKind.u8 0, Value.int IntKind.u8 0, Value.int IntKind.u8 0] = bv nul := rfl
@[go_sem high] theorem guardEqZ (a b : Operand) (f : Nat → Nat) (w : World) : (eqGuard .eql 82 a b (bv f) (.agg #[Value.int IntKind.u8 0, Value.int IntKind.u8 0, Value.int IntKind.u8 0, Value.int IntKind.u8 0, Value.int IntKind.u8 0, Value.int IntKind.u8 0, Value.int IntKind.u8 0, Value.int IntKind.u8 0, Value.int IntKind.u8 0, Value.int IntKind.u8 0, Value.int IntKind.u8 0, Value.int IntKind.u8 0, Value.int IntKind.u8 0, Value.int IntKind.u8 0, Value.int IntKind.u8 0, Value.int IntKind.u8 0])).run Tryd.prog w = .ok () w := guardEq a b f nul w
@[go_sem high] theorem binEqZ (f : Nat → Nat) (w : World) : (binOp .eql 82 (bv f) (.agg #[Value.int IntKind.u8 0, Value.int IntKind.u8 0, Value.int IntKind.u8 0, Value.int IntKind.u8 0, Value.int IntKind.u8 0, Value.int IntKind.u8 0, Value.int IntKind.u8 0, Value.int IntKind.u8 0, Value.int IntKind.u8 0, Value.int IntKind.u8 0, Value.int IntKind.u8 0, Value.int IntKind.u8 0, Value.int IntKind.u8 0, Value.int IntKind.u8 0, Value.int IntKind.u8 0, Value.int IntKind.u8 0])).run Tryd.prog w = .ok (.bool (eqb f nul)) w := binEq f nul w
def k16 : List Nat := [48, 49, 50, 51, 52, 53, 54, 55, 56, 57, 97, 98, 99, 100, 101, 102]
def k16f (i : Nat) : Nat := k16.getD i 0
theorem k16_lt (i : Nat) : k16f i < 256 := by
  unfold k16f
  by_cases h : i < 16
  · have : ∀ i, i < 16 → k16.getD i 0 < 256 := by decide
    exact this i h
  · rw [List.getD_eq_getElem?_getD, List.getElem?_eq_none (by show 16 ≤ i; omega)]; decide
theorem NoCi_of {W : World} {g : Nat} (h : Blk W g (cic 0 (fun _ => 0)) 104) : NoCi W g := ⟨_, h⟩
theorem NoCi.lt {W : World} {g : Nat} (h : NoCi W g) : g < W.heap.size := by obtain ⟨_, h⟩ := h; exact h.lt
theorem NoCi.kx {W W' : World} {g x : Nat} (h : NoCi W g) (hk : Kx x W W') (hn : g ≠ x) : NoCi W' g := by obtain ⟨cs, h⟩ := h; exact ⟨cs, hk.2 _ _ _ hn h (by decide) (by decide)⟩
theorem wipeN (g k : Nat) (ws : Nat → Nat) (V W : World) (hc : Ci W g k ws) (hg : V.heap.size ≤ g) (hv : Below V.heap.size V W) : Calls Tryd.prog 51 #[.pointer (some ⟨g, 0, none⟩), .pointer none] W fun e w' => e = .returned (.int .i64 0) ∧ NoCi w' g ∧ Below V.heap.size V w' ∧ Kx g W w' := by
  refine (wipe_ci (NS V) V W none [] g k ws hc trivial (Kp.of_below _ hv) room0 (fun e => by omega)).mono ?_
  rintro e w' ⟨rfl, hn, _, hkp, ht⟩
  exact ⟨rfl, hn, hkp.below (Nat.le_refl _) (fun k hk e => by unfold NS at e; omega), ht⟩
end Go.Proofs.YtbgdjjfonmoemaaDoor.Ae
namespace Go.Proofs.YtbgdjjfonmoemaaDoor.Ae
open Go.ChangeShapes Go.WideShapes Go.ChangeAt Go.RowKit
open Go.Proofs.YtbgdjjfonmoemaaDoor.By Go.Proofs.YtbgdjjfonmoemaaDoor.Gf
open Go.Proofs.YtbgdjjfonmoemaaDoor.Kc (own_kept own_mono own8_type cat cat_bound wpList_cat below_grow)
theorem Blk.kt {W W' : World} {g : Nat} {cs : List Value} (h : Blk W g cs 82) (ht : Kt W W') : Blk W' g cs 82 := ht.2 _ _ _ h (by decide) (by decide)
theorem Ci.kt {W W' : World} {g k : Nat} {ws : Nat → Nat} (h : Ci W g k ws) (ht : Kt W W') : Ci W' g k ws := ⟨ht.2 _ _ _ h.here (by decide) (by decide), h.kk, h.lt⟩
theorem bel_drew {V W : World} (h : Below V.heap.size V W) (d : Nat) : Below V.heap.size V (W.drewN d) := ⟨h.os, h.tape, h.output, h.size, h.block⟩
theorem rb_at {w : World} {v : Value} {n : Nat} {f : Nat → Int} (h : By.RB w v n f) (hn : 0 < n) : ∃ g off cap, v = .slice (some ⟨g, off, none⟩) n cap ∧ n ≤ cap ∧ ∀ i, i < n → w.cell? ⟨g, off + i, none⟩ = some (.int .u8 ((kf f i : Nat) : Int)) := by
  obtain ⟨hf, a, cap, rfl, hc, _, h0 | ⟨b, off, rfl, hcell⟩⟩ := h
  · omega
  · exact ⟨b, off, cap, rfl, hc, fun i hi => by rw [kf_eq hf]; exact hcell i hi⟩
end Go.Proofs.YtbgdjjfonmoemaaDoor.Ae
