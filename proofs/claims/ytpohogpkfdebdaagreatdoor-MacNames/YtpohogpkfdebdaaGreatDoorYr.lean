/- The statements' helpers 'block', 'rising' and 'awake'; the calls without a ledger. The calls without a ledger; the statements' helper 'awake' answers true. -/
import Derived.Test.YtpohogpkfdebdaaGreatDoorYp
namespace Go.Proofs.YtpohogpkfdebdaaGreatDoor.Ae
open Go.ChangeShapes Go.WideShapes Go.ChangeAt Go.RowKit
open Go.Proofs.YtpohogpkfdebdaaGreatDoor.By Go.Proofs.YtpohogpkfdebdaaGreatDoor.Gf
open Go.Proofs.YtpohogpkfdebdaaGreatDoor.Kc (own_kept own_mono own8_type cat cat_bound wpList_cat below_grow)
/-- The examples' answers. -/
def wn : List Nat := [105, 196, 224, 216, 106, 123, 4, 48, 216, 205, 183, 128, 112, 180, 197, 90, 221, 169, 124, 164, 134, 76, 223, 224, 110, 175, 112, 160, 236, 13, 113, 145, 142, 162, 183, 202, 81, 103, 69, 191, 234, 252, 73, 144, 75, 73, 96, 137]
def wnt (i : Nat) : Nat := wn.getD i 0
theorem wn48 : #[Value.int IntKind.u8 105, Value.int IntKind.u8 196, Value.int IntKind.u8 224, Value.int IntKind.u8 216, Value.int IntKind.u8 106, Value.int IntKind.u8 123, Value.int IntKind.u8 4, Value.int IntKind.u8 48, Value.int IntKind.u8 216, Value.int IntKind.u8 205, Value.int IntKind.u8 183, Value.int IntKind.u8 128, Value.int IntKind.u8 112, Value.int IntKind.u8 180, Value.int IntKind.u8 197, Value.int IntKind.u8 90, Value.int IntKind.u8 221, Value.int IntKind.u8 169, Value.int IntKind.u8 124, Value.int IntKind.u8 164, Value.int IntKind.u8 134, Value.int IntKind.u8 76, Value.int IntKind.u8 223, Value.int IntKind.u8 224, Value.int IntKind.u8 110, Value.int IntKind.u8 175, Value.int IntKind.u8 112, Value.int IntKind.u8 160, Value.int IntKind.u8 236, Value.int IntKind.u8 13, Value.int IntKind.u8 113, Value.int IntKind.u8 145, Value.int IntKind.u8 142, Value.int IntKind.u8 162, Value.int IntKind.u8 183, Value.int IntKind.u8 202, Value.int IntKind.u8 81, Value.int IntKind.u8 103, Value.int IntKind.u8 69, Value.int IntKind.u8 191, Value.int IntKind.u8 234, Value.int IntKind.u8 252, Value.int IntKind.u8 73, Value.int IntKind.u8 144, Value.int IntKind.u8 75, Value.int IntKind.u8 73, Value.int IntKind.u8 96, Value.int IntKind.u8 137] = (bl 48 (cb wnt)).toArray := by kernel_rfl
theorem zn48 : #[Value.int IntKind.u8 0, Value.int IntKind.u8 0, Value.int IntKind.u8 0, Value.int IntKind.u8 0, Value.int IntKind.u8 0, Value.int IntKind.u8 0, Value.int IntKind.u8 0, Value.int IntKind.u8 0, Value.int IntKind.u8 0, Value.int IntKind.u8 0, Value.int IntKind.u8 0, Value.int IntKind.u8 0, Value.int IntKind.u8 0, Value.int IntKind.u8 0, Value.int IntKind.u8 0, Value.int IntKind.u8 0, Value.int IntKind.u8 0, Value.int IntKind.u8 0, Value.int IntKind.u8 0, Value.int IntKind.u8 0, Value.int IntKind.u8 0, Value.int IntKind.u8 0, Value.int IntKind.u8 0, Value.int IntKind.u8 0, Value.int IntKind.u8 0, Value.int IntKind.u8 0, Value.int IntKind.u8 0, Value.int IntKind.u8 0, Value.int IntKind.u8 0, Value.int IntKind.u8 0, Value.int IntKind.u8 0, Value.int IntKind.u8 0, Value.int IntKind.u8 0, Value.int IntKind.u8 0, Value.int IntKind.u8 0, Value.int IntKind.u8 0, Value.int IntKind.u8 0, Value.int IntKind.u8 0, Value.int IntKind.u8 0, Value.int IntKind.u8 0, Value.int IntKind.u8 0, Value.int IntKind.u8 0, Value.int IntKind.u8 0, Value.int IntKind.u8 0, Value.int IntKind.u8 0, Value.int IntKind.u8 0, Value.int IntKind.u8 0, Value.int IntKind.u8 0] = (bl 48 (cb nul)).toArray := by kernel_rfl
/-- A list's bytes as numbers. -/
def kf (f : Nat → Int) (i : Nat) : Nat := (f i).toNat
theorem kf_eq {f : Nat → Int} (h : ∀ i, 0 ≤ f i ∧ f i < 256) (i : Nat) : ((kf f i : Nat) : Int) = f i := by have := h i; unfold kf; omega
theorem kf_lt {f : Nat → Int} (h : ∀ i, 0 ≤ f i ∧ f i < 256) (i : Nat) : kf f i < 256 := by have := h i; unfold kf; omega
theorem kf_cb (f : Nat → Nat) (i : Nat) : kf (cb f) i = f i := by unfold kf; exact Int.toNat_natCast _
theorem rb_one (w : World) (x : Int) (hx : 0 ≤ x ∧ x < 256) : By.RB (w.alloc (.cells #[.int .u8 x] 5)) (.slice (some ⟨w.heap.size, 0, none⟩) 1 1) 1 (fun _ => x) :=
  rb_blk (Blk.newAt w _ (bl 1 (fun _ => x)) 5 _ rfl (by rw [← bl_singleton])) (fun _ => hx) (by decide)
def ris (y i : Nat) : Nat := i * y % 256
theorem ris_lt (y i : Nat) : ris y i < 256 := Nat.mod_lt _ (by decide)
theorem ris_b (y i : Nat) : 0 ≤ cb (ris y) i ∧ cb (ris y) i < 256 := ⟨Int.natCast_nonneg _, Int.ofNat_lt.2 (ris_lt y i)⟩
theorem ris_next (y i : Nat) : ((ris y i : Int) + (y : Int)) % 256 = (ris y (i + 1) : Nat) := by
  unfold ris
  rw [Nat.succ_mul]
  omega
end Go.Proofs.YtpohogpkfdebdaaGreatDoor.Ae
namespace Go.Proofs.YtpohogpkfdebdaaGreatDoor.Ae
open Go.ChangeShapes Go.WideShapes Go.ChangeAt Go.RowKit
open Go.Proofs.YtpohogpkfdebdaaGreatDoor.By Go.Proofs.YtpohogpkfdebdaaGreatDoor.Gf
open Go.Proofs.YtpohogpkfdebdaaGreatDoor.Kc (own_kept own_mono own8_type cat cat_bound wpList_cat below_grow)
theorem new_ok (S : Nat → Prop) (w0 w : World) (lo : Option Nat) (L : List Rn) (k : Nat) (hk : k = 4 ∨ k = 6 ∨ k = 8) (key : Nat → Nat) (hkey : ∀ i, key i < 256) (kb ko cap : Nat) (hc : 4 * k ≤ cap) (h : LG S w0 w lo L) (h0 : Kp S w0 w) (hr : Room L)
    (hcell : ∀ W, Kp S w0 W → Kt w W → ∀ i, i < 4 * k → W.cell? ⟨kb, ko + i, none⟩ = some (.int .u8 (key i : Nat))) :
    Calls Tryz.prog 149 #[lpv lo, .slice (some ⟨kb, ko, none⟩) (4 * k) cap] w fun e w' => ∃ g, e = .returned (.tuple #[.pointer (some ⟨g, 0, none⟩), .int .i64 0]) ∧ Ci w' g k (rk k key) ∧ w.heap.size ≤ g ∧ LG S w0 w' lo (putL L ⟨4, ((4 * k : Nat) : Int), 1⟩) ∧ Kp S w0 w' ∧ Kt w w' := by
  rcases hk with rfl | rfl | rfl
  · exact new_ok16 S w0 w lo L key hkey kb ko cap hc h h0 hr hcell
  · exact new_ok24 S w0 w lo L key hkey kb ko cap hc h h0 hr hcell
  · exact new_ok32 S w0 w lo L key hkey kb ko cap hc h h0 hr hcell
theorem room0 : Room [] := ⟨by show (0 : Int) ≤ _; decide, by decide⟩
theorem below_kp {w w' : World} (h : Kp (fun _ => False) w w') : Below w.heap.size w w' := h.below (Nat.le_refl _) (fun _ _ e => e)
theorem newN (k : Nat) (hk : k = 4 ∨ k = 6 ∨ k = 8) (key : Nat → Nat) (hkey : ∀ i, key i < 256) (kb ko cap : Nat) (hc : 4 * k ≤ cap) (w : World) (hcell : ∀ i, i < 4 * k → w.cell? ⟨kb, ko + i, none⟩ = some (.int .u8 (key i : Nat))) :
    Calls Tryz.prog 149 #[.pointer none, .slice (some ⟨kb, ko, none⟩) (4 * k) cap] w fun e w' => ∃ g, e = .returned (.tuple #[.pointer (some ⟨g, 0, none⟩), .int .i64 0]) ∧ Ci w' g k (rk k key) ∧ w.heap.size ≤ g ∧ Below w.heap.size w w' := by
  have hb := block_lt_of_cell (hcell 0 (by omega))
  refine (new_ok (fun _ => False) w w none [] k hk key hkey kb ko cap hc trivial (Kp.refl _ _) room0 (fun W h _ i hi => ?_)).mono ?_
  · exact ((below_kp h).cell (p := ⟨kb, ko + i, none⟩) hb).trans (hcell i hi)
  · rintro e w' ⟨g, rfl, hc, hg, _, hkp, _⟩
    exact ⟨g, rfl, hc, hg, below_kp hkp⟩
theorem encN (g k : Nat) (ws b : Nat → Nat) (w : World) (hb : B16 b) (hc : Ci w g k ws) (hk : KM w) : Calls Tryz.prog 150 #[.pointer (some ⟨g, 0, none⟩), .pointer none, bv b] w fun e w' => e = .returned (.tuple #[bv (enc ws (k + 6) b), .int .i64 0]) ∧ Below w.heap.size w w' := by
  refine (enc_ci (fun _ => False) w w none [] g k ws b hb hc trivial (Kp.refl _ _) room0 hk id).mono ?_
  rintro e w' ⟨rfl, _, hkp, _⟩
  exact ⟨rfl, below_kp hkp⟩
/-- With a cipher's own round keys a block is enciphered as the numbers say. -/
theorem enc_rk (k : Nat) (key b : Nat → Nat) : E16 (enc (rk k key) (k + 6) b) (enc (wds k key (3 * k + 28)) (k + 6) b) :=
  enc_k (fun p hp => by unfold rk; rw [upto_get _ _ _ (by omega)]) b
theorem dec_rk (k : Nat) (key b : Nat → Nat) : E16 (dec (rk k key) (k + 6) b) (dec (wds k key (3 * k + 28)) (k + 6) b) :=
  dec_k (fun p hp => by unfold rk; rw [upto_get _ _ _ (by omega)]) b
theorem ris1 (i : Nat) (h : i < 40) : ris 1 i = i := by unfold ris; omega
theorem blk17 (i : Nat) (h : i < 16) : blk 16 (kf (cb (ris 17))) i = 17 * i := by
  unfold blk
  rw [if_pos h, kf_cb]
  unfold ris
  omega
theorem want0 : E16 (enc (rk 4 (kf (cb (ris 1)))) (4 + 6) (blk 16 (kf (cb (ris 17))))) (fun j => wnt (16 * 0 + j)) := by
  refine (enc_rk 4 _ _).trans ((aes128 _ _ (fun p hp => by rw [kf_cb]; exact ris1 p (by omega)) (fun i hi => blk17 i hi)).trans (fun j hj => ?_))
  have h : ∀ j, j < 16 → ofl [105, 196, 224, 216, 106, 123, 4, 48, 216, 205, 183, 128, 112, 180, 197, 90] j = wnt (16 * 0 + j) := by decide
  exact h j hj
theorem want1 : E16 (enc (rk 6 (kf (cb (ris 1)))) (6 + 6) (blk 16 (kf (cb (ris 17))))) (fun j => wnt (16 * 1 + j)) := by
  refine (enc_rk 6 _ _).trans ((aes192 _ _ (fun p hp => by rw [kf_cb]; exact ris1 p (by omega)) (fun i hi => blk17 i hi)).trans (fun j hj => ?_))
  have h : ∀ j, j < 16 → ofl [221, 169, 124, 164, 134, 76, 223, 224, 110, 175, 112, 160, 236, 13, 113, 145] j = wnt (16 * 1 + j) := by decide
  exact h j hj
theorem want2 : E16 (enc (rk 8 (kf (cb (ris 1)))) (8 + 6) (blk 16 (kf (cb (ris 17))))) (fun j => wnt (16 * 2 + j)) := by
  refine (enc_rk 8 _ _).trans ((aes256 _ _ (fun p hp => by rw [kf_cb]; exact ris1 p (by omega)) (fun i hi => blk17 i hi)).trans (fun j hj => ?_))
  have h : ∀ j, j < 16 → ofl [142, 162, 183, 202, 81, 103, 69, 191, 234, 252, 73, 144, 75, 73, 96, 137] j = wnt (16 * 2 + j) := by decide
  exact h j hj
theorem own_at {w : World} {B n : Nat} {v : Value} {f : Nat → Int} (h : By.Own w B v n f) (hn : 0 < n) : ∃ g cap, v = .slice (some ⟨g, 0, none⟩) n cap ∧ n ≤ cap ∧ ∀ i, i < n → w.cell? ⟨g, 0 + i, none⟩ = some (.int .u8 ((kf f i : Nat) : Int)) := by
  rcases h.shape with ⟨_, h0⟩ | ⟨g, cap, rfl, _, _, hc, _, hcell, _⟩
  · omega
  · exact ⟨g, cap, rfl, hc, fun i hi => by rw [Nat.zero_add, kf_eq h.1]; exact hcell i hi⟩
theorem eqb_false {f g : Nat → Nat} (h : ¬ E16 f g) : eqb f g = false := by
  rw [← Bool.not_eq_true]; exact fun e => h ((eqb_iff f g).1 e)
end Go.Proofs.YtpohogpkfdebdaaGreatDoor.Ae
