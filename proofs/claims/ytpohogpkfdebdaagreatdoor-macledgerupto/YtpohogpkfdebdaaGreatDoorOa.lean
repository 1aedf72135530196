/- The three macs as one: as numbers. What the three macs record: how much it is, and on what it hangs. -/
import Derived.Test.YtpohogpkfdebdaaGreatDoorZme
import Derived.Test.YtpohogpkfdebdaaGreatDoorWe
import Derived.Test.YtpohogpkfdebdaaGreatDoorWd
import Derived.Test.YtpohogpkfdebdaaGreatDoorUnew
namespace Go.Proofs.YtpohogpkfdebdaaGreatDoor.Oc
open Go.ChangeShapes Go.WideShapes Go.ChangeAt Go.RowKit
open Go.Proofs.YtpohogpkfdebdaaGreatDoor.By
open Go.Proofs.YtpohogpkfdebdaaGreatDoor.Dg (BB)
/-- What a mac holds: of hmac, cmac, kmac (there with the tag's length and whether it is the XOF one). -/
inductive PX
  | h (a : Bool) (K : Nat → Int) (m : Nat) (f : Nat → Int)
  | c (k : Nat) (ws : Nat → Nat) (m : Nat) (f : Nat → Nat)
  | u (st : Int) (r : Nat) (z : Kc.Z) (q : Nat) (x : Bool)
def nt (g : Nat → Int) (i : Nat) : Nat := (g i).toNat
theorem nt_lt {g : Nat → Int} (h : BB g) (i : Nat) : nt g i < 256 := by have := h i; unfold nt; omega
theorem nt_cb {g : Nat → Int} (h : BB g) : Ae.cb (nt g) = g := funext fun i => by have := h i; show ((g i).toNat : Int) = g i; omega
namespace PX
/-- The message goes on. -/
def add : PX → Nat → (Nat → Int) → PX
  | h a K m f, n, g => h a K (m + n) (Dg.cat m f g)
  | c k ws m f, n, g => c k ws (m + n) (Vm.ct2 m f (nt g))
  | u st r z q x, n, g => u st r (Kc.Z.ins r z g n) q x
/-- How many bytes the mac tells, and which. -/
def tl : PX → Nat
  | h a _ _ _ => Dg.sz a
  | c _ _ _ _ => 16
  | u _ _ _ q _ => q
def tf : PX → Nat → Int
  | h a K m f => Dg.hm a K m f
  | c k ws m f => fun i => if i < 16 then ((Vm.tgn ws (k + 6) f m i : Nat) : Int) else 0
  | u _ r z q x => Kc.Z.say r (Kc.ky r z q x)
/-- The form. -/
def fl : PX → Nat
  | h a _ _ _ => Dg.fm3n a
  | c k _ _ _ => Vm.fml k
  | u _ _ _ _ _ => 203
def ff : PX → Nat → Int
  | h a K m f => Dg.mfm a K m f
  | c k ws m f => Ae.cb (Vm.fmf k ws m f)
  | u _ _ z _ _ => Kc.fmf z false
/-- What a Write of n bytes records, and a Sum. -/
def eW : PX → Nat → List Rn → List Rn
  | h a _ m _, n, L => Dg.evs a L ((m + n) / Dg.bk a - m / Dg.bk a)
  | c k _ m _, n, L => Vm.evb k L (Vm.nbl (m + n) - Vm.nbl m)
  | u _ r z _ _, n, L => Kc.evk L ((z.p + n) / r)
def eS : PX → List Rn → List Rn
  | h a _ m _, L => Dg.sev a L m
  | c k _ _ _, L => Vm.evb k L 1
  | u _ r z q x, L => Kc.evk L (Kc.kN r z q x)
/-- How many bytes the message has (of kmac: none is asked). -/
def ml : PX → Nat
  | h _ _ m _ => m
  | c _ _ m _ => m
  | u _ _ _ _ _ => 0
/-- Numbers as they are there. -/
def Fine : PX → Prop
  | h _ _ _ f => BB f
  | c k ws _ f => (k = 4 ∨ k = 6 ∨ k = 8) ∧ (∀ i, ws i < 256) ∧ ∀ i, f i < 256
  | u st r z q _ => Kc.Str st r ∧ z.Ok r false ∧ q ≤ 64
theorem Fine.add {p : PX} (hp : p.Fine) (n : Nat) {g : Nat → Int} (hg : BB g) : (p.add n g).Fine := by
  cases p with
  | h a K m f => exact fun i => Sg.cat_bound hp hg i
  | c k ws m f => exact ⟨hp.1, hp.2.1, Vm.ct2_lt hp.2.2 (nt_lt hg) m⟩
  | u st r z q x => exact ⟨hp.1, hp.2.1.ins (by have := hp.1.lo; omega) g n, hp.2.2⟩
theorem tl_add (p : PX) (n : Nat) (g : Nat → Int) : (p.add n g).tl = p.tl := by cases p <;> rfl
theorem fl_add (p : PX) (n : Nat) (g : Nat → Int) : (p.add n g).fl = p.fl := by cases p <;> rfl
theorem ml_add (p : PX) (n : Nat) (g : Nat → Int) : (p.add n g).ml ≤ p.ml + n := by
  cases p with
  | h a K m f => exact Nat.le_refl _
  | c k ws m f => exact Nat.le_refl _
  | u st r z q x => exact Nat.zero_le _
theorem tf_b {p : PX} (hp : p.Fine) : BB p.tf := by
  cases p with
  | h a K m f => exact Dg.hm_b _ _ _ _
  | c k ws m f =>
    intro i
    show 0 ≤ (if i < 16 then ((Vm.tgn ws (k + 6) f m i : Nat) : Int) else 0) ∧ (if i < 16 then ((Vm.tgn ws (k + 6) f m i : Nat) : Int) else 0) < 256
    by_cases hi : i < 16
    · rw [if_pos hi]
      have := Vm.tgn_b hp.2.1 hp.2.2 (k + 6) m i hi
      exact ⟨Int.natCast_nonneg _, Int.ofNat_lt.2 this⟩
    · rw [if_neg hi]; decide
  | u st r z q x => exact fun i => Kc.say_kb hp.1 z q x i
/-- One piece behind another. -/
theorem add_add (p : PX) (m n : Nat) (g : Nat → Int) : (p.add m g).add n (fun i => g (m + i)) = p.add (m + n) g := by
  cases p with
  | h a K l f =>
    show h a K (l + m + n) _ = h a K (l + (m + n)) _
    rw [Nat.add_assoc]
    congr 1
    funext i
    show (if i < l + m then (if i < l then f i else g (i - l)) else g (m + (i - (l + m)))) = if i < l then f i else g (i - l)
    by_cases h1 : i < l
    · rw [if_pos (show i < l + m by omega)]
    · by_cases h2 : i < l + m
      · rw [if_pos h2]
      · rw [if_neg h2, if_neg h1]; congr 1; omega
  | c k ws l f =>
    show c k ws (l + m + n) _ = c k ws (l + (m + n)) _
    rw [Nat.add_assoc]
    congr 1
    funext i
    show (if i < l + m then (if i < l then f i else nt g (i - l)) else nt (fun i => g (m + i)) (i - (l + m))) = if i < l then f i else nt g (i - l)
    by_cases h1 : i < l
    · rw [if_pos (show i < l + m by omega)]
    · by_cases h2 : i < l + m
      · rw [if_pos h2]
      · rw [if_neg h2, if_neg h1]; show (g (m + (i - (l + m)))).toNat = (g (i - l)).toNat; rw [show m + (i - (l + m)) = i - l by omega]
  | u st r z q x => show u st r _ q x = u st r _ q x; rw [← Kc.ins_add]
end PX
/-- A ledger that is far from full. -/
structure Fit (n : Nat) (L : List Rn) : Prop where
  pos : Pos L
  tot : tot L ≤ n
  len : L.length ≤ n
namespace Fit
variable {n : Nat} {L : List Rn}
theorem nil : Fit 0 [] := ⟨fun _ h => absurd h (by simp), by simp [Go.Proofs.YtpohogpkfdebdaaGreatDoor.tot], by simp⟩
theorem mono (h : Fit n L) {k : Nat} (hk : n ≤ k) : Fit k L := ⟨h.pos, by have := h.tot; omega, by have := h.len; omega⟩
theorem put (h : Fit n L) (r : Rn) (h1 : r.c = 1) (hn : n ≤ 4000000) : Fit (n + 1) (putL L r) := by
  have := h.tot
  have t := Kc.putL_tot (r := r) h.pos h1 (by omega)
  exact ⟨putL_pos h.pos, by omega, by have := (putL_len (L := L) (r := r)).1; have := h.len; omega⟩
end Fit
end Go.Proofs.YtpohogpkfdebdaaGreatDoor.Oc
namespace Go.Proofs.YtpohogpkfdebdaaGreatDoor.Oc
open Go.ChangeShapes Go.WideShapes Go.ChangeAt Go.RowKit
open Go.Proofs.YtpohogpkfdebdaaGreatDoor.By
open Go.Proofs.YtpohogpkfdebdaaGreatDoor.Dg (BB)
namespace Fit
variable {k : Nat} {L : List Rn}
theorem evs (h : Fit k L) (a : Bool) (c : Nat) (hk : k + c ≤ 8000000) : Fit (k + c + 1) (Dg.evs a L c) := by
  have h1 := h.tot; have h2 := h.len
  cases a with
  | false =>
    have e := Sh.evs256_all h.pos c (by omega)
    have l := Sh.evs256_len h.pos c
    exact ⟨Sh.evs256_pos h.pos c, by show Go.Proofs.YtpohogpkfdebdaaGreatDoor.tot (Sh.evs256 L c) ≤ _; omega, by show (Sh.evs256 L c).length ≤ _; omega⟩
  | true =>
    have e := Sg.evs512_tot h.pos c (by omega)
    have l := Sg.evs512_len h.pos c
    exact ⟨Sg.evs512_pos h.pos c, by show Go.Proofs.YtpohogpkfdebdaaGreatDoor.tot (Sg.evs512 L c) ≤ _; omega, by show (Sg.evs512 L c).length ≤ _; omega⟩
theorem evb (h : Fit k L) (q : Nat) (c : Nat) (hk : k + c ≤ 8000000) : Fit (k + c + 1) (Vm.evb q L c) := by
  have h1 := h.tot; have h2 := h.len
  have e := Vm.evb_tot h.pos q c (by omega)
  have l := (putL_len (L := L) (r := ⟨5, ((4 * q : Nat) : Int), (c : Int)⟩)).1
  exact ⟨Vm.evb_pos h.pos q c, by omega, by show (putL L _).length ≤ _; omega⟩
theorem evk (h : Fit k L) (c : Nat) (hk : k + c ≤ 8000000) : Fit (k + c + 1) (Kc.evk L c) := by
  have h1 := h.tot; have h2 := h.len
  have e := Kc.evk_tot h.pos c (by omega)
  have l := Kc.evk_len L c
  exact ⟨Kc.evk_pos h.pos c, by omega, by omega⟩
end Fit
theorem div_le (m n b : Nat) (hb : 0 < b) : (m + n) / b - m / b ≤ n := by
  have : (m + n) / b ≤ m / b + n := by
    have e := Nat.add_mul_div_right m n hb
    rw [← e]
    exact Nat.div_le_div_right (Nat.add_le_add_left (Nat.le_mul_of_pos_right n hb) m)
  omega
theorem nbl_up (m n : Nat) : Vm.nbl (m + n) - Vm.nbl m ≤ n := by unfold Vm.nbl; omega
namespace PX
theorem eW_fit {p : PX} (hp : p.Fine) {k : Nat} {L : List Rn} (h : Fit k L) (n : Nat) (hk : k + n ≤ 7000000) : Fit (k + n + 2) (p.eW n L) := by
  cases p with
  | h a K m f =>
    have := div_le m n (Dg.bk a) (by cases a <;> decide)
    exact (h.evs a _ (by omega)).mono (by omega)
  | c q ws m f =>
    have := nbl_up m n
    exact (h.evb q _ (by omega)).mono (by omega)
  | u st r z q x =>
    have h1 := hp.1.lo
    have h2 := hp.2.1.o rfl
    have : (z.p + n) / r ≤ n + 1 := by
      have := div_le z.p n r (by omega)
      have : z.p / r = 0 := Nat.div_eq_of_lt h2
      omega
    exact (h.evk _ (by omega)).mono (by omega)
theorem eS_fit {p : PX} (hp : p.Fine) {k : Nat} {L : List Rn} (h : Fit k L) (hk : k ≤ 6000000) : Fit (k + 80001) (p.eS L) := by
  cases p with
  | h a K m f =>
    have := Dg.last_le a m
    exact (h.evs a _ (by omega)).mono (by omega)
  | c q ws m f => exact (h.evb q _ (by omega)).mono (by omega)
  | u st r z q x =>
    have := Kc.kN_le hp.1 hp.2.1 q x (by have := hp.2.2; omega)
    exact (h.evk _ (by omega)).mono (by omega)
theorem eW_eW {p : PX} (hp : p.Fine) {L : List Rn} {k : Nat} (hL : Fit k L) (m n : Nat) (g : Nat → Int) (hk : k + m + n ≤ 5000000) : (p.add m g).eW n (p.eW m L) = p.eW (m + n) L := by
  cases p with
  | h a K l f =>
    show Dg.evs a (Dg.evs a L _) _ = Dg.evs a L _
    rw [Dg.evs_add]
    congr 1
    have h1 : l / Dg.bk a ≤ (l + m) / Dg.bk a := Nat.div_le_div_right (by omega)
    have h2 : (l + m) / Dg.bk a ≤ (l + m + n) / Dg.bk a := Nat.div_le_div_right (by omega)
    rw [show l + (m + n) = l + m + n by omega]
    omega
  | c q ws l f =>
    show Vm.evb q (Vm.evb q L _) _ = Vm.evb q L _
    have h1 := hL.tot
    have a1 := nbl_up l m
    have a2 := nbl_up (l + m) n
    rw [Vm.evb_add hL.pos _ _ _ (by omega)]
    congr 1
    rw [show l + (m + n) = l + m + n by omega]
    unfold Vm.nbl
    omega
  | u st r z q x =>
    show Kc.evk (Kc.evk L _) _ = Kc.evk L _
    rw [← Kc.evk_add, (Kc.ins_count (hp.2.1.o rfl) g m).2]
    congr 1
    have h1 := hp.1.lo
    have e := Nat.div_add_mod (z.p + m) r
    have e2 : z.p + (m + n) = ((z.p + m) % r + n) + r * ((z.p + m) / r) := by omega
    rw [e2, Nat.add_mul_div_left _ _ (by omega)]
    omega
/-- Alike in all but bytes. -/
def Alike : PX → PX → Prop
  | h a _ m _, h a' _ m' _ => a = a' ∧ m = m'
  | c q _ m _, c q' _ m' _ => q = q' ∧ m = m'
  | u _ r z q x, u _ r' z' q' x' => r = r' ∧ z.p = z'.p ∧ q = q' ∧ x = x'
  | _, _ => False
theorem Alike.add {p p' : PX} (h : Alike p p') (hp : p.Fine) (hp' : p'.Fine) (n : Nat) (g g' : Nat → Int) : Alike (p.add n g) (p'.add n g') := by
  cases p <;> cases p' <;> try exact h.elim
  · exact ⟨h.1, by rw [h.2]⟩
  · exact ⟨h.1, by rw [h.2]⟩
  · obtain ⟨h1, h2, h3, h4⟩ := h
    subst h1
    exact ⟨rfl, by show (Kc.Z.ins _ _ g n).p = (Kc.Z.ins _ _ g' n).p; rw [(Kc.ins_count (hp.2.1.o rfl) g n).2, (Kc.ins_count (hp'.2.1.o rfl) g' n).2, h2], h3, h4⟩
theorem Alike.eW {p p' : PX} (h : Alike p p') (n : Nat) (L : List Rn) : p.eW n L = p'.eW n L := by
  cases p <;> cases p' <;> try exact h.elim
  · obtain ⟨rfl, rfl⟩ := h; rfl
  · obtain ⟨rfl, rfl⟩ := h; rfl
  · obtain ⟨rfl, h2, rfl, rfl⟩ := h
    show Kc.evk L _ = Kc.evk L _
    rw [h2]
theorem out_like (r : Nat) (y y' : Kc.Z) (h : y.p = y'.p) (n : Nat) : (Kc.Z.out r y n).p = (Kc.Z.out r y' n).p ∧ (Kc.Z.out r y n).c + y'.c = (Kc.Z.out r y' n).c + y.c := by
  induction n with
  | zero => exact ⟨h, Nat.add_comm _ _⟩
  | succ n ih =>
    obtain ⟨h1, h2⟩ := ih
    show (((Kc.Z.out r y n).rdy r).p + 1 = ((Kc.Z.out r y' n).rdy r).p + 1) ∧ ((Kc.Z.out r y n).rdy r).c + y'.c = ((Kc.Z.out r y' n).rdy r).c + y.c
    unfold Kc.Z.rdy
    by_cases e : (Kc.Z.out r y n).p = r
    · rw [if_pos e, if_pos (h1 ▸ e)]
      exact ⟨rfl, by show _ + 1 + _ = _ + 1 + _; omega⟩
    · rw [if_neg e, if_neg (h1 ▸ e)]
      exact ⟨by rw [h1], h2⟩
theorem Alike.kN {r q : Nat} {z z' : Kc.Z} {x : Bool} (hz : z.Ok r false) (hz' : z'.Ok r false) (h : z.p = z'.p) : Kc.kN r z q x = Kc.kN r z' q x := by
  rw [← Kc.kN_eq hz, ← Kc.kN_eq hz']
  unfold Kc.ke
  rw [Kc.ins_c (hz.o rfl), Kc.ins_c (hz'.o rfl), h]
  have e := (out_like r (Kc.ky r z q x) (Kc.ky r z' q x) rfl q).2
  omega
theorem Alike.eS {p p' : PX} (h : Alike p p') (hp : p.Fine) (hp' : p'.Fine) (L : List Rn) : p.eS L = p'.eS L := by
  cases p <;> cases p' <;> try exact h.elim
  · obtain ⟨rfl, rfl⟩ := h; rfl
  · obtain ⟨rfl, rfl⟩ := h; rfl
  · obtain ⟨rfl, h2, rfl, rfl⟩ := h
    show Kc.evk L _ = Kc.evk L _
    rw [Alike.kN hp.2.1 hp'.2.1 h2]
theorem Alike.fl {p p' : PX} (h : Alike p p') : p.fl = p'.fl := by
  cases p <;> cases p' <;> try exact h.elim
  · obtain ⟨rfl, rfl⟩ := h; rfl
  · obtain ⟨rfl, rfl⟩ := h; rfl
  · rfl
end PX
end Go.Proofs.YtpohogpkfdebdaaGreatDoor.Oc
