/- Tag of both sides, whatever it is asked: one contract. -/
import Derived.Test.YtnhhkoekghjogaaDoorUrn
namespace Go.Proofs.YtnhhkoekghjogaaDoor.Kc
open Go.ChangeShapes Go.WideShapes Go.ChangeAt Go.RowKit
open Go.Proofs.YtnhhkoekghjogaaDoor.By Go.Proofs.YtnhhkoekghjogaaDoor.Wd
/-- May it be told? -/
def tv (st n : Int) : Prop := (st = 128 ∨ st = 256) ∧ 0 ≤ n ∧ n ≤ 65536
instance (st n : Int) : Decidable (tv st n) := by unfold tv; exact inferInstance
def rr (st : Int) : Nat := if st = 128 then 168 else 136
theorem rr_str {st : Int} (h : st = 128 ∨ st = 256) : Str st (rr st) := by
  rcases h with rfl | rfl
  · exact .inl ⟨rfl, rfl⟩
  · exact .inr ⟨rfl, rfl⟩
section
variable (st n : Int) (xof : Bool) (a : Nat) (f : Nat → Int) (c : Nat) (h : Nat → Int) (m : Nat) (g : Nat → Int)
def tgc : Int := if tv st n then 0 else 2
def tgk : Nat := if tv st n then n.toNat else 0
def tgz : Z := ky (rr st) (kt (rr st) a f c h m g) n.toNat xof
def tgf : Nat → Int := fun i => if tv st n then Z.say (rr st) (tgz st n xof a f c h m g) i else 0
def tgC : Nat := if tv st n then (Z.out (rr st) (tgz st n xof a f c h m g) n.toNat).c else 0
theorem tgf_b (i : Nat) : 0 ≤ tgf st n xof a f c h m g i ∧ tgf st n xof a f c h m g i < 256 := by
  unfold tgf
  split
  · rename_i hv; exact say_kb (rr_str hv.1) _ _ _ i
  · decide
theorem tgk_le : tgk st n ≤ 65536 := by
  unfold tgk
  split
  · rename_i hv; have := hv.2; omega
  · omega
theorem tgC_le (ha : a ≤ 1000000) (hc : c ≤ 1000000) (hm : m ≤ 1000000) : tgC st n xof a f c h m g ≤ 200000 := by
  unfold tgC
  split
  · rename_i hv
    have hs := rr_str hv.1
    have h1 := kz_le hs a c f h ha hc
    have ok := kz_ok hs a c f h
    have h2 : (kt (rr st) a f c h m g).c ≤ (kz (rr st) a f c h).c + 8000 := ins_up hs ok g m hm
    have ok2 : (kt (rr st) a f c h m g).Ok (rr st) false := ok.ins (by have := hs.lo; omega) _ _
    have h3 := ke_le hs ok2 n.toNat xof
    have h4 := out_le (rr st) (tgz st n xof a f c h m g) n.toNat
    have h5 : (tgz st n xof a f c h m g).c = (ke (rr st) (kt (rr st) a f c h m g) n.toNat xof).c + 1 := rfl
    have := hv.2
    omega
  · omega
end
theorem tag_any (st n : Int) (xof : Bool) (a c m : Nat) (f h g : Nat → Int) (p q x : Value) (lo : Option Nat) (L : List Rn) (S : Nat → Prop) (w : World) (hk : KT w) (hS0 : ¬ S 0) (hS1 : ¬ S 1) (hl : LG S w w lo L) (hpos : Pos L) (hT : tot L ≤ 2305843009100000000 ∧ L.length ≤ 4000000)
    (hp : ∀ w', Kp S w w' → By.RB w' p a f) (hq : ∀ w', Kp S w w' → By.RB w' q c h) (hx : ∀ w', Kp S w w' → By.RB w' x m g) (ha : a ≤ 1000000) (hc : c ≤ 1000000) (hm : m ≤ 1000000) :
    Calls Tryd.prog 12 #[lpv lo, .int .i64 st, p, q, x, .int .i64 n, .bool xof] w fun e w' => ∃ v, e = .returned (.tuple #[v, .int .i64 (tgc st n)]) ∧ By.Own w' w.heap.size v (tgk st n) (tgf st n xof a f c h m g) ∧ LG S w w' lo (evk L (tgC st n xof a f c h m g)) ∧ Kp S w w' := by
  by_cases hv : tv st n
  · obtain ⟨k, rfl⟩ : ∃ k : Nat, n = k := ⟨n.toNat, by have := hv.2; omega⟩
    have hk6 : k ≤ 65536 := by have := hv.2; omega
    refine (ktag_ok st (rr st) a c m k f h g p q x xof lo L S w (rr_str hv.1) hk hS0 hS1 hl hpos hT hp hq hx ha hc hm hk6).mono ?_
    rintro e w' ⟨v, rfl, h1, h2, h3⟩
    have e1 : tgc st k = 0 := if_pos hv
    have e2 : tgk st k = k := by unfold tgk; rw [if_pos hv]; rfl
    have e3 : tgC st k xof a f c h m g = (Z.out (rr st) (ky (rr st) (kt (rr st) a f c h m g) k xof) k).c := by unfold tgC; rw [if_pos hv]; rfl
    rw [e1, e2, e3]
    exact ⟨v, rfl, own_congr h1 (tgf_b st k xof a f c h m g) (fun i _ => by unfold tgf; rw [if_pos hv]; rfl), h2, h3⟩
  · have e1 : tgc st n = 2 := if_neg hv
    have e2 : tgk st n = 0 := if_neg hv
    have e3 : tgC st n xof a f c h m g = 0 := if_neg hv
    rw [e1, e2, e3]
    by_cases hn : n < 0 ∨ 65536 < n
    · refine (ktag_no st n _ _ _ _ _ w hn).mono ?_
      rintro e w' ⟨rfl, rfl⟩
      exact ⟨_, rfl, own_nil _ _ _ (tgf_b st n xof a f c h m g), hl, Kp.refl _ _⟩
    · obtain ⟨k, rfl⟩ : ∃ k : Nat, n = k := ⟨n.toNat, by omega⟩
      have h1 : ¬ st = 128 := fun e => hv ⟨.inl e, by omega⟩
      have h2 : ¬ st = 256 := fun e => hv ⟨.inr e, by omega⟩
      refine (ktag_bad st k _ _ _ _ _ w (by omega) h1 h2).mono ?_
      rintro e w' ⟨rfl, hb⟩
      exact ⟨_, rfl, own_nil _ _ _ (tgf_b st k xof a f c h m g), hl.below hb, Kp.of_below S hb⟩
theorem rtag_any (st n : Int) (xof : Bool) (a c m : Nat) (f h g : Nat → Int) (p q x : Value) (lo : Option Nat) (L : List Rn) (S : Nat → Prop) (w : World) (hl : RG S w w lo L) (hpos : Pos L) (hT : tot L ≤ 2305843009100000000 ∧ L.length ≤ 4000000)
    (hp : ∀ w', Kp S w w' → By.RB w' p a f) (hq : ∀ w', Kp S w w' → By.RB w' q c h) (hx : ∀ w', Kp S w w' → By.RB w' x m g) (ha : a ≤ 1000000) (hc : c ≤ 1000000) (hm : m ≤ 1000000) :
    Calls Tryd.prog 13 #[lpv lo, .int .i64 st, p, q, x, .int .i64 n, .bool xof] w fun e w' => ∃ v, e = .returned (.tuple #[v, .int .i64 (tgc st n)]) ∧ By.Own w' w.heap.size v (tgk st n) (tgf st n xof a f c h m g) ∧ RG S w w' lo (evk L (tgC st n xof a f c h m g)) ∧ Kp S w w' := by
  by_cases hv : tv st n
  · obtain ⟨k, rfl⟩ : ∃ k : Nat, n = k := ⟨n.toNat, by have := hv.2; omega⟩
    have hk6 : k ≤ 65536 := by have := hv.2; omega
    refine (rktag_ok st (rr st) a c m k f h g p q x xof lo L S w (rr_str hv.1) hl hpos hT hp hq hx ha hc hm hk6).mono ?_
    rintro e w' ⟨v, rfl, h1, h2, h3⟩
    have e1 : tgc st k = 0 := if_pos hv
    have e2 : tgk st k = k := by unfold tgk; rw [if_pos hv]; rfl
    have e3 : tgC st k xof a f c h m g = (Z.out (rr st) (ky (rr st) (kt (rr st) a f c h m g) k xof) k).c := by unfold tgC; rw [if_pos hv]; rfl
    rw [e1, e2, e3]
    exact ⟨v, rfl, own_congr h1 (tgf_b st k xof a f c h m g) (fun i _ => by unfold tgf; rw [if_pos hv]; rfl), h2, h3⟩
  · have e1 : tgc st n = 2 := if_neg hv
    have e2 : tgk st n = 0 := if_neg hv
    have e3 : tgC st n xof a f c h m g = 0 := if_neg hv
    rw [e1, e2, e3]
    refine (rktag_no st n _ _ _ _ _ w ?_).mono ?_
    · unfold tv at hv
      by_cases hn : n < 0 ∨ 65536 < n
      · exact .inr hn
      · exact .inl ⟨fun e => hv ⟨.inl e, by omega⟩, fun e => hv ⟨.inr e, by omega⟩⟩
    · rintro e w' ⟨rfl, rfl⟩
      exact ⟨_, rfl, own_nil _ _ _ (tgf_b st n xof a f c h m g), hl, Kp.refl _ _⟩
end Go.Proofs.YtnhhkoekghjogaaDoor.Kc
