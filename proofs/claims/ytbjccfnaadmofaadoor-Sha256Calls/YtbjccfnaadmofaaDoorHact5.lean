/- The helper act: any call. -/
import Derived.Test.YtbjccfnaadmofaaDoorHact4
namespace Go.Proofs.YtbjccfnaadmofaaDoor.Sh
open Go.ChangeShapes Go.WideShapes Go.ChangeAt Go.RowKit
open Go.Proofs.YtbjccfnaadmofaaDoor.By Go.Proofs.YtbjccfnaadmofaaDoor.Wd
/-- No message is longer. -/
def Mx (K : Nat → KD) (c : Nat) : Prop := ∀ k, k < 3 → ml (K k) ≤ c
theorem Mx.mono {K : Nat → KD} {c d : Nat} (h : Mx K c) (hd : c ≤ d) : Mx K d := fun k hk => Nat.le_trans (h k hk) hd
theorem Mx.upd {K : Nat → KD} {c d k : Nat} {x : KD} (h : Mx K c) (hd : c ≤ d) (hx : ml x ≤ d) : Mx (upd K k x) d := fun i hi => by
  by_cases e : i = k
  · rw [e, upd_at]; exact hx
  · rw [upd_ne _ _ _ _ e]; exact Nat.le_trans (h i hi) hd
theorem wrK_ml (g : Nat → Int) (n : Nat) (k : KD) : ml (wrK g n k) ≤ ml k + n := by
  match k with
  | none | some none => exact Nat.zero_le _
  | some (some (m, f)) => exact Nat.le_refl _
theorem reK_ml (k : KD) : ml (reK k) ≤ ml k := by
  match k with
  | none | some none => exact Nat.le_refl _
  | some (some (m, f)) => exact Nat.zero_le _
theorem wiK_ml (k : KD) : ml (wiK k) ≤ ml k := by
  match k with
  | none | some none => exact Nat.le_refl _
  | some (some (m, f)) => exact Nat.zero_le _
theorem cnK_ml (k : KD) : ml (cnK k) ≤ ml k := by
  match k with
  | none | some none => exact Nat.le_refl _
  | some (some (m, f)) => exact Nat.le_refl _
theorem wrN_le (n : Nat) (k : KD) : wrN n k ≤ n / 64 + 1 := by
  match k with
  | none | some none => exact Nat.zero_le _
  | some (some (m, f)) => show (m + n) / 64 - m / 64 ≤ n / 64 + 1; omega
theorem suN_le (k : KD) : suN k ≤ 2 := by
  match k with
  | none | some none => exact Nat.zero_le _
  | some (some (m, f)) => show last m ≤ 2; unfold last zs; omega
/-- Little was recorded more. -/
theorem more_ev {L : List Rn} (hp : Pos L) (hb : tot L ≤ 100000) (n : Nat) (hn : n ≤ 300) (sil : Bool) : tot (sel sil L (evs256 L n)) ≤ tot L + 300 := by
  cases sil with
  | true => show tot L ≤ tot L + 300; omega
  | false => show tot (evs256 L n) ≤ tot L + 300; rw [evs256_tot hp n (by omega)]; omega
theorem more_wi {L : List Rn} (hp : Pos L) (hb : tot L ≤ 100000) (k : KD) (sil : Bool) : tot (sel sil L (wiL L k)) ≤ tot L + 300 := by
  cases sil with
  | true => show tot L ≤ tot L + 300; omega
  | false =>
    show tot (wiL L k) ≤ tot L + 300
    unfold wiL
    split
    · rw [putL_tot hp rfl (by omega)]; omega
    · omega
section
variable {w0 W W' : World} {B : Nat} {K : Nat → KD} {pb qb : Nat → Nat} {lb mb xb : Nat} {lv mv tv wv : Value} {L : List Rn} {tl : List TE}
/-- Any call. -/
theorem PW.act (h : PW w0 B K pb qb lb lv mb mv L xb tv wv tl W) (on cc to : Int) (pv : Value) (sil : Bool) (pn c : Nat) (g : Nat → Int) (hg : ∀ i, 0 ≤ g i ∧ g i < 256) (hp : ∀ W', Below B w0 W' → By.RB W' pv pn g) (hpn : pn ≤ 16384) (hmx : Mx K c) (hc : c + pn ≤ 800000) (htl : tl.length ≤ 1000) (hroom : tot L ≤ 100000) :
    Calls Tryd.prog 10 #[.pointer (some ⟨xb, 0, none⟩), .agg #[.int .i64 on, .int .i64 cc, .int .i64 to, pv, .bool sil]] W fun e w' => e = .returned (.bool true) ∧ ∃ K' pb' qb' lv' mv' L' tv' wv' tl', PW w0 B K' pb' qb' lb lv' mb mv' L' xb tv' wv' tl' w' ∧ Mx K' (c + pn) ∧ tot L' ≤ tot L + 300 ∧ tl'.length ≤ tl.length + 1 := by
  have hpos := h.gw.l.pos
  have hm0 : Mx K (c + pn) := hmx.mono (by omega)
  have hl0 : tot L ≤ tot L + 300 := by omega
  by_cases c0 : cc = 0
  · subst c0
    refine (h.write on to pv sil pn g hg hp (by omega) (fun k hk => by have := hmx k hk; omega) hroom).mono ?_
    rintro e w' ⟨rfl, k, lv', mv', hk3, h'⟩
    exact ⟨rfl, _, _, _, _, _, _, _, _, _, h', hmx.upd (by omega) (Nat.le_trans (wrK_ml g pn (K k)) (by have := hmx k hk3; omega)), more_ev hpos hroom _ (Nat.le_trans (wrN_le pn (K k)) (by omega)) sil, by omega⟩
  by_cases c1 : cc = 1
  · subst c1
    refine (h.sum on to pv sil htl (fun k hk => by have := hmx k hk; omega) hroom).mono ?_
    rintro e w' ⟨rfl, k, lv', mv', tv', wv', a, b, hk3, h'⟩
    exact ⟨rfl, _, _, _, _, _, _, _, _, _, h', hm0, more_ev hpos hroom _ (Nat.le_trans (suN_le (K k)) (by omega)) sil, by simp⟩
  by_cases c2 : cc = 2
  · subst c2
    refine (h.clone on to pv sil).mono ?_
    rintro e w' ⟨rfl, k, b1, b2, hk3, h'⟩
    exact ⟨rfl, _, _, _, _, _, _, _, _, _, h', hmx.upd (by omega) (Nat.le_trans (cnK_ml (K k)) (by have := hmx k hk3; omega)), hl0, by omega⟩
  by_cases c3 : cc = 3
  · subst c3
    refine (h.reset on to pv sil).mono ?_
    rintro e w' ⟨rfl, k, lv', mv', hk3, h'⟩
    exact ⟨rfl, _, _, _, _, _, _, _, _, _, h', hmx.upd (by omega) (Nat.le_trans (reK_ml (K k)) (by have := hmx k hk3; omega)), hl0, by omega⟩
  by_cases c4 : cc = 4
  · subst c4
    refine (h.wipe on to pv sil hroom).mono ?_
    rintro e w' ⟨rfl, k, lv', mv', hk3, h'⟩
    exact ⟨rfl, _, _, _, _, _, _, _, _, _, h', hmx.upd (by omega) (Nat.le_trans (wiK_ml (K k)) (by have := hmx k hk3; omega)), more_wi hpos hroom (K k) sil, by omega⟩
  by_cases c5 : cc = 5
  · subst c5
    refine (h.form on to pv sil htl hroom).mono ?_
    rintro e w' ⟨rfl, k, tv', wv', a, b, hk3, h'⟩
    exact ⟨rfl, _, _, _, _, _, _, _, _, _, h', hm0, hl0, by simp⟩
  by_cases c6 : cc = 6
  · subst c6
    refine (h.new on to pv sil).mono ?_
    rintro e w' ⟨rfl, k, b1, b2, hk3, h'⟩
    exact ⟨rfl, _, _, _, _, _, _, _, _, _, h', hmx.upd (by omega) (Nat.zero_le _), hl0, by omega⟩
  refine (h.ask on to pv sil cc ⟨c0, c1, c2, c3, c4, c5, c6⟩ hroom).mono ?_
  rintro e w' ⟨rfl, h'⟩
  exact ⟨rfl, _, _, _, _, _, _, _, _, _, h', hm0, hl0, by omega⟩
end
end Go.Proofs.YtbjccfnaadmofaaDoor.Sh
