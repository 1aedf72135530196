/- The helper act: any call. -/
import Derived.Test.YtnbmnpfpjhpifaaDoorSact4
namespace Go.Proofs.YtnbmnpfpjhpifaaDoor.Kc
open Go.ChangeShapes Go.WideShapes Go.ChangeAt Go.RowKit
open Go.Proofs.YtnbmnpfpjhpifaaDoor.By Go.Proofs.YtnbmnpfpjhpifaaDoor.Wd
/-- Little was recorded more. -/
def More (L L' : List Rn) (c : Nat) : Prop := tot L' ≤ tot L + c ∧ L'.length ≤ L.length + c
theorem More.refl (L : List Rn) (c : Nat) : More L L c := ⟨by omega, by omega⟩
theorem More.evk {L : List Rn} (hp : Pos L) (hb : Big L) (n c : Nat) (h : n ≤ c) (hc : c ≤ 1000000) : More L (evk L n) c := by
  have h1 := hb.1
  refine ⟨?_, ?_⟩
  · rw [evk_tot hp n (by omega)]; omega
  · have := evk_len L n; omega
theorem More.sel {L L' : List Rn} {c : Nat} (sil : Bool) (h : More L L' c) : More L (sel sil L L') c := by
  cases sil with
  | true => exact More.refl L c
  | false => exact h
theorem More.wi {L : List Rn} (hp : Pos L) (hb : Big L) (k : KD) (c : Nat) (h : 1 ≤ c) : More L (wiL L k) c := by
  unfold wiL
  split
  · have h1 := hb.1
    refine ⟨?_, ?_⟩
    · rw [putL_tot hp rfl (by omega)]; omega
    · have := (putL_len (L := L) (r := ⟨8, 203, 1⟩)).1; omega
  · exact More.refl L c
theorem clN_le (k : KD) : clN k ≤ 1 := by unfold clN; split <;> omega
theorem opn_le (b : Bool) : opn b ≤ 1 := by cases b <;> simp [opn]
theorem rdN_le (n : Int) (k : KD) : rdN n k ≤ 65537 := by
  unfold rdN
  split
  · rename_i r sf z sh
    split
    · omega
    · rename_i h
      have h1 := opn_le sh
      have h2 := out_c_up r (rdY (r, sf, z, sh)) n.toNat
      omega
  · omega
section
variable {w0 W W' : World} {B : Nat} {K : Nat → KD} {pb qb : Nat → Nat} {lb mb xb : Nat} {lv mv tv wv : Value} {L : List Rn} {tl : List TE}
theorem PW.wrN_le (h : PW w0 B K pb qb lb lv mb mv L xb tv wv tl W) (g : Nat → Int) (n k : Nat) (hk3 : k < 3) : wrN g n (K k) ≤ n + 192 := by
  have h1 := (h.gw.sp k hk3).1
  match e : K k with
  | none => exact Nat.zero_le _
  | some none => exact Nat.zero_le _
  | some (some (r, sf, z, true)) => exact Nat.zero_le _
  | some (some (r, sf, z, false)) =>
    rw [e] at h1
    have h2 : Sp W (pb k) r sf z false := h1
    show (Z.ins r z g n).c - z.c ≤ n + 192
    rw [ins_c (h2.ok.o rfl)]
    have := h2.ok.p
    have := h2.hi
    exact Nat.le_trans (Nat.div_le_self _ _) (by omega)
/-- Any call. -/
theorem PW.act (h : PW w0 B K pb qb lb lv mb mv L xb tv wv tl W) (on cc to n sf : Int) (pv : Value) (sil : Bool) (pn : Nat) (g : Nat → Int) (hg : ∀ i, 0 ≤ g i ∧ g i < 256) (hp : ∀ W', Below B w0 W' → By.RB W' pv pn g) (hpn : pn ≤ 6000) (hsf : 0 ≤ sf ∧ sf < 256) (htl : tl.length ≤ 1000) (hroom : Big L) :
    Calls Tryd.prog 9 #[.pointer (some ⟨xb, 0, none⟩), .agg #[.int .i64 on, .int .i64 cc, .int .i64 to, pv, .int .i64 n, .int .u8 sf, .bool sil]] W fun e w' => e = .returned (.bool true) ∧ ∃ K' pb' qb' lv' mv' L' tv' wv' tl', PW w0 B K' pb' qb' lb lv' mb mv' L' xb tv' wv' tl' w' ∧ More L L' 100000 ∧ tl'.length ≤ tl.length + 1 := by
  have hpos := h.gw.l.pos
  by_cases c0 : cc = 0
  · subst c0
    refine (h.write on to n sf pv sil pn g hg hp (by omega) hroom).mono ?_
    rintro e w' ⟨rfl, k, lv', mv', hk3, h'⟩
    exact ⟨rfl, _, _, _, _, _, _, _, _, _, h', (More.evk hpos hroom _ _ (Nat.le_trans (h.wrN_le g pn k hk3) (by omega)) (by omega)).sel sil, by omega⟩
  by_cases c1 : cc = 1
  · subst c1
    refine (h.close on to n sf pv sil hroom).mono ?_
    rintro e w' ⟨rfl, k, lv', mv', hk3, h'⟩
    exact ⟨rfl, _, _, _, _, _, _, _, _, _, h', (More.evk hpos hroom _ _ (Nat.le_trans (clN_le (K k)) (by omega)) (by omega)).sel sil, by omega⟩
  by_cases c2 : cc = 2
  · subst c2
    refine (h.read on to n sf pv sil htl hroom).mono ?_
    rintro e w' ⟨rfl, k, lv', mv', tv', wv', a, b, hk3, h'⟩
    exact ⟨rfl, _, _, _, _, _, _, _, _, _, h', (More.evk hpos hroom _ _ (Nat.le_trans (rdN_le n (K k)) (by omega)) (by omega)).sel sil, by simp⟩
  by_cases c3 : cc = 3
  · subst c3
    refine (h.clone on to n sf pv sil hroom).mono ?_
    rintro e w' ⟨rfl, k, b1, b2, hk3, h'⟩
    exact ⟨rfl, _, _, _, _, _, _, _, _, _, h', More.refl _ _, by omega⟩
  by_cases c4 : cc = 4
  · subst c4
    refine (h.wipe on to n sf pv sil hroom).mono ?_
    rintro e w' ⟨rfl, k, lv', mv', hk3, h'⟩
    exact ⟨rfl, _, _, _, _, _, _, _, _, _, h', (More.wi hpos hroom (K k) _ (by omega)).sel sil, by omega⟩
  by_cases c5 : cc = 5
  · subst c5
    refine (h.form on to n sf pv sil htl hroom).mono ?_
    rintro e w' ⟨rfl, k, tv', wv', a, b, hk3, h'⟩
    exact ⟨rfl, _, _, _, _, _, _, _, _, _, h', More.refl _ _, by simp⟩
  by_cases c6 : cc = 6
  · subst c6
    refine (h.new on to n sf pv sil hsf hroom).mono ?_
    rintro e w' ⟨rfl, k, b1, b2, hk3, h'⟩
    exact ⟨rfl, _, _, _, _, _, _, _, _, _, h', More.refl _ _, by omega⟩
  refine (h.ask on to n sf pv sil cc ⟨c0, c1, c2, c3, c4, c5, c6⟩ hroom).mono ?_
  rintro e w' ⟨rfl, h'⟩
  exact ⟨rfl, _, _, _, _, _, _, _, _, _, h', More.refl _ _, by omega⟩
end
end Go.Proofs.YtnbmnpfpjhpifaaDoor.Kc
