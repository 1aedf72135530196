/- Three sponges on either side: the calls, at nil, at none, at a sponge, with a ledger and without one. -/
import Derived.Test.YtnbmnpfpjhpifaaDoorSgw2
namespace Go.Proofs.YtnbmnpfpjhpifaaDoor.Kc
open Go.ChangeShapes Go.WideShapes Go.ChangeAt Go.RowKit
open Go.Proofs.YtnbmnpfpjhpifaaDoor.By Go.Proofs.YtnbmnpfpjhpifaaDoor.Wd
theorem own_blk {W : World} {g n base : Nat} {f : Nat → Int} (h : Blk W g (bl n f) 5) (hf : BB f) (hb : base ≤ g) (hn : n ≤ maxLen) : By.Own W base (.slice (some ⟨g, 0, none⟩) n n) n f :=
  ⟨hf, by rw [bl_length, Nat.mul_one], .inr ⟨g, n, (bl n f).toArray, rfl, hb, h, Nat.le_refl _, hn, by simp [bl_length], by rw [List.take_of_length_le (by simp [bl_length])]⟩⟩
/-- What Read answers: the code, the bytes, what it makes of an entry, how often it records. -/
def rdC (n : Int) : KD → Int
  | some (some _) => if n < 0 ∨ 65536 < n then 2 else 0
  | _ => 1
def rdY : Nat × Int × Z × Bool → Z
  | (_, _, z, true) => z
  | (r, sf, z, false) => Z.fin r sf z
def rdK (n : Int) : KD → KD
  | some (some (r, sf, z, sh)) => if n < 0 ∨ 65536 < n then some (some (r, sf, z, sh)) else some (some (r, sf, Z.out r (rdY (r, sf, z, sh)) n.toNat, true))
  | k => k
def opn : Bool → Nat
  | true => 0
  | false => 1
def rdN (n : Int) : KD → Nat
  | some (some (r, sf, z, sh)) => if n < 0 ∨ 65536 < n then 0 else opn sh + ((Z.out r (rdY (r, sf, z, sh)) n.toNat).c - (rdY (r, sf, z, sh)).c)
  | _ => 0
def rdM (n : Int) : KD → Nat
  | some (some _) => if n < 0 ∨ 65536 < n then 0 else n.toNat
  | _ => 0
def rdF (n : Int) : KD → Nat → Int
  | some (some (r, sf, z, sh)) => if n < 0 ∨ 65536 < n then fun _ => 0 else Z.say r (rdY (r, sf, z, sh))
  | _ => fun _ => 0
/-- Form. -/
def fmM : KD → Nat
  | some (some _) => 203
  | _ => 0
def fmF : KD → Nat → Int
  | some (some (_, _, z, sh)) => fmf z sh
  | _ => fun _ => 0
/-- Clone. -/
def cnK : KD → KD
  | some (some x) => some (some x)
  | _ => none
/-- New. -/
def nwK (rate sf : Int) : KD := if 8 ≤ rate ∧ rate ≤ 192 ∧ rate % 8 = 0 then some (some (rate.toNat, sf, ⟨fun _ => 0, 0, 0⟩, false)) else none
def nwC (rate : Int) : Int := if 8 ≤ rate ∧ rate ≤ 192 ∧ rate % 8 = 0 then 0 else 2
/-- Rate, Shut. -/
def raC : KD → Int
  | some (some (r, _, _, _)) => r
  | _ => 0
def shC : KD → Bool
  | some (some (_, _, _, sh)) => sh
  | _ => false
section
variable {w0 W W' : World} {B : Nat} {KP KQ : Nat → KD} {pb qb : Nat → Nat} {lb mb xb : Nat} {lv mv tv wv : Value} {L M L' : List Rn} {k : Nat} {x' : KD} {sil : Bool}
theorem GW.closeP (h : GW w0 B KP KQ pb qb lb lv L mb mv M xb tv wv W) (hk3 : k < 3) (sil : Bool) (hroom : Big L) :
    Calls Tryd.prog 26 #[ptr (pb k) (KP k), lpv (lo lb sil)] W fun e w' => ∃ lv', e = .returned (.int .i64 (wrC (KP k))) ∧ GW w0 B (upd KP k (clK (KP k))) KQ pb qb lb lv' (sel sil L (evk L (clN (KP k)))) mb mv M xb tv wv w' ∧ Kx W w' := by
  have same : ∀ x L', x = KP k → L' = L → ∃ lv', GW w0 B (upd KP k x) KQ pb qb lb lv' (sel sil L L') mb mv M xb tv wv W ∧ Kx W W := fun x L' e1 e2 => by
    rw [e1, e2, upd_self, sel_same]; exact ⟨lv, h, Kx.refl _⟩
  have hB := h.h0
  match e : KP k with
  | none =>
    rw [e] at same
    refine ((e ▸ h.noneP hk3 (.inl e) : NoP W (ptr (pb k) (none))).close _).mono ?_
    rintro e' w' ⟨rfl, rfl⟩
    obtain ⟨lv', hG, hK⟩ := same _ _ rfl rfl
    exact ⟨lv', rfl, hG, hK⟩
  | some none =>
    rw [e] at same
    refine ((e ▸ h.noneP hk3 (.inr e) : NoP W (ptr (pb k) (some none))).close _).mono ?_
    rintro e' w' ⟨rfl, rfl⟩
    obtain ⟨lv', hG, hK⟩ := same _ _ rfl rfl
    exact ⟨lv', rfl, hG, hK⟩
  | some (some (r, sf, z, true)) =>
    rw [e] at same
    have hs : Sp W (pb k) r sf z true := by have := (h.sp k hk3).1; rw [e] at this; exact this
    refine (close_shut (pb k) r sf z _ W hs).mono ?_
    rintro e' w' ⟨rfl, rfl⟩
    obtain ⟨lv', hG, hK⟩ := same _ _ rfl rfl
    exact ⟨lv', rfl, hG, hK⟩
  | some (some (r, sf, z, false)) =>
    have hn : KP k ≠ none := by rw [e]; simp
    have hs : Sp W (pb k) r sf z false := by have := (h.sp k hk3).1; rw [e] at this; exact this
    refine (close_sp (pb k) r sf z (lo lb sil) L (SP (pb k) lb lv sil) W hs h.kt (h.noP hk3 hn 0 (by omega)) (h.noP hk3 hn 1 (by omega)) (.inl rfl) (h.lgP _ sil) hroom).mono ?_
    rintro e' w' ⟨rfl, hs', hl', hk'⟩
    obtain ⟨lv', hG, hK⟩ := h.afterP (x' := some (some (r, sf, Z.fin r sf z, true))) hk3 hn (by simp) hk' hs' hl'
    exact ⟨lv', rfl, hG, hK⟩
theorem GW.wipeP (h : GW w0 B KP KQ pb qb lb lv L mb mv M xb tv wv W) (hk3 : k < 3) (sil : Bool) (hroom : Big L) :
    Calls Tryd.prog 32 #[ptr (pb k) (KP k), lpv (lo lb sil)] W fun e w' => ∃ lv', e = .returned (.int .i64 (wiC (KP k))) ∧ GW w0 B (upd KP k (wiK (KP k))) KQ pb qb lb lv' (sel sil L (wiL L (KP k))) mb mv M xb tv wv w' ∧ Kx W w' := by
  have same : ∀ x L', x = KP k → L' = L → ∃ lv', GW w0 B (upd KP k x) KQ pb qb lb lv' (sel sil L L') mb mv M xb tv wv W ∧ Kx W W := fun x L' e1 e2 => by
    rw [e1, e2, upd_self, sel_same]; exact ⟨lv, h, Kx.refl _⟩
  have hB := h.h0
  match e : KP k with
  | none =>
    rw [e] at same
    refine ((e ▸ h.noneP hk3 (.inl e) : NoP W (ptr (pb k) (none))).wipe _).mono ?_
    rintro e' w' ⟨rfl, rfl⟩
    obtain ⟨lv', hG, hK⟩ := same _ _ rfl rfl
    exact ⟨lv', rfl, hG, hK⟩
  | some none =>
    rw [e] at same
    refine ((e ▸ h.noneP hk3 (.inr e) : NoP W (ptr (pb k) (some none))).wipe _).mono ?_
    rintro e' w' ⟨rfl, rfl⟩
    obtain ⟨lv', hG, hK⟩ := same _ _ rfl rfl
    exact ⟨lv', rfl, hG, hK⟩
  | some (some (r, sf, z, sh)) =>
    have hn : KP k ≠ none := by rw [e]; simp
    have hs : Sp W (pb k) r sf z sh := by have := (h.sp k hk3).1; rw [e] at this; exact this
    refine (wipe_sp (pb k) r sf z sh (lo lb sil) L (SP (pb k) lb lv sil) W hs (.inl rfl) (h.lgP _ sil) hroom).mono ?_
    rintro e' w' ⟨rfl, hs', hl', hk'⟩
    obtain ⟨lv', hG, hK⟩ := h.afterP (x' := some none) hk3 hn (by simp) hk' hs' hl'
    exact ⟨lv', rfl, hG, hK⟩
theorem GW.readP (h : GW w0 B KP KQ pb qb lb lv L mb mv M xb tv wv W) (hk3 : k < 3) (sil : Bool) (n : Int) (hroom : Big L) :
    Calls Tryd.prog 18 #[ptr (pb k) (KP k), lpv (lo lb sil), .int .i64 n] W fun e w' => ∃ v lv', e = .returned (.tuple #[v, .int .i64 (rdC n (KP k))]) ∧ By.Own w' W.heap.size v (rdM n (KP k)) (rdF n (KP k)) ∧ GW w0 B (upd KP k (rdK n (KP k))) KQ pb qb lb lv' (sel sil L (evk L (rdN n (KP k)))) mb mv M xb tv wv w' ∧ Kx W w' := by
  have same : ∀ x L', x = KP k → L' = L → ∃ lv', GW w0 B (upd KP k x) KQ pb qb lb lv' (sel sil L L') mb mv M xb tv wv W ∧ Kx W W := fun x L' e1 e2 => by
    rw [e1, e2, upd_self, sel_same]; exact ⟨lv, h, Kx.refl _⟩
  have hB := h.h0
  match e : KP k with
  | none =>
    rw [e] at same
    refine ((e ▸ h.noneP hk3 (.inl e) : NoP W (ptr (pb k) (none))).read _ _).mono ?_
    rintro e' w' ⟨rfl, rfl⟩
    obtain ⟨lv', hG, hK⟩ := same _ _ rfl rfl
    exact ⟨_, lv', rfl, own_nil _ _ _ (fun _ => (by show (0 : Int) ≤ 0 ∧ (0 : Int) < 256; decide)), hG, hK⟩
  | some none =>
    rw [e] at same
    refine ((e ▸ h.noneP hk3 (.inr e) : NoP W (ptr (pb k) (some none))).read _ _).mono ?_
    rintro e' w' ⟨rfl, rfl⟩
    obtain ⟨lv', hG, hK⟩ := same _ _ rfl rfl
    exact ⟨_, lv', rfl, own_nil _ _ _ (fun _ => (by show (0 : Int) ≤ 0 ∧ (0 : Int) < 256; decide)), hG, hK⟩
  | some (some (r, sf, z, sh)) =>
    have hn : KP k ≠ none := by rw [e]; simp
    have hs : Sp W (pb k) r sf z sh := by have := (h.sp k hk3).1; rw [e] at this; exact this
    have hr8 := hs.lo
    by_cases hbad : n < 0 ∨ 65536 < n
    · refine (read_arg (pb k) r sf z sh n _ W hs hbad).mono ?_
      rintro e' w' ⟨rfl, rfl⟩
      obtain ⟨lv', hG, hK⟩ := same (rdK n (some (some (r, sf, z, sh)))) (evk L (rdN n (some (some (r, sf, z, sh))))) (by rw [e]; simp only [rdK]; rw [if_pos hbad]) (by simp only [rdN]; rw [if_pos hbad]; rfl)
      refine ⟨.slice none 0 0, lv', ?_, ?_, hG, hK⟩
      · simp only [rdC]; rw [if_pos hbad]
      · simp only [rdM, rdF]; rw [if_pos hbad, if_pos hbad]; exact own_nil _ _ _ (fun _ => (by show (0 : Int) ≤ 0 ∧ (0 : Int) < 256; decide))
    · obtain ⟨m, rfl⟩ : ∃ m : Nat, n = m := ⟨n.toNat, by omega⟩
      have hm : m ≤ 65536 := by omega
      have eK : rdK m (some (some (r, sf, z, sh))) = some (some (r, sf, Z.out r (rdY (r, sf, z, sh)) m, true)) := by simp only [rdK]; rw [if_neg hbad, Int.toNat_natCast]
      have eC : rdC m (some (some (r, sf, z, sh))) = 0 := by simp only [rdC]; rw [if_neg hbad]
      have eM : rdM m (some (some (r, sf, z, sh))) = m := by simp only [rdM]; rw [if_neg hbad, Int.toNat_natCast]
      have eF : rdF m (some (some (r, sf, z, sh))) = Z.say r (rdY (r, sf, z, sh)) := by simp only [rdF]; rw [if_neg hbad]
      have eN : rdN m (some (some (r, sf, z, sh))) = opn sh + ((Z.out r (rdY (r, sf, z, sh)) m).c - (rdY (r, sf, z, sh)).c) := by simp only [rdN]; rw [if_neg hbad, Int.toNat_natCast]
      rw [eK, eC, eM, eF, eN]
      cases sh with
      | true =>
        refine (read_shut (pb k) r m sf z (lo lb sil) L (SP (pb k) lb lv sil) W hs h.kt (h.noP hk3 hn 0 (by omega)) (h.noP hk3 hn 1 (by omega)) (.inl rfl) (h.lgP _ sil) h.l.pos hm hroom).mono ?_
        rintro e' w' ⟨g, rfl, hg, hs', ho, hl', hk'⟩
        obtain ⟨lv', hG, hK⟩ := h.afterP (x' := some (some (r, sf, Z.out r z m, true))) hk3 hn (by simp) hk' hs' hl'
        refine ⟨_, lv', rfl, own_blk ho (say_b hs.ok (by omega)) hg (Nat.le_trans hm (by decide)), ?_, hK⟩
        rw [show opn true + ((Z.out r (rdY (r, sf, z, true)) m).c - (rdY (r, sf, z, true)).c) = (Z.out r z m).c - z.c from Nat.zero_add _]
        exact hG
      | false =>
        refine (read_open (pb k) r m sf z (Z.fin r sf z) (lo lb sil) L (SP (pb k) lb lv sil) W hs h.kt (h.noP hk3 hn 0 (by omega)) (h.noP hk3 hn 1 (by omega)) (.inl rfl) (h.lgP _ sil) h.l.pos hm hroom _ rfl rfl).mono ?_
        rintro e' w' ⟨g, rfl, hg, hs', ho, hl', hk'⟩
        rw [← evk_add] at hl'
        obtain ⟨lv', hG, hK⟩ := h.afterP (x' := some (some (r, sf, Z.out r (Z.fin r sf z) m, true))) hk3 hn (by simp) hk' hs' hl'
        exact ⟨_, lv', rfl, own_blk ho (say_b (Z.Ok.fin z true sf (by omega)) (by omega)) hg (Nat.le_trans hm (by decide)), hG, hK⟩
theorem GW.formP (h : GW w0 B KP KQ pb qb lb lv L mb mv M xb tv wv W) (hk3 : k < 3) :
    Calls Tryd.prog 34 #[ptr (pb k) (KP k)] W fun e w' => ∃ v, e = .returned v ∧ By.Own w' W.heap.size v (fmM (KP k)) (fmF (KP k)) ∧ Below W.heap.size W w' := by
  match e : KP k with
  | none =>
    refine ((e ▸ h.noneP hk3 (.inl e) : NoP W (ptr (pb k) none)).form).mono ?_
    rintro e' w' ⟨rfl, rfl⟩
    exact ⟨_, rfl, own_nil _ _ _ (fun _ => (by show (0 : Int) ≤ 0 ∧ (0 : Int) < 256; decide)), Below.refl _ _⟩
  | some none =>
    refine ((e ▸ h.noneP hk3 (.inr e) : NoP W (ptr (pb k) (some none))).form).mono ?_
    rintro e' w' ⟨rfl, rfl⟩
    exact ⟨_, rfl, own_nil _ _ _ (fun _ => (by show (0 : Int) ≤ 0 ∧ (0 : Int) < 256; decide)), Below.refl _ _⟩
  | some (some (r, sf, z, sh)) =>
    have hs : Sp W (pb k) r sf z sh := by have := (h.sp k hk3).1; rw [e] at this; exact this
    refine (form_sp (pb k) r sf z sh W hs).mono ?_
    rintro e' w' ⟨rfl, ho, hb⟩
    exact ⟨_, rfl, own_blk ho (fmf_b hs.ok.b sh) (Nat.le_refl _) (by decide), hb⟩
theorem GW.cloneP (h : GW w0 B KP KQ pb qb lb lv L mb mv M xb tv wv W) (hk3 : k < 3) :
    Calls Tryd.prog 30 #[ptr (pb k) (KP k)] W fun e w' => e = .returned (.tuple #[ptr W.heap.size (cnK (KP k)), .int .i64 (wiC (KP k))]) ∧ IsP w' W.heap.size (cnK (KP k)) ∧ Below W.heap.size W w' := by
  match e : KP k with
  | none =>
    refine ((e ▸ h.noneP hk3 (.inl e) : NoP W (ptr (pb k) none)).clone).mono ?_
    rintro e' w' ⟨rfl, rfl⟩
    exact ⟨rfl, trivial, Below.refl _ _⟩
  | some none =>
    refine ((e ▸ h.noneP hk3 (.inr e) : NoP W (ptr (pb k) (some none))).clone).mono ?_
    rintro e' w' ⟨rfl, rfl⟩
    exact ⟨rfl, trivial, Below.refl _ _⟩
  | some (some (r, sf, z, sh)) =>
    have hs : Sp W (pb k) r sf z sh := by have := (h.sp k hk3).1; rw [e] at this; exact this
    refine (clone_sp (pb k) r sf z sh W hs).mono ?_
    rintro e' w' ⟨rfl, ho, hb⟩
    exact ⟨rfl, ho, hb⟩
theorem GW.rateP (h : GW w0 B KP KQ pb qb lb lv L mb mv M xb tv wv W) (hk3 : k < 3) :
    Calls Tryd.prog 36 #[ptr (pb k) (KP k)] W fun e w' => e = .returned (.int .i64 (raC (KP k))) ∧ w' = W := by
  match e : KP k with
  | none => exact (e ▸ h.noneP hk3 (.inl e) : NoP W (ptr (pb k) none)).rate
  | some none => exact (e ▸ h.noneP hk3 (.inr e) : NoP W (ptr (pb k) (some none))).rate
  | some (some (r, sf, z, sh)) =>
    have hs : Sp W (pb k) r sf z sh := by have := (h.sp k hk3).1; rw [e] at this; exact this
    exact rate_sp (pb k) r sf z sh W hs
theorem GW.shutP (h : GW w0 B KP KQ pb qb lb lv L mb mv M xb tv wv W) (hk3 : k < 3) :
    Calls Tryd.prog 38 #[ptr (pb k) (KP k)] W fun e w' => e = .returned (.bool (shC (KP k))) ∧ w' = W := by
  match e : KP k with
  | none => exact (e ▸ h.noneP hk3 (.inl e) : NoP W (ptr (pb k) none)).shut
  | some none => exact (e ▸ h.noneP hk3 (.inr e) : NoP W (ptr (pb k) (some none))).shut
  | some (some (r, sf, z, sh)) =>
    have hs : Sp W (pb k) r sf z sh := by have := (h.sp k hk3).1; rw [e] at this; exact this
    exact shut_sp (pb k) r sf z sh W hs
end
theorem newP (rate sf : Int) (W : World) (hs : 0 ≤ sf ∧ sf < 256) :
    Calls Tryd.prog 17 #[.int .i64 rate, .int .u8 sf] W fun e w' => e = .returned (.tuple #[ptr W.heap.size (nwK rate sf), .int .i64 (nwC rate)]) ∧ IsP w' W.heap.size (nwK rate sf) ∧ Below W.heap.size W w' := by
  unfold nwK nwC
  by_cases h : 8 ≤ rate ∧ rate ≤ 192 ∧ rate % 8 = 0
  · obtain ⟨r, rfl⟩ : ∃ r : Nat, rate = r := ⟨rate.toNat, by omega⟩
    rw [if_pos h, if_pos h, Int.toNat_natCast]
    refine (newOk r sf W (by omega) (by omega) (by omega) hs).mono ?_
    rintro e w' ⟨rfl, h1, h2⟩
    exact ⟨rfl, h1, h2⟩
  · rw [if_neg h, if_neg h]
    refine (newBad rate sf W (by omega)).mono ?_
    rintro e w' ⟨rfl, rfl⟩
    exact ⟨rfl, trivial, Below.refl _ _⟩
end Go.Proofs.YtnbmnpfpjhpifaaDoor.Kc
