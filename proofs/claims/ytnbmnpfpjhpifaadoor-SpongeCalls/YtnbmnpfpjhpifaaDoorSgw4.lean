/- Three sponges on either side: the calls of the document's. -/
import Derived.Test.YtnbmnpfpjhpifaaDoorSgw3
namespace Go.Proofs.YtnbmnpfpjhpifaaDoor.Kc
open Go.ChangeShapes Go.WideShapes Go.ChangeAt Go.RowKit
open Go.Proofs.YtnbmnpfpjhpifaaDoor.By Go.Proofs.YtnbmnpfpjhpifaaDoor.Wd
section
variable {w0 W W' : World} {B : Nat} {KP KQ : Nat → KD} {pb qb : Nat → Nat} {lb mb xb : Nat} {lv mv tv wv : Value} {L M L' : List Rn} {k : Nat} {x' : KD} {sil : Bool}
theorem GW.writeQ (h : GW w0 B KP KQ pb qb lb lv L mb mv M xb tv wv W) (hk3 : k < 3) (sil : Bool) (n : Nat) (v : Value) (g : Nat → Int) (hr : ∀ w', Below B w0 w' → Kx W w' → By.RB w' v n g) (hmn : n ≤ 9000000) (hroom : Big M) :
    Calls Tryd.prog 23 #[ptr (qb k) (KQ k), lpv (lo mb sil), v] W fun e w' => ∃ mv', e = .returned (.int .i64 (wrC (KQ k))) ∧ GW w0 B KP (upd KQ k (wrK g n (KQ k))) pb qb lb lv L mb mv' (sel sil M (evk M (wrN g n (KQ k)))) xb tv wv w' ∧ Kx W w' := by
  have same : wrK g n (KQ k) = KQ k → wrN g n (KQ k) = 0 → ∃ mv', GW w0 B KP (upd KQ k (wrK g n (KQ k))) pb qb lb lv L mb mv' (sel sil M (evk M (wrN g n (KQ k)))) xb tv wv W ∧ Kx W W := fun e1 e2 => by
    rw [e1, e2, upd_self, show evk M 0 = M from rfl, sel_same]; exact ⟨mv, h, Kx.refl _⟩
  match e : KQ k with
  | none =>
    rw [e] at same
    refine ((e ▸ h.noneQ hk3 (.inl e) : NoR W (ptr (qb k) none)).write v _).mono ?_
    rintro e' w' ⟨rfl, rfl⟩
    obtain ⟨mv', hG, hK⟩ := same rfl rfl
    exact ⟨mv', rfl, hG, hK⟩
  | some none =>
    rw [e] at same
    refine ((e ▸ h.noneQ hk3 (.inr e) : NoR W (ptr (qb k) (some none))).write v _).mono ?_
    rintro e' w' ⟨rfl, rfl⟩
    obtain ⟨mv', hG, hK⟩ := same rfl rfl
    exact ⟨mv', rfl, hG, hK⟩
  | some (some (r, sf, z, true)) =>
    rw [e] at same
    have hs : RSp W (qb k) r sf z true := by have := (h.sq k hk3).1; rw [e] at this; exact this
    refine (rwrite_shut (qb k) r sf z v _ W hs).mono ?_
    rintro e' w' ⟨rfl, rfl⟩
    obtain ⟨mv', hG, hK⟩ := same rfl rfl
    exact ⟨mv', rfl, hG, hK⟩
  | some (some (r, sf, z, false)) =>
    have hn : KQ k ≠ none := by rw [e]; simp
    have hs : RSp W (qb k) r sf z false := by have := (h.sq k hk3).1; rw [e] at this; exact this
    have hB := h.h0
    refine (rwrite_sp (qb k) r n sf v z g (lo mb sil) M (SP (qb k) mb mv sil) W hs (.inl rfl) (h.rgQ _ sil) h.m.pos (fun w' hk => hr w' (h.bel.trans (hk.below h.hB (fun j hj => h.noQ hk3 hn j hj))) ?_) hmn hroom).mono ?_
    · obtain ⟨cb, hcb⟩ := (h.sq k hk3).1.blk hn
      intro g' cs t hb h1 h2 h3 h4 h5
      refine hb.kept hk (fun e1 => ?_)
      rcases e1 with e1 | ⟨_, e1 | e1⟩
      · exact Blk.ne hb hcb h2 e1
      · exact Blk.ne hb h.m.blk h4 e1
      · obtain ⟨c, hc⟩ := run_blk h.m.own e1; exact Blk.ne hb hc h5 rfl
    · rintro e' w' ⟨rfl, hs', hl', hk'⟩
      obtain ⟨mv', hG, hK⟩ := h.afterQ (x' := some (some (r, sf, Z.ins r z g n, false))) hk3 hn (by simp) hk' hs' hl'
      exact ⟨mv', rfl, hG, hK⟩
theorem GW.closeQ (h : GW w0 B KP KQ pb qb lb lv L mb mv M xb tv wv W) (hk3 : k < 3) (sil : Bool) (hroom : Big M) :
    Calls Tryd.prog 27 #[ptr (qb k) (KQ k), lpv (lo mb sil)] W fun e w' => ∃ mv', e = .returned (.int .i64 (wrC (KQ k))) ∧ GW w0 B KP (upd KQ k (clK (KQ k))) pb qb lb lv L mb mv' (sel sil M (evk M (clN (KQ k)))) xb tv wv w' ∧ Kx W w' := by
  have same : ∀ x L', x = KQ k → L' = M → ∃ mv', GW w0 B KP (upd KQ k x) pb qb lb lv L mb mv' (sel sil M L') xb tv wv W ∧ Kx W W := fun x L' e1 e2 => by
    rw [e1, e2, upd_self, sel_same]; exact ⟨mv, h, Kx.refl _⟩
  have hB := h.h0
  match e : KQ k with
  | none =>
    rw [e] at same
    refine ((e ▸ h.noneQ hk3 (.inl e) : NoR W (ptr (qb k) (none))).close _).mono ?_
    rintro e' w' ⟨rfl, rfl⟩
    obtain ⟨mv', hG, hK⟩ := same _ _ rfl rfl
    exact ⟨mv', rfl, hG, hK⟩
  | some none =>
    rw [e] at same
    refine ((e ▸ h.noneQ hk3 (.inr e) : NoR W (ptr (qb k) (some none))).close _).mono ?_
    rintro e' w' ⟨rfl, rfl⟩
    obtain ⟨mv', hG, hK⟩ := same _ _ rfl rfl
    exact ⟨mv', rfl, hG, hK⟩
  | some (some (r, sf, z, true)) =>
    rw [e] at same
    have hs : RSp W (qb k) r sf z true := by have := (h.sq k hk3).1; rw [e] at this; exact this
    refine (rclose_shut (qb k) r sf z _ W hs).mono ?_
    rintro e' w' ⟨rfl, rfl⟩
    obtain ⟨mv', hG, hK⟩ := same _ _ rfl rfl
    exact ⟨mv', rfl, hG, hK⟩
  | some (some (r, sf, z, false)) =>
    have hn : KQ k ≠ none := by rw [e]; simp
    have hs : RSp W (qb k) r sf z false := by have := (h.sq k hk3).1; rw [e] at this; exact this
    refine (rclose_sp (qb k) r sf z (lo mb sil) M (SP (qb k) mb mv sil) W hs (.inl rfl) (h.rgQ _ sil) hroom).mono ?_
    rintro e' w' ⟨rfl, hs', hl', hk'⟩
    obtain ⟨mv', hG, hK⟩ := h.afterQ (x' := some (some (r, sf, Z.fin r sf z, true))) hk3 hn (by simp) hk' hs' hl'
    exact ⟨mv', rfl, hG, hK⟩
theorem GW.wipeQ (h : GW w0 B KP KQ pb qb lb lv L mb mv M xb tv wv W) (hk3 : k < 3) (sil : Bool) (hroom : Big M) :
    Calls Tryd.prog 33 #[ptr (qb k) (KQ k), lpv (lo mb sil)] W fun e w' => ∃ mv', e = .returned (.int .i64 (wiC (KQ k))) ∧ GW w0 B KP (upd KQ k (wiK (KQ k))) pb qb lb lv L mb mv' (sel sil M (wiL M (KQ k))) xb tv wv w' ∧ Kx W w' := by
  have same : ∀ x L', x = KQ k → L' = M → ∃ mv', GW w0 B KP (upd KQ k x) pb qb lb lv L mb mv' (sel sil M L') xb tv wv W ∧ Kx W W := fun x L' e1 e2 => by
    rw [e1, e2, upd_self, sel_same]; exact ⟨mv, h, Kx.refl _⟩
  have hB := h.h0
  match e : KQ k with
  | none =>
    rw [e] at same
    refine ((e ▸ h.noneQ hk3 (.inl e) : NoR W (ptr (qb k) (none))).wipe _).mono ?_
    rintro e' w' ⟨rfl, rfl⟩
    obtain ⟨mv', hG, hK⟩ := same _ _ rfl rfl
    exact ⟨mv', rfl, hG, hK⟩
  | some none =>
    rw [e] at same
    refine ((e ▸ h.noneQ hk3 (.inr e) : NoR W (ptr (qb k) (some none))).wipe _).mono ?_
    rintro e' w' ⟨rfl, rfl⟩
    obtain ⟨mv', hG, hK⟩ := same _ _ rfl rfl
    exact ⟨mv', rfl, hG, hK⟩
  | some (some (r, sf, z, sh)) =>
    have hn : KQ k ≠ none := by rw [e]; simp
    have hs : RSp W (qb k) r sf z sh := by have := (h.sq k hk3).1; rw [e] at this; exact this
    refine (rwipe_sp (qb k) r sf z sh (lo mb sil) M (SP (qb k) mb mv sil) W hs (.inl rfl) (h.rgQ _ sil) hroom).mono ?_
    rintro e' w' ⟨rfl, hs', hl', hk'⟩
    obtain ⟨mv', hG, hK⟩ := h.afterQ (x' := some none) hk3 hn (by simp) hk' hs' hl'
    exact ⟨mv', rfl, hG, hK⟩
theorem GW.readQ (h : GW w0 B KP KQ pb qb lb lv L mb mv M xb tv wv W) (hk3 : k < 3) (sil : Bool) (n : Int) (hroom : Big M) :
    Calls Tryd.prog 28 #[ptr (qb k) (KQ k), lpv (lo mb sil), .int .i64 n] W fun e w' => ∃ v mv', e = .returned (.tuple #[v, .int .i64 (rdC n (KQ k))]) ∧ By.Own w' W.heap.size v (rdM n (KQ k)) (rdF n (KQ k)) ∧ GW w0 B KP (upd KQ k (rdK n (KQ k))) pb qb lb lv L mb mv' (sel sil M (evk M (rdN n (KQ k)))) xb tv wv w' ∧ Kx W w' := by
  have same : ∀ x L', x = KQ k → L' = M → ∃ mv', GW w0 B KP (upd KQ k x) pb qb lb lv L mb mv' (sel sil M L') xb tv wv W ∧ Kx W W := fun x L' e1 e2 => by
    rw [e1, e2, upd_self, sel_same]; exact ⟨mv, h, Kx.refl _⟩
  have hB := h.h0
  match e : KQ k with
  | none =>
    rw [e] at same
    refine ((e ▸ h.noneQ hk3 (.inl e) : NoR W (ptr (qb k) (none))).read _ _).mono ?_
    rintro e' w' ⟨rfl, rfl⟩
    obtain ⟨mv', hG, hK⟩ := same _ _ rfl rfl
    exact ⟨_, mv', rfl, own_nil _ _ _ (fun _ => (by show (0 : Int) ≤ 0 ∧ (0 : Int) < 256; decide)), hG, hK⟩
  | some none =>
    rw [e] at same
    refine ((e ▸ h.noneQ hk3 (.inr e) : NoR W (ptr (qb k) (some none))).read _ _).mono ?_
    rintro e' w' ⟨rfl, rfl⟩
    obtain ⟨mv', hG, hK⟩ := same _ _ rfl rfl
    exact ⟨_, mv', rfl, own_nil _ _ _ (fun _ => (by show (0 : Int) ≤ 0 ∧ (0 : Int) < 256; decide)), hG, hK⟩
  | some (some (r, sf, z, sh)) =>
    have hn : KQ k ≠ none := by rw [e]; simp
    have hs : RSp W (qb k) r sf z sh := by have := (h.sq k hk3).1; rw [e] at this; exact this
    have hr8 := hs.lo
    by_cases hbad : n < 0 ∨ 65536 < n
    · refine (rread_arg (qb k) r sf z sh n _ W hs hbad).mono ?_
      rintro e' w' ⟨rfl, rfl⟩
      obtain ⟨mv', hG, hK⟩ := same (rdK n (some (some (r, sf, z, sh)))) (evk M (rdN n (some (some (r, sf, z, sh))))) (by rw [e]; simp only [rdK]; rw [if_pos hbad]) (by simp only [rdN]; rw [if_pos hbad]; rfl)
      refine ⟨.slice none 0 0, mv', ?_, ?_, hG, hK⟩
      · simp only [rdC]; rw [if_pos hbad]
      · simp only [rdM, rdF]; rw [if_pos hbad, if_pos hbad]; exact own_nil _ _ _ (fun _ => (by show (0 : Int) ≤ 0 ∧ (0 : Int) < 256; decide))
    · obtain ⟨m, rfl⟩ : ∃ m : Nat, n = m := ⟨n.toNat, by omega⟩
      have hm : m ≤ 65536 := by omega
      have eK : rdK m (some (some (r, sf, z, sh))) = some (some (r, sf, Z.out r (rdY (r, sf, z, sh)) m, true)) := by simp only [rdK]; rw [if_neg hbad, Int.toNat_natCast]
      have eC : rdC m (some (some (r, sf, z, sh))) = 0 := by simp only [rdC]; rw [if_neg hbad]
      have eM : rdM m (some (some (r, sf, z, sh))) = m := by simp only [rdM]; rw [if_neg hbad, Int.toNat_natCast]
      have eF : rdF m (some (some (r, sf, z, sh))) = Z.say r (rdY (r, sf, z, sh)) := by simp only [rdF]; rw [if_neg hbad]
      have eN : rdN m (some (some (r, sf, z, sh))) = opn sh + ((Z.out r (rdY (r, sf, z, sh)) m).c - (rdY (r, sf, z, sh)).c) := by simp only [rdN]; rw [if_neg hbad, Int.toNat_natCast]
      rw [eK, eC, eM, eF, eN]
      cases sh with
      | true =>
        refine (rread_shut (qb k) r m sf z (lo mb sil) M (SP (qb k) mb mv sil) W hs (.inl rfl) (h.rgQ _ sil) h.m.pos hm hroom).mono ?_
        rintro e' w' ⟨v, rfl, hs', ho, hl', hk'⟩
        obtain ⟨mv', hG, hK⟩ := h.afterQ (x' := some (some (r, sf, Z.out r z m, true))) hk3 hn (by simp) hk' hs' hl'
        refine ⟨_, mv', rfl, ho, ?_, hK⟩
        rw [show opn true + ((Z.out r (rdY (r, sf, z, true)) m).c - (rdY (r, sf, z, true)).c) = (Z.out r z m).c - z.c from Nat.zero_add _]
        exact hG
      | false =>
        refine (rread_open (qb k) r m sf z (Z.fin r sf z) (lo mb sil) M (SP (qb k) mb mv sil) W hs (.inl rfl) (h.rgQ _ sil) h.m.pos hm hroom _ rfl rfl).mono ?_
        rintro e' w' ⟨v, rfl, hs', ho, hl', hk'⟩
        rw [← evk_add] at hl'
        obtain ⟨mv', hG, hK⟩ := h.afterQ (x' := some (some (r, sf, Z.out r (Z.fin r sf z) m, true))) hk3 hn (by simp) hk' hs' hl'
        exact ⟨_, mv', rfl, ho, hG, hK⟩
theorem GW.formQ (h : GW w0 B KP KQ pb qb lb lv L mb mv M xb tv wv W) (hk3 : k < 3) :
    Calls Tryd.prog 35 #[ptr (qb k) (KQ k)] W fun e w' => ∃ v, e = .returned v ∧ By.Own w' W.heap.size v (fmM (KQ k)) (fmF (KQ k)) ∧ Below W.heap.size W w' := by
  match e : KQ k with
  | none =>
    refine ((e ▸ h.noneQ hk3 (.inl e) : NoR W (ptr (qb k) none)).form).mono ?_
    rintro e' w' ⟨rfl, rfl⟩
    exact ⟨_, rfl, own_nil _ _ _ (fun _ => (by show (0 : Int) ≤ 0 ∧ (0 : Int) < 256; decide)), Below.refl _ _⟩
  | some none =>
    refine ((e ▸ h.noneQ hk3 (.inr e) : NoR W (ptr (qb k) (some none))).form).mono ?_
    rintro e' w' ⟨rfl, rfl⟩
    exact ⟨_, rfl, own_nil _ _ _ (fun _ => (by show (0 : Int) ≤ 0 ∧ (0 : Int) < 256; decide)), Below.refl _ _⟩
  | some (some (r, sf, z, sh)) =>
    have hs : RSp W (qb k) r sf z sh := by have := (h.sq k hk3).1; rw [e] at this; exact this
    refine (rform_sp (qb k) r sf z sh W hs).mono ?_
    rintro e' w' ⟨v, rfl, ho, hb⟩
    exact ⟨v, rfl, ho, hb⟩
theorem GW.cloneQ (h : GW w0 B KP KQ pb qb lb lv L mb mv M xb tv wv W) (hk3 : k < 3) :
    Calls Tryd.prog 31 #[ptr (qb k) (KQ k)] W fun e w' => e = .returned (.tuple #[ptr W.heap.size (cnK (KQ k)), .int .i64 (wiC (KQ k))]) ∧ IsQ w' W.heap.size (cnK (KQ k)) ∧ Below W.heap.size W w' := by
  match e : KQ k with
  | none =>
    refine ((e ▸ h.noneQ hk3 (.inl e) : NoR W (ptr (qb k) none)).clone).mono ?_
    rintro e' w' ⟨rfl, rfl⟩
    exact ⟨rfl, trivial, Below.refl _ _⟩
  | some none =>
    refine ((e ▸ h.noneQ hk3 (.inr e) : NoR W (ptr (qb k) (some none))).clone).mono ?_
    rintro e' w' ⟨rfl, rfl⟩
    exact ⟨rfl, trivial, Below.refl _ _⟩
  | some (some (r, sf, z, sh)) =>
    have hs : RSp W (qb k) r sf z sh := by have := (h.sq k hk3).1; rw [e] at this; exact this
    refine (rclone_sp (qb k) r sf z sh W hs).mono ?_
    rintro e' w' ⟨rfl, ho, hb⟩
    exact ⟨rfl, ho, hb⟩
theorem GW.rateQ (h : GW w0 B KP KQ pb qb lb lv L mb mv M xb tv wv W) (hk3 : k < 3) :
    Calls Tryd.prog 37 #[ptr (qb k) (KQ k)] W fun e w' => e = .returned (.int .i64 (raC (KQ k))) ∧ w' = W := by
  match e : KQ k with
  | none => exact (e ▸ h.noneQ hk3 (.inl e) : NoR W (ptr (qb k) none)).rate
  | some none => exact (e ▸ h.noneQ hk3 (.inr e) : NoR W (ptr (qb k) (some none))).rate
  | some (some (r, sf, z, sh)) =>
    have hs : RSp W (qb k) r sf z sh := by have := (h.sq k hk3).1; rw [e] at this; exact this
    exact rrate_sp (qb k) r sf z sh W hs
theorem GW.shutQ (h : GW w0 B KP KQ pb qb lb lv L mb mv M xb tv wv W) (hk3 : k < 3) :
    Calls Tryd.prog 39 #[ptr (qb k) (KQ k)] W fun e w' => e = .returned (.bool (shC (KQ k))) ∧ w' = W := by
  match e : KQ k with
  | none => exact (e ▸ h.noneQ hk3 (.inl e) : NoR W (ptr (qb k) none)).shut
  | some none => exact (e ▸ h.noneQ hk3 (.inr e) : NoR W (ptr (qb k) (some none))).shut
  | some (some (r, sf, z, sh)) =>
    have hs : RSp W (qb k) r sf z sh := by have := (h.sq k hk3).1; rw [e] at this; exact this
    exact rshut_sp (qb k) r sf z sh W hs
end
theorem newQ (rate sf : Int) (W : World) (hs : 0 ≤ sf ∧ sf < 256) :
    Calls Tryd.prog 19 #[.int .i64 rate, .int .u8 sf] W fun e w' => e = .returned (.tuple #[ptr W.heap.size (nwK rate sf), .int .i64 (nwC rate)]) ∧ IsQ w' W.heap.size (nwK rate sf) ∧ Below W.heap.size W w' := by
  unfold nwK nwC
  by_cases h : 8 ≤ rate ∧ rate ≤ 192 ∧ rate % 8 = 0
  · obtain ⟨r, rfl⟩ : ∃ r : Nat, rate = r := ⟨rate.toNat, by omega⟩
    rw [if_pos h, if_pos h, Int.toNat_natCast]
    refine (rnewOk r sf W (by omega) (by omega) (by omega) hs).mono ?_
    rintro e w' ⟨rfl, h1, h2⟩
    exact ⟨rfl, h1, h2⟩
  · rw [if_neg h, if_neg h]
    refine (rnewBad rate sf W (by omega)).mono ?_
    rintro e w' ⟨rfl, rfl⟩
    exact ⟨rfl, trivial, Below.refl _ _⟩
end Go.Proofs.YtnbmnpfpjhpifaaDoor.Kc
