/- The document's FormOf (SHA-256). -/
import Derived.Test.YtbjccfnaadmofaaDoorDsum
namespace Go.Proofs.YtbjccfnaadmofaaDoor.Sh
open Go.ChangeShapes Go.WideShapes Go.ChangeAt Go.RowKit
open Go.Proofs.YtbjccfnaadmofaaDoor.By Go.Proofs.YtbjccfnaadmofaaDoor.Wd
theorem rb_tail {w : World} {a : Option Addr} {n cap : Nat} {f : Nat → Int} (hr : By.RB w (.slice a n cap) n f) : By.RB w (sub a cap ((n : Int) / 64 * 64) (n : Int)) (n % 64) (fun i => f (n / 64 * 64 + i)) := by
  obtain ⟨hf, a', cap', he, h1, h2, hcc⟩ := hr
  simp only [Value.slice.injEq] at he
  obtain ⟨rfl, _, rfl⟩ := he
  have hq : n / 64 * 64 ≤ n := by omega
  refine ⟨fun j => hf _, if cap = n / 64 * 64 then a else a.map (·.add (n / 64 * 64)), cap - n / 64 * 64, ?_, by omega, by omega, ?_⟩
  · unfold sub
    rw [show ((n : Int) / 64 * 64).toNat = n / 64 * 64 from by omega, Int.toNat_natCast, Nat.mul_one, show n - n / 64 * 64 = n % 64 from by omega]
  · rcases hcc with ⟨e, e2⟩ | ⟨b, off, rfl, hcc⟩
    · refine .inl ⟨by omega, fun e3 => ?_⟩
      split at e3
      · have := e2 e3; omega
      · cases a with
        | none => have := e2 rfl; omega
        | some x => simp at e3
    · by_cases h0 : n % 64 = 0
      · refine .inl ⟨h0, fun e3 => ?_⟩
        split at e3
        · cases e3
        · simp at e3
      · refine .inr ⟨b, off + n / 64 * 64, ?_, fun i hi => by rw [Nat.add_assoc]; exact hcc (n / 64 * 64 + i) (by omega)⟩
        rw [if_neg (by omega), Option.map_some, By.add_plain]
theorem formf_a (m : Nat) (f : Nat → Int) (i : Nat) (h : i < 32) : formf m f i = lf (hw f (m / 64)) i := by unfold formf cat; rw [if_pos (by omega), if_pos h]
theorem formf_b (m : Nat) (f : Nat → Int) (k : Nat) (h : k < 8) : formf m f (32 + k) = beByte 8 m k := by unfold formf cat; rw [if_pos (by omega), if_neg (by omega), show 32 + k - 32 = k from by omega]
theorem formf_c (m : Nat) (f : Nat → Int) (k : Nat) : formf m f (40 + k) = wt m f k := by unfold formf cat; rw [if_neg (by omega), show 40 + k - 40 = k from by omega]
theorem formf_bound (m : Nat) (f : Nat → Int) (hf : ∀ i, 0 ≤ f i ∧ f i < 256) (i : Nat) : 0 ≤ formf m f i ∧ formf m f i < 256 := by
  unfold formf cat
  split
  · split
    · exact lf_bound _ _
    · exact beByte_bound _ _ _
  · exact wt_bound m f hf _
theorem cat_tail (m : Nat) (f : Nat → Int) (i : Nat) (hi : i < 40 + m % 64) : cat 40 (formf m f) (fun i => f (m / 64 * 64 + i)) i = formf m f i := by
  by_cases h : i < 40
  · unfold cat; rw [if_pos h]
  · obtain ⟨k, rfl⟩ : ∃ k, i = 40 + k := ⟨i - 40, by omega⟩
    rw [formf_c]; unfold cat wt; rw [if_neg h, if_pos (by omega), show 40 + k - 40 = k from by omega]
theorem formf_d (m : Nat) (f : Nat → Int) (k : Nat) (h : m % 64 ≤ k) : formf m f (40 + k) = 0 := by rw [formf_c]; unfold wt; rw [if_neg (by omega)]
set_option maxRecDepth 4000 in
set_option maxHeartbeats 2000000 in
theorem form46 (m : Nat) (v : Value) (f : Nat → Int) (w : World) (hr : By.RB w v m f) (hm : m ≤ 900000) :
    Calls Tryd.prog 54 #[v] w fun e w' => ∃ u, e = .returned u ∧ By.Own w' w.heap.size u 104 (formf m f) ∧ Below w.heap.size w w' := by
  have HR := hid hr
  have hf := hid hr.1
  obtain ⟨_, a, cap, rfl, h1, -, -⟩ := hr
  have q2 : (0 : Int) ≤ (m : Int) / 64 * 64 := by omega
  have q3 : (m : Int) / 64 * 64 ≤ (m : Int) := by omega
  go_enter Tryd.func54, Tryd.ntmps54
  go_wp2_with fail
  refine (words66 _ _ _ _ HR.out (by omega)).mono ?_
  rintro e w1 ⟨rfl, hb⟩
  have b1 := hid hb
  clear hb
  go_wp2_with fail
  refine (rlaid65 _ (hw_w _ _) _).mono ?_
  rintro e w2 ⟨u2, rfl, hu, hb⟩
  have O2 := hid (own_mono hu b1.out.size)
  have b2 := hid (below_next b1.out hb)
  clear hu hb
  go_wp2_with fail
  go_loopw [3, 5] (fun u i wr => ∃ k : Nat, k ≤ 8 ∧ i = .int .i64 k ∧ By.Own wr w.heap.size u (32 + k) (formf m f) ∧ Below w.heap.size w wr) (fun _ i _ => 8 - (intOf i).toNat)
  case atStart => exact ⟨0, by omega, rfl, own_congr O2.out (formf_bound m f hf.out) (fun i hi => (formf_a m f i hi).symm), b2.out⟩
  case round =>
    clear O2 b2 b1
    obtain ⟨k, hk', rfl, hown, hbel⟩ := hrel
    have O := hid hown
    have b := hid hbel
    clear hown hbel
    by_cases hlk : k < 8
    · have e5 : (56 - 8 * (k : Int)).toNat = 8 * (7 - k) := by omega
      have e6 : (0 : Int) ≤ 56 - 8 * k := by omega
      have hx : Hid ((m : Int) / 2 ^ (8 * (7 - k)) % 256 = formf m f (32 + k)) := by
        show (m : Int) / 2 ^ (8 * (7 - k)) % 256 = formf m f (32 + k)
        rw [formf_b m f k hlk]; exact be_eq 8 _ k
      have hxb : Hid (0 ≤ (m : Int) / 2 ^ (8 * (7 - k)) % 256 ∧ (m : Int) / 2 ^ (8 * (7 - k)) % 256 < 256) := by
        show 0 ≤ (m : Int) / 2 ^ (8 * (7 - k)) % 256 ∧ (m : Int) / 2 ^ (8 * (7 - k)) % 256 < 256; omega
      go_wp2_with (at_builtin; go_must (refine wpList_cat rfl _ _ rfl w.heap.size (32 + k) 1 _ _ (formf m f) (fun _ => (m : Int) / 2 ^ (8 * (7 - k)) % 256) rfl (own_below O.out (below_alloc wr _)) rfl (rb_one wr _ hxb.out) (by omega) (Nat.le_trans b.out.size (below_alloc wr _).size) ?_))
      intro v4 w4 hv4 hg4
      have O4 := hid (own_congr hv4 (formf_bound m f hf.out) (cat_one _ (formf m f) (formf m f) _ (fun _ _ => rfl) hx.out))
      have b4 := hid (below_grow (below_next b.out (below_alloc wr (.cells #[.int .u8 ((m : Int) / 2 ^ (8 * (7 - k)) % 256)] 5))) (Nat.le_trans b.out.size (below_alloc wr _).size) (own_below O.out (below_alloc wr (.cells #[.int .u8 ((m : Int) / 2 ^ (8 * (7 - k)) % 256)] 5))) hg4)
      clear hv4 hg4
      go_wp2
      go_roundw
      case rel => exact ⟨k + 1, by omega, by go_num, O4.out, b4.out⟩
      case measure => simp [intOf]; omega
    · have ek : k = 8 := by omega
      subst ek
      go_wp2_with (at_builtin; go_must (refine wpList_cat rfl _ _ rfl w.heap.size 40 (m % 64) _ _ (formf m f) (fun i => f (m / 64 * 64 + i)) rfl O.out rfl ((rb_tail HR.out).below b.out) (by omega) b.out.size ?_))
      intro v5 w5 hv5 hg5
      have O5 := hid (own_congr hv5 (formf_bound m f hf.out) (cat_tail m f))
      have b5 := hid (below_grow b.out b.out.size O.out hg5)
      clear hv5 hg5
      go_wp2_with fail
      go_loopw [3] (fun u wr => ∃ k : Nat, m % 64 ≤ k ∧ k ≤ 64 ∧ By.Own wr w.heap.size u (40 + k) (formf m f) ∧ Below w.heap.size w wr) (fun u _ => 104 - slLen u)
      case atStart => exact ⟨m % 64, by omega, by omega, O5.out, b5.out⟩
      case round =>
        clear O b O5 b5
        obtain ⟨k, hk0, hk, hown, hbel⟩ := hrel
        have O := hid hown
        have b := hid hbel
        obtain ⟨gg, cc, rfl, -⟩ := own_cells hown (by omega)
        clear hown hbel
        by_cases hlt : k < 64
        · go_wp2_with (at_builtin; go_must (refine wpList_cat rfl _ _ rfl w.heap.size (40 + k) 1 _ _ (formf m f) (fun _ => 0) rfl (own_below O.out (below_alloc wr _)) rfl (rb_one wr 0 (by decide)) (by omega) (Nat.le_trans b.out.size (below_alloc wr _).size) ?_))
          intro v3 w3 hv3 hg3
          have O3 := hid (own_congr hv3 (formf_bound m f hf.out) (cat_one (40 + k) (formf m f) (formf m f) 0 (fun _ _ => rfl) (formf_d m f k hk0).symm))
          have b3 := hid (below_grow (below_next b.out (below_alloc wr (.cells #[.int .u8 0] 5))) (Nat.le_trans b.out.size (below_alloc wr _).size) (own_below O.out (below_alloc wr (.cells #[.int .u8 0] 5))) hg3)
          obtain ⟨g3, c3, rfl, -⟩ := own_cells O3.out (by omega)
          clear hv3 hg3
          go_wp2
          exact ⟨⟨k + 1, by omega, by omega, O3.out, b3.out⟩, by simp [slLen]; omega⟩
        · have ek : k = 64 := by omega
          subst ek
          go_wp2
          go_ret
          exact ⟨_, rfl, O.out, b.out⟩
end Go.Proofs.YtbjccfnaadmofaaDoor.Sh
