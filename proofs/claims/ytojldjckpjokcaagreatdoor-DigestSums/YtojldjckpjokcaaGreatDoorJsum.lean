/- What a state of the program answers to Sum; the function Sum. -/
import Derived.Test.YtojldjckpjokcaaGreatDoorJops
import Derived.Deep.Cut
namespace Go.Proofs.YtojldjckpjokcaaGreatDoor.Sg
open Go.ChangeShapes Go.WideShapes Go.ChangeAt Go.RowKit
open Go.Proofs.YtojldjckpjokcaaGreatDoor.By Go.Proofs.YtojldjckpjokcaaGreatDoor.Wd

theorem own_kept {w w' : World} {base n : Nat} {v : Value} {f : Nat → Int} {S : Nat → Prop} (h : By.Own w base v n f) (hk : Kp S w w') (hne : ∀ g, v.ownBlock = some g → ¬ S g) : By.Own w' base v n f := by
  obtain ⟨hf, hl, h | ⟨g, cap, cur, rfl, hb, hc, h1, h2, h3, h4⟩⟩ := h
  · exact ⟨hf, hl, .inl h⟩
  · refine ⟨hf, hl, .inr ⟨g, cap, cur, rfl, hb, ?_, h1, h2, h3, h4⟩⟩
    rw [hk.block g (Array.getElem?_eq_some_iff.1 hc).1 (hne g rfl)]; exact hc
theorem own_mono {w : World} {B B' n : Nat} {v : Value} {f : Nat → Int} (h : By.Own w B v n f) (hb : B' ≤ B) : By.Own w B' v n f := by
  obtain ⟨hf, hl, h | ⟨g, cap, cur, rfl, h0, r⟩⟩ := h
  · exact ⟨hf, hl, .inl h⟩
  · exact ⟨hf, hl, .inr ⟨g, cap, cur, rfl, by omega, r⟩⟩
set_option maxRecDepth 4000 in
set_option maxHeartbeats 1200000 in
theorem sum32 (b m : Nat) (f : Nat → Int) (lo : Option Nat) (L : List Rn) (S : Nat → Prop) (w : World) (h : St w b m f) (hk : KT w) (hS0 : ¬ S 1) (hl : LG S w w lo L) (hp : Pos L) (hm : m ≤ 140737488355328) (hroom : Big L) :
    Calls Tryz.prog 60 #[.pointer (some ⟨b, 0, none⟩), lpv lo] w fun e w' => ∃ v, e = .returned (.tuple #[v, .int .i64 0]) ∧ By.Own w' w.heap.size v 64 (dig m f) ∧ LG S w w' lo (evs512 L (last m)) ∧ Kp S w w' := by
  have H := hid h
  have h0 := h.c0
  have HK := hid hk
  have HS0 := hid hS0
  have HL := hid hl
  have HP := hid hp
  have HM := hid hroom
  have x1 := LDs_run (h.here.range 0 (stc m f) (fun j v hj => by rw [Nat.zero_add]; exact hj)) (stc_length _ _)
  have hz := zero75
  have bn := Blk.new w zc 127
  have x2 := SVs_run (cs := stc m f) (bn.there 0 138 (by rw [zc_length]; omega)) (stc_length _ _) (stc_one _ _)
  have hlt := hid h.here.lt
  have B := hid bn
  clear bn h hk hS0 hl hp hroom
  go_enter Tryz.func60, Tryz.ntmps60
  go_upto_region 4 with (first | (go_at_call 80; refine (isNone_st _ _ true h0).mono ?_; rintro e w ⟨rfl, rfl⟩))
  obtain ⟨W1, hW1⟩ : ∃ x, World.setCells (w.alloc (.cells zc.toArray 127)) w.heap.size 0 (stc m f) = x := ⟨_, rfl⟩
  have hB1 : St W1 w.heap.size m f := by
    rw [← hW1]
    have b2 := B.out.put 0 (stc m f)
    rw [put_all _ _ (zc_length.trans (stc_length _ _).symm)] at b2
    exact ⟨b2, H.out.byte, H.out.few⟩
  have hb1 : Below w.heap.size w W1 := by rw [← hW1]; exact below_cells (below_alloc _ _) _ _ _ (Nat.le_refl _) (by rw [size_alloc]; omega)
  rw [hW1]
  have S1 := hid hB1
  have b1 := hid hb1
  have H1 := hid (H.out.below hb1)
  have c9 := H1.out.c9
  clear hW1 hB1 hb1 x1 x2 hz h0
  go_wp2_with fail
  refine (ending59 m (by omega) _).mono ?_
  rintro e w2 ⟨u, rfl, hu, hb2⟩
  have HU := hid hu
  have b2 := hid (below_next b1.out hb2)
  have S2 := hid (S1.out.below hb2)
  have ez := hid b1.out.size
  have ez2 := hid hb2.size
  have e1 := hid S1.out.here.lt
  clear hu hb2 c9
  go_wp2_with fail
  refine (goOn50 w.heap.size m (1 + zs m + 16) u f (endf m) lo L (fun j => j = w.heap.size ∨ (S j ∧ j < w.heap.size)) w2 S2.out (HK.out.below b2.out) (by rintro (e | e); have := HK.out.lt; omega; exact HS0.out e.1) (.inl rfl) (HL.out.start b2.out (fun i hi e => .inr ⟨e, hi⟩)) HP.out (fun w' hk' => ?_) (by unfold zs; omega) HM.out).mono ?_
  · refine (own_kept HU.out hk' (fun q hq => ?_)).reads
    have hq2 := own_row HU.out q hq
    rintro (e | e)
    · have := e1.out; omega
    · have := e.2; have := ez.out; omega
  rintro e w3 ⟨rfl, hs3, hl3, hk3⟩
  have S3 := hid hs3
  have L3 := hid (hl3.back HL.out (Nat.le_trans ez.out ez2.out) (fun i hi e => by rcases e with e | e; omega; exact e.1))
  have K3 := hid (((Kp.of_below S b2.out).trans hk3 (fun i hi e => by rcases e with e | e; omega; exact e.1)))
  have x3 := hs3.words
  clear hs3 hl3 hk3
  go_wp2_with fail
  refine (laid57 _ (hw_w _ _) _).mono ?_
  rintro e w4 ⟨v, rfl, hv, hb4⟩
  have HV := hid hv
  have K4 := hid (K3.out.trans (Kp.of_below S hb4) (fun _ _ e => e))
  have L4 := hid (L3.out.below hb4)
  have z3 := K3.out.size
  clear hv hb4 x3
  go_wp2
  go_ret2
  refine ⟨_, rfl, ?_, L4.out, K4.out⟩
  exact own_mono HV.out z3
theorem sum32n (b : Nat) (lp : Value) (w : World) (h : NoSt w b) : Calls Tryz.prog 60 #[.pointer (some ⟨b, 0, none⟩), lp] w fun e w' => e = .returned (.tuple #[.slice none 0 0, .int .i64 1]) ∧ w' = w := by
  have h0 := h.c0
  clear h
  go_enter Tryz.func60, Tryz.ntmps60
  go_wp2_with (go_at_call 80; refine (isNone_st _ _ false h0).mono ?_; rintro e w' ⟨rfl, rfl⟩)
  go_ret2
  exact ⟨rfl, rfl⟩
theorem sum32z (lp : Value) (w : World) : Calls Tryz.prog 60 #[.pointer none, lp] w fun e w' => e = .returned (.tuple #[.slice none 0 0, .int .i64 1]) ∧ w' = w := by
  go_enter Tryz.func60, Tryz.ntmps60
  go_wp2_with (go_at_call 80; refine (isNone_nil _).mono ?_; rintro e w' ⟨rfl, rfl⟩)
  go_ret2
  exact ⟨rfl, rfl⟩

theorem LG.rebase {S : Nat → Prop} {w w2 : World} {lo : Option Nat} {L : List Rn} (h : LG S w w2 lo L) : LG (fun j => S j ∨ w.heap.size ≤ j) w2 w2 lo L := by
  cases lo with
  | none => exact trivial
  | some lb =>
    obtain ⟨h1, rv, hl, ho⟩ := h
    refine ⟨.inl h1, rv, hl, fun g hg _ => ?_⟩
    by_cases hlt : g < w.heap.size
    · exact .inl (ho g hg hlt)
    · exact .inr (by omega)
theorem cat0 (f g : Nat → Int) : cat 0 f g = g := by funext i; unfold cat; simp
set_option maxRecDepth 4000 in
set_option maxHeartbeats 1200000 in
theorem sum23 (n : Nat) (v : Value) (g : Nat → Int) (lo : Option Nat) (L : List Rn) (S : Nat → Prop) (w : World) (hk : KT w) (hS0 : ¬ S 1) (hl : LG S w w lo L) (hp : Pos L)
    (hr : ∀ w', Kp S w w' → By.RB w' v n g) (hn : n ≤ 140737488355328) (hroom : Wide L) :
    Calls Tryz.prog 40 #[lpv lo, v] w fun e w' => ∃ u, e = .returned u ∧ By.Own w' w.heap.size u 64 (dig n g) ∧ LG S w w' lo (evs512 L (n / 128 + last n)) ∧ Kp S w w' := by
  have HK := hid hk
  have HS0 := hid hS0
  have HL := hid hl
  have HP := hid hp
  have HM := hid hroom
  have HR := hid hr
  clear hk hS0 hl hp hroom hr
  go_enter Tryz.func40, Tryz.ntmps40
  go_wp2_with fail
  refine (new12 _).mono ?_
  rintro e w1 ⟨rfl, hs1, hb1⟩
  have S1 := hid hs1
  have b1 := hid hb1
  have ez := hid hb1.size
  clear hs1 hb1
  go_wp2_with fail
  refine (goOn50 w.heap.size 0 n v (fun _ => 0) g lo L (fun j => j = w.heap.size ∨ (S j ∧ j < w.heap.size)) w1 S1.out (HK.out.below b1.out) (by rintro (e | e); have := HK.out.lt; omega; exact HS0.out e.1) (.inl rfl) (HL.out.start b1.out (fun i hi e => .inr ⟨e, hi⟩)) HP.out (fun w' hk' => HR.out w' ((Kp.of_below S b1.out).trans hk' (fun i hi e => by rcases e with e | e; omega; exact e.1))) (by omega) HM.out.big).mono ?_
  rintro e w2 ⟨rfl, hs2, hl2, hk2⟩
  rw [Nat.zero_add, cat0] at hs2
  rw [Nat.zero_add, Nat.zero_div, Nat.sub_zero] at hl2
  have S2 := hid hs2
  have L2 := hid (hl2.back HL.out ez.out (fun i hi e => by rcases e with e | e; omega; exact e.1))
  have K2 := hid (((Kp.of_below S b1.out).trans hk2 (fun i hi e => by rcases e with e | e; omega; exact e.1)))
  have P2 := hid (evs512_pos HP.out (n / 128))
  have T2 := hid (evs512_big HP.out HM.out (n / 128) (by omega))
  clear hs2 hl2 hk2
  go_wp2_with fail
  refine (sum32 w.heap.size n g lo (evs512 L (n / 128)) (fun j => S j ∨ w.heap.size ≤ j) w2 S2.out (HK.out.kept K2.out HS0.out) (by rintro (e | e); exact HS0.out e; have := HK.out.lt; omega) ?_ P2.out hn T2.out).mono ?_
  · exact L2.out.rebase
  rintro e w3 ⟨u, rfl, hu, hl3, hk3⟩
  have U3 := hid (own_mono hu K2.out.size)
  have L3 := hid (hl3.back HL.out K2.out.size (fun i hi e => by rcases e with e | e; exact e; omega))
  rw [evs512_add] at L3
  have K3 := hid (K2.out.trans hk3 (fun i hi e => by rcases e with e | e; exact e; omega))
  clear hu hl3 hk3
  go_wp2
  go_ret
  exact ⟨_, rfl, U3.out, L3.out, K3.out⟩
end Go.Proofs.YtojldjckpjokcaaGreatDoor.Sg
