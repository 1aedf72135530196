/- What a state of the program answers: Write, Sum, Clone, Reset, Wipe; and the function Sum. What a state of the program answers to Sum; the function Sum. What the walks of the laws have in common: ledgers, lists that lie apart. -/
import Derived.Test.YtpohogpkfdebdaaGreatDoorZjb
import Derived.Deep.Cut
import Derived.Test.YtpohogpkfdebdaaGreatDoorZrr
namespace Go.Proofs.YtpohogpkfdebdaaGreatDoor.Sg
open Go.ChangeShapes Go.WideShapes Go.ChangeAt Go.RowKit
open Go.Proofs.YtpohogpkfdebdaaGreatDoor.By Go.Proofs.YtpohogpkfdebdaaGreatDoor.Wd

theorem goOn50 (b m n : Nat) (v : Value) (f g : Nat → Int) (lo : Option Nat) (L : List Rn) (S : Nat → Prop) (w : World) (hst : St w b m f) (hk : KT w) (hS0 : ¬ S 3) (hSb : S b) (hl : LG S w w lo L) (hp : Pos L)
    (hr : ∀ w', Kp S w w' → By.RB w' v n g) (hmn : m + n ≤ 281474976710656) (hroom : Big L) :
    Calls Tryz.prog 240 #[.pointer (some ⟨b, 0, none⟩), lpv lo, v] w fun e w' => e = .returned (.tuple #[]) ∧ St w' b (m + n) (cat m f g) ∧ LG S w w' lo (evs512 L ((m + n) / 128 - m / 128)) ∧ Kp S w w' := by
  have h0 := hr w (Kp.refl _ _)
  have hg := h0.1
  obtain ⟨_, a, cap, rfl, h1, h2, hc⟩ := h0
  by_cases hn : 0 < n
  · rcases hc with ⟨e, _⟩ | ⟨pb, po, rfl, _⟩
    · omega
    · refine goOn_some b m n pb po cap f g lo L S w hst hk hS0 hSb hl hg hp (fun w' hw => ?_) hn h1 h2 hmn hroom
      obtain ⟨_, a', cap', he, _, _, hc⟩ := hr w' hw
      simp only [Value.slice.injEq] at he
      obtain ⟨rfl, _, rfl⟩ := he
      rcases hc with ⟨e, _⟩ | ⟨pb', po', e, hc⟩
      · omega
      · simp only [Option.some.injEq, Addr.mk.injEq] at e
        obtain ⟨rfl, rfl, _⟩ := e
        exact hc
  · have en : n = 0 := by omega
    subst en
    exact goOn_none b m a cap f g lo L S w hst hSb hl hg

theorem stc_length (m : Nat) (f : Nat → Int) : (stc m f).length = 138 := sc_length _ _ _
theorem stc_one (m : Nat) (f : Nat → Int) : ∀ u ∈ stc m f, u.oneCell' = true := sc_one _ _ _
/-- A state's cells where nobody made one. -/
def zc : List Value := .bool false :: (wl 8 (fun _ => 0) ++ .int .u64 0 :: bl 128 (fun _ => 0))
theorem zc_length : zc.length = 138 := by kernel_rfl
theorem zero75 : ∀ w, (zeroValue 286).run Tryz.prog w = .ok (.agg zc.toArray) w := (zero_of_info (t := 286) (v := .agg zc.toArray) (n := 138) (by kernel_rfl)).1
theorem zc_one : ∀ u ∈ zc, u.oneCell' = true := by
  intro u hu
  simp only [zc, List.mem_cons, List.mem_append] at hu
  rcases hu with rfl | hu | rfl | hu
  · rfl
  · exact wl_one _ _ u hu
  · rfl
  · exact bl_one _ _ u hu
theorem write26 (b m n : Nat) (v : Value) (f g : Nat → Int) (lo : Option Nat) (L : List Rn) (S : Nat → Prop) (w : World) (hst : St w b m f) (hk : KT w) (hS0 : ¬ S 3) (hSb : S b) (hl : LG S w w lo L) (hp : Pos L)
    (hr : ∀ w', Kp S w w' → By.RB w' v n g) (hmn : m + n ≤ 281474976710656) (hroom : Big L) :
    Calls Tryz.prog 340 #[.pointer (some ⟨b, 0, none⟩), lpv lo, v] w fun e w' => e = .returned (.int .i64 0) ∧ St w' b (m + n) (cat m f g) ∧ LG S w w' lo (evs512 L ((m + n) / 128 - m / 128)) ∧ Kp S w w' := by
  have h0 := hst.c0
  have HG := hid (goOn50 b m n v f g lo L S w hst hk hS0 hSb hl hp hr hmn hroom)
  clear hst hk hS0 hSb hl hp hr hmn hroom
  go_enter Tryz.func340, Tryz.ntmps340
  go_wp2_with (first | (go_at_call 268; refine (isNone_st _ _ true h0).mono ?_; rintro e w ⟨rfl, rfl⟩) | (go_at_call 240; refine HG.out.mono ?_; rintro e w1 ⟨rfl, h1, h2, h3⟩; have H1 := hid h1; have H2 := hid h2; have H3 := hid h3; clear h1 h2 h3))
  go_ret
  exact ⟨rfl, H1.out, H2.out, H3.out⟩
set_option maxRecDepth 4000 in
theorem clone28 (b m : Nat) (f : Nat → Int) (w : World) (h : St w b m f) :
    Calls Tryz.prog 342 #[.pointer (some ⟨b, 0, none⟩)] w fun e w' => e = .returned (.tuple #[.pointer (some ⟨w.heap.size, 0, none⟩), .int .i64 0]) ∧ St w' w.heap.size m f ∧ Below w.heap.size w w' := by
  have H := hid h
  have h0 := h.c0
  have x1 := LDs_run (h.here.range 0 (stc m f) (fun j v hj => by rw [Nat.zero_add]; exact hj)) (stc_length _ _)
  have hz := zero75
  have bn := Blk.new w zc 286
  have x2 := SVs_run (cs := stc m f) (bn.there 0 138 (by rw [zc_length]; omega)) (stc_length _ _) (stc_one _ _)
  have B := hid bn
  clear bn h
  go_enter Tryz.func342, Tryz.ntmps342
  go_wp2_with (go_at_call 268; refine (isNone_st _ _ true h0).mono ?_; rintro e w ⟨rfl, rfl⟩)
  go_ret2
  have b2 := B.out.put 0 (stc m f)
  rw [put_all _ _ (by rw [zc_length]; exact (stc_length _ _).symm)] at b2
  exact ⟨rfl, ⟨b2, H.out.byte, H.out.few⟩, below_cells (below_alloc _ _) _ _ _ (Nat.le_refl _) (by rw [size_alloc]; omega)⟩
set_option maxRecDepth 4000 in
theorem wipe29 (b m : Nat) (f : Nat → Int) (lo : Option Nat) (L : List Rn) (S : Nat → Prop) (w : World) (h : St w b m f) (hSb : S b) (hl : LG S w w lo L) (hroom : Room L) :
    Calls Tryz.prog 339 #[.pointer (some ⟨b, 0, none⟩), lpv lo] w fun e w' => e = .returned (.int .i64 0) ∧ NoSt w' b ∧ LG S w w' lo (putL L ⟨8, 200, 1⟩) ∧ Kp S w w' := by
  have H := hid h
  have h0 := h.c0
  have HS := hid hSb
  have HL := hid hl
  have HM := hid hroom
  have x2 := SVs_run (cs := zc) (h.here.there 0 138 (Nat.le_of_eq (stc_length _ _).symm)) zc_length zc_one
  have hz := zero75
  clear h hSb hl hroom
  go_enter Tryz.func339, Tryz.ntmps339
  go_wp2_with (first | (go_at_call 268; refine (isNone_st _ _ true h0).mono ?_; rintro e w ⟨rfl, rfl⟩))
  obtain ⟨W1, hW1⟩ : ∃ x, w.setCells b 0 zc = x := ⟨_, rfl⟩
  have hB : Blk W1 b zc 286 := by
    rw [← hW1]
    have b2 := H.out.here.put 0 zc
    rw [put_all _ _ ((stc_length _ _).trans zc_length.symm)] at b2
    exact b2
  have hK : Kp S w W1 := by rw [← hW1]; exact (Kp.setCells b _ _).mono (fun k _ e => by have : k = b := e; rw [this]; exact HS.out)
  have hL : LG S w W1 lo L := by rw [← hW1]; exact HL.out.state H.out.here (Kp.setCells b _ _)
  rw [hW1]
  have B1 := hid hB
  have K1 := hid hK
  have L1 := hid hL
  clear hW1 hB hK hL x2 hz h0
  refine (note_lg S w W1 lo _ 8 200 (by decide) (by decide) L1.out K1.out HM.out).mono ?_
  rintro e W6 ⟨rfl, hl6, hk6, ht6⟩
  have B6 := hid (ht6.blk B1.out)
  have K6 := hid hk6
  have L6 := hid hl6
  clear hl6 hk6 ht6
  go_wp2
  go_ret
  exact ⟨rfl, ⟨_, B6.out, by kernel_rfl⟩, L6.out, K6.out⟩
theorem LG.start {S S' : Nat → Prop} {w w1 : World} {lo : Option Nat} {L : List Rn} (h : LG S w w lo L) (hb : Below w.heap.size w w1) (hs : ∀ i, i < w.heap.size → S i → S' i) : LG S' w1 w1 lo L := by
  cases lo with
  | none => exact trivial
  | some lb =>
    obtain ⟨h1, rv, hl, ho⟩ := h
    exact ⟨hs _ hl.lt h1, rv, hl.below hb, fun g hg _ => hs _ (hl.own.lt g hg).2 (ho g hg (hl.own.lt g hg).2)⟩
theorem LG.back {S S' : Nat → Prop} {w w1 w' : World} {lo : Option Nat} {L L0 : List Rn} (h : LG S' w1 w' lo L) (h0 : LG S w w lo L0) (hz : w.heap.size ≤ w1.heap.size) (hs : ∀ i, i < w.heap.size → S' i → S i) : LG S w w' lo L := by
  cases lo with
  | none => exact trivial
  | some lb =>
    obtain ⟨_, rv, hl, ho⟩ := h
    exact ⟨h0.1, rv, hl, fun g hg hlt => hs g hlt (ho g hg (by omega))⟩
/-- The digest of a message of m bytes; how many blocks it takes besides those that are whole. -/
def dig (m : Nat) (f : Nat → Int) : Nat → Int := lf (hw (cat m f (endf m)) ((m + (1 + zs m + 16)) / 128))
def last (m : Nat) : Nat := (m + (1 + zs m + 16)) / 128 - m / 128
end Go.Proofs.YtpohogpkfdebdaaGreatDoor.Sg
namespace Go.Proofs.YtpohogpkfdebdaaGreatDoor.Sg
open Go.ChangeShapes Go.WideShapes Go.ChangeAt Go.RowKit
open Go.Proofs.YtpohogpkfdebdaaGreatDoor.By Go.Proofs.YtpohogpkfdebdaaGreatDoor.Wd

theorem own_kept {w w' : World} {base n : Nat} {v : Value} {f : Nat → Int} {S : Nat → Prop} (h : By.Own w base v n f) (hk : Kp S w w') (hne : ∀ g, v.ownBlock = some g → ¬ S g) : By.Own w' base v n f := by
  obtain ⟨hf, hl, h | ⟨g, cap, cur, rfl, hb, hc, h1, h2, h3, h4⟩⟩ := h
  · exact ⟨hf, hl, .inl h⟩
  · refine ⟨hf, hl, .inr ⟨g, cap, cur, rfl, hb, ?_, h1, h2, h3, h4⟩⟩
    rw [hk.block g (Array.getElem?_eq_some_iff.1 hc).1 (hne g rfl)]; exact hc
theorem own_mono {w : World} {B B' n : Nat} {v : Value} {f : Nat → Int} (h : By.Own w B v n f) (hb : B' ≤ B) : By.Own w B' v n f := by
  obtain ⟨hf, hl, h | ⟨g, cap, cur, rfl, h0, r⟩⟩ := h
  · exact ⟨hf, hl, .inl h⟩
  · exact ⟨hf, hl, .inr ⟨g, cap, cur, rfl, by omega, r⟩⟩
set_option maxRecDepth 4000 in
set_option maxHeartbeats 1200000 in
theorem sum32 (b m : Nat) (f : Nat → Int) (lo : Option Nat) (L : List Rn) (S : Nat → Prop) (w : World) (h : St w b m f) (hk : KT w) (hS0 : ¬ S 3) (hl : LG S w w lo L) (hp : Pos L) (hm : m ≤ 140737488355328) (hroom : Big L) :
    Calls Tryz.prog 241 #[.pointer (some ⟨b, 0, none⟩), lpv lo] w fun e w' => ∃ v, e = .returned (.tuple #[v, .int .i64 0]) ∧ By.Own w' w.heap.size v 64 (dig m f) ∧ LG S w w' lo (evs512 L (last m)) ∧ Kp S w w' := by
  have H := hid h
  have h0 := h.c0
  have HK := hid hk
  have HS0 := hid hS0
  have HL := hid hl
  have HP := hid hp
  have HM := hid hroom
  have x1 := LDs_run (h.here.range 0 (stc m f) (fun j v hj => by rw [Nat.zero_add]; exact hj)) (stc_length _ _)
  have hz := zero75
  have bn := Blk.new w zc 286
  have x2 := SVs_run (cs := stc m f) (bn.there 0 138 (by rw [zc_length]; omega)) (stc_length _ _) (stc_one _ _)
  have hlt := hid h.here.lt
  have B := hid bn
  clear bn h hk hS0 hl hp hroom
  go_enter Tryz.func241, Tryz.ntmps241
  go_upto_region 4 with (first | (go_at_call 268; refine (isNone_st _ _ true h0).mono ?_; rintro e w ⟨rfl, rfl⟩))
  obtain ⟨W1, hW1⟩ : ∃ x, World.setCells (w.alloc (.cells zc.toArray 286)) w.heap.size 0 (stc m f) = x := ⟨_, rfl⟩
  have hB1 : St W1 w.heap.size m f := by
    rw [← hW1]
    have b2 := B.out.put 0 (stc m f)
    rw [put_all _ _ (zc_length.trans (stc_length _ _).symm)] at b2
    exact ⟨b2, H.out.byte, H.out.few⟩
  have hb1 : Below w.heap.size w W1 := by rw [← hW1]; exact below_cells (below_alloc _ _) _ _ _ (Nat.le_refl _) (by rw [size_alloc]; omega)
  rw [hW1]
  have S1 := hid hB1
  have b1 := hid hb1
  have H1 := hid (H.out.below hb1)
  have c9 := H1.out.c9
  clear hW1 hB1 hb1 x1 x2 hz h0
  go_wp2_with fail
  refine (ending59 m (by omega) _).mono ?_
  rintro e w2 ⟨u, rfl, hu, hb2⟩
  have HU := hid hu
  have b2 := hid (below_next b1.out hb2)
  have S2 := hid (S1.out.below hb2)
  have ez := hid b1.out.size
  have ez2 := hid hb2.size
  have e1 := hid S1.out.here.lt
  clear hu hb2 c9
  go_wp2_with fail
  refine (goOn50 w.heap.size m (1 + zs m + 16) u f (endf m) lo L (fun j => j = w.heap.size ∨ (S j ∧ j < w.heap.size)) w2 S2.out (HK.out.below b2.out) (by rintro (e | e); have := HK.out.lt; omega; exact HS0.out e.1) (.inl rfl) (HL.out.start b2.out (fun i hi e => .inr ⟨e, hi⟩)) HP.out (fun w' hk' => ?_) (by unfold zs; omega) HM.out).mono ?_
  · refine (own_kept HU.out hk' (fun q hq => ?_)).reads
    have hq2 := own_row HU.out q hq
    rintro (e | e)
    · have := e1.out; omega
    · have := e.2; have := ez.out; omega
  rintro e w3 ⟨rfl, hs3, hl3, hk3⟩
  have S3 := hid hs3
  have L3 := hid (hl3.back HL.out (Nat.le_trans ez.out ez2.out) (fun i hi e => by rcases e with e | e; omega; exact e.1))
  have K3 := hid (((Kp.of_below S b2.out).trans hk3 (fun i hi e => by rcases e with e | e; omega; exact e.1)))
  have x3 := hs3.words
  clear hs3 hl3 hk3
  go_wp2_with fail
  refine (laid57 _ (hw_w _ _) _).mono ?_
  rintro e w4 ⟨v, rfl, hv, hb4⟩
  have HV := hid hv
  have K4 := hid (K3.out.trans (Kp.of_below S hb4) (fun _ _ e => e))
  have L4 := hid (L3.out.below hb4)
  have z3 := K3.out.size
  clear hv hb4 x3
  go_wp2
  go_ret2
  refine ⟨_, rfl, ?_, L4.out, K4.out⟩
  exact own_mono HV.out z3
theorem LG.rebase {S : Nat → Prop} {w w2 : World} {lo : Option Nat} {L : List Rn} (h : LG S w w2 lo L) : LG (fun j => S j ∨ w.heap.size ≤ j) w2 w2 lo L := by
  cases lo with
  | none => exact trivial
  | some lb =>
    obtain ⟨h1, rv, hl, ho⟩ := h
    refine ⟨.inl h1, rv, hl, fun g hg _ => ?_⟩
    by_cases hlt : g < w.heap.size
    · exact .inl (ho g hg hlt)
    · exact .inr (by omega)
theorem cat0 (f g : Nat → Int) : cat 0 f g = g := by funext i; unfold cat; simp
set_option maxRecDepth 4000 in
set_option maxHeartbeats 1200000 in
theorem sum23 (n : Nat) (v : Value) (g : Nat → Int) (lo : Option Nat) (L : List Rn) (S : Nat → Prop) (w : World) (hk : KT w) (hS0 : ¬ S 3) (hl : LG S w w lo L) (hp : Pos L)
    (hr : ∀ w', Kp S w w' → By.RB w' v n g) (hn : n ≤ 140737488355328) (hroom : Wide L) :
    Calls Tryz.prog 191 #[lpv lo, v] w fun e w' => ∃ u, e = .returned u ∧ By.Own w' w.heap.size u 64 (dig n g) ∧ LG S w w' lo (evs512 L (n / 128 + last n)) ∧ Kp S w w' := by
  have HK := hid hk
  have HS0 := hid hS0
  have HL := hid hl
  have HP := hid hp
  have HM := hid hroom
  have HR := hid hr
  clear hk hS0 hl hp hroom hr
  go_enter Tryz.func191, Tryz.ntmps191
  go_wp2_with fail
  refine (new12 _).mono ?_
  rintro e w1 ⟨rfl, hs1, hb1⟩
  have S1 := hid hs1
  have b1 := hid hb1
  have ez := hid hb1.size
  clear hs1 hb1
  go_wp2_with fail
  refine (goOn50 w.heap.size 0 n v (fun _ => 0) g lo L (fun j => j = w.heap.size ∨ (S j ∧ j < w.heap.size)) w1 S1.out (HK.out.below b1.out) (by rintro (e | e); have := HK.out.lt; omega; exact HS0.out e.1) (.inl rfl) (HL.out.start b1.out (fun i hi e => .inr ⟨e, hi⟩)) HP.out (fun w' hk' => HR.out w' ((Kp.of_below S b1.out).trans hk' (fun i hi e => by rcases e with e | e; omega; exact e.1))) (by omega) HM.out.big).mono ?_
  rintro e w2 ⟨rfl, hs2, hl2, hk2⟩
  rw [Nat.zero_add, cat0] at hs2
  rw [Nat.zero_add, Nat.zero_div, Nat.sub_zero] at hl2
  have S2 := hid hs2
  have L2 := hid (hl2.back HL.out ez.out (fun i hi e => by rcases e with e | e; omega; exact e.1))
  have K2 := hid (((Kp.of_below S b1.out).trans hk2 (fun i hi e => by rcases e with e | e; omega; exact e.1)))
  have P2 := hid (evs512_pos HP.out (n / 128))
  have T2 := hid (evs512_big HP.out HM.out (n / 128) (by omega))
  clear hs2 hl2 hk2
  go_wp2_with fail
  refine (sum32 w.heap.size n g lo (evs512 L (n / 128)) (fun j => S j ∨ w.heap.size ≤ j) w2 S2.out (HK.out.kept K2.out HS0.out) (by rintro (e | e); exact HS0.out e; have := HK.out.lt; omega) ?_ P2.out hn T2.out).mono ?_
  · exact L2.out.rebase
  rintro e w3 ⟨u, rfl, hu, hl3, hk3⟩
  have U3 := hid (own_mono hu K2.out.size)
  have L3 := hid (hl3.back HL.out K2.out.size (fun i hi e => by rcases e with e | e; exact e; omega))
  rw [evs512_add] at L3
  have K3 := hid (K2.out.trans hk3 (fun i hi e => by rcases e with e | e; exact e; omega))
  clear hu hl3 hk3
  go_wp2
  go_ret
  exact ⟨_, rfl, U3.out, L3.out, K3.out⟩
end Go.Proofs.YtpohogpkfdebdaaGreatDoor.Sg
namespace Go.Proofs.YtpohogpkfdebdaaGreatDoor.Sg
open Go.ChangeShapes Go.WideShapes Go.ChangeAt Go.RowKit
open Go.Proofs.YtpohogpkfdebdaaGreatDoor.By Go.Proofs.YtpohogpkfdebdaaGreatDoor.Wd

theorem own8_type {w : World} {base n : Nat} {v : Value} {f : Nat → Int} (h : By.Own w base v n f) {g : Nat} (hg : v.ownBlock = some g) : ∃ cs, w.heap[g]? = some (.cells cs 5 (0, 0)) := by
  obtain ⟨_, _, h | ⟨g', cap, cur, rfl, _, hc, _⟩⟩ := h
  · obtain ⟨rfl, _⟩ := h; simp [Value.ownBlock] at hg
  · simp [Value.ownBlock] at hg; subst hg; exact ⟨cur, hc⟩
/-- A ledger's own blocks. -/
def SL (lb : Nat) (rv : Value) (j : Nat) : Prop := j = lb ∨ rv.ownBlock = some j
theorem lg_led {w : World} {lb : Nat} {rv : Value} {L : List Rn} (h : Led w lb rv L) : LG (SL lb rv) w w (some lb) L := ⟨.inl rfl, rv, h, fun _ hg _ => .inr hg⟩
theorem pos_nil' : Pos [] := fun q hq => by simp at hq
theorem rb_marked (w : World) (n : Nat) (f : Nat → Int) (fr : Nat × Nat) (hf : ∀ i, 0 ≤ f i ∧ f i < 256) (hn : n ≤ maxLen) : By.RB (w.alloc (.cells (bl n f).toArray 5 fr)) (.slice (some ⟨w.heap.size, 0, none⟩) n n) n f :=
  ⟨hf, _, _, rfl, Nat.le_refl _, hn, .inr ⟨_, 0, rfl, fun i hi => by
    rw [cell_of_row _ w.heap.size (0 + i) _ 5 fr (heap_alloc_last w _), Nat.zero_add]
    simpa using bl_get n f i hi⟩⟩
theorem below_kp {w w' : World} (h : Kp (fun _ => False) w w') : Below w.heap.size w w' := h.below (Nat.le_refl _) (fun _ _ e => e)
def blocks (m : Nat) : Nat := (m + (1 + zs m + 16)) / 128
theorem dig_congr (m : Nat) (f g : Nat → Int) (h : ∀ i, i < m → f i = g i) : dig m f = dig m g := by
  have e : cat m f (endf m) = cat m g (endf m) := by
    funext i
    unfold cat
    split
    · exact h i (by assumption)
    · rfl
  unfold dig
  rw [e]
end Go.Proofs.YtpohogpkfdebdaaGreatDoor.Sg
