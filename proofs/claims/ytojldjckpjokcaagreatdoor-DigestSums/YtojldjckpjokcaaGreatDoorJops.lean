/- What a state of the program answers: Write, Sum, Clone, Reset, Wipe; and the function Sum. -/
import Derived.Test.YtojldjckpjokcaaGreatDoorJgo2
namespace Go.Proofs.YtojldjckpjokcaaGreatDoor.Sg
open Go.ChangeShapes Go.WideShapes Go.ChangeAt Go.RowKit
open Go.Proofs.YtojldjckpjokcaaGreatDoor.By Go.Proofs.YtojldjckpjokcaaGreatDoor.Wd

theorem goOn50 (b m n : Nat) (v : Value) (f g : Nat → Int) (lo : Option Nat) (L : List Rn) (S : Nat → Prop) (w : World) (hst : St w b m f) (hk : KT w) (hS0 : ¬ S 1) (hSb : S b) (hl : LG S w w lo L) (hp : Pos L)
    (hr : ∀ w', Kp S w w' → By.RB w' v n g) (hmn : m + n ≤ 281474976710656) (hroom : Big L) :
    Calls Tryz.prog 59 #[.pointer (some ⟨b, 0, none⟩), lpv lo, v] w fun e w' => e = .returned (.tuple #[]) ∧ St w' b (m + n) (cat m f g) ∧ LG S w w' lo (evs512 L ((m + n) / 128 - m / 128)) ∧ Kp S w w' := by
  have h0 := hr w (Kp.refl _ _)
  have hg := h0.1
  obtain ⟨_, a, cap, rfl, h1, h2, hc⟩ := h0
  by_cases hn : 0 < n
  · rcases hc with ⟨e, _⟩ | ⟨pb, po, rfl, _⟩
    · omega
    · refine goOn_some b m n pb po cap f g lo L S w hst hk hS0 hSb hl hg hp (fun w' hw => ?_) hn h1 h2 hmn hroom
      obtain ⟨_, a', cap', he, _, _, hc⟩ := hr w' hw
      simp only [Value.slice.injEq] at he
      obtain ⟨rfl, _, rfl⟩ := he
      rcases hc with ⟨e, _⟩ | ⟨pb', po', e, hc⟩
      · omega
      · simp only [Option.some.injEq, Addr.mk.injEq] at e
        obtain ⟨rfl, rfl, _⟩ := e
        exact hc
  · have en : n = 0 := by omega
    subst en
    exact goOn_none b m a cap f g lo L S w hst hSb hl hg

theorem stc_length (m : Nat) (f : Nat → Int) : (stc m f).length = 138 := sc_length _ _ _
theorem stc_one (m : Nat) (f : Nat → Int) : ∀ u ∈ stc m f, u.oneCell' = true := sc_one _ _ _
/-- A state's cells where nobody made one. -/
def zc : List Value := .bool false :: (wl 8 (fun _ => 0) ++ .int .u64 0 :: bl 128 (fun _ => 0))
theorem zc_length : zc.length = 138 := by kernel_rfl
theorem zero75 : ∀ w, (zeroValue 127).run Tryz.prog w = .ok (.agg zc.toArray) w := (zero_of_info (t := 127) (v := .agg zc.toArray) (n := 138) (by kernel_rfl)).1
theorem zc_one : ∀ u ∈ zc, u.oneCell' = true := by
  intro u hu
  simp only [zc, List.mem_cons, List.mem_append] at hu
  rcases hu with rfl | hu | rfl | hu
  · rfl
  · exact wl_one _ _ u hu
  · rfl
  · exact bl_one _ _ u hu
theorem write26 (b m n : Nat) (v : Value) (f g : Nat → Int) (lo : Option Nat) (L : List Rn) (S : Nat → Prop) (w : World) (hst : St w b m f) (hk : KT w) (hS0 : ¬ S 1) (hSb : S b) (hl : LG S w w lo L) (hp : Pos L)
    (hr : ∀ w', Kp S w w' → By.RB w' v n g) (hmn : m + n ≤ 281474976710656) (hroom : Big L) :
    Calls Tryz.prog 146 #[.pointer (some ⟨b, 0, none⟩), lpv lo, v] w fun e w' => e = .returned (.int .i64 0) ∧ St w' b (m + n) (cat m f g) ∧ LG S w w' lo (evs512 L ((m + n) / 128 - m / 128)) ∧ Kp S w w' := by
  have h0 := hst.c0
  have HG := hid (goOn50 b m n v f g lo L S w hst hk hS0 hSb hl hp hr hmn hroom)
  clear hst hk hS0 hSb hl hp hr hmn hroom
  go_enter Tryz.func146, Tryz.ntmps146
  go_wp2_with (first | (go_at_call 80; refine (isNone_st _ _ true h0).mono ?_; rintro e w ⟨rfl, rfl⟩) | (go_at_call 59; refine HG.out.mono ?_; rintro e w1 ⟨rfl, h1, h2, h3⟩; have H1 := hid h1; have H2 := hid h2; have H3 := hid h3; clear h1 h2 h3))
  go_ret
  exact ⟨rfl, H1.out, H2.out, H3.out⟩
theorem write26n (b : Nat) (v lp : Value) (w : World) (h : NoSt w b) : Calls Tryz.prog 146 #[.pointer (some ⟨b, 0, none⟩), lp, v] w fun e w' => e = .returned (.int .i64 1) ∧ w' = w := by
  have h0 := h.c0
  clear h
  go_enter Tryz.func146, Tryz.ntmps146
  go_wp2_with (go_at_call 80; refine (isNone_st _ _ false h0).mono ?_; rintro e w' ⟨rfl, rfl⟩)
  go_ret
  exact ⟨rfl, rfl⟩
theorem write26z (v lp : Value) (w : World) : Calls Tryz.prog 146 #[.pointer none, lp, v] w fun e w' => e = .returned (.int .i64 1) ∧ w' = w := by
  go_enter Tryz.func146, Tryz.ntmps146
  go_wp2_with (go_at_call 80; refine (isNone_nil _).mono ?_; rintro e w' ⟨rfl, rfl⟩)
  go_ret
  exact ⟨rfl, rfl⟩
set_option maxRecDepth 4000 in
theorem clone28 (b m : Nat) (f : Nat → Int) (w : World) (h : St w b m f) :
    Calls Tryz.prog 148 #[.pointer (some ⟨b, 0, none⟩)] w fun e w' => e = .returned (.tuple #[.pointer (some ⟨w.heap.size, 0, none⟩), .int .i64 0]) ∧ St w' w.heap.size m f ∧ Below w.heap.size w w' := by
  have H := hid h
  have h0 := h.c0
  have x1 := LDs_run (h.here.range 0 (stc m f) (fun j v hj => by rw [Nat.zero_add]; exact hj)) (stc_length _ _)
  have hz := zero75
  have bn := Blk.new w zc 127
  have x2 := SVs_run (cs := stc m f) (bn.there 0 138 (by rw [zc_length]; omega)) (stc_length _ _) (stc_one _ _)
  have B := hid bn
  clear bn h
  go_enter Tryz.func148, Tryz.ntmps148
  go_wp2_with (go_at_call 80; refine (isNone_st _ _ true h0).mono ?_; rintro e w ⟨rfl, rfl⟩)
  go_ret2
  have b2 := B.out.put 0 (stc m f)
  rw [put_all _ _ (by rw [zc_length]; exact (stc_length _ _).symm)] at b2
  exact ⟨rfl, ⟨b2, H.out.byte, H.out.few⟩, below_cells (below_alloc _ _) _ _ _ (Nat.le_refl _) (by rw [size_alloc]; omega)⟩
theorem clone28n (b : Nat) (w : World) (h : NoSt w b) : Calls Tryz.prog 148 #[.pointer (some ⟨b, 0, none⟩)] w fun e w' => e = .returned (.tuple #[.pointer none, .int .i64 1]) ∧ w' = w := by
  have h0 := h.c0
  clear h
  go_enter Tryz.func148, Tryz.ntmps148
  go_wp2_with (go_at_call 80; refine (isNone_st _ _ false h0).mono ?_; rintro e w' ⟨rfl, rfl⟩)
  go_ret2
  exact ⟨rfl, rfl⟩
theorem clone28z (w : World) : Calls Tryz.prog 148 #[.pointer none] w fun e w' => e = .returned (.tuple #[.pointer none, .int .i64 1]) ∧ w' = w := by
  go_enter Tryz.func148, Tryz.ntmps148
  go_wp2_with (go_at_call 80; refine (isNone_nil _).mono ?_; rintro e w' ⟨rfl, rfl⟩)
  go_ret2
  exact ⟨rfl, rfl⟩
set_option maxRecDepth 4000 in
theorem wipe29 (b m : Nat) (f : Nat → Int) (lo : Option Nat) (L : List Rn) (S : Nat → Prop) (w : World) (h : St w b m f) (hSb : S b) (hl : LG S w w lo L) (hroom : Room L) :
    Calls Tryz.prog 145 #[.pointer (some ⟨b, 0, none⟩), lpv lo] w fun e w' => e = .returned (.int .i64 0) ∧ NoSt w' b ∧ LG S w w' lo (putL L ⟨8, 200, 1⟩) ∧ Kp S w w' := by
  have H := hid h
  have h0 := h.c0
  have HS := hid hSb
  have HL := hid hl
  have HM := hid hroom
  have x2 := SVs_run (cs := zc) (h.here.there 0 138 (Nat.le_of_eq (stc_length _ _).symm)) zc_length zc_one
  have hz := zero75
  clear h hSb hl hroom
  go_enter Tryz.func145, Tryz.ntmps145
  go_wp2_with (first | (go_at_call 80; refine (isNone_st _ _ true h0).mono ?_; rintro e w ⟨rfl, rfl⟩))
  obtain ⟨W1, hW1⟩ : ∃ x, w.setCells b 0 zc = x := ⟨_, rfl⟩
  have hB : Blk W1 b zc 127 := by
    rw [← hW1]
    have b2 := H.out.here.put 0 zc
    rw [put_all _ _ ((stc_length _ _).trans zc_length.symm)] at b2
    exact b2
  have hK : Kp S w W1 := by rw [← hW1]; exact (Kp.setCells b _ _).mono (fun k _ e => by have : k = b := e; rw [this]; exact HS.out)
  have hL : LG S w W1 lo L := by rw [← hW1]; exact HL.out.state H.out.here (Kp.setCells b _ _)
  rw [hW1]
  have B1 := hid hB
  have K1 := hid hK
  have L1 := hid hL
  clear hW1 hB hK hL x2 hz h0
  refine (note_lg S w W1 lo _ 8 200 (by decide) (by decide) L1.out K1.out HM.out).mono ?_
  rintro e W6 ⟨rfl, hl6, hk6, ht6⟩
  have B6 := hid (ht6.blk B1.out)
  have K6 := hid hk6
  have L6 := hid hl6
  clear hl6 hk6 ht6
  go_wp2
  go_ret
  exact ⟨rfl, ⟨_, B6.out, by kernel_rfl⟩, L6.out, K6.out⟩
theorem wipe29n (b : Nat) (lp : Value) (w : World) (h : NoSt w b) : Calls Tryz.prog 145 #[.pointer (some ⟨b, 0, none⟩), lp] w fun e w' => e = .returned (.int .i64 1) ∧ w' = w := by
  have h0 := h.c0
  clear h
  go_enter Tryz.func145, Tryz.ntmps145
  go_wp2_with (go_at_call 80; refine (isNone_st _ _ false h0).mono ?_; rintro e w' ⟨rfl, rfl⟩)
  go_ret
  exact ⟨rfl, rfl⟩
theorem wipe29z (lp : Value) (w : World) : Calls Tryz.prog 145 #[.pointer none, lp] w fun e w' => e = .returned (.int .i64 1) ∧ w' = w := by
  go_enter Tryz.func145, Tryz.ntmps145
  go_wp2_with (go_at_call 80; refine (isNone_nil _).mono ?_; rintro e w' ⟨rfl, rfl⟩)
  go_ret
  exact ⟨rfl, rfl⟩

theorem LG.start {S S' : Nat → Prop} {w w1 : World} {lo : Option Nat} {L : List Rn} (h : LG S w w lo L) (hb : Below w.heap.size w w1) (hs : ∀ i, i < w.heap.size → S i → S' i) : LG S' w1 w1 lo L := by
  cases lo with
  | none => exact trivial
  | some lb =>
    obtain ⟨h1, rv, hl, ho⟩ := h
    exact ⟨hs _ hl.lt h1, rv, hl.below hb, fun g hg _ => hs _ (hl.own.lt g hg).2 (ho g hg (hl.own.lt g hg).2)⟩
theorem LG.back {S S' : Nat → Prop} {w w1 w' : World} {lo : Option Nat} {L L0 : List Rn} (h : LG S' w1 w' lo L) (h0 : LG S w w lo L0) (hz : w.heap.size ≤ w1.heap.size) (hs : ∀ i, i < w.heap.size → S' i → S i) : LG S w w' lo L := by
  cases lo with
  | none => exact trivial
  | some lb =>
    obtain ⟨_, rv, hl, ho⟩ := h
    exact ⟨h0.1, rv, hl, fun g hg hlt => hs g hlt (ho g hg (by omega))⟩
/-- The digest of a message of m bytes; how many blocks it takes besides those that are whole. -/
def dig (m : Nat) (f : Nat → Int) : Nat → Int := lf (hw (cat m f (endf m)) ((m + (1 + zs m + 16)) / 128))
def last (m : Nat) : Nat := (m + (1 + zs m + 16)) / 128 - m / 128
end Go.Proofs.YtojldjckpjokcaaGreatDoor.Sg
