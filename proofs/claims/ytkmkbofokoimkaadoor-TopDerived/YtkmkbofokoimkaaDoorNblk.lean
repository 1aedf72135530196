/- PBKDF2: one block: what the program's block answers, records and turns. -/
import Derived.Test.YtkmkbofokoimkaaDoorNtag
import Derived.Test.YtkmkbofokoimkaaDoorIpk0
namespace Go.Proofs.YtkmkbofokoimkaaDoor.Dg
open Go.ChangeShapes Go.WideShapes Go.ChangeAt Go.RowKit
open Go.Proofs.YtkmkbofokoimkaaDoor.By
open Go.Proofs.YtkmkbofokoimkaaDoor.Sh (Blk size_alloc)
/-- The mac in block b and the ledger between two tags. -/
structure BK (w : World) (T : Nat → Prop) (b : Nat) (lo : Option Nat) (L : List Rn) (a : Bool) (K : Nat → Int) (W : World) : Prop where
  kp : Kp (fun j => T j ∨ j = b) w W
  mc : ∃ x : MB, IsMk W b x ∧ x.a = a ∧ x.K = K
  lg : LG T w W lo L
  kt : KT w
  t0 : ¬ T 0
  t1 : ¬ T 1
  hb : 1 < b
  ps : Pos L
section
variable {w W W' : World} {T : Nat → Prop} {b : Nat} {lo : Option Nat} {L : List Rn} {a : Bool} {K : Nat → Int}
theorem BK.below (h : BK w T b lo L a K W) (hb : Below W.heap.size W W') : BK w T b lo L a K W' := by
  obtain ⟨x, hx, e1, e2⟩ := h.mc
  exact ⟨h.kp.trans (Kp.of_below _ hb) (fun _ _ e => e), ⟨x, hx.below hb, e1, e2⟩, h.lg.below hb, h.kt, h.t0, h.t1, h.hb, h.ps⟩
/-- A list of bytes of the call's own is written over. -/
theorem BK.grow (h : BK w T b lo L a K W) {g base n : Nat} {v : Value} {f : Nat → Int} (ho : By.Own W base v n f) (hg : v.ownBlock = some g) (hz : w.heap.size ≤ g) (hk : Kp (fun j => j = g) W W') : BK w T b lo L a K W' := by
  obtain ⟨x, hx, e1, e2⟩ := h.mc
  obtain ⟨cs, hc⟩ := own_b8 ho hg
  obtain ⟨d0, h0⟩ := hx.s0.blk
  obtain ⟨d1, h1⟩ := hx.s1.blk
  obtain ⟨d2, h2⟩ := hx.s2.blk
  have ts : ∀ a, tyS a ≠ 5 := fun a => by cases a <;> decide
  exact ⟨h.kp.trans hk (fun i hi e => by have : i = g := e; omega), ⟨x, hx.kept hk (Blk.ne hx.here hc (by decide)) (Blk.ne h0 hc (ts _)) (Blk.ne h1 hc (ts _)) (Blk.ne h2 hc (ts _)), e1, e2⟩, lg_keep h.lg hk (fun j cs' t' e hb hl => absurd rfl (Blk.ne ((show j = g from e) ▸ hb : Blk W g cs' t') hc (fun e => absurd (e ▸ hl) (by decide)))), h.kt, h.t0, h.t1, h.hb, h.ps⟩
theorem BK.tag (h : BK w T b lo L a K W) (P N : Nat) (pv : Nat → Value) (pn : Nat → Nat) (pf : Nat → Nat → Int) (ml : Nat → Nat) (mf : Nat → Nat → Int) (cs : List Value)
    (hP : Blk W P cs 22) (hcs : ∀ k, k < N → cs[k]? = some (pv k))
    (hr : ∀ k, k < N → (∃ base, By.Own W base (pv k) (pn k) (pf k)) ∨ (∀ w', Kp (fun j => T j ∨ j = b) w w' → By.RB w' (pv k) (pn k) (pf k))) (m0 : ml 0 = 0) (m1 : ∀ k, k < N → ml (k + 1) = ml k + pn k) (f0 : mf 0 = nof) (f1 : ∀ k, k < N → mf (k + 1) = cat (ml k) (mf k) (pf k))
    (hN : N ≤ 2) (hm' : ∀ k, k ≤ N → ml k ≤ 1000004) (hroom : tq L ≤ 2100000000) :
    Calls Tryd.prog 35 #[lpv lo, .pointer (some ⟨b, 0, none⟩), .slice (some ⟨P, 0, none⟩) N N] W fun e w' => ∃ u, e = .returned u ∧ By.Own w' W.heap.size u (sz a) (hm a K (ml N) (mf N)) ∧ BK w T b lo (evs a L (ue a (ml N))) a K w' ∧ (∀ {base n : Nat} {v : Value} {f : Nat → Int}, By.Own W base v n f → By.Own w' base v n f) ∧ W.heap.size ≤ w'.heap.size := by
  obtain ⟨x, hx, e1, e2⟩ := h.mc
  subst e1
  subst e2
  obtain ⟨T1, l1, hT, hTS⟩ := LG.own h.lg
  have hlt := h.kt.lt
  have hz := h.kp.size
  have keep : ∀ {w' : World}, Kp (fun j => T1 j ∨ j = b) W w' → Kp (fun j => T j ∨ j = b) w w' := fun hk => h.kp.trans hk (fun i hi e => e.elim (fun e => .inl (hTS i hi e)) .inr)
  have no8 : ∀ {base n : Nat} {v : Value} {f : Nat → Int}, By.Own W base v n f → ∀ g, v.ownBlock = some g → ¬ (T1 g ∨ g = b) := fun ho g hg e => by
    obtain ⟨cs, hc⟩ := own_b8 ho hg
    exact e.elim (hT.no hc (by decide)) (fun e => Blk.ne hc hx.here (by decide) e)
  have hktW : KT W := h.kt.kept h.kp (fun e => e.elim h.t0 (fun e => by have := h.hb; omega)) (fun e => e.elim h.t1 (fun e => by have := h.hb; omega))
  refine (tag_on b P N x pv pn pf ml mf cs lo L T1 W hx l1 hktW (fun e => h.t0 (hTS 0 (by omega) e)) (fun e => h.t1 (hTS 1 (by omega) e)) h.hb h.ps hP hcs (hT.no hP (by decide)) (fun k hk w' hk' => ?_) m0 m1 f0 f1 hN hm' hroom).mono ?_
  · rcases hr k hk with ⟨base, ho⟩ | hr
    · exact (Sg.own_kept ho hk' (no8 ho)).reads
    · exact hr w' (keep hk')
  · rintro e w' ⟨u, c, rfl, g1, g2, g3, g4⟩
    exact ⟨u, rfl, g1, ⟨keep g4, ⟨_, g2, rfl, rfl⟩, lg_back g3 h.lg hz hTS, h.kt, h.t0, h.t1, h.hb, evsP _ h.ps _⟩, fun ho => Sg.own_kept ho g4 (no8 ho), g4.size⟩
end
def vx (l : List Value) (k : Nat) : Value := l.getD k .nilFunc
theorem vx_at (l : List Value) (k : Nat) (h : k < l.length) : l[k]? = some (vx l k) := by
  unfold vx; rw [List.getD_eq_getElem?_getD, List.getElem?_eq_getElem h]; rfl
set_option maxHeartbeats 4000000 in
theorem block_on (b : Nat) (x : MB) (ns c i : Nat) (v : Value) (f : Nat → Int) (lo : Option Nat) (L : List Rn) (T : Nat → Prop) (w : World) (h : IsMk w b x) (hl : LG T w w lo L) (hk : KT w) (t0 : ¬ T 0) (t1 : ¬ T 1) (hb : 1 < b) (hp : Pos L)
    (hr : ∀ w', Kp (fun j => T j ∨ j = b) w w' → By.RB w' v ns f) (hns : ns ≤ 1000000) (hc1 : 1 ≤ c) (hc2 : c ≤ 1048576) (hroom : tq L ≤ 2000000000) :
    Calls Tryd.prog 28 #[lpv lo, .pointer (some ⟨b, 0, none⟩), v, .int .i64 c, .int .u32 i] w fun e w' => ∃ u, e = .returned u ∧ By.Own w' w.heap.size u (sz x.a) (xs x.a x.K ns f i (c - 1)) ∧ BK w T b lo (evs x.a L (be x.a ns c)) x.a x.K w' := by
  have HR := hid hr
  have B0 := hid (show BK w T b lo L x.a x.K w from ⟨Kp.refl _ _, ⟨x, h, rfl, rfl⟩, hl, hk, t0, t1, hb, hp⟩)
  obtain ⟨-, va, vc, rfl, -⟩ := hr w (Kp.refl _ _)
  obtain ⟨a, ha⟩ : ∃ a, x.a = a := ⟨_, rfl⟩
  obtain ⟨K, hK⟩ : ∃ K, x.K = K := ⟨_, rfl⟩
  rw [ha, hK] at B0 ⊢
  have hs1 := sz_pos a
  have hs2 := sz_le a
  obtain ⟨s, hs⟩ : ∃ s, sz a = s := ⟨_, rfl⟩
  have HF := hid (show ∀ n, n ≤ 4300000 → tq (evs a L n) ≤ 2000000010 from fun n hn => by
    have h1 := evs_fine a hp n (by omega) (by omega)
    have h2 : n / 1048576 ≤ 4300000 / 1048576 := Nat.div_le_div_right hn
    omega)
  have HS := hid hs
  rw [hs] at hs1 hs2
  have HRM := hid hroom
  clear h hl hk t0 t1 hp hr ha hK hs hroom
  go_enter Tryd.func28, Tryd.ntmps28
  go_wp2_with fail
  refine (laid4 i _).mono ?_
  rintro e w1 ⟨lv, rfl, h1, b1⟩
  obtain ⟨la, lc, rfl⟩ := own_sl h1
  have b2 := below_alloc w1 (.cells #[.slice va ns vc, .slice la 4 lc] 22)
  have P2 := hid (Sh.Blk.new w1 [.slice va ns vc, .slice la 4 lc] 22)
  have L2 := hid (own_below h1 b2)
  have B2 := hid (B0.out.below (below_next b1 b2))
  have Z2 := hid (below_next b1 b2).size
  clear h1 b1 b2
  go_wp2_with fail
  obtain ⟨w2, hw2⟩ : ∃ y, w1.alloc (.cells #[.slice va ns vc, .slice la 4 lc] 22) = y := ⟨_, rfl⟩
  replace P2 : Hid (Blk w2 w1.heap.size [.slice va ns vc, .slice la 4 lc] 22) := by rw [← hw2]; exact P2
  rw [hw2] at L2 B2 Z2 ⊢
  clear hw2
  refine (B2.out.tag w1.heap.size 2 (vx [.slice va ns vc, .slice la 4 lc]) (fun k => if k = 0 then ns else 4) (fun k => if k = 0 then f else i4 i) (fun k => if k = 0 then 0 else if k = 1 then ns else ns + 4) (fun k => if k = 0 then nof else if k = 1 then f else sm ns f i) [.slice va ns vc, .slice la 4 lc] P2.out (fun k hk => vx_at _ k hk) (fun k hk => ?_) rfl (fun k hk => ?_) rfl (fun k hk => ?_) (by omega) (fun k hk => ?_) (by have := HRM.out; omega)).mono ?_
  · match k, hk with
    | 0, _ => exact .inr HR.out
    | 1, _ => exact .inl ⟨_, L2.out⟩
  · match k, hk with
    | 0, _ => show ns = 0 + ns; omega
    | 1, _ => rfl
  · match k, hk with
    | 0, _ => exact (Sg.cat0 _ _).symm
    | 1, _ => rfl
  · match k, hk with
    | 0, _ => show 0 ≤ 1000004; omega
    | 1, _ => show ns ≤ 1000004; omega
    | 2, _ => show ns + 4 ≤ 1000004; omega
  rintro e w3 ⟨u, rfl, h3, k3, -, z3⟩
  have U3 := hid (show By.Own w3 w.heap.size u s (uu a K ns f i 0) from by rw [← HS.out]; exact Sg.own_mono h3 Z2.out)
  have B3 := hid (show BK w T b lo (evs a L (bq a ns 0)) a K w3 from by rw [show bq a ns 0 = ue a (ns + 4) from by unfold bq; omega]; exact k3)
  have Z3 := hid (Nat.le_trans Z2.out z3)
  obtain ⟨ua, uc, rfl⟩ := own_sl U3.out
  clear h3 k3 z3 P2 L2 B2 Z2 B0
  have hmk := make_nn s (by omega) w3
  go_wp2_with fail
  have b4 := below_alloc w3 (.cells (bl s fun _ => 0).toArray 5)
  have O4 := hid (Sh.own_made w3 s s w3.heap.size (fun _ => 0) (fun _ => by decide) (Nat.le_refl _) (by simp [maxLen]; omega) (Nat.le_refl _))
  have U4 := hid (own_below U3.out b4)
  have B4 := hid (B3.out.below b4)
  have N4 := hid (show ∀ p, (Value.slice ua s uc).ownBlock = some p → p ≠ w3.heap.size from fun p hp e => by have := own_lt U3.out p hp; omega)
  obtain ⟨w4, hw4⟩ : ∃ y, w3.alloc (.cells (bl s fun _ => 0).toArray 5) = y := ⟨_, rfl⟩
  rw [hw4] at O4 U4 B4 ⊢
  clear b4 hw4 hmk U3 B3
  obtain ⟨g, hg⟩ : ∃ g, w3.heap.size = g := ⟨_, rfl⟩
  rw [hg] at O4 N4 Z3 ⊢
  clear hg
  refine (xor1 g s s g w.heap.size _ _ _ _ O4.out U4.out N4.out hs1 hs2).mono ?_
  rintro e w5 ⟨rfl, ho, hgr⟩
  have kg := Kp.of_grown hgr
  have kg' : Kp (fun j => j = g) w4 w5 := kg.mono (fun _ _ e => (Option.some.inj e).symm)
  have O5 := hid (own_congr (Sg.own_mono ho Z3.out) (uu_b a K ns f i 0) (fun j _ => bx_zero _ (uu_b a K ns f i 0 j)))
  have U5 := hid (Sg.own_kept U4.out kg' N4.out)
  have B5 := hid (B4.out.grow O4.out rfl Z3.out kg')
  clear ho hgr kg kg' O4 U4 B4
  go_wp2_with fail
  go_loopw [11, 28] (fun uv j wr => ∃ k : Nat, k ≤ c - 1 ∧ j = .int .i64 k ∧ BK w T b lo (evs a L (bq a ns k)) a K wr ∧ By.Own wr w.heap.size (.slice (some ⟨g, 0, none⟩) s s) s (xs a K ns f i k) ∧ By.Own wr w.heap.size uv s (uu a K ns f i k) ∧ ∀ p, uv.ownBlock = some p → p ≠ g) (fun _ j _ => c - (intOf j).toNat)
  case atStart => exact ⟨0, Nat.zero_le _, rfl, B5.out, O5.out, U5.out, N4.out⟩
  case round =>
    clear B5 O5 U5 N4
    obtain ⟨k, hk, rfl, hbk, ho, hu, hne⟩ := hrel
    obtain ⟨ka, kc, rfl⟩ := own_sl hu
    by_cases hlt : k < c - 1
    · have hlt' : (k : Int) < (c : Int) - 1 := by omega
      have b2 := below_alloc wr (.cells #[.slice ka s kc] 22)
      have P6 := hid (Sh.Blk.new wr [.slice ka s kc] 22)
      have B6 := hid (hbk.below b2)
      have O6 := hid (own_below ho b2)
      have U6 := hid (own_below hu b2)
      have Z6 := hid (Nat.le_trans hbk.kp.size b2.size)
      have G6 := hid (show g < (wr.alloc (.cells #[.slice ka s kc] 22)).heap.size from by have h1 := own_lt ho g rfl; have := b2.size; omega)
      have ZG := hid (own_row ho g rfl)
      have HK := hid hk
      clear b2 hbk ho hu hne hk
      go_wp2_with fail
      obtain ⟨w6, hw6⟩ : ∃ y, wr.alloc (.cells #[.slice ka s kc] 22) = y := ⟨_, rfl⟩
      replace P6 : Hid (Blk w6 wr.heap.size [.slice ka s kc] 22) := by rw [← hw6]; exact P6
      rw [hw6] at B6 O6 U6 Z6 G6 ⊢
      clear hw6
      refine (B6.out.tag wr.heap.size 1 (vx [.slice ka s kc]) (fun _ => s) (fun _ => uu a K ns f i k) (fun k => if k = 0 then 0 else s) (fun j => if j = 0 then nof else uu a K ns f i k) [.slice ka s kc] P6.out (fun k hk => vx_at _ k hk) (fun k hk => ?_) rfl (fun k hk => ?_) rfl (fun k hk => ?_) (by omega) (fun k hk => ?_) (by have := HF.out (bq a ns k) (bq_le a ns k hns (by have := HK.out; omega)); omega)).mono ?_
      · match k, hk with
        | 0, _ => exact .inl ⟨_, U6.out⟩
      · match k, hk with
        | 0, _ => show s = 0 + s; omega
      · match k, hk with
        | 0, _ => exact (Sg.cat0 _ _).symm
      · show (if k = 0 then 0 else s) ≤ 1000004; split <;> omega
      rintro e w7 ⟨u, rfl, h7, k7, own7, z7⟩
      have U7 := hid (show By.Own w7 w6.heap.size u s (uu a K ns f i (k + 1)) from by
        have : By.Own w7 w6.heap.size u (sz a) (hm a K s (uu a K ns f i k)) := h7
        show By.Own w7 w6.heap.size u s (hm a K (sz a) (uu a K ns f i k))
        rw [HS.out] at this ⊢
        exact this)
      have B7 := hid (show BK w T b lo (evs a L (bq a ns (k + 1))) a K w7 from by
        have : BK w T b lo (evs a (evs a L (bq a ns k)) (ue a s)) a K w7 := k7
        rw [evs_add, ← HS.out, bq_succ] at this
        exact this)
      have O7 := hid (own7 O6.out)
      have N7 := hid (show ∀ p, u.ownBlock = some p → p ≠ g from fun p hp e => by have h1 := own_row U7.out p hp; have h2 := G6.out; omega)
      obtain ⟨na, nc, rfl⟩ := own_sl U7.out
      clear h7 k7 own7 z7 P6 B6 O6 U6 G6
      go_wp2_with fail
      refine (xor1 g s s w.heap.size w6.heap.size _ _ _ _ O7.out U7.out N7.out hs1 hs2).mono ?_
      rintro e w8 ⟨rfl, ho, hgr⟩
      have kg := Kp.of_grown hgr
      have kg' : Kp (fun j => j = g) w7 w8 := kg.mono (fun _ _ e => (Option.some.inj e).symm)
      have O8 := hid (show By.Own w8 w.heap.size (.slice (some ⟨g, 0, none⟩) s s) s (xs a K ns f i (k + 1)) from ho)
      have U8 := hid (Sg.own_mono (Sg.own_kept U7.out kg' N7.out) Z6.out)
      have B8 := hid (B7.out.grow O7.out rfl ZG.out kg')
      clear ho hgr kg kg' O7 U7 B7
      go_wp2_with fail
      exact ⟨⟨k + 1, by omega, by go_num, B8.out, O8.out, U8.out, N7.out⟩, by simp [intOf]; omega⟩
    · have hlt' : ¬ (k : Int) < (c : Int) - 1 := by omega
      have ek : k = c - 1 := by omega
      have EK := hid ek
      have O9 := hid ho
      have B9 := hid hbk
      clear ek ho hbk hu hne hk
      go_wp2
      go_ret
      have e := EK.out
      have o := O9.out
      have bb := B9.out
      rw [e] at o bb
      rw [bq_be] at bb
      exact ⟨_, rfl, by rw [HS.out]; exact o, bb⟩
end Go.Proofs.YtkmkbofokoimkaaDoor.Dg
