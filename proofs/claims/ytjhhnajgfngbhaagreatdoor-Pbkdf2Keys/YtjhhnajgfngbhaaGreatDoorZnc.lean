/- PBKDF2: what the program's laid, xorInto and tag answer. PBKDF2: one block: what the program's block answers, records and turns. PBKDF2: the closure that counts the blocks. -/
import Derived.Test.YtjhhnajgfngbhaaGreatDoorZnb
import Derived.Test.YtjhhnajgfngbhaaGreatDoorZna
import Derived.Deep.RegionHeld3
namespace Go.Proofs.YtjhhnajgfngbhaaGreatDoor.Dg
open Go.ChangeShapes Go.WideShapes Go.ChangeAt Go.RowKit
open Go.Proofs.YtjhhnajgfngbhaaGreatDoor.By
open Go.Proofs.YtjhhnajgfngbhaaGreatDoor.Sh (Blk size_alloc)
theorem laid4 (i : Nat) (w : World) : Calls Tryz.prog 51 #[.int .u32 i] w fun e w' => ∃ v, e = .returned v ∧ By.Own w' w.heap.size v 4 (i4 i) ∧ Below w.heap.size w w' := by
  have E : ∀ W : World, By.Own (W.alloc (.cells #[.int .u8 ((i : Int) / 16777216 % 256), .int .u8 ((i : Int) / 65536 % 256), .int .u8 ((i : Int) / 256 % 256), .int .u8 ((i : Int) % 256)] 5)) W.heap.size (.slice (some ⟨W.heap.size, 0, none⟩) 4 4) 4 (i4 i) := fun W => by
    refine By.own_lit W _ 4 _ (i4_b i) (by decide) rfl ?_
    show [Value.int .u8 ((i : Int) / 16777216 % 256), .int .u8 ((i : Int) / 65536 % 256), .int .u8 ((i : Int) / 256 % 256), .int .u8 ((i : Int) % 256)] = bl 4 (i4 i)
    rw [show bl 4 (i4 i) = [Value.int .u8 (i4 i 0), .int .u8 (i4 i 1), .int .u8 (i4 i 2), .int .u8 (i4 i 3)] from rfl]
    have e0 : i4 i 0 = (i : Int) / 16777216 % 256 := by unfold i4; rw [show 256 ^ (3 - 0) = 16777216 from rfl]; omega
    have e1 : i4 i 1 = (i : Int) / 65536 % 256 := by unfold i4; rw [show 256 ^ (3 - 1) = 65536 from rfl]; omega
    have e2 : i4 i 2 = (i : Int) / 256 % 256 := by unfold i4; rw [show 256 ^ (3 - 2) = 256 from rfl]; omega
    have e3 : i4 i 3 = (i : Int) % 256 := by unfold i4; rw [show 256 ^ (3 - 3) = 1 from rfl]; omega
    rw [e0, e1, e2, e3]
  have H := hid E
  clear E
  go_enter Tryz.func51, Tryz.ntmps51
  go_wp2
  go_ret
  exact ⟨_, rfl, H.out w, below_alloc _ _⟩
theorem xor1 (g cap n base bu : Nat) (uv : Value) (f h : Nat → Int) (w : World) (ho : By.Own w base (.slice (some ⟨g, 0, none⟩) n cap) n f) (hu : By.Own w bu uv n h) (hne : ∀ p, uv.ownBlock = some p → p ≠ g) (h0 : 0 < n) (hn : n ≤ 64) :
    Calls Tryz.prog 52 #[.slice (some ⟨g, 0, none⟩) n cap, uv] w fun e w' => e = .returned (.tuple #[]) ∧ By.Own w' base (.slice (some ⟨g, 0, none⟩) n cap) n (fun j => bx (f j) (h j)) ∧ w.grownBy w' (some g) := by
  have HO := hid ho
  have HU := hid hu
  obtain ⟨ug, uc, rfl, -⟩ := own_cells hu h0
  have NE := hid (hne ug rfl)
  clear ho hu hne
  go_enter Tryz.func52, Tryz.ntmps52
  go_wp2
  go_loopw [8] (fun i wr => ∃ k : Nat, k ≤ n ∧ i = .int .i64 k ∧ By.Own wr base (.slice (some ⟨g, 0, none⟩) n cap) n (fun i => if i < k then bx (f i) (h i) else f i) ∧ w.grownBy wr (some g)) (fun i _ => n - (intOf i).toNat)
  case atStart => exact ⟨0, Nat.zero_le _, rfl, HO.out, World.grownBy.refl _ _⟩
  case round =>
    obtain ⟨k, hk, rfl, hown, hgr⟩ := hrel
    have HW := hid hown
    have HG := hid hgr
    by_cases hlt : k < n
    · have hcell : wr.cell? ⟨g, k, none⟩ = some (.int .u8 (f k)) := by
        rw [hown.2.cellAt k (by omega), bl_get _ _ _ hlt, if_neg (by omega)]
      have hfz := hown.2.frozenAt k
      have hux : wr.cell? ⟨ug, k, none⟩ = some (.int .u8 (h k)) := by
        have hk' := Sg.own_kept HU.out (Kp.of_grown hgr) (fun p hp e => NE.out (by cases hp; exact (Option.some.inj e).symm))
        rw [hk'.2.cellAt k (by omega), bl_get _ _ _ hlt]
      clear hown hgr
      obtain ⟨x, ex⟩ : ∃ x, f k = x := ⟨_, rfl⟩
      obtain ⟨y, ey⟩ : ∃ y, h k = y := ⟨_, rfl⟩
      have EX := hid ex
      have EY := hid ey
      rw [ex] at hcell
      rw [ey] at hux
      clear ex ey
      go_wp2
      have S := own_store HW.out k (bx x y) (bx_b _ _)
      refine ⟨⟨k + 1, by omega, by go_num, own_congr S.1 (fun i => ?_) (fun i hi => ?_), grown_trans HG.out S.2⟩, by simp [intOf]; omega⟩
      · show 0 ≤ (if i < k + 1 then bx (f i) (h i) else f i) ∧ (if i < k + 1 then bx (f i) (h i) else f i) < 256
        split
        · exact bx_b _ _
        · exact HO.out.1 i
      · show (if i = k then bx x y else if i < k then bx (f i) (h i) else f i) = if i < k + 1 then bx (f i) (h i) else f i
        by_cases h : i = k
        · subst h; rw [if_pos rfl, if_pos (by omega), EX.out, EY.out]
        · rw [if_neg h]; by_cases h2 : i < k
          · rw [if_pos h2, if_pos (by omega)]
          · rw [if_neg h2, if_neg (by omega)]
    · clear hown hgr
      go_wp2
      go_end0
      exact ⟨rfl, own_congr HW.out (fun i => bx_b _ _) (fun i hi => by rw [if_pos (by omega)]), HG.out⟩
theorem div_step (a : Bool) (m n : Nat) : m / bk a + ((m + n) / bk a - m / bk a) = (m + n) / bk a := by
  have : m / bk a ≤ (m + n) / bk a := Nat.div_le_div_right (by omega)
  omega
set_option maxHeartbeats 2000000 in
theorem tag_on (b P N : Nat) (x : MB) (pv : Nat → Value) (pn : Nat → Nat) (pf : Nat → Nat → Int) (ml : Nat → Nat) (mf : Nat → Nat → Int) (cs : List Value) (lo : Option Nat) (L : List Rn) (T : Nat → Prop) (w : World) (h : IsMk w b x) (hl : LG T w w lo L) (hk : KT w) (t0 : ¬ T 0) (t1 : ¬ T 1) (hb : 1 < b) (hp : Pos L)
    (hP : Blk w P cs 22) (hcs : ∀ k, k < N → cs[k]? = some (pv k)) (nP : ¬ T P)
    (hr : ∀ k, k < N → ∀ w', Kp (fun j => T j ∨ j = b) w w' → By.RB w' (pv k) (pn k) (pf k)) (m0 : ml 0 = 0) (m1 : ∀ k, k < N → ml (k + 1) = ml k + pn k) (f0 : mf 0 = nof) (f1 : ∀ k, k < N → mf (k + 1) = cat (ml k) (mf k) (pf k))
    (hN : N ≤ 2) (hm' : ∀ k, k ≤ N → ml k ≤ 1000004) (hroom : tq L ≤ 2100000000) :
    Calls Tryz.prog 50 #[lpv lo, .pointer (some ⟨b, 0, none⟩), .slice (some ⟨P, 0, none⟩) N N] w fun e w' => ∃ u c, e = .returned u ∧ By.Own w' w.heap.size u (sz x.a) (hm x.a x.K (ml N) (mf N)) ∧ IsMk w' b ⟨x.a, x.K, ml N, mf N, c, x.b1, x.b2⟩ ∧ LG T w w' lo (evs x.a L (ue x.a (ml N))) ∧ Kp (fun j => T j ∨ j = b) w w' := by
  obtain ⟨a, K, m', f', b0, b1, b2⟩ := x
  have HC := hid (pb_reset h hl hk t0 t1 hb hp)
  have nPb : P ≠ b := Blk.ne hP h.here (by decide)
  have HPB := hid (show ∀ w', Kp (fun j => T j ∨ j = b) w w' → Blk w' P cs 22 from fun w' hk => hP.kept hk (fun e => e.elim nP nPb))
  have HCS := hid hcs
  have HR := hid hr
  have M0 := hid m0
  have M1 := hid m1
  have F0 := hid f0
  have F1 := hid f1
  have HM := hid hm'
  have HF := hid (show ∀ n, n ≤ 20000 → tq (evs a L n) ≤ 2100000002 from fun n hn => by
    have h1 := evs_fine a hp n (by omega) (by omega)
    have h2 : n / 1048576 = 0 := by omega
    omega)
  have HD := hid (show ∀ k, k ≤ N → ml k / bk a ≤ 15640 from fun k hk => by have h1 := bk_div a (ml k); have := hm' k hk; omega)
  clear h hl hk t0 t1 hp hP hcs nP hr m0 m1 f0 f1 hm' hroom nPb
  go_enter Tryz.func50, Tryz.ntmps50
  go_wp2_with fail
  refine HC.out.mono ?_
  rintro e w1 ⟨rfl, c, h1⟩
  have P1 := hid h1
  clear h1 HC
  go_wp2_with fail
  go_loopw [15] (fun i wr => ∃ k : Nat, k ≤ N ∧ i = .int .i64 k ∧ PB w T b lo (evs a L (ml k / bk a)) ⟨a, K, ml k, mf k, c, b1, b2⟩ wr) (fun i _ => N - (intOf i).toNat)
  case atStart =>
    refine ⟨0, Nat.zero_le _, rfl, ?_⟩
    rw [M0.out, F0.out, Nat.zero_div, evs_zero]
    exact P1.out
  case round =>
    clear P1
    obtain ⟨k, hk, rfl, hpb⟩ := hrel
    have PK := hid hpb
    by_cases hlt : k < N
    · have hx := (HPB.out _ hpb.kp).cell k _ (HCS.out k hlt)
      obtain ⟨-, va, vc, ev, -⟩ := HR.out k hlt _ hpb.kp
      rw [ev] at hx
      have EV := hid ev
      clear hpb ev
      go_wp2_with fail
      refine (PK.out.write (pn k) ((ml k + pn k) / bk a - ml k / bk a) rfl (.slice va (pn k) vc) (pf k) (fun w' hk' => by rw [← EV.out]; exact HR.out k hlt w' hk') (by have h1 := M1.out k hlt; have h2 := HM.out (k + 1) hlt; show ml k + pn k ≤ _; omega) (by have h1 := M1.out k hlt; have h2 := HM.out (k + 1) hlt; have h3 := HF.out (ml k / bk a) (by have := HD.out k hk; omega); omega)).mono ?_
      rintro e w2 ⟨rfl, h2⟩
      have P2 := hid h2
      clear h2
      go_wp2_with fail
      refine ⟨⟨k + 1, hlt, by go_num, ?_⟩, by simp [intOf]; omega⟩
      rw [M1.out k hlt, F1.out k hlt, ← div_step, ← evs_add]
      exact P2.out
    · have e : k = N := by omega
      clear hpb
      have EK := hid e
      clear e
      go_wp2_with fail
      refine (PK.out.sum (by have := HM.out k hk; show ml k ≤ _; omega) (by have h3 := HF.out (ml k / bk a) (by have := HD.out k hk; omega); omega)).mono ?_
      rintro e w5 ⟨u, rfl, hu, h5⟩
      have P5 := hid h5
      have U5 := hid hu
      clear h5 hu PK
      go_wp2
      go_ret
      have ek := EK.out
      subst ek
      have g1 := P5.out.lg
      have er : sev a (evs a L (ml k / bk a)) (ml k) = evs a L (ue a (ml k)) := by
        unfold sev ue
        rw [evs_add]
      rw [er] at g1
      exact ⟨u, c, rfl, U5.out, P5.out.mc, g1, P5.out.kp⟩
end Go.Proofs.YtjhhnajgfngbhaaGreatDoor.Dg
namespace Go.Proofs.YtjhhnajgfngbhaaGreatDoor.Dg
open Go.ChangeShapes Go.WideShapes Go.ChangeAt Go.RowKit
open Go.Proofs.YtjhhnajgfngbhaaGreatDoor.By
open Go.Proofs.YtjhhnajgfngbhaaGreatDoor.Sh (Blk size_alloc)
/-- The mac in block b and the ledger between two tags. -/
structure BK (w : World) (T : Nat → Prop) (b : Nat) (lo : Option Nat) (L : List Rn) (a : Bool) (K : Nat → Int) (W : World) : Prop where
  kp : Kp (fun j => T j ∨ j = b) w W
  mc : ∃ x : MB, IsMk W b x ∧ x.a = a ∧ x.K = K
  lg : LG T w W lo L
  kt : KT w
  t0 : ¬ T 0
  t1 : ¬ T 1
  hb : 1 < b
  ps : Pos L
section
variable {w W W' : World} {T : Nat → Prop} {b : Nat} {lo : Option Nat} {L : List Rn} {a : Bool} {K : Nat → Int}
theorem BK.below (h : BK w T b lo L a K W) (hb : Below W.heap.size W W') : BK w T b lo L a K W' := by
  obtain ⟨x, hx, e1, e2⟩ := h.mc
  exact ⟨h.kp.trans (Kp.of_below _ hb) (fun _ _ e => e), ⟨x, hx.below hb, e1, e2⟩, h.lg.below hb, h.kt, h.t0, h.t1, h.hb, h.ps⟩
/-- A list of bytes of the call's own is written over. -/
theorem BK.grow (h : BK w T b lo L a K W) {g base n : Nat} {v : Value} {f : Nat → Int} (ho : By.Own W base v n f) (hg : v.ownBlock = some g) (hz : w.heap.size ≤ g) (hk : Kp (fun j => j = g) W W') : BK w T b lo L a K W' := by
  obtain ⟨x, hx, e1, e2⟩ := h.mc
  obtain ⟨cs, hc⟩ := own_b8 ho hg
  obtain ⟨d0, h0⟩ := hx.s0.blk
  obtain ⟨d1, h1⟩ := hx.s1.blk
  obtain ⟨d2, h2⟩ := hx.s2.blk
  have ts : ∀ a, tyS a ≠ 5 := fun a => by cases a <;> decide
  exact ⟨h.kp.trans hk (fun i hi e => by have : i = g := e; omega), ⟨x, hx.kept hk (Blk.ne hx.here hc (by decide)) (Blk.ne h0 hc (ts _)) (Blk.ne h1 hc (ts _)) (Blk.ne h2 hc (ts _)), e1, e2⟩, lg_keep h.lg hk (fun j cs' t' e hb hl => absurd rfl (Blk.ne ((show j = g from e) ▸ hb : Blk W g cs' t') hc (fun e => absurd (e ▸ hl) (by decide)))), h.kt, h.t0, h.t1, h.hb, h.ps⟩
theorem BK.tag (h : BK w T b lo L a K W) (P N : Nat) (pv : Nat → Value) (pn : Nat → Nat) (pf : Nat → Nat → Int) (ml : Nat → Nat) (mf : Nat → Nat → Int) (cs : List Value)
    (hP : Blk W P cs 22) (hcs : ∀ k, k < N → cs[k]? = some (pv k))
    (hr : ∀ k, k < N → (∃ base, By.Own W base (pv k) (pn k) (pf k)) ∨ (∀ w', Kp (fun j => T j ∨ j = b) w w' → By.RB w' (pv k) (pn k) (pf k))) (m0 : ml 0 = 0) (m1 : ∀ k, k < N → ml (k + 1) = ml k + pn k) (f0 : mf 0 = nof) (f1 : ∀ k, k < N → mf (k + 1) = cat (ml k) (mf k) (pf k))
    (hN : N ≤ 2) (hm' : ∀ k, k ≤ N → ml k ≤ 1000004) (hroom : tq L ≤ 2100000000) :
    Calls Tryz.prog 50 #[lpv lo, .pointer (some ⟨b, 0, none⟩), .slice (some ⟨P, 0, none⟩) N N] W fun e w' => ∃ u, e = .returned u ∧ By.Own w' W.heap.size u (sz a) (hm a K (ml N) (mf N)) ∧ BK w T b lo (evs a L (ue a (ml N))) a K w' ∧ (∀ {base n : Nat} {v : Value} {f : Nat → Int}, By.Own W base v n f → By.Own w' base v n f) ∧ W.heap.size ≤ w'.heap.size := by
  obtain ⟨x, hx, e1, e2⟩ := h.mc
  subst e1
  subst e2
  obtain ⟨T1, l1, hT, hTS⟩ := LG.own h.lg
  have hlt := h.kt.lt
  have hz := h.kp.size
  have keep : ∀ {w' : World}, Kp (fun j => T1 j ∨ j = b) W w' → Kp (fun j => T j ∨ j = b) w w' := fun hk => h.kp.trans hk (fun i hi e => e.elim (fun e => .inl (hTS i hi e)) .inr)
  have no8 : ∀ {base n : Nat} {v : Value} {f : Nat → Int}, By.Own W base v n f → ∀ g, v.ownBlock = some g → ¬ (T1 g ∨ g = b) := fun ho g hg e => by
    obtain ⟨cs, hc⟩ := own_b8 ho hg
    exact e.elim (hT.no hc (by decide)) (fun e => Blk.ne hc hx.here (by decide) e)
  have hktW : KT W := h.kt.kept h.kp (fun e => e.elim h.t0 (fun e => by have := h.hb; omega)) (fun e => e.elim h.t1 (fun e => by have := h.hb; omega))
  refine (tag_on b P N x pv pn pf ml mf cs lo L T1 W hx l1 hktW (fun e => h.t0 (hTS 0 (by omega) e)) (fun e => h.t1 (hTS 1 (by omega) e)) h.hb h.ps hP hcs (hT.no hP (by decide)) (fun k hk w' hk' => ?_) m0 m1 f0 f1 hN hm' hroom).mono ?_
  · rcases hr k hk with ⟨base, ho⟩ | hr
    · exact (Sg.own_kept ho hk' (no8 ho)).reads
    · exact hr w' (keep hk')
  · rintro e w' ⟨u, c, rfl, g1, g2, g3, g4⟩
    exact ⟨u, rfl, g1, ⟨keep g4, ⟨_, g2, rfl, rfl⟩, lg_back g3 h.lg hz hTS, h.kt, h.t0, h.t1, h.hb, evsP _ h.ps _⟩, fun ho => Sg.own_kept ho g4 (no8 ho), g4.size⟩
end
def vx (l : List Value) (k : Nat) : Value := l.getD k .nilFunc
theorem vx_at (l : List Value) (k : Nat) (h : k < l.length) : l[k]? = some (vx l k) := by
  unfold vx; rw [List.getD_eq_getElem?_getD, List.getElem?_eq_getElem h]; rfl
set_option maxHeartbeats 4000000 in
theorem block_on (b : Nat) (x : MB) (ns c i : Nat) (v : Value) (f : Nat → Int) (lo : Option Nat) (L : List Rn) (T : Nat → Prop) (w : World) (h : IsMk w b x) (hl : LG T w w lo L) (hk : KT w) (t0 : ¬ T 0) (t1 : ¬ T 1) (hb : 1 < b) (hp : Pos L)
    (hr : ∀ w', Kp (fun j => T j ∨ j = b) w w' → By.RB w' v ns f) (hns : ns ≤ 1000000) (hc1 : 1 ≤ c) (hc2 : c ≤ 1048576) (hroom : tq L ≤ 2000000000) :
    Calls Tryz.prog 40 #[lpv lo, .pointer (some ⟨b, 0, none⟩), v, .int .i64 c, .int .u32 i] w fun e w' => ∃ u, e = .returned u ∧ By.Own w' w.heap.size u (sz x.a) (xs x.a x.K ns f i (c - 1)) ∧ BK w T b lo (evs x.a L (be x.a ns c)) x.a x.K w' := by
  have HR := hid hr
  have B0 := hid (show BK w T b lo L x.a x.K w from ⟨Kp.refl _ _, ⟨x, h, rfl, rfl⟩, hl, hk, t0, t1, hb, hp⟩)
  obtain ⟨-, va, vc, rfl, -⟩ := hr w (Kp.refl _ _)
  obtain ⟨a, ha⟩ : ∃ a, x.a = a := ⟨_, rfl⟩
  obtain ⟨K, hK⟩ : ∃ K, x.K = K := ⟨_, rfl⟩
  rw [ha, hK] at B0 ⊢
  have hs1 := sz_pos a
  have hs2 := sz_le a
  obtain ⟨s, hs⟩ : ∃ s, sz a = s := ⟨_, rfl⟩
  have HF := hid (show ∀ n, n ≤ 4300000 → tq (evs a L n) ≤ 2000000010 from fun n hn => by
    have h1 := evs_fine a hp n (by omega) (by omega)
    have h2 : n / 1048576 ≤ 4300000 / 1048576 := Nat.div_le_div_right hn
    omega)
  have HS := hid hs
  rw [hs] at hs1 hs2
  have HRM := hid hroom
  clear h hl hk t0 t1 hp hr ha hK hs hroom
  go_enter Tryz.func40, Tryz.ntmps40
  go_wp2_with fail
  refine (laid4 i _).mono ?_
  rintro e w1 ⟨lv, rfl, h1, b1⟩
  obtain ⟨la, lc, rfl⟩ := own_sl h1
  have b2 := below_alloc w1 (.cells #[.slice va ns vc, .slice la 4 lc] 22)
  have P2 := hid (Sh.Blk.new w1 [.slice va ns vc, .slice la 4 lc] 22)
  have L2 := hid (own_below h1 b2)
  have B2 := hid (B0.out.below (below_next b1 b2))
  have Z2 := hid (below_next b1 b2).size
  clear h1 b1 b2
  go_wp2_with fail
  obtain ⟨w2, hw2⟩ : ∃ y, w1.alloc (.cells #[.slice va ns vc, .slice la 4 lc] 22) = y := ⟨_, rfl⟩
  replace P2 : Hid (Blk w2 w1.heap.size [.slice va ns vc, .slice la 4 lc] 22) := by rw [← hw2]; exact P2
  rw [hw2] at L2 B2 Z2 ⊢
  clear hw2
  refine (B2.out.tag w1.heap.size 2 (vx [.slice va ns vc, .slice la 4 lc]) (fun k => if k = 0 then ns else 4) (fun k => if k = 0 then f else i4 i) (fun k => if k = 0 then 0 else if k = 1 then ns else ns + 4) (fun k => if k = 0 then nof else if k = 1 then f else sm ns f i) [.slice va ns vc, .slice la 4 lc] P2.out (fun k hk => vx_at _ k hk) (fun k hk => ?_) rfl (fun k hk => ?_) rfl (fun k hk => ?_) (by omega) (fun k hk => ?_) (by have := HRM.out; omega)).mono ?_
  · match k, hk with
    | 0, _ => exact .inr HR.out
    | 1, _ => exact .inl ⟨_, L2.out⟩
  · match k, hk with
    | 0, _ => show ns = 0 + ns; omega
    | 1, _ => rfl
  · match k, hk with
    | 0, _ => exact (Sg.cat0 _ _).symm
    | 1, _ => rfl
  · match k, hk with
    | 0, _ => show 0 ≤ 1000004; omega
    | 1, _ => show ns ≤ 1000004; omega
    | 2, _ => show ns + 4 ≤ 1000004; omega
  rintro e w3 ⟨u, rfl, h3, k3, -, z3⟩
  have U3 := hid (show By.Own w3 w.heap.size u s (uu a K ns f i 0) from by rw [← HS.out]; exact Sg.own_mono h3 Z2.out)
  have B3 := hid (show BK w T b lo (evs a L (bq a ns 0)) a K w3 from by rw [show bq a ns 0 = ue a (ns + 4) from by unfold bq; omega]; exact k3)
  have Z3 := hid (Nat.le_trans Z2.out z3)
  obtain ⟨ua, uc, rfl⟩ := own_sl U3.out
  clear h3 k3 z3 P2 L2 B2 Z2 B0
  have hmk := make_nn s (by omega) w3
  go_wp2_with fail
  have b4 := below_alloc w3 (.cells (bl s fun _ => 0).toArray 5)
  have O4 := hid (Sh.own_made w3 s s w3.heap.size (fun _ => 0) (fun _ => by decide) (Nat.le_refl _) (by simp [maxLen]; omega) (Nat.le_refl _))
  have U4 := hid (own_below U3.out b4)
  have B4 := hid (B3.out.below b4)
  have N4 := hid (show ∀ p, (Value.slice ua s uc).ownBlock = some p → p ≠ w3.heap.size from fun p hp e => by have := own_lt U3.out p hp; omega)
  obtain ⟨w4, hw4⟩ : ∃ y, w3.alloc (.cells (bl s fun _ => 0).toArray 5) = y := ⟨_, rfl⟩
  rw [hw4] at O4 U4 B4 ⊢
  clear b4 hw4 hmk U3 B3
  obtain ⟨g, hg⟩ : ∃ g, w3.heap.size = g := ⟨_, rfl⟩
  rw [hg] at O4 N4 Z3 ⊢
  clear hg
  refine (xor1 g s s g w.heap.size _ _ _ _ O4.out U4.out N4.out hs1 hs2).mono ?_
  rintro e w5 ⟨rfl, ho, hgr⟩
  have kg := Kp.of_grown hgr
  have kg' : Kp (fun j => j = g) w4 w5 := kg.mono (fun _ _ e => (Option.some.inj e).symm)
  have O5 := hid (own_congr (Sg.own_mono ho Z3.out) (uu_b a K ns f i 0) (fun j _ => bx_zero _ (uu_b a K ns f i 0 j)))
  have U5 := hid (Sg.own_kept U4.out kg' N4.out)
  have B5 := hid (B4.out.grow O4.out rfl Z3.out kg')
  clear ho hgr kg kg' O4 U4 B4
  go_wp2_with fail
  go_loopw [11, 28] (fun uv j wr => ∃ k : Nat, k ≤ c - 1 ∧ j = .int .i64 k ∧ BK w T b lo (evs a L (bq a ns k)) a K wr ∧ By.Own wr w.heap.size (.slice (some ⟨g, 0, none⟩) s s) s (xs a K ns f i k) ∧ By.Own wr w.heap.size uv s (uu a K ns f i k) ∧ ∀ p, uv.ownBlock = some p → p ≠ g) (fun _ j _ => c - (intOf j).toNat)
  case atStart => exact ⟨0, Nat.zero_le _, rfl, B5.out, O5.out, U5.out, N4.out⟩
  case round =>
    clear B5 O5 U5 N4
    obtain ⟨k, hk, rfl, hbk, ho, hu, hne⟩ := hrel
    obtain ⟨ka, kc, rfl⟩ := own_sl hu
    by_cases hlt : k < c - 1
    · have hlt' : (k : Int) < (c : Int) - 1 := by omega
      have b2 := below_alloc wr (.cells #[.slice ka s kc] 22)
      have P6 := hid (Sh.Blk.new wr [.slice ka s kc] 22)
      have B6 := hid (hbk.below b2)
      have O6 := hid (own_below ho b2)
      have U6 := hid (own_below hu b2)
      have Z6 := hid (Nat.le_trans hbk.kp.size b2.size)
      have G6 := hid (show g < (wr.alloc (.cells #[.slice ka s kc] 22)).heap.size from by have h1 := own_lt ho g rfl; have := b2.size; omega)
      have ZG := hid (own_row ho g rfl)
      have HK := hid hk
      clear b2 hbk ho hu hne hk
      go_wp2_with fail
      obtain ⟨w6, hw6⟩ : ∃ y, wr.alloc (.cells #[.slice ka s kc] 22) = y := ⟨_, rfl⟩
      replace P6 : Hid (Blk w6 wr.heap.size [.slice ka s kc] 22) := by rw [← hw6]; exact P6
      rw [hw6] at B6 O6 U6 Z6 G6 ⊢
      clear hw6
      refine (B6.out.tag wr.heap.size 1 (vx [.slice ka s kc]) (fun _ => s) (fun _ => uu a K ns f i k) (fun k => if k = 0 then 0 else s) (fun j => if j = 0 then nof else uu a K ns f i k) [.slice ka s kc] P6.out (fun k hk => vx_at _ k hk) (fun k hk => ?_) rfl (fun k hk => ?_) rfl (fun k hk => ?_) (by omega) (fun k hk => ?_) (by have := HF.out (bq a ns k) (bq_le a ns k hns (by have := HK.out; omega)); omega)).mono ?_
      · match k, hk with
        | 0, _ => exact .inl ⟨_, U6.out⟩
      · match k, hk with
        | 0, _ => show s = 0 + s; omega
      · match k, hk with
        | 0, _ => exact (Sg.cat0 _ _).symm
      · show (if k = 0 then 0 else s) ≤ 1000004; split <;> omega
      rintro e w7 ⟨u, rfl, h7, k7, own7, z7⟩
      have U7 := hid (show By.Own w7 w6.heap.size u s (uu a K ns f i (k + 1)) from by
        have : By.Own w7 w6.heap.size u (sz a) (hm a K s (uu a K ns f i k)) := h7
        show By.Own w7 w6.heap.size u s (hm a K (sz a) (uu a K ns f i k))
        rw [HS.out] at this ⊢
        exact this)
      have B7 := hid (show BK w T b lo (evs a L (bq a ns (k + 1))) a K w7 from by
        have : BK w T b lo (evs a (evs a L (bq a ns k)) (ue a s)) a K w7 := k7
        rw [evs_add, ← HS.out, bq_succ] at this
        exact this)
      have O7 := hid (own7 O6.out)
      have N7 := hid (show ∀ p, u.ownBlock = some p → p ≠ g from fun p hp e => by have h1 := own_row U7.out p hp; have h2 := G6.out; omega)
      obtain ⟨na, nc, rfl⟩ := own_sl U7.out
      clear h7 k7 own7 z7 P6 B6 O6 U6 G6
      go_wp2_with fail
      refine (xor1 g s s w.heap.size w6.heap.size _ _ _ _ O7.out U7.out N7.out hs1 hs2).mono ?_
      rintro e w8 ⟨rfl, ho, hgr⟩
      have kg := Kp.of_grown hgr
      have kg' : Kp (fun j => j = g) w7 w8 := kg.mono (fun _ _ e => (Option.some.inj e).symm)
      have O8 := hid (show By.Own w8 w.heap.size (.slice (some ⟨g, 0, none⟩) s s) s (xs a K ns f i (k + 1)) from ho)
      have U8 := hid (Sg.own_mono (Sg.own_kept U7.out kg' N7.out) Z6.out)
      have B8 := hid (B7.out.grow O7.out rfl ZG.out kg')
      clear ho hgr kg kg' O7 U7 B7
      go_wp2_with fail
      exact ⟨⟨k + 1, by omega, by go_num, B8.out, O8.out, U8.out, N7.out⟩, by simp [intOf]; omega⟩
    · have hlt' : ¬ (k : Int) < (c : Int) - 1 := by omega
      have ek : k = c - 1 := by omega
      have EK := hid ek
      have O9 := hid ho
      have B9 := hid hbk
      clear ek ho hbk hu hne hk
      go_wp2
      go_ret
      have e := EK.out
      have o := O9.out
      have bb := B9.out
      rw [e] at o bb
      rw [bq_be] at bb
      exact ⟨_, rfl, by rw [HS.out]; exact o, bb⟩
end Go.Proofs.YtjhhnajgfngbhaaGreatDoor.Dg
namespace Go.Proofs.YtjhhnajgfngbhaaGreatDoor.Dg
open Go.ChangeShapes Go.WideShapes Go.ChangeAt Go.RowKit
open Go.Proofs.YtjhhnajgfngbhaaGreatDoor.By
open Go.Proofs.YtjhhnajgfngbhaaGreatDoor.Sh (Blk size_alloc)
/-- What holds all the time, of the world where the closure is made. -/
structure NX (w : World) (S : Nat → Prop) (b Bl Bm Bs Bc Bi : Nat) (lo : Option Nat) (L : List Rn) (a : Bool) (ns : Nat) (f : Nat → Int) (v : Value) (c : Nat) : Prop where
  kt : KT w
  s0 : ¬ S 0
  s1 : ¬ S 1
  sb : S b
  si : S Bi
  hb : 1 < b
  bl : Blk w Bl [lpv lo] 26
  bm : Blk w Bm [.pointer (some ⟨b, 0, none⟩)] 54
  bs : Blk w Bs [v] 22
  bc : Blk w Bc [.int .i64 c] 3
  nl : ¬ S Bl
  nm : ¬ S Bm
  nss : ¬ S Bs
  nc : ¬ S Bc
  hr : ∀ w', Kp S w w' → By.RB w' v ns f
  ps : Pos L
  room : tq L ≤ 1900000000
  hns : ns ≤ 1000000
  hc1 : 1 ≤ c
  hc2 : c ≤ 1048576
/-- k blocks are made; the next one has the number i0 + k. -/
structure NU (w : World) (S : Nat → Prop) (b Bi : Nat) (lo : Option Nat) (L : List Rn) (a : Bool) (K : Nat → Int) (ns c i0 : Nat) (k : Nat) (W : World) : Prop where
  kp : Kp S w W
  mc : ∃ x : MB, IsMk W b x ∧ x.a = a ∧ x.K = K
  lg : LG S w W lo (evs a L (k * be a ns c))
  ci : Blk W Bi [.int .u32 (((i0 + k) % 4294967296 : Nat) : Int)] 60
section
variable {w W W' : World} {S : Nat → Prop} {b Bl Bm Bs Bc Bi : Nat} {lo : Option Nat} {L : List Rn} {a : Bool} {K : Nat → Int} {ns c i0 k : Nat} {f : Nat → Int} {v : Value}
theorem NU.below (h : NU w S b Bi lo L a K ns c i0 k W) (hb : Below W.heap.size W W') : NU w S b Bi lo L a K ns c i0 k W' := by
  obtain ⟨x, hx, e1, e2⟩ := h.mc
  exact ⟨h.kp.trans (Kp.of_below _ hb) (fun _ _ e => e), ⟨x, hx.below hb, e1, e2⟩, h.lg.below hb, h.ci.below hb⟩
/-- A list of bytes of the call's own is gone on with. -/
theorem NU.grow (h : NU w S b Bi lo L a K ns c i0 k W) {n : Nat} {u : Value} {fu : Nat → Int} (ho : By.Own W w.heap.size u n fu) (hk : Kp (fun j => u.ownBlock = some j) W W') : NU w S b Bi lo L a K ns c i0 k W' := by
  obtain ⟨x, hx, e1, e2⟩ := h.mc
  obtain ⟨d0, h0⟩ := hx.s0.blk
  obtain ⟨d1, h1⟩ := hx.s1.blk
  obtain ⟨d2, h2⟩ := hx.s2.blk
  have ty : ∀ {i cs t}, Blk W i cs t → t ≠ 5 → ¬ u.ownBlock = some i := fun hb ht e => by
    obtain ⟨c8, h8⟩ := own_b8 ho e
    exact Blk.ne hb h8 ht rfl
  have ts : ∀ a, tyS a ≠ 5 := fun a => by cases a <;> decide
  exact ⟨h.kp.trans hk (fun i hi e => by have := own_row ho i e; omega), ⟨x, hx.kept hk (ty hx.here (by decide)) (ty h0 (ts _)) (ty h1 (ts _)) (ty h2 (ts _)), e1, e2⟩, lg_keep h.lg hk (fun j cs' t' e hb hl => ty hb (fun e => absurd (e ▸ hl) (by decide)) e), h.ci.kept hk (ty h.ci (by decide))⟩
set_option maxHeartbeats 2000000 in
theorem NU.call (C : NX w S b Bl Bm Bs Bc Bi lo L a ns f v c) (h : NU w S b Bi lo L a K ns c i0 k W) (hi : i0 + k < 4294967296) (hk : k ≤ 511) :
    Calls Tryz.prog 39 #[.pointer (some ⟨Bl, 0, none⟩), .pointer (some ⟨Bm, 0, none⟩), .pointer (some ⟨Bs, 0, none⟩), .pointer (some ⟨Bc, 0, none⟩), .pointer (some ⟨Bi, 0, none⟩)] W fun e W' => ∃ u, e = .returned u ∧ By.Own W' W.heap.size u (sz a) (xs a K ns f (i0 + k) (c - 1)) ∧ NU w S b Bi lo L a K ns c i0 (k + 1) W' ∧ (∀ {base n : Nat} {v : Value} {f : Nat → Int}, By.Own W base v n f → By.Own W' base v n f) ∧ W.heap.size ≤ W'.heap.size := by
  obtain ⟨x, hx, e1, e2⟩ := h.mc
  obtain ⟨T1, l1, hT, hTS⟩ := LG.own h.lg
  have hlt := C.kt.lt
  have hz := h.kp.size
  have keep : ∀ {w' : World}, Kp (fun j => T1 j ∨ j = b) W w' → Kp S w w' := fun hk => h.kp.trans hk (fun i hi e => e.elim (hTS i hi) (fun e => by rw [show i = b from e]; exact C.sb))
  have hroom := bes_fine a C.ps ns c k (by have := C.room; omega) C.hns C.hc2 hk
  have hc := h.ci.cell 0 _ rfl
  have hfz := h.ci.frozen 0
  rw [Nat.mod_eq_of_lt hi] at hc
  have HCI := hid h.ci
  have HC := hid (block_on b x ns c (i0 + k) v f lo (evs a L (k * be a ns c)) T1 W hx l1 (C.kt.kept h.kp C.s0 C.s1) (fun e => C.s0 (hTS 0 (by omega) e)) (fun e => C.s1 (hTS 1 (by omega) e)) C.hb (evsP a C.ps _) (fun w' hk' => C.hr w' (keep hk')) C.hns C.hc1 C.hc2 (by have := C.room; omega))
  have E1 := hid e1
  have E2 := hid e2
  have HT := hid hT
  have HTS := hid hTS
  have HX := hid hx.here
  have HLG := hid h.lg
  have HKP := hid h.kp
  have HKE := hid (show ∀ w', Kp (fun j => T1 j ∨ j = b) W w' → Kp S w w' from fun w' hk => keep hk)
  have HZ := hid hz
  have SI := hid C.si
  have m1 := (C.bl.kept h.kp C.nl).cell 0 _ rfl
  have m2 := (C.bm.kept h.kp C.nm).cell 0 _ rfl
  have m3 := (C.bs.kept h.kp C.nss).cell 0 _ rfl
  have m4 := (C.bc.kept h.kp C.nc).cell 0 _ rfl
  obtain ⟨-, va, vc, rfl, -⟩ := C.hr w (Kp.refl _ _)
  obtain ⟨ii, hii⟩ : ∃ ii, i0 + k = ii := ⟨_, rfl⟩
  rw [hii] at hc HC
  have HII := hid hii
  have hi4 : ii < 4294967296 := by omega
  clear C h hx e1 e2 l1 hT hTS keep hroom hz hii
  go_enter Tryz.func39, Tryz.ntmps39
  go_wp2_with fail
  refine HC.out.mono ?_
  rintro e W1 ⟨u, rfl, hu, hb⟩
  have tI : ¬ (T1 Bi ∨ Bi = b) := fun e => e.elim (HT.out.no HCI.out (by decide)) (fun e => Blk.ne HCI.out HX.out (by decide) e)
  have ci1 := HCI.out.kept hb.kp tI
  have hc1 := ci1.cell 0 _ rfl
  have hf1 := ci1.frozen 0
  rw [HII.out, Nat.mod_eq_of_lt hi4] at hc1
  have U1 := hid hu
  have B1 := hid hb
  have C1 := hid ci1
  obtain ⟨ua, uc, rfl⟩ := own_sl hu
  clear hu hb ci1 HC m1 m2 m3 m4 hc hfz
  go_wp2
  go_ret
  have k2 : Kp (fun j => j = Bi) W1 (W1.setCell ⟨Bi, 0, none⟩ (.int .u32 (((ii : Int) + 1) % 4294967296))) := Kp.setCell Bi 0 _
  have n8 : ∀ {W : World} {base n : Nat} {v : Value} {f : Nat → Int} {cs : List Value}, Blk W Bi cs 60 → By.Own W base v n f → ∀ g, v.ownBlock = some g → ¬ g = Bi := fun hB ho g hg e => by
    obtain ⟨c8, h8⟩ := own_b8 ho hg
    exact Blk.ne h8 hB (by decide) e
  obtain ⟨y, hy, y1, y2⟩ := B1.out.mc
  obtain ⟨d0, h0⟩ := hy.s0.blk
  obtain ⟨d1, h1⟩ := hy.s1.blk
  obtain ⟨d2, h2⟩ := hy.s2.blk
  have ts : ∀ a, tyS a ≠ 60 := fun a => by cases a <;> decide
  have lg1 := lg_back B1.out.lg HLG.out HZ.out HTS.out
  refine ⟨_, rfl, ?_, ⟨(HKE.out _ B1.out.kp).trans k2 (fun i hi e => by rw [show i = Bi from e]; exact SI.out), ⟨y, hy.kept k2 (Blk.ne hy.here C1.out (by decide)) (Blk.ne h0 C1.out (ts _)) (Blk.ne h1 C1.out (ts _)) (Blk.ne h2 C1.out (ts _)), y1.trans E1.out, y2.trans E2.out⟩, ?_, ?_⟩, fun ho => ?_, Nat.le_trans B1.out.kp.size k2.size⟩
  · have o := Sg.own_kept U1.out k2 (n8 C1.out U1.out)
    rw [E1.out, E2.out] at o
    rw [HII.out]
    rw [E1.out]
    exact o
  · have g := lg_keep lg1 k2 (fun j cs' t' e hb hl => absurd rfl (Blk.ne ((show j = Bi from e) ▸ hb : Blk W1 Bi cs' t') C1.out (fun e => absurd (e ▸ hl) (by decide))))
    rw [E1.out, evs_add, ← Nat.succ_mul] at g
    exact g
  · have g := C1.out.set 0 (.int .u32 (((ii : Int) + 1) % 4294967296))
    rw [show (((i0 + (k + 1)) % 4294967296 : Nat) : Int) = ((ii : Int) + 1) % 4294967296 from by rw [← Nat.add_assoc, HII.out]; omega]
    exact g
  · have o1 := Sg.own_kept ho B1.out.kp (fun g hg e => by
      obtain ⟨c8, h8⟩ := own_b8 ho hg
      exact e.elim (HT.out.no h8 (by decide)) (fun e => Blk.ne h8 HX.out (by decide) e))
    exact Sg.own_kept o1 k2 (n8 C1.out o1)
theorem from_on (lo : Option Nat) (b ns sc : Nat) (sa : Option Addr) (c i : Int) (w : World) : Calls Tryz.prog 29 #[lpv lo, .pointer (some ⟨b, 0, none⟩), .slice sa ns sc, .int .i64 c, .int .u32 i] w fun e w' => e = .returned (.func (.func 39) #[] #[.pointer (some ⟨w.heap.size, 0, none⟩), .pointer (some ⟨w.heap.size + 1, 0, none⟩), .pointer (some ⟨w.heap.size + 1 + 1, 0, none⟩), .pointer (some ⟨w.heap.size + 1 + 1 + 1, 0, none⟩), .pointer (some ⟨w.heap.size + 1 + 1 + 1 + 1, 0, none⟩)]) ∧ w' = ((((w.alloc (.cells #[lpv lo] 26)).alloc (.cells #[.pointer (some ⟨b, 0, none⟩)] 54)).alloc (.cells #[.slice sa ns sc] 22)).alloc (.cells #[.int .i64 c] 3)).alloc (.cells #[.int .u32 i] 60) := by
  obtain ⟨lp, hlp⟩ : ∃ lp, lpv lo = .pointer lp := by cases lo; exact ⟨_, rfl⟩; exact ⟨_, rfl⟩
  rw [hlp]
  go_enter Tryz.func29, Tryz.ntmps29
  go_wp2
  go_ret
  exact ⟨rfl, rfl⟩
end
end Go.Proofs.YtjhhnajgfngbhaaGreatDoor.Dg
