/- Skeletons held against each other; lists of them copied, lent, held against each other. Lists of skeletons copied, lent, kept; two of them held against each other by the program. -/
import Derived.Test.YtdmacflcjbkkpaaGreatCls
import Derived.ArgAppend
import Derived.WalkSpells
import Derived.Deep.RegionHeld3
import Derived.Deep.RegionLaw
import Derived.Laws.AppendOwnNone
namespace Go.Proofs.YtdmacflcjbkkpaaGreat.Ou
open Go.ChangeShapes Go.WideShapes Go.ChangeAt Go.RowKit
open Go.Proofs.YtdmacflcjbkkpaaGreat.Tb (Blk Blk.newAt put_all Kp.setCells)
theorem two_vars (s t : Sk) (w : World) : ∃ W1, (SVk ⟨w.heap.size + 1, 0, none⟩ (sv t)).run Tryz.prog ((w.alloc (.cells (sL s).toArray 40)).alloc (.cells (sL zS).toArray 40)) = .ok () W1 ∧ (LDk ⟨w.heap.size + 1, 0, none⟩).run Tryz.prog W1 = .ok (sv t) W1 ∧ Below w.heap.size w W1 := by
  have hB : Blk ((w.alloc (.cells (sL s).toArray 40)).alloc (.cells (sL zS).toArray 40)) (w.heap.size + 1) (sL zS) 40 := Blk.newAt (w.alloc _) _ _ _ (w.heap.size + 1) (by simp) rfl
  have hb : Below w.heap.size w ((w.alloc (.cells (sL s).toArray 40)).alloc (.cells (sL zS).toArray 40)) := below_next (below_alloc _ _) (below_alloc _ _)
  obtain ⟨W1, hs, h1, hk⟩ := SVk_run t hB rfl
  exact ⟨W1, hs, LDk_run h1, hb.trans (hk.below hb.size (fun j _ e => by omega))⟩
end Go.Proofs.YtdmacflcjbkkpaaGreat.Ou
namespace Go.Proofs.YtdmacflcjbkkpaaGreat.Sx
open Go.ChangeShapes Go.WideShapes Go.ChangeAt Go.RowKit
open Go.Proofs.YtdmacflcjbkkpaaGreat.By (hid grown_none grown_of_alloc grown_step grown_cell apart_symm lv)
open Go.Proofs.YtdmacflcjbkkpaaGreat.Ou (Sk sL sv LDk SVk sL_one infok zS SVk_run LDk_run two_vars)
open Go.Proofs.YtdmacflcjbkkpaaGreat.Tb (put put_get put_length Blk)
/-- Two skeletons are the same. -/
def eqS (s t : Sk) : Bool := decide (s = t)
theorem eqS_refl (s : Sk) : eqS s s = true := decide_eq_true rfl
theorem eqS_false {s t : Sk} (h : s ≠ t) : eqS s t = false := decide_eq_false h
theorem eqS_true {s t : Sk} (h : s = t) : eqS s t = true := decide_eq_true h
theorem equalK (a b c d e f g a' b' c' d' e' f' g' : Int) (w : World) : (Op.equalIn 10000 40 (.agg #[.int .u8 a, .int .i64 b, .int .u8 c, .int .i64 d, .int .i64 e, .int .i64 f, .int .i64 g]) (.agg #[.int .u8 a', .int .i64 b', .int .u8 c', .int .i64 d', .int .i64 e', .int .i64 f', .int .i64 g'])).run Tryz.prog w = .ok (eqS ⟨a, b, c, d, e, f, g⟩ ⟨a', b', c', d', e', f', g'⟩) w := by
  have u3 := Tryz.underlying3
  have u4 := Tryz.underlying37
  have u5 := Tryz.underlying38
  have hS : Tryz.prog.underlying 40 = some (.struct (Tryz.prog.fieldsOf 40)) := by kernel_rfl
  unfold eqS
  rw [show (10000 : Nat) = 9999 + 1 from rfl, run_equalIn_agg w 9999 40 _ _ hS (by kernel_rfl)]
  simp only [Program.fieldsOf, Tryz.underlying40]
  go_simp
  by_cases h1 : a = a' <;> by_cases h2 : b = b' <;> by_cases h3 : c = c' <;> by_cases h4 : d = d' <;> by_cases h5 : e = e' <;> by_cases h6 : f = f' <;> by_cases h7 : g = g' <;> simp [h1, h2, h3, h4, h5, h6, h7]
@[go_sem high] theorem sameK (s t : Sk) (w : World) : (Op.equalIn 10000 40 (sv s) (sv t)).run Tryz.prog w = .ok (eqS s t) w := equalK _ _ _ _ _ _ _ _ _ _ _ _ _ _ w
/-- Two lists are the same. -/
def eqF (n : Nat) (f g : Nat → Sk) : Bool := (List.range n).all (fun i => eqS (f i) (g i))
theorem eqF_iff {n : Nat} {f g : Nat → Sk} : eqF n f g = true ↔ ∀ i, i < n → f i = g i := by
  unfold eqF eqS
  simp
def eqM (n m : Nat) (f g : Nat → Sk) : Bool := decide (n = m) && eqF n f g
theorem eqM_refl (n : Nat) (f : Nat → Sk) : eqM n n f f = true := by unfold eqM; rw [eqF_iff.2 (fun _ _ => rfl)]; simp
theorem eqM_of {n : Nat} {f g : Nat → Sk} (h : ∀ i, i < n → f i = g i) : eqM n n f g = true := by unfold eqM; rw [eqF_iff.2 h]; simp
theorem eqM_comm (n m : Nat) (f g : Nat → Sk) : eqM n m f g = eqM m n g f := by
  unfold eqM
  by_cases h : n = m
  · subst h
    congr 1
    cases e : eqF n f g with
    | true => exact (eqF_iff.2 (fun i hi => (eqF_iff.1 e i hi).symm)).symm
    | false =>
      cases e' : eqF n g f with
      | false => rfl
      | true => rw [eqF_iff.2 (fun i hi => (eqF_iff.1 e' i hi).symm)] at e; cases e
  · rw [decide_eq_false h, decide_eq_false (fun e => h e.symm)]; rfl
set_option maxRecDepth 4000 in
set_option maxHeartbeats 400000 in
theorem same_ok (v v' : Value) (n m : Nat) (f g : Nat → Sk) (w : World) (h1 : RB w v n f) (h2 : RB w v' m g) (hn : n ≤ 140737488355328) (hm : m ≤ 140737488355328) :
    Calls Tryz.prog 40 #[v, v'] w fun e w' => e = .returned (.bool (eqM n m f g)) ∧ ∃ d, w' = w.drewN d := by
  obtain ⟨a, c, rfl⟩ := h1.isSl
  obtain ⟨a', c', rfl⟩ := h2.isSl
  by_cases e : n = m
  · subst e
    have H1 := hid h1
    have H2 := hid h2
    clear h1 h2
    go_enter Tryz.func40, Tryz.ntmps40
    go_wp2
    go_loopw [5] (fun i wr => ∃ k : Nat, k ≤ n ∧ i = .int .i64 k ∧ (∀ j, j < k → f j = g j) ∧ ∃ d, wr = w.drewN d) (fun i _ => n - (intOf i).toNat)
    case atStart => exact ⟨0, Nat.zero_le _, rfl, fun j hj => absurd hj (by omega), 0, rfl⟩
    case round =>
      obtain ⟨k, hk, rfl, hall, dn, rfl⟩ := hrel
      have HA := hid hall
      clear hall
      by_cases hlt : k < n
      · obtain ⟨b, off, rfl, x1⟩ := H1.out.ldB hlt
        obtain ⟨b', off', rfl, x2⟩ := H2.out.ldB hlt
        have c1 := x1 (w.drewN dn).drew (below_next (below_drewN w dn) (below_drewN _ 1))
        have c2 := x2 (w.drewN dn).drew (below_next (below_drewN w dn) (below_drewN _ 1))
        obtain ⟨s, hs⟩ : ∃ s, f k = s := ⟨_, rfl⟩
        obtain ⟨t, ht⟩ : ∃ t, g k = t := ⟨_, rfl⟩
        rw [hs] at c1
        rw [ht] at c2
        have HS := hid hs
        have HT := hid ht
        clear x1 x2 hs ht
        by_cases hfg : s = t
        · have e1 := eqS_true hfg
          have HE := hid hfg
          clear hfg
          go_wp2
          go_region_held3 (fun V => (LDk ⟨b, off + k * 7, none⟩).run Tryz.prog V = .ok (sv s) V ∧ (LDk ⟨b', off' + k * 7, none⟩).run Tryz.prog V = .ok (sv t) V) (exact ⟨c1, c2⟩) (fail)
          go_wp2
          go_roundw
          case rel => exact ⟨k + 1, by omega, by go_num, fun j hj => by
            by_cases e : j = k
            · rw [e, HS.out, HT.out]; exact HE.out
            · exact HA.out j (by omega), _, rfl⟩
          case measure => simp [intOf]; omega
        · have e1 := eqS_false hfg
          have E : Hid (eqM n n f g = false) := by
            show eqM n n f g = false
            unfold eqM
            cases ee : eqF n f g with
            | true => exact absurd (by rw [← HS.out, ← HT.out]; exact eqF_iff.1 ee k hlt) hfg
            | false => simp
          clear hfg
          go_wp2
          go_region_held3 (fun V => (LDk ⟨b, off + k * 7, none⟩).run Tryz.prog V = .ok (sv s) V ∧ (LDk ⟨b', off' + k * 7, none⟩).run Tryz.prog V = .ok (sv t) V) (exact ⟨c1, c2⟩) (fail)
          go_wp2
          go_ret
          exact ⟨by rw [E.out]; rfl, _, drewN_two _ _ _⟩
      · have E : Hid (eqM n n f g = true) := eqM_of (fun j hj => HA.out j (by omega))
        go_wp2
        go_ret
        exact ⟨by rw [E.out]; rfl, dn, rfl⟩
  · have e1 : ((n : Int) == (m : Int)) = false := by simp; omega
    have E : Hid (eqM n m f g = false) := by show eqM n m f g = false; unfold eqM; rw [decide_eq_false e]; rfl
    clear h1 h2 e
    go_enter Tryz.func40, Tryz.ntmps40
    go_wp2
    go_ret
    exact ⟨by rw [E.out]; rfl, 0, rfl⟩
end Go.Proofs.YtdmacflcjbkkpaaGreat.Sx
namespace Go.Proofs.YtdmacflcjbkkpaaGreat.Sx
open Go.ChangeShapes Go.WideShapes Go.ChangeAt Go.RowKit
open Go.Proofs.YtdmacflcjbkkpaaGreat.By (hid grown_none grown_of_alloc grown_step grown_cell apart_symm lv)
open Go.Proofs.YtdmacflcjbkkpaaGreat.Ou (Sk sL sv LDk SVk sL_one infok zS SVk_run LDk_run two_vars)
open Go.Proofs.YtdmacflcjbkkpaaGreat.Tb (put put_get put_length Blk)
theorem infoS : (Tryz.prog.info? 40).map (fun i => (i.zero, i.size, i.bytes)) = some (some (sv zS), 7, 56) := by kernel_rfl
theorem RB.cells {w : World} {ad : Addr} {cap n : Nat} {f : Nat → Sk} (h : RB w (.slice (some ad) n cap) n f) : ∀ j u, (sl n f)[j]? = some u → w.cell? (ad.add j) = some u := by
  obtain ⟨a', cap', hv, _, _, h0⟩ := h
  simp only [Value.slice.injEq, true_and] at hv
  obtain ⟨rfl, rfl⟩ := hv
  rcases h0 with ⟨h0, _⟩ | ⟨b, off, e, hc⟩
  · subst h0; intro j u hj; simp [sl_zero] at hj
  · cases e
    intro j u hj
    rw [By.add_plain]; exact hc j u hj
theorem sl_single (s : Sk) : sl 1 (fun _ => s) = sL s := by rw [sl_succ, sl_zero, List.nil_append]
theorem sl_snoc {n : Nat} {f : Nat → Sk} {s : Sk} (h : f n = s) : sl n f ++ sL s = sl (n + 1) f := by rw [sl_succ, h]
theorem cells_new (w : World) (s : Sk) (g : Nat) (hg : g = w.heap.size) : ∀ j u, (sL s)[j]? = some u → (w.alloc (.cells (sL s).toArray 40)).cell? ((⟨g, 0, none⟩ : Addr).add j) = some u := by
  subst hg
  have h := World.ownsRow_lit (base := 0) (e := 40) (size := 7) w (sL s).toArray 1 (Nat.zero_le _) (by simp [maxLen]) rfl
  exact h.cells rfl
set_option maxHeartbeats 400000 in
theorem copy_ok (l : Value) (n : Nat) (f : Nat → Sk) (w : World) (hr : RB w l n f) (hn : n * 56 ≤ 140737488355328) :
    Calls Tryz.prog 38 #[l] w fun e w' => ∃ v, e = .returned v ∧ Own w' w.heap.size v n f ∧ Below w.heap.size w w' := by
  obtain ⟨i0, hi, hz0, hz1, hz2⟩ := info_parts infoS
  obtain ⟨a, cap, rfl⟩ := hr.isSl
  cases a with
  | none =>
    obtain ⟨a', cap', e, h1, h2, hc⟩ := hr
    simp only [Value.slice.injEq, true_and] at e
    obtain ⟨rfl, rfl⟩ := e
    have hn0 : n = 0 := by rcases hc with ⟨h, _⟩ | ⟨_, _, h, _⟩; exact h; cases h
    have hc0 : cap = 0 := by rcases hc with ⟨_, h⟩ | ⟨_, _, h, _⟩; exact h rfl; cases h
    subst hn0 hc0
    clear hc
    go_enter Tryz.func38, Tryz.ntmps38
    go_wp2_with (at_builtin; refine wpList_append_own_none rfl _ _ 22 rfl w.heap.size 40 i0 7 Tryz.underlying22 hi _ _ _ rfl (World.ownsRow_nil _ _ _ _) rfl ?_)
    go_ret
    exact ⟨_, rfl, own_nil _ _ _, Below.refl _ _⟩
  | some ad =>
    have HC := hid hr.cells
    clear hr
    go_enter Tryz.func38, Tryz.ntmps38
    go_wp2_with (at_builtin; refine wpList_append_own _ rfl _ _ 22 rfl w.heap.size 40 i0 (sv zS) 7 56 Tryz.underlying22 hi hz0 hz1 hz2 rfl (by decide) _ _ _ rfl (World.ownsRow_nil _ _ _ _) ad n cap (sl n f) rfl (by rw [sl_length]) HC.out (sl_one n f) (by simp [maxLen]; omega) (by omega) (Nat.le_refl _) ?_)
    intro v' w1 hown hgrow _
    have R : Own w1 w.heap.size v' n f ∧ Below w.heap.size w w1 := ⟨hown, By.Below.of_grown hgrow⟩
    have HR : Hid (Own w1 w.heap.size v' n f ∧ Below w.heap.size w w1) := R
    clear R hown hgrow
    go_wp2
    go_ret
    exact ⟨_, rfl, HR.out⟩
/-- Mark i of list k. -/
def mk (k i : Int) : Sk := ⟨0, -1000 * k - i - 7, 0, 0, 0, 0, 0⟩
set_option maxHeartbeats 400000 in
theorem mark_ok (k i : Int) (w : World) (k0 : 0 ≤ k) (k1 : k ≤ 1000) (i0 : 0 ≤ i) (i1 : i ≤ 140737488355328) :
    Calls Tryz.prog 39 #[.int .i64 k, .int .i64 i] w fun e w' => e = .returned (sv (mk k i)) ∧ Below w.heap.size w w' := by
  have hB : Blk (w.alloc (.cells (sL zS).toArray 40)) w.heap.size (sL zS) 40 := Tb.Blk.newAt w _ _ _ _ rfl rfl
  obtain ⟨W1, hs, h1, hk⟩ := SVk_run (mk k i) hB rfl
  have hs' : (SVk ⟨w.heap.size, 0, none⟩ (.agg #[.int .u8 0, .int .i64 (-1000 * k - i - 7), .int .u8 0, .int .i64 0, .int .i64 0, .int .i64 0, .int .i64 0])).run Tryz.prog (w.alloc (.cells #[Value.int IntKind.u8 0, Value.int IntKind.i64 0, Value.int IntKind.u8 0, Value.int IntKind.i64 0, Value.int IntKind.i64 0, Value.int IntKind.i64 0, Value.int IntKind.i64 0] 40)) = .ok () W1 := hs
  have L1 := hid (LDk_run h1)
  have B1 : Hid (Below w.heap.size w W1) := (below_alloc w _).trans (hk.below (by simp) (fun j hj e => by omega))
  clear hs hB h1 hk
  go_enter Tryz.func39, Tryz.ntmps39
  go_wp2_with fail
  exact bodyPost_ret (Tb.results_cell1 rfl rfl L1.out) rfl ⟨rfl, B1.out⟩
/-- One more. -/
theorem wpList_pushK {w : World} {ops : Array Oper} {rest : List Oper} {o : Oper} {a : Act} {Q : Exit → Act → World → Prop} (hgd : o.guard = none) (s x : Operand)
    (ho : o.op = .call { callee := .builtin .append, args := #[s, x], argTypes := #[22, 22] })
    (base n : Nat) (v : Value) (f : Nat → Sk) (y : Sk) (hv : Own w base v n f) (hN : (n + 1) * 56 ≤ 140737488355328) (hy : f n = y) (hb : base ≤ w.heap.size)
    (hs : a.eval s = v) (hx : a.eval x = .slice (some ⟨w.heap.size, 0, none⟩) 1 1)
    (h : ∀ v' w', Own w' base v' (n + 1) f → w.grownBy w' v.ownBlock → wpList Tryz.prog ops Q rest (a.put o.dst v') w') : wpList Tryz.prog ops Q (o :: rest) a (w.alloc (.cells (sL y).toArray 40)) := by
  obtain ⟨i0, hi, hz0, hz1, hz2⟩ := info_parts infoS
  refine wpList_append_own _ hgd s x 22 ho base 40 i0 (sv zS) 7 56 Tryz.underlying22 hi hz0 hz1 hz2 rfl (by decide) _ _ _ hs (own_alloc hv _) ⟨w.heap.size, 0, none⟩ 1 1 (sL y) hx rfl (cells_new w y _ rfl) (sL_one y) (by simp [maxLen]; omega) hN (by simp; omega) ?_
  intro v' w' hown hgr _
  rw [sl_snoc hy] at hown
  exact h v' w' hown (grown_of_alloc hgr)
/-- What a lent list holds: its skeletons, then six marks. -/
def lent (n : Nat) (f : Nat → Sk) (i : Nat) : Sk := if i < n then f i else mk 7 ((i - n : Nat) : Int)
theorem room {n k : Nat} (h : (n + 6) * 56 ≤ 140737488355328) (hk : k ≤ 6) : (n + k) * 56 ≤ 140737488355328 := Nat.le_trans (Nat.mul_le_mul_right 56 (Nat.add_le_add_left hk n)) h
theorem lent_mk (n : Nat) (f : Nat → Sk) (k : Nat) : lent n f (n + k) = mk 7 (k : Int) := by unfold lent; rw [if_neg (by omega), show n + k - n = k by omega]
theorem below_push {w w' w1 : World} {B : Nat} {v : Value} {n : Nat} {f : Nat → Sk} (hb : Below B w w') (hB : B ≤ w'.heap.size) (ho : Own w' B v n f) (hg : w'.grownBy w1 v.ownBlock) : Below B w w1 := hb.grown hg hB (own_row ho)
set_option maxRecDepth 4000 in
set_option maxHeartbeats 400000 in
theorem lent_ok (l : Value) (n : Nat) (f : Nat → Sk) (w : World) (hr : RB w l n f) (hn : (n + 6) * 56 ≤ 140737488355328) :
    Calls Tryz.prog 16 #[l] w fun e w' => ∃ v, e = .returned v ∧ Own w' w.heap.size v (n + 6) (lent n f) ∧ Below w.heap.size w w' := by
  have HR := hid hr
  clear hr
  go_enter Tryz.func16, Tryz.ntmps16
  go_wp2_with fail
  refine (copy_ok l n f w HR.out (by omega)).mono ?_
  rintro e w1 ⟨v0, rfl, hown, hbel⟩
  have HS : Hid (Own w1 w.heap.size v0 (n + 0) (lent n f)) := own_congr hown (fun i hi => by unfold lent; rw [if_pos (show i < n from hi)])
  have HB := hid hbel
  clear hown hbel
  go_wp2
  go_loopw [3, 4] (fun v i wr => ∃ k : Nat, k ≤ 6 ∧ i = .int .i64 k ∧ Own wr w.heap.size v (n + k) (lent n f) ∧ Below w.heap.size w wr) (fun _ i _ => 6 - (intOf i).toNat)
  case atStart => exact ⟨0, Nat.zero_le _, rfl, HS.out, HB.out⟩
  case round =>
    obtain ⟨k, hk, rfl, hown, hbel⟩ := hrel
    clear HS HB
    have HO := hid hown
    have HB := hid hbel
    clear hown hbel
    by_cases hlt : k < 6
    · have mo := mark_ok 7 (k : Int) wr (by omega) (by omega) (by omega) (by omega)
      have hy := lent_mk n f k
      obtain ⟨y, ey⟩ : ∃ y, mk 7 (k : Int) = y := ⟨_, rfl⟩
      rw [ey] at mo hy
      have MK := hid mo
      have HY := hid hy
      clear mo hy ey
      go_wp2_with fail
      refine MK.out.mono ?_
      rintro e w2 ⟨rfl, hb⟩
      replace HO := hid (own_below HO.out hb)
      replace HB := hid (below_next HB.out hb)
      clear hb MK
      have HN := hid (room (n := n) (k := k + 1) hn hlt)
      go_wp2_with (at_builtin; go_must (refine wpList_pushK rfl _ _ rfl w.heap.size (n + k) _ (lent n f) y HO.out HN.out HY.out HB.out.size rfl rfl ?_))
      intro v' w3 hown hgrow
      have R := hid hown
      have RB := hid (below_push HB.out HB.out.size HO.out hgrow)
      clear hown hgrow HO HB
      go_wp2
      go_roundw
      case rel => exact ⟨k + 1, by omega, by go_num, R.out, RB.out⟩
      case measure => simp [intOf]; omega
    · go_wp2
      go_ret
      have e : k = 6 := by omega
      subst e
      exact ⟨_, rfl, HO.out, HB.out⟩
set_option maxHeartbeats 400000 in
theorem kept_ok (full l : Value) (n : Nat) (f : Nat → Sk) (w : World) (hf : RB w full (n + 6) (lent n f)) (hr : RB w l n f) (hn : (n + 6) * 56 ≤ 140737488355328) :
    Calls Tryz.prog 21 #[full, l] w fun e w' => e = .returned (.bool true) ∧ Below w.heap.size w w' := by
  have HR := hid hr
  have HF := hid hf
  clear hr hf
  go_enter Tryz.func21, Tryz.ntmps21
  go_wp2_with fail
  refine (lent_ok l n f w HR.out hn).mono ?_
  rintro e w1 ⟨v0, rfl, hown, hbel⟩
  have S1 := hid (HF.out.below hbel)
  have S2 := hid hown.reads
  have HB := hid hbel
  have EM := hid (eqM_refl (n + 6) (lent n f))
  clear hown hbel
  go_wp2_with fail
  refine (same_ok _ _ (n + 6) (n + 6) _ _ _ S1.out S2.out (by omega) (by omega)).mono ?_
  rintro e w2 ⟨rfl, d, rfl⟩
  rw [EM.out]
  go_wp2
  go_ret
  exact ⟨rfl, By.Below.drewN' HB.out d⟩
end Go.Proofs.YtdmacflcjbkkpaaGreat.Sx
