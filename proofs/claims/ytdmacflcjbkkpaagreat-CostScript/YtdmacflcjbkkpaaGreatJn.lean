/- Each of the document: the runs of each of a list of skeletons. Codes of the document; two lists of codes of any kind held against each other. Runs of the document: all rows joined. -/
import Derived.Test.YtdmacflcjbkkpaaGreatCdd
import Derived.Test.YtdmacflcjbkkpaaGreatJo
import Derived.Test.YtdmacflcjbkkpaaGreatJq
namespace Go.Proofs.YtdmacflcjbkkpaaGreat.Cd
open Go.Proofs.YtdmacflcjbkkpaaGreat.Co
open Go.ChangeShapes Go.WideShapes Go.ChangeAt Go.RowKit
open Go.Proofs.YtdmacflcjbkkpaaGreat (Rn Own sm putL SameOrNew types_ne row_kept)
open Go.Proofs.YtdmacflcjbkkpaaGreat.Ou (Sk sv sL LDk SVk LDk_run SVk_run)
open Go.Proofs.YtdmacflcjbkkpaaGreat.Tb (Blk Blk.newAt put_all Kp.setCells)
theorem pc_zero : pc (fun _ => false) (fun _ => h0) = List.replicate 64 (.bool false) ++ (List.replicate 64 (dL h0)).flatten := by
  rfl
set_option maxRecDepth 100000 in
set_option maxHeartbeats 4000000 in
theorem dnew_ok (w : World) : Calls Tryz.prog 6 #[] w fun e w' => ∃ r, e = .returned (.pointer (some ⟨r, 0, none⟩)) ∧ DP w' r P00 ∧ w.heap.size ≤ r ∧ Below w.heap.size w w' := by
  go_enter Tryz.func6, Tryz.ntmps6
  go_wp2
  go_ret
  refine ⟨w.heap.size, rfl, ⟨fun _ => false, fun _ => h0, ?_, fun i _ => rfl⟩, Nat.le_refl _, below_alloc _ _⟩
  exact Blk.newAt w _ _ _ w.heap.size rfl (by rw [pc_zero]; rfl)
theorem LDr_wit : True := trivial
theorem infoR : (Tryz.prog.info? 33).map (fun i => (i.zero, i.size, i.bytes)) = some (some (.slice none 0 0), 1, 24) := by kernel_rfl
set_option maxRecDepth 100000 in
set_option maxHeartbeats 4000000 in
theorem deach_ok (v : Value) (n : Nat) (f : Nat → Sk) (w : World) (h : Sx.RB w v n f) (hs : ∀ i, i < n → SkIn (f i)) (hn : n ≤ 1000) :
    Calls Tryz.prog 20 #[v] w fun e w' => ∃ v' T, e = .returned v' ∧ w'.ownsRow w.heap.size 33 1 v' n T ∧ T.length = n ∧ (∀ i, i < n → ∃ x, T[i]? = some x ∧ Own w' w.heap.size x (rr f i)) ∧ Below w.heap.size w w' := by
  obtain ⟨a, c, rfl⟩ := h.isSl
  have H := hid h
  have HS := hid hs
  have n1 : n ≤ 100000000000000 := by omega
  obtain ⟨i0, hi, hz0, hz1, hz2⟩ := info_parts infoR
  clear h hs
  go_enter Tryz.func20, Tryz.ntmps20
  go_wp2_with fail
  refine (dnew_ok _).mono ?_
  rintro e W1 ⟨r, rfl, dp, hr, hb⟩
  have DP1 := hid dp
  have HR := hid hr
  have B1 := hid hb
  clear dp hr hb
  go_wp2
  go_loopw [4, 5] (fun s x wr => ∃ k : Nat, k ≤ n ∧ x = .int .i64 k ∧ DP wr r (aft P00 (lf f k)) ∧ (∃ T : List Value, wr.ownsRow w.heap.size 33 1 s k T ∧ T.length = k ∧ ∀ i, i < k → ∃ x, T[i]? = some x ∧ Own wr w.heap.size x (rr f i)) ∧ Below w.heap.size w wr) (fun _ x _ => n - (RowKit.intOf x).toNat)
  case atStart => exact ⟨0, Nat.zero_le _, rfl, DP1.out, ⟨[], World.ownsRow_nil _ _ _ _, rfl, fun i hi => by omega⟩, B1.out⟩
  case round =>
    obtain ⟨k, hk, rfl, hdp, ⟨T, hrow, hT, hown⟩, hbel⟩ := hrel
    have HD := hid hdp
    have HRW := hid hrow
    have HT := hid hT
    have HO := hid hown
    have HB := hid hbel
    clear hdp hrow hT hown hbel DP1
    by_cases hlt : k < n
    · obtain ⟨b, off, rfl, ld⟩ := (H.out.below HB.out).ldB hlt
      have x0 := ld wr (Below.refl _ _)
      have RC : Hid (∀ V, Below wr.heap.size wr V → Calls Tryz.prog 9 #[.pointer (some ⟨r, 0, none⟩), sv (f k)] V fun e w2 => ∃ v, e = .returned (.tuple #[v, .int .i64 (cod (aft P00 (lf f k)) (clp (f k)))]) ∧ Own w2 V.heap.size v (rr f k) ∧ DP w2 r (aft P00 (lf f (k + 1))) ∧ Kp (fun j => j = r) V w2) := hid fun V hV => by
        rw [aft_next]
        exact ddo_ok r _ (f k) V (HD.out.below hV) (HS.out k hlt) (st_ok f k) (st_mg f k (by omega))
      obtain ⟨s, hs⟩ : ∃ s, f k = s := ⟨_, rfl⟩
      rw [hs] at x0 RC
      obtain ⟨cc, hcc⟩ : ∃ c, cod (aft P00 (lf f k)) (clp s) = c := ⟨_, rfl⟩
      rw [hcc] at RC
      obtain ⟨y1, y2, y3, y4, y5, y6, y7⟩ := s
      clear hs ld hcc
      have kn : (k : Int) < (n : Int) := by omega
      have kz : (0 : Int) ≤ (k : Int) := by omega
      go_wp2_with fail
      refine (RC.out _ (Below.refl _ _)).mono ?_
      rintro e W3 ⟨u, rfl, hov, hd3, hk3⟩
      clear x0
      have row3 := row_kept HRW.out hk3 (fun g e1 e2 => by
        have e2 : g = r := e2
        subst e2
        obtain ⟨_, _, hb3, _⟩ := HD.out
        rcases HRW.out.2 with ⟨hu, _⟩ | ⟨g', cap, cur, hu, _, hg', _⟩
        · rw [hu] at e1; cases e1
        · rw [hu] at e1
          simp only [Value.ownBlock, Option.some.injEq] at e1
          subst e1
          rw [show wr.heap[g']? = _ from hb3] at hg'
          simp only [Option.some.injEq, Obj.cells.injEq] at hg'
          exact absurd hg'.2.1 (by decide))
      have own3 : Hid (∀ i, i < k → ∃ x, T[i]? = some x ∧ Own W3 w.heap.size x (rr f i)) := hid fun i hi => by
        obtain ⟨x, e1, o⟩ := HO.out i hi
        refine ⟨x, e1, o.kept hk3 (fun g e1 e2 => ?_)⟩
        obtain ⟨_, _, hb3, _⟩ := HD.out
        exact own_nt (o.base (Nat.zero_le _)) hb3 (by decide) g e1 e2
      obtain ⟨ua, un, uc, rfl⟩ := hov.isSlice
      have ROW := hid row3
      have OV := hid hov
      have HD3 := hid hd3
      have SB := HB.out.size
      have HB3 := hid (HB.out.trans (hk3.below (B := w.heap.size) HB.out.size (fun j hj e => by have e : j = r := e; have := HR.out; omega)))
      have SB3 := HB3.out.size
      have SW3 := hk3.size
      clear row3 hov hd3 hk3 RC
      go_wp2_with (at_builtin; go_must (refine wpList_append_own _ rfl _ _ 30 rfl w.heap.size 33 i0 (.slice none 0 0) 1 24 Tryz.underlying30 hi hz0 hz1 hz2 rfl (by decide) _ _ _ rfl (ROW.out.alloc _) ⟨_, 0, none⟩ 1 1 [.slice ua un uc] rfl rfl (cell_one_new _ _ _) ?c2 ?c3 ?c4 ?c5 ?_))
      case c2 => intro v hv; simp at hv; subst hv; rfl
      case c3 => simp [maxLen]; omega
      case c4 => omega
      case c5 => simp; omega
      intro s' w5 hrow5 hgr _
      have hkp : Kp (fun q => u4.ownBlock = some q) W3 w5 := (Kp.of_below _ (below_alloc _ _)).trans ((Kp.of_grown hgr).mono fun k _ e => e) (fun _ _ e => e)
      have own5 : Hid (∃ T' : List Value, w5.ownsRow w.heap.size 33 1 s' (k + 1) T' ∧ T'.length = k + 1 ∧ ∀ i, i < k + 1 → ∃ x, T'[i]? = some x ∧ Own w5 w.heap.size x (rr f i)) := hid ⟨T ++ [.slice ua un uc], hrow5, by rw [List.length_append, HT.out]; rfl, fun i hi => by
        by_cases e : i < k
        · obtain ⟨x, e1, o⟩ := own3.out i e
          exact ⟨x, by rw [List.getElem?_append_left (by rw [HT.out]; exact e)]; exact e1, o.kept hkp (fun g e1 e2 => types_ne ROW.out o g e1 e2)⟩
        · have e : i = k := by omega
          subst e
          refine ⟨.slice ua un uc, by rw [List.getElem?_append_right (by rw [HT.out]; exact Nat.le_refl _), HT.out, Nat.sub_self]; rfl, ?_⟩
          exact (OV.out.base SB).kept hkp (fun g e1 e2 => types_ne ROW.out OV.out g e1 e2)⟩
      have HD5 := hid (HD3.out.kept hkp (fun e => by
        have e : u4.ownBlock = some r := e
        obtain ⟨_, _, hb3, _⟩ := HD3.out
        rcases ROW.out.2 with ⟨hu, _⟩ | ⟨g', cap, cur, hu, _, hg', _⟩
        · rw [hu] at e; cases e
        · rw [hu] at e
          simp only [Value.ownBlock, Option.some.injEq] at e
          subst e
          rw [show W3.heap[g']? = _ from hb3] at hg'
          simp only [Option.some.injEq, Obj.cells.injEq] at hg'
          exact absurd hg'.2.1 (by decide)))
      have HB5 := hid (HB3.out.trans (hkp.below (B := w.heap.size) SB3 (fun j hj e => by have := (ROW.out.lt j e).1; omega)))
      clear hrow5 hgr hkp
      go_wp2
      go_roundw
      case rel => exact ⟨k + 1, by omega, by go_num, HD5.out, own5.out, HB5.out⟩
      case measure => simp [RowKit.intOf]; omega
    · have e : k = n := by omega
      subst e
      go_wp2
      go_ret
      exact ⟨_, T, rfl, HRW.out, HT.out, HO.out, HB.out⟩
end Go.Proofs.YtdmacflcjbkkpaaGreat.Cd
namespace Go.Proofs.YtdmacflcjbkkpaaGreat.Cd
open Go.Proofs.YtdmacflcjbkkpaaGreat.Co
open Go.ChangeShapes Go.WideShapes Go.ChangeAt Go.RowKit
open Go.Proofs.YtdmacflcjbkkpaaGreat (Rn Own sm putL SameOrNew types_ne row_kept)
open Go.Proofs.YtdmacflcjbkkpaaGreat.Ou (Sk sv sL LDk SVk LDk_run SVk_run)
open Go.Proofs.YtdmacflcjbkkpaaGreat.Tb (Blk Blk.newAt put_all Kp.setCells)
theorem infoE : (Tryz.prog.info? 34).map (fun i => (i.zero, i.size, i.bytes)) = some (some (.int .i64 0), 1, 8) := by kernel_rfl
theorem rowE_kept {w w' : World} {S : Nat → Prop} {base : Nat} {v : Value} {n : Nat} {xs : List Value} (h : w.ownsRow base 34 1 v n xs) (hk : Kp S w w') (hne : ∀ g, v.ownBlock = some g → ¬ S g) : w'.ownsRow base 34 1 v n xs := by
  refine ⟨h.1, ?_⟩
  rcases h.2 with hn | ⟨g, cap, cur, rfl, hb, hgg, rest⟩
  · exact .inl hn
  · refine .inr ⟨g, cap, cur, rfl, hb, ?_, rest⟩
    rw [hk.block g (Array.getElem?_eq_some_iff.1 hgg).1 (hne g rfl)]
    exact hgg
theorem rowE_ne {w : World} {base r : Nat} {v : Value} {n : Nat} {xs cs : List Value} {t : TypeId} (h : w.ownsRow base 34 1 v n xs) (hb : Blk w r cs t) (ht : t ≠ 34) : v.ownBlock ≠ some r := fun e1 => by
  rcases h.2 with ⟨hu, _⟩ | ⟨g', cap, cur, hu, _, hg', _⟩
  · rw [hu] at e1; cases e1
  · rw [hu] at e1
    simp only [Value.ownBlock, Option.some.injEq] at e1
    subst e1
    rw [show w.heap[g']? = _ from hb] at hg'
    simp only [Option.some.injEq, Obj.cells.injEq] at hg'
    exact ht hg'.2.1
/-- The first k codes. -/
def cl (f : Nat → Sk) (k : Nat) : List Value := (List.range k).map (fun i => .int .i64 (cc f i))
theorem cl_next (f : Nat → Sk) (k : Nat) : cl f k ++ [.int .i64 (cc f k)] = cl f (k + 1) := by simp [cl, List.range_succ]
set_option maxRecDepth 100000 in
set_option maxHeartbeats 4000000 in
theorem dcodes_ok (v : Value) (n : Nat) (f : Nat → Sk) (w : World) (h : Sx.RB w v n f) (hs : ∀ i, i < n → SkIn (f i)) (hn : n ≤ 1000) :
    Calls Tryz.prog 23 #[v] w fun e w' => ∃ v', e = .returned v' ∧ w'.ownsRow w.heap.size 34 1 v' n (cl f n) ∧ Below w.heap.size w w' := by
  obtain ⟨a, c, rfl⟩ := h.isSl
  have H := hid h
  have HS := hid hs
  have n1 : n ≤ 100000000000000 := by omega
  obtain ⟨i0, hi, hz0, hz1, hz2⟩ := info_parts infoE
  clear h hs
  go_enter Tryz.func23, Tryz.ntmps23
  go_wp2_with fail
  refine (dnew_ok _).mono ?_
  rintro e W1 ⟨r, rfl, dp, hr, hb⟩
  have DP1 := hid dp
  have HR := hid hr
  have B1 := hid hb
  clear dp hr hb
  go_wp2
  go_loopw [4, 5] (fun s x wr => ∃ k : Nat, k ≤ n ∧ x = .int .i64 k ∧ DP wr r (aft P00 (lf f k)) ∧ wr.ownsRow w.heap.size 34 1 s k (cl f k) ∧ Below w.heap.size w wr) (fun _ x _ => n - (RowKit.intOf x).toNat)
  case atStart => exact ⟨0, Nat.zero_le _, rfl, DP1.out, World.ownsRow_nil _ _ _ _, B1.out⟩
  case round =>
    obtain ⟨k, hk, rfl, hdp, hrow, hbel⟩ := hrel
    have HD := hid hdp
    have HRW := hid hrow
    have HB := hid hbel
    clear hdp hrow hbel DP1
    by_cases hlt : k < n
    · obtain ⟨b, off, rfl, ld⟩ := (H.out.below HB.out).ldB hlt
      have x0 := ld wr (Below.refl _ _)
      have RC : Hid (∀ V, Below wr.heap.size wr V → Calls Tryz.prog 9 #[.pointer (some ⟨r, 0, none⟩), sv (f k)] V fun e w2 => ∃ v, e = .returned (.tuple #[v, .int .i64 (cod (aft P00 (lf f k)) (clp (f k)))]) ∧ Own w2 V.heap.size v (rr f k) ∧ DP w2 r (aft P00 (lf f (k + 1))) ∧ Kp (fun j => j = r) V w2) := hid fun V hV => by
        rw [aft_next]
        exact ddo_ok r _ (f k) V (HD.out.below hV) (HS.out k hlt) (st_ok f k) (st_mg f k (by omega))
      obtain ⟨s, hs⟩ : ∃ s, f k = s := ⟨_, rfl⟩
      rw [hs] at x0 RC
      obtain ⟨cc', hcc⟩ : ∃ c, cod (aft P00 (lf f k)) (clp s) = c := ⟨_, rfl⟩
      have HC : Hid (cc f k = cc') := hid (by unfold cc; rw [hs]; exact hcc)
      rw [hcc] at RC
      obtain ⟨y1, y2, y3, y4, y5, y6, y7⟩ := s
      clear hs ld hcc
      have kn : (k : Int) < (n : Int) := by omega
      have kz : (0 : Int) ≤ (k : Int) := by omega
      go_wp2_with fail
      refine (RC.out _ (Below.refl _ _)).mono ?_
      rintro e W3 ⟨u, rfl, hov, hd3, hk3⟩
      clear x0
      have row3 := rowE_kept HRW.out hk3 (fun g e1 e2 => by
        have e2 : g = r := e2
        subst e2
        obtain ⟨_, _, hb3, _⟩ := HD.out
        exact rowE_ne HRW.out hb3 (by decide) e1)
      have ROW := hid row3
      have HD3 := hid hd3
      have SB := HB.out.size
      have HB3 := hid (HB.out.trans (hk3.below (B := w.heap.size) HB.out.size (fun j hj e => by have e : j = r := e; have := HR.out; omega)))
      have SB3 := HB3.out.size
      have SW3 := hk3.size
      clear row3 hov hd3 hk3 RC
      go_wp2_with (at_builtin; go_must (refine wpList_append_own _ rfl _ _ 49 rfl w.heap.size 34 i0 (.int .i64 0) 1 8 Tryz.underlying49 hi hz0 hz1 hz2 rfl (by decide) _ _ _ rfl (ROW.out.alloc _) ⟨_, 0, none⟩ 1 1 [.int .i64 cc'] rfl rfl (cell_one_new _ _ _) ?c2 ?c3 ?c4 ?c5 ?_))
      case c2 => intro v hv; simp at hv; subst hv; rfl
      case c3 => simp [maxLen]; omega
      case c4 => omega
      case c5 => simp; omega
      intro s' w5 hrow5 hgr _
      have hkp : Kp (fun q => u4.ownBlock = some q) W3 w5 := (Kp.of_below _ (below_alloc _ _)).trans ((Kp.of_grown hgr).mono fun k _ e => e) (fun _ _ e => e)
      have row5 : Hid (w5.ownsRow w.heap.size 34 1 s' (k + 1) (cl f (k + 1))) := hid (by rw [← cl_next, HC.out]; exact hrow5)
      have HD5 := hid (HD3.out.kept hkp (fun e => by
        have e : u4.ownBlock = some r := e
        obtain ⟨_, _, hb3, _⟩ := HD3.out
        exact rowE_ne ROW.out hb3 (by decide) e))
      have HB5 := hid (HB3.out.trans (hkp.below (B := w.heap.size) SB3 (fun j hj e => by have := (ROW.out.lt j e).1; omega)))
      clear hrow5 hgr hkp
      go_wp2
      go_roundw
      case rel => exact ⟨k + 1, by omega, by go_num, HD5.out, row5.out, HB5.out⟩
      case measure => simp [RowKit.intOf]; omega
    · have e : k = n := by omega
      subst e
      go_wp2
      go_ret
      exact ⟨_, rfl, HRW.out, HB.out⟩
/-- A slice reads as these codes. -/
def RC (w : World) (v : Value) (n : Nat) (F : Nat → Int) : Prop := ∃ a c, v = .slice a n c ∧ (n = 0 ∨ ∃ g, a = some ⟨g, 0, none⟩ ∧ ∀ i, i < n → w.cell? ⟨g, i, none⟩ = some (.int .i64 (F i)))
theorem RC.below {w w' : World} {v : Value} {n : Nat} {F : Nat → Int} (h : RC w v n F) (hb : Below w.heap.size w w') : RC w' v n F := by
  obtain ⟨a, c, rfl, h0 | ⟨g, rfl, hc⟩⟩ := h
  · exact ⟨a, c, rfl, .inl h0⟩
  · refine ⟨_, c, rfl, .inr ⟨g, rfl, fun i hi => ?_⟩⟩
    have := hc i hi
    rw [hb.cell (p := ⟨g, i, none⟩) (block_lt_of_cell this)]; exact this
theorem rc_row {w : World} {base n : Nat} {v : Value} {f : Nat → Sk} (h : w.ownsRow base 34 1 v n (cl f n)) : RC w v n (cc f) := by
  have h2 := h
  rcases h.2 with ⟨rfl, h0⟩ | ⟨g, cap, cur, rfl, _, hg, _⟩
  · exact ⟨none, 0, by rw [h0], .inl h0⟩
  · refine ⟨_, cap, rfl, .inr ⟨g, rfl, fun i hi => ?_⟩⟩
    have := h2.cellAt i (by omega)
    rw [this]
    unfold cl
    rw [List.getElem?_map, List.getElem?_range hi]; rfl
theorem rc_blk {w : World} {g n : Nat} {f : Nat → Sk} (h : Blk w g ((List.range n).map (fun i => .int .i64 (cc f i))) 34) : RC w (.slice (some ⟨g, 0, none⟩) n n) n (cc f) :=
  ⟨_, _, rfl, .inr ⟨g, rfl, fun i hi => h.cell i _ (by rw [List.getElem?_map, List.getElem?_range hi]; rfl)⟩⟩
set_option maxRecDepth 100000 in
set_option maxHeartbeats 1600000 in
theorem samec2 (v v' : Value) (n : Nat) (F : Nat → Int) (w : World) (h : RC w v n F) (h' : RC w v' n F) (hn : n ≤ 1000) :
    Calls Tryz.prog 22 #[v, v'] w fun e w' => e = .returned (.bool true) ∧ Below w.heap.size w w' := by
  obtain ⟨a, c, rfl, _⟩ := id h
  obtain ⟨a', c', rfl, _⟩ := id h'
  have H := hid h
  have H' := hid h'
  clear h h'
  go_enter Tryz.func22, Tryz.ntmps22
  go_wp2
  go_loopw [5] (fun x wr => ∃ k : Nat, k ≤ n ∧ x = .int .i64 k ∧ Below w.heap.size w wr) (fun x _ => n - (RowKit.intOf x).toNat)
  case atStart => exact ⟨0, Nat.zero_le _, rfl, Below.refl _ _⟩
  case round =>
    obtain ⟨k, hk, rfl, hbel⟩ := hrel
    have HB := hid hbel
    clear hbel
    by_cases hlt : k < n
    · obtain ⟨b, d, e1, q1⟩ := H.out.below HB.out
      obtain ⟨b', d', e2, q2⟩ := H'.out.below HB.out
      simp only [Value.slice.injEq, true_and] at e1 e2
      obtain ⟨rfl, rfl⟩ := e1
      obtain ⟨rfl, rfl⟩ := e2
      obtain ⟨g, rfl, x1⟩ := q1.resolve_left (by omega)
      obtain ⟨g', rfl, x2⟩ := q2.resolve_left (by omega)
      have x1 := x1 k hlt
      have x2 := x2 k hlt
      obtain ⟨C, hC⟩ : ∃ C, F k = C := ⟨_, rfl⟩
      rw [hC] at x1 x2
      have kn : (k : Int) < n := by omega
      have kz : (0 : Int) ≤ (k : Int) := by omega
      clear hC
      go_wp2_with fail
      go_quiet (fail)
      go_wp2
      go_roundw
      case rel => exact ⟨k + 1, by omega, by go_num, below_next HB.out (below_drewN _ _)⟩
      case measure => simp [RowKit.intOf]; omega
    · have e : k = n := by omega
      subst e
      go_wp2
      go_ret
      exact ⟨rfl, HB.out⟩
end Go.Proofs.YtdmacflcjbkkpaaGreat.Cd
namespace Go.Proofs.YtdmacflcjbkkpaaGreat.Cd
open Go.Proofs.YtdmacflcjbkkpaaGreat.Co
open Go.ChangeShapes Go.WideShapes Go.ChangeAt Go.RowKit
open Go.Proofs.YtdmacflcjbkkpaaGreat (Rn Own sm putL SameOrNew types_ne row_kept)
open Go.Proofs.YtdmacflcjbkkpaaGreat.Ou (Sk sv sL LDk SVk LDk_run SVk_run)
open Go.Proofs.YtdmacflcjbkkpaaGreat.Tb (Blk Blk.newAt put_all Kp.setCells)
theorem nb_get2 : ∀ (L : List Ru) (i : Nat) (q r : Ru), Nb L → L[i]? = some q → L[i + 1]? = some r → Ul q r
  | [], i, q, r, _, h, _ => by simp at h
  | [_], i, q, r, _, _, h => by simp at h
  | a :: b :: L, 0, q, r, n, h1, h2 => by
    simp at h1 h2
    subst h1 h2
    exact n.1
  | _ :: b :: L, i + 1, q, r, n, h1, h2 => nb_get2 (b :: L) i q r n.2 (by simpa using h1) (by simpa using h2)
/-- The first k rows, one behind another. -/
def AA (f : Nat → Sk) (k : Nat) : List Ru := (List.range k).flatMap (rr f)
theorem AA_next (f : Nat → Sk) (k : Nat) : AA f (k + 1) = AA f k ++ rr f k := by simp [AA, List.range_succ]
theorem AA_len (f : Nat → Sk) (k : Nat) : (AA f k).length ≤ 5 * k := by
  induction k with
  | zero => simp [AA]
  | succ k ih =>
    rw [AA_next, List.length_append]
    have : (rr f k).length ≤ 5 := (row_len _ _).2
    omega
theorem rr_head (f : Nat → Sk) (k : Nat) {r : Ru} (h : (rr f k)[0]? = some r) : r.k = 11 := by
  unfold rr row at h
  simp at h
  rw [← h]
theorem rr_end (f : Nat → Sk) (k : Nat) {q : Ru} (h : (rr f k).getLast? = some q) : q.k = 12 := by
  unfold rr row at h
  rw [List.getLast?_append] at h
  simp at h
  rw [← h]
theorem aa_last (f : Nat → Sk) (k j : Nat) {r : Ru} (hr : (rr f k)[j]? = some r) : ∀ q, (AA f k ++ (rr f k).take j).getLast? = some q → Ul q r := fun q hq => by
  cases j with
  | zero =>
    rw [List.take_zero, List.append_nil] at hq
    cases k with
    | zero => simp [AA] at hq
    | succ k =>
      rw [AA_next, List.getLast?_append] at hq
      have r11 := rr_head f (k + 1) hr
      cases e : (rr f k).getLast? with
      | none =>
        have := (row_len (aft P00 (lf f k)) (f k)).1
        rw [List.getLast?_eq_none_iff] at e
        have e : row (aft P00 (lf f k)) (f k) = [] := e
        rw [e] at this
        exact absurd this (by simp)
      | some z =>
        rw [e] at hq
        simp only [Option.some_or, Option.some.injEq] at hq
        subst hq
        have := rr_end f k e
        exact fun e => by have := e.1; omega
  | succ j =>
    obtain ⟨z, hz⟩ : ∃ z, (rr f k)[j]? = some z := ⟨_, List.getElem?_eq_getElem (by have := (List.getElem?_eq_some_iff.1 hr).1; omega)⟩
    rw [List.take_add_one, hz, ← List.append_assoc, List.getLast?_append] at hq
    simp only [Option.toList_some, List.getLast?_singleton, Option.some_or, Option.some.injEq] at hq
    subst hq
    exact nb_get2 (rr f k) j z r (row_ok _ _).1 hz hr
theorem fold_take (f : Nat → Sk) (k : Nat) : ∀ j, ((rr f k).take j).foldl putL (AA f k) = AA f k ++ (rr f k).take j := by
  intro j
  induction j with
  | zero => simp
  | succ j ih =>
    cases h : (rr f k)[j]? with
    | none => rw [List.take_add_one, h]; simpa using ih
    | some r =>
      rw [List.take_add_one, h, List.foldl_append, ih]
      show putL _ r = _
      rw [putU_new ((row_ok _ _).2 r (List.mem_of_getElem? h)) (aa_last f k j h), List.append_assoc]
      rfl
theorem AA_jn (f : Nat → Sk) (k : Nat) : jn [] (rws P00 (lf f k)) = AA f k := by
  induction k with
  | zero => rfl
  | succ k ih =>
    rw [jn_next, ih, AA_next]
    have := fold_take f k (rr f k).length
    rw [List.take_length] at this
    exact this
set_option maxRecDepth 100000 in
set_option maxHeartbeats 8000000 in
theorem druns_ok (v : Value) (n : Nat) (f : Nat → Sk) (w : World) (h : Sx.RB w v n f) (hs : ∀ i, i < n → SkIn (f i)) (hn : n ≤ 1000) :
    Calls Tryz.prog 24 #[v] w fun e w' => ∃ v', e = .returned v' ∧ Own w' w.heap.size v' (jn [] (rws P00 (lf f n))) ∧ Below w.heap.size w w' := by
  rw [AA_jn]
  have EC := hid (deach_ok v n f w h hs hn)
  have n1 : n ≤ 100000000000000 := by omega
  clear h hs
  go_enter Tryz.func24, Tryz.ntmps24
  go_wp2_with fail
  refine EC.out.mono ?_
  rintro e W1 ⟨v1, T, rfl, hrow, hT, hown, hb⟩
  have B1 := hid hb
  have ROW := hid hrow
  have HT := hid hT
  have OW := hid hown
  obtain ⟨a, c, rfl⟩ : ∃ a c, v1 = .slice a n c := by
    rcases hrow.2 with ⟨rfl, h0⟩ | ⟨g, cap, cur, rfl, _⟩
    · exact ⟨none, 0, by rw [h0]⟩
    · exact ⟨_, cap, rfl⟩
  clear hb hrow hT hown EC
  go_wp2
  go_loopw [4, 5] (fun s x wr => ∃ k : Nat, k ≤ n ∧ x = .int .i64 k ∧ Own wr W1.heap.size s (AA f k) ∧ Below W1.heap.size W1 wr) (fun _ x _ => n - (RowKit.intOf x).toNat)
  case atStart => exact ⟨0, Nat.zero_le _, rfl, Own.nil _ _, Below.refl _ _⟩
  case round =>
    obtain ⟨k, hk, rfl, hown, hbel⟩ := hrel
    have HO := hid hown
    have HB := hid hbel
    clear hown hbel
    by_cases hlt : k < n
    · obtain ⟨x, hx, ox⟩ := OW.out k hlt
      have OX := hid ox
      obtain ⟨m, hm⟩ : ∃ m, (rr f k).length = m := ⟨_, rfl⟩
      obtain ⟨xa, xc, rfl⟩ : ∃ a c, x = .slice a m c := by
        obtain ⟨a, cap, h, _⟩ := ox.reads.shape
        exact ⟨a, cap, by rw [← hm]; exact h⟩
      obtain ⟨g, rfl, cg⟩ : ∃ g, a = some ⟨g, 0, none⟩ ∧ W1.cell? ⟨g, k, none⟩ = some (.slice xa m xc) := by
        have h2 := ROW.out
        rcases ROW.out.2 with ⟨_, h0⟩ | ⟨g, cap, cur, hv, _, hg, _⟩
        · omega
        · simp only [Value.slice.injEq, true_and] at hv
          obtain ⟨rfl, rfl⟩ := hv
          exact ⟨g, rfl, by rw [h2.cellAt k (by omega)]; exact hx⟩
      have CG := hid cg
      have HM := hid hm
      have kn : (k : Int) < (n : Int) := by omega
      have kz : (0 : Int) ≤ (k : Int) := by omega
      have ml : m ≤ 5 := by rw [← hm]; exact (row_len _ _).2
      clear ox cg hx hm
      go_wp2
      go_loopw [4, 6] (fun s y wq => ∃ j : Nat, j ≤ m ∧ y = .int .i64 j ∧ Own wq W1.heap.size s (AA f k ++ (rr f k).take j) ∧ Below W1.heap.size W1 wq) (fun _ y _ => m - (RowKit.intOf y).toNat)
      case atStart => exact ⟨0, Nat.zero_le _, rfl, by rw [List.take_zero, List.append_nil]; exact HO.out, HB.out⟩
      case round =>
        obtain ⟨j, hj, rfl, hown, hbel⟩ := hrel
        have HO2 := hid hown
        have HB2 := hid hbel
        have cx := CG.out
        have c0 : wr.cell? ⟨g, k, none⟩ = some (.slice xa m xc) := by rw [hbel.cell (p := ⟨g, k, none⟩) (block_lt_of_cell cx)]; exact cx
        clear hown hbel cx
        by_cases hjm : j < m
        · obtain ⟨r, hr⟩ := get_of_lt (L := rr f k) (k := j) (by rw [HM.out]; exact hjm)
          obtain ⟨b, off, rfl, d1, d2, d3⟩ := OX.out.reads.at hr
          have DD : Hid (∀ V, Below W1.heap.size W1 V → V.cell? ⟨g, k, none⟩ = some (.slice (some ⟨b, off, none⟩) m xc) ∧ V.cell? ⟨b, off + j * 3, none⟩ = some (.int .u8 r.k) ∧ V.cell? ⟨b, off + j * 3 + 1, none⟩ = some (.int .i64 r.s) ∧ V.cell? ⟨b, off + j * 3 + 2, none⟩ = some (.int .i64 r.c)) := hid fun V hV => ⟨by rw [hV.cell (p := ⟨g, k, none⟩) (block_lt_of_cell CG.out)]; exact CG.out, by rw [hV.cell (p := ⟨b, off + j * 3, none⟩) (block_lt_of_cell d1)]; exact d1, by rw [hV.cell (p := ⟨b, off + j * 3 + 1, none⟩) (block_lt_of_cell d2)]; exact d2, by rw [hV.cell (p := ⟨b, off + j * 3 + 2, none⟩) (block_lt_of_cell d3)]; exact d3⟩
          have ro : r.Ok := OX.out.1 r (List.mem_of_getElem? hr)
          have rp : 1 ≤ r.c := (row_ok _ _).2 r (List.mem_of_getElem? hr)
          have er : Hid ((AA f k ++ (rr f k).take j) ++ flt [r] = AA f k ++ (rr f k).take (j + 1)) := hid (by
            rw [List.take_add_one, hr, show flt [r] = [r] by unfold flt; rw [List.filter_cons_of_pos (by simp; omega)]; rfl, List.append_assoc]; rfl)
          have PU : Hid (∀ V, Below wr.heap.size wr V → Calls Tryz.prog 31 #[u4, .int .u8 r.k, .int .i64 r.s, .int .i64 r.c] V fun e w' => ∃ u', e = .returned u' ∧ Go1 W1.heap.size V w' u4 u' (AA f k ++ (rr f k).take j) (flt [r])) := hid (fun V hV => rput_any W1.heap.size u4 (AA f k ++ (rr f k).take j) r.k r.s r.c V (HO2.out.below hV) ro (aa_last f k j hr) (Nat.le_trans HB2.out.size hV.size) (by
            rw [List.length_append]
            have := AA_len f k
            have : ((rr f k).take j).length ≤ j := by simp; omega
            omega))
          obtain ⟨z1, z2, z3, z4⟩ := DD.out wr HB2.out
          obtain ⟨rk, rs, rc⟩ := r
          have jm : (j : Int) < (m : Int) := by omega
          have jz : (0 : Int) ≤ (j : Int) := by omega
          clear d1 d2 d3 hr ro rp c0
          go_wp2
          go_region_held3 (fun V => V.cell? ⟨g, k, none⟩ = some (.slice (some ⟨b, off, none⟩) m xc) ∧ V.cell? ⟨b, off + j * 3, none⟩ = some (.int .u8 rk) ∧ V.cell? ⟨b, off + j * 3 + 1, none⟩ = some (.int .i64 rs) ∧ V.cell? ⟨b, off + j * 3 + 2, none⟩ = some (.int .i64 rc)) (go_keep) ((go_at_call 31; refine (PU.out wr.drew (below_drewN wr 1)).mono ?_; rintro e w5 ⟨u5, rfl, g5⟩; have hb5 : Below W1.heap.size W1 w5 := HB2.out.trans (((below_drewN wr 1).mono HB2.out.size).trans (g5.kp.below (B := W1.heap.size) HB2.out.size (fun i hi e => by have := (HO2.out.lt i e).1; omega))); have y1 := (DD.out w5 hb5).1; have y2 := (DD.out w5 hb5).2.1; have y3 := (DD.out w5 hb5).2.2.1; have y4 := (DD.out w5 hb5).2.2.2; have G5 := hid g5; have HB5 := hid hb5; clear g5 hb5))
          go_wp2
          go_roundw
          case rel => exact ⟨j + 1, by omega, by go_num, by rw [← er.out]; exact G5.out.own, HB5.out⟩
          case measure => simp [RowKit.intOf]; omega
        · have e : j = m := by omega
          subst e
          have HO3 : Hid (Own wr W1.heap.size u4 (AA f (k + 1))) := hid (by
            have h := HO2.out
            rw [← HM.out, List.take_length] at h
            rw [AA_next]; exact h)
          go_wp2
          go_roundw
          case rel => exact ⟨k + 1, by omega, by go_num, HO3.out, HB2.out⟩
          case measure => simp [RowKit.intOf]; omega
    · have e : k = n := by omega
      subst e
      go_wp2
      go_ret
      exact ⟨_, rfl, HO.out.base B1.out.size, below_next B1.out HB.out⟩
end Go.Proofs.YtdmacflcjbkkpaaGreat.Cd
