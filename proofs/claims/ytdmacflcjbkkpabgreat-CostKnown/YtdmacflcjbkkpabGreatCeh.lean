/- Each: the runs of each of a list of skeletons. -/
import Derived.Test.YtdmacflcjbkkpabGreatCcd
namespace Go.Proofs.YtdmacflcjbkkpabGreat.Co
open Go.ChangeShapes Go.WideShapes Go.ChangeAt Go.RowKit
open Go.Proofs.YtdmacflcjbkkpabGreat (putL Pos tot)
open Go.Proofs.YtdmacflcjbkkpabGreat.Ou (Sk sv sL zS LDk SVk LDk_run SVk_run)
open Go.Proofs.YtdmacflcjbkkpabGreat.Tb (Blk Blk.newAt put_all Kp.setCells results_cell1 results_cell2)
/-- The runs of skeleton i. -/
def rr (f : Nat → Sk) (i : Nat) : List Ru := row (aft P00 (lf f i)) (f i)
theorem rws_rr (f : Nat → Sk) : ∀ n, rws P00 (lf f n) = (List.range n).map (rr f)
  | 0 => rfl
  | n + 1 => by rw [lf_succ, rws_snoc, rws_rr f n, List.range_succ, List.map_append]; rfl
theorem own_nb {W : World} {g : Nat} {u : Value} {L : List Ru} {P : St} (ho : Own W 0 u L) (h : MP W g P) : ∀ j, u.ownBlock = some j → j ≠ g := fun j hj e => by
  subst e
  obtain ⟨D, ⟨es, clock, hg, _⟩, _⟩ := h
  rcases ho.2.2 with ⟨hu, _⟩ | ⟨b, cap, cur, hu, _, hb, _⟩
  · rw [hu] at hj; cases hj
  · rw [hu] at hj
    simp only [Value.ownBlock, Option.some.injEq] at hj
    subst hj
    rw [hb] at hg; cases hg
theorem own_nt {W : World} {g : Nat} {u : Value} {L : List Ru} {cs : List Value} {t : TypeId} (ho : Own W 0 u L) (h : Blk W g cs t) (ht : t ≠ 36) : ∀ j, u.ownBlock = some j → j ≠ g := fun j hj e => by
  subst e
  rcases ho.2.2 with ⟨hu, _⟩ | ⟨b, cap, cur, hu, _, hb, _⟩
  · rw [hu] at hj; cases hj
  · rw [hu] at hj
    simp only [Value.ownBlock, Option.some.injEq] at hj
    subst hj
    rw [show W.heap[b]? = _ from h] at hb
    simp only [Option.some.injEq, Obj.cells.injEq] at hb
    exact ht hb.2.1
set_option maxRecDepth 8000 in
set_option maxHeartbeats 3200000 in
theorem each_ok (v : Value) (n : Nat) (f : Nat → Sk) (w : World) (h : Sx.RB w v n f) (hs : ∀ i, i < n → SkIn (f i)) (hn : n ≤ 1000) :
    Calls Tryz.prog 17 #[v] w fun e w' => ∃ g u, e = .returned (.slice (some ⟨g, 0, none⟩) n n) ∧ Blk w' g ((List.range n).map u) 24 ∧ (∀ i, i < n → Own w' 0 (u i) (rr f i)) ∧ w.heap.size ≤ g ∧ Below w.heap.size w w' := by
  obtain ⟨a, c, rfl⟩ := h.isSl
  have H := hid h
  have HS := hid hs
  have n1 : n ≤ 100000000000000 := by omega
  have mk := make_rw n hn
  clear h hs
  obtain ⟨WB, hWB⟩ : ∃ W, (w.alloc (.cells (Array.replicate n (.slice none 0 0)) 24)).drew = W := ⟨_, rfl⟩
  have NB : Hid (Below w.heap.size w WB) := by rw [← hWB]; exact (below_alloc _ _).drew
  have kB : Hid (Blk WB w.heap.size (List.replicate n (.slice none 0 0)) 24) := by rw [← hWB]; exact (Blk.newAt w _ (List.replicate n (.slice none 0 0)) _ w.heap.size rfl (by simp)).drewN 1
  have DW : Hid (Below w.heap.size w w.drew) := hid (below_drewN w 1)
  go_enter Tryz.func17, Tryz.ntmps17
  go_wp2_with fail
  go_region_held3 (fun _ => True) (trivial) (first
    | (go_at_call 4; with_reducible refine (new_ok WB).mono ?_; rintro e W0 ⟨p, gm, gk, rfl, pu, hp, hgm, hgk, hb⟩; have KR := hid (kB.out.below hb); have HPU := hid pu; have BB : Hid (Below w.heap.size w W0) := hid (below_next NB.out hb); obtain ⟨g, hg⟩ : ∃ g, w.heap.size = g := ⟨_, rfl⟩; rw [hg] at KR; have GE : Hid (w.heap.size ≤ g ∧ w.heap.size ≤ p ∧ w.heap.size ≤ gm ∧ w.heap.size ≤ gk ∧ g ≠ p ∧ g ≠ gm ∧ g ≠ gk) := hid (by have h1 := kB.out.lt; have := NB.out.size; refine ⟨by omega, by omega, by omega, by omega, by omega, by omega, by omega⟩); clear pu hb hp hgm hgk)
    | (go_at_call 4; with_reducible refine (new_ok w.drew).mono ?_; rintro e W1 ⟨p, gm, gk, rfl, pu, hp, hgm, hgk, hb⟩; obtain ⟨g, hg⟩ : ∃ g, W1.heap.size = g := ⟨_, rfl⟩; obtain ⟨W0, hW0⟩ : ∃ W, W1.alloc (.cells (Array.replicate n (.slice none 0 0)) 24) = W := ⟨_, rfl⟩; have KR : Hid (Blk W0 g (List.replicate n (.slice none 0 0)) 24) := hid (by rw [← hW0]; exact Blk.newAt W1 _ (List.replicate n (.slice none 0 0)) _ g hg.symm (by simp)); have HPU : Hid (PU W0 p gm gk P00) := hid (by rw [← hW0]; exact pu.below (below_alloc _ _)); have BB : Hid (Below w.heap.size w W0) := hid (by rw [← hW0]; exact below_next (below_next DW.out hb) (below_alloc _ _)); have GE : Hid (w.heap.size ≤ g ∧ w.heap.size ≤ p ∧ w.heap.size ≤ gm ∧ w.heap.size ≤ gk ∧ g ≠ p ∧ g ≠ gm ∧ g ≠ gk) := hid (by have h1 := pu.lt; have h2 := hb.size; have h3 := DW.out.size; refine ⟨by omega, by omega, by omega, by omega, by omega, by omega, by omega⟩); clear pu hb hp hgm hgk))
  all_goals
    clear mk
    try clear hW0
    try clear hWB
    try clear hg
    go_wp2_with fail
    go_loopw [13] (fun x wr => ∃ k : Nat, k ≤ n ∧ x = .int .i64 k ∧ PU wr p gm gk (aft P00 (lf f k)) ∧ (∃ u : Nat → Value, Blk wr g (fc_ (.slice none 0 0) u n k) 24 ∧ ∀ i, i < k → Own wr 0 (u i) (rr f i)) ∧ Below w.heap.size w wr) (fun x _ => n - (RowKit.intOf x).toNat)
    case atStart => exact ⟨0, Nat.zero_le _, rfl, HPU.out, ⟨fun _ => .slice none 0 0, by rw [fc_zero]; exact KR.out, fun i hi => by omega⟩, BB.out⟩
    case round =>
      obtain ⟨k, hk, rfl, hpu, ⟨u, hbk, hou⟩, hbel⟩ := hrel
      have HP1 := hid hpu
      have HB1 := hid hbk
      have HO1 := hid hou
      have HB := hid hbel
      clear hpu hbk hou hbel KR HPU BB
      by_cases hlt : k < n
      · obtain ⟨b, off, rfl, ld⟩ := H.out.ldB hlt
        have x0 := ld wr HB.out
        have hin := HS.out k hlt
        obtain ⟨s, hs⟩ : ∃ s, f k = s := ⟨_, rfl⟩
        have cke : rr f k = row (aft P00 (lf f k)) s := by unfold rr; rw [hs]
        rw [hs] at x0 hin
        have rc := fun V (hb : Below wr.heap.size wr V) => do_ok p gm gk _ s V (HP1.out.below hb) hin (st_ok f k) (st_mg f k (by omega))
        have e1 := aft_next f k
        rw [hs] at e1
        rw [← e1, ← cke] at rc
        clear e1 ld hs cke
        obtain ⟨sk, sh, sa, sc, so, sd, sm⟩ := s
        have RC : Hid (∀ V, Below wr.heap.size wr V → Calls Tryz.prog 5 #[.pointer (some ⟨p, 0, none⟩), .agg #[.int .u8 sk, .int .i64 sh, .int .u8 sa, .int .i64 sc, .int .i64 so, .int .i64 sd, .int .i64 sm]] V fun e w2 => ∃ v, e = .returned (.tuple #[v, .int .i64 _]) ∧ Own w2 V.heap.size v (rr f k) ∧ PU w2 p gm gk (aft P00 (lf f (k + 1))) ∧ Kp (fun j => j = gm) V w2) := hid rc
        obtain ⟨V1, s1, k1, b1⟩ := new_sk wr ⟨sk, sh, sa, sc, so, sd, sm⟩
        have l1 := LDk_run k1
        have NV := hid b1
        have kn : (k : Int) < (n : Int) := by omega
        have kz : (0 : Int) ≤ (k : Int) := by omega
        clear rc k1 b1
        go_wp2_with fail
        clear s1 x0
        refine (RC.out _ NV.out).mono ?_
        rintro e W3 ⟨vk, rfl, hov, hp3, hk3⟩
        have gn := GE.out
        have kg3 := (HB1.out.below NV.out).kept hk3 (fun e => by have e : g = gm := e; omega)
        have cg := kg3.cell k _ (by rw [fc_get _ _ _ _ _ hlt, if_neg (Nat.lt_irrefl k)])
        have fg := kg3.frozen k
        obtain ⟨va, vn, vc, rfl⟩ := hov.isSlice
        obtain ⟨W4, hW4⟩ : ∃ W', W3.setCell ⟨g, k, none⟩ (.slice va vn vc) = W' := ⟨_, rfl⟩
        have q4 : Kp (fun j => j = g) W3 W4 := by rw [← hW4]; exact Kp.setCell _ _ _
        have K4 : Hid (∃ u, Blk W4 g (fc_ (.slice none 0 0) u n (k + 1)) 24 ∧ ∀ i, i < k + 1 → Own W4 0 (u i) (rr f i)) := hid ⟨fun i => if i = k then .slice va vn vc else u i, by
          have e : fc_ (.slice none 0 0) u n k = fc_ (.slice none 0 0) (fun i => if i = k then .slice va vn vc else u i) n k := by
            unfold fc_
            apply List.map_congr_left
            intro i _
            by_cases h : i < k
            · rw [if_pos h, if_pos h]; exact (if_neg (by omega)).symm
            · rw [if_neg h, if_neg h]
          rw [← hW4, ← fc_set, if_pos rfl, ← e]
          exact kg3.set k _, fun i hi => by
          by_cases h : i = k
          · subst h
            show Own W4 0 (if i = i then (.slice va vn vc : Value) else u i) (rr f i)
            rw [if_pos rfl]
            exact (hov.base (Nat.zero_le _)).kept q4 (fun j hj e => own_nt (hov.base (Nat.zero_le _)) kg3 (by decide) j hj e)
          · show Own W4 0 (if i = k then (.slice va vn vc : Value) else u i) (rr f i)
            rw [if_neg h]
            have o1 := HO1.out i (by omega)
            have o2 := o1.below NV.out
            have o3 := o2.kept hk3 (fun j hj e => own_nb o2 (HP1.out.map.below NV.out) j hj e)
            exact o3.kept q4 (fun j hj e => own_nt o3 kg3 (by decide) j hj e)⟩
        have P4 := hid (hp3.kept q4 (fun e => by have e : p = g := e; omega) (fun e => by have e : gm = g := e; omega) (fun e => by have e : gk = g := e; omega))
        have wz := NV.out.size
        have wz2 := HB.out.size
        have B3 := hid (HB.out.trans ((Below.mono NV.out HB.out.size).trans ((hk3.below (B := w.heap.size) (by omega) (fun j hj e => by
          have e : j = gm := e; omega)).trans (q4.below (by have := hk3.size; omega) (fun j hj e => by have e : j = g := e; omega)))))
        clear wz wz2 kg3 q4 gn hov hp3 hk3
        go_wp2
        go_roundw
        case rel => exact ⟨k + 1, by omega, by go_num, P4.out, K4.out, B3.out⟩
        case measure => simp [RowKit.intOf]; omega
      · have e : k = n := by omega
        subst e
        have K9 := HB1.out
        rw [fc_full] at K9
        have K9 := hid K9
        have G1 := hid GE.out.1
        go_wp2
        go_ret
        exact ⟨g, u, rfl, K9.out, fun i hi => HO1.out i hi, G1.out, HB.out⟩
end Go.Proofs.YtdmacflcjbkkpabGreat.Co
