/- Codes: the codes of a list of skeletons. -/
import Derived.Test.YtdmacflcjbkkpaaCru
namespace Go.Proofs.Ytdmacflcjbkkpaa.Co
open Go.ChangeShapes Go.WideShapes Go.ChangeAt Go.RowKit
open Go.Proofs.Ytdmacflcjbkkpaa (putL Pos tot)
open Go.Proofs.Ytdmacflcjbkkpaa.Ou (Sk sv sL zS LDk SVk LDk_run SVk_run)
open Go.Proofs.Ytdmacflcjbkkpaa.Tb (Blk Blk.newAt put_all Kp.setCells results_cell1 results_cell2)
theorem made_one (z : Value) (hz : z.cells = #[z]) (n : Nat) : madeCells z.cells n = Array.replicate n z := by
  apply Array.toList_inj.1
  apply List.ext_getElem?
  intro p
  by_cases hp : p < n
  · simp [madeCells, hp, hz]
    have e : p % 1 = 0 := Nat.mod_one p
    rw [e]; rfl
  · rw [List.getElem?_eq_none (by rw [Array.length_toList, size_madeCells]; omega), List.getElem?_eq_none (by simp; omega)]
theorem infoE : (Try.prog.info? 33).map (fun i => (i.zero, i.size, i.bytes)) = some (some (.int .i64 0), 1, 8) := by kernel_rfl
theorem infoR : (Try.prog.info? 32).map (fun i => (i.zero, i.size, i.bytes)) = some (some (.slice none 0 0), 1, 24) := by kernel_rfl
theorem make_cd (n : Nat) (hn : n ≤ 1000) (w : World) : (Instr.makeSlice 42 (.int .i64 n) (.int .i64 n)).run Try.prog w = .ok (.slice (some ⟨w.heap.size, 0, none⟩) n n) (w.alloc (.cells (Array.replicate n (.int .i64 0)) 33)) := by
  obtain ⟨i0, hi, hz0, hz1, hz2⟩ := info_parts infoE
  have hr := run_make (P := Try.prog) w 42 33 i0 (.int .i64 0) Try.underlying42 hi hz0 .i64 .i64 n n (by omega) (by omega) (by rw [hz2]; omega) (by omega)
  simp only [Int.toNat_natCast, hz1, Nat.mul_one] at hr
  rw [made_one _ rfl] at hr
  exact hr
theorem make_rw (n : Nat) (hn : n ≤ 1000) (w : World) : (Instr.makeSlice 40 (.int .i64 n) (.int .i64 n)).run Try.prog w = .ok (.slice (some ⟨w.heap.size, 0, none⟩) n n) (w.alloc (.cells (Array.replicate n (.slice none 0 0)) 32)) := by
  obtain ⟨i0, hi, hz0, hz1, hz2⟩ := info_parts infoR
  have hr := run_make (P := Try.prog) w 40 32 i0 (.slice none 0 0) Try.underlying40 hi hz0 .i64 .i64 n n (by omega) (by omega) (by rw [hz2]; omega) (by omega)
  simp only [Int.toNat_natCast, hz1, Nat.mul_one] at hr
  rw [made_one _ rfl] at hr
  exact hr
/-- The codes of n skeletons. -/
def cc (f : Nat → Sk) (i : Nat) : Int := cod (aft P00 (lf f i)) (clp (f i))
theorem cds_cc (f : Nat → Sk) : ∀ n, cds P00 (lf f n) = (List.range n).map (cc f)
  | 0 => rfl
  | n + 1 => by rw [lf_succ, cds_snoc, cds_cc f n, List.range_succ, List.map_append]; rfl
/-- The cells of a list that is filled up to k. -/
def fc_ (z : Value) (g : Nat → Value) (n k : Nat) : List Value := (List.range n).map (fun i => if i < k then g i else z)
theorem fc_len (z : Value) (g : Nat → Value) (n k : Nat) : (fc_ z g n k).length = n := by simp [fc_]
theorem fc_zero (z : Value) (g : Nat → Value) (n : Nat) : fc_ z g n 0 = List.replicate n z := by
  apply List.ext_getElem?
  intro i
  simp only [fc_, List.getElem?_map, List.getElem?_replicate]
  by_cases h : i < n
  · simp [h]
  · simp [h]
theorem fc_set (z : Value) (g : Nat → Value) (n k : Nat) : (fc_ z g n k).set k (g k) = fc_ z g n (k + 1) := by
  apply List.ext_getElem?
  intro i
  rw [List.getElem?_set]
  simp only [fc_, List.getElem?_map, List.length_map, List.length_range]
  by_cases h : k = i
  · subst h
    by_cases hk : k < n
    · simp [hk]
    · simp [hk]
  · rw [if_neg h]
    by_cases hi : i < n
    · simp only [List.getElem?_range hi, Option.map_some]
      congr 1
      by_cases h2 : i < k
      · rw [if_pos h2, if_pos (by omega)]
      · rw [if_neg h2, if_neg (by omega)]
    · rw [List.getElem?_eq_none (by simp; omega)]; rfl
theorem fc_full (z : Value) (g : Nat → Value) (n : Nat) : fc_ z g n n = (List.range n).map g := by
  apply List.map_congr_left
  intro i hi
  rw [if_pos (by simpa using hi)]
theorem fc_get (z : Value) (g : Nat → Value) (n k i : Nat) (h : i < n) : (fc_ z g n k)[i]? = some (if i < k then g i else z) := by simp [fc_, h]
set_option maxRecDepth 8000 in
set_option maxHeartbeats 3200000 in
theorem codes_ok (v : Value) (n : Nat) (f : Nat → Sk) (w : World) (h : Sx.RB w v n f) (hs : ∀ i, i < n → SkIn (f i)) (hn : n ≤ 1000) :
    Calls Try.prog 11 #[v] w fun e w' => ∃ g, e = .returned (.slice (some ⟨g, 0, none⟩) n n) ∧ Blk w' g ((List.range n).map (fun i => .int .i64 (cc f i))) 33 ∧ w.heap.size ≤ g ∧ Below w.heap.size w w' := by
  obtain ⟨a, c, rfl⟩ := h.isSl
  have H := hid h
  have HS := hid hs
  have n1 : n ≤ 100000000000000 := by omega
  have mk := make_cd n hn
  clear h hs
  obtain ⟨WB, hWB⟩ : ∃ W, (w.alloc (.cells (Array.replicate n (.int .i64 0)) 33)).drew = W := ⟨_, rfl⟩
  have NB : Hid (Below w.heap.size w WB) := by rw [← hWB]; exact (below_alloc _ _).drew
  have kB : Hid (Blk WB w.heap.size (List.replicate n (.int .i64 0)) 33) := by rw [← hWB]; exact (Blk.newAt w _ (List.replicate n (.int .i64 0)) _ w.heap.size rfl (by simp)).drewN 1
  have DW : Hid (Below w.heap.size w w.drew) := hid (below_drewN w 1)
  go_enter Try.func11, Try.ntmps11
  go_wp2_with fail
  go_region_held3 (fun _ => True) (trivial) (first
    | (go_at_call 28; with_reducible refine (new_ok WB).mono ?_; rintro e W0 ⟨p, gm, gk, rfl, pu, hp, hgm, hgk, hb⟩; have KR := hid (kB.out.below hb); have HPU := hid pu; have BB : Hid (Below w.heap.size w W0) := hid (below_next NB.out hb); obtain ⟨g, hg⟩ : ∃ g, w.heap.size = g := ⟨_, rfl⟩; rw [hg] at KR; have GE : Hid (w.heap.size ≤ g ∧ w.heap.size ≤ p ∧ w.heap.size ≤ gm ∧ w.heap.size ≤ gk ∧ g ≠ p ∧ g ≠ gm ∧ g ≠ gk) := hid (by have h1 := kB.out.lt; have := NB.out.size; refine ⟨by omega, by omega, by omega, by omega, by omega, by omega, by omega⟩); clear pu hb hp hgm hgk)
    | (go_at_call 28; with_reducible refine (new_ok w.drew).mono ?_; rintro e W1 ⟨p, gm, gk, rfl, pu, hp, hgm, hgk, hb⟩; obtain ⟨g, hg⟩ : ∃ g, W1.heap.size = g := ⟨_, rfl⟩; obtain ⟨W0, hW0⟩ : ∃ W, W1.alloc (.cells (Array.replicate n (.int .i64 0)) 33) = W := ⟨_, rfl⟩; have KR : Hid (Blk W0 g (List.replicate n (.int .i64 0)) 33) := hid (by rw [← hW0]; exact Blk.newAt W1 _ (List.replicate n (.int .i64 0)) _ g hg.symm (by simp)); have HPU : Hid (PU W0 p gm gk P00) := hid (by rw [← hW0]; exact pu.below (below_alloc _ _)); have BB : Hid (Below w.heap.size w W0) := hid (by rw [← hW0]; exact below_next (below_next DW.out hb) (below_alloc _ _)); have GE : Hid (w.heap.size ≤ g ∧ w.heap.size ≤ p ∧ w.heap.size ≤ gm ∧ w.heap.size ≤ gk ∧ g ≠ p ∧ g ≠ gm ∧ g ≠ gk) := hid (by have h1 := pu.lt; have h2 := hb.size; have h3 := DW.out.size; refine ⟨by omega, by omega, by omega, by omega, by omega, by omega, by omega⟩); clear pu hb hp hgm hgk))
  all_goals
    clear mk
    try clear hW0
    try clear hWB
    try clear hg
    go_wp2_with fail
    go_loopw [13] (fun x wr => ∃ k : Nat, k ≤ n ∧ x = .int .i64 k ∧ PU wr p gm gk (aft P00 (lf f k)) ∧ Blk wr g (fc_ (.int .i64 0) (fun i => .int .i64 (cc f i)) n k) 33 ∧ Below w.heap.size w wr) (fun x _ => n - (RowKit.intOf x).toNat)
    case atStart => exact ⟨0, Nat.zero_le _, rfl, HPU.out, by rw [fc_zero]; exact KR.out, BB.out⟩
    case round =>
      obtain ⟨k, hk, rfl, hpu, hbk, hbel⟩ := hrel
      have HP1 := hid hpu
      have HB1 := hid hbk
      have HB := hid hbel
      clear hpu hbk hbel KR HPU BB
      by_cases hlt : k < n
      · obtain ⟨b, off, rfl, ld⟩ := H.out.ldB hlt
        have x0 := ld wr HB.out
        have hin := HS.out k hlt
        obtain ⟨s, hs⟩ : ∃ s, f k = s := ⟨_, rfl⟩
        have cke : cc f k = cod (aft P00 (lf f k)) (clp s) := by unfold cc; rw [hs]
        rw [hs] at x0 hin
        have rc := fun V (hb : Below wr.heap.size wr V) => record_ok p gm gk _ s none [] V (HP1.out.below hb) trivial (fun j hj => hj.elim) hin (st_ok f k) (st_mg f k (by omega)) (rm_nil 8 (by decide))
        have e1 := aft_next f k
        rw [hs] at e1
        rw [← e1, ← cke] at rc
        clear e1 ld hs cke
        obtain ⟨sk, sh, sa, sc, so, sd, sm⟩ := s
        have RC : Hid (∀ V, Below wr.heap.size wr V → Calls Try.prog 24 #[.pointer (some ⟨p, 0, none⟩), .pointer none, .agg #[.int .u8 sk, .int .i64 sh, .int .u8 sa, .int .i64 sc, .int .i64 so, .int .i64 sd, .int .i64 sm]] V fun e w2 => e = .returned (.int .i64 (cc f k)) ∧ ∃ lo', CT V w2 p gm gk (aft P00 (lf f (k + 1))) none lo' _) := hid rc
        obtain ⟨V1, s1, k1, b1⟩ := new_sk wr ⟨sk, sh, sa, sc, so, sd, sm⟩
        have l1 := LDk_run k1
        have NV := hid b1
        have kn : (k : Int) < (n : Int) := by omega
        have kz : (0 : Int) ≤ (k : Int) := by omega
        obtain ⟨cv, hcv⟩ : ∃ x, cc f k = x := ⟨_, rfl⟩
        rw [hcv] at RC
        have HCV := hid hcv
        clear rc k1 b1 hcv
        go_wp2_with fail
        clear s1 x0
        refine (RC.out _ NV.out).mono ?_
        rintro e W3 ⟨rfl, l2, c2⟩
        have C2 := hid c2
        have gn := GE.out
        have kg3 := (HB1.out.below NV.out).kept c2.kp (fun e => e.elim (fun e => by have e : g = gm := e; omega) (fun e => e.elim))
        have cg := kg3.cell k _ (by rw [fc_get _ _ _ _ _ hlt, if_neg (Nat.lt_irrefl k)])
        have fg := kg3.frozen k
        clear c2
        obtain ⟨W4, hW4⟩ : ∃ W', W3.setCell ⟨g, k, none⟩ (.int .i64 cv) = W' := ⟨_, rfl⟩
        have k4 : Blk W4 g (fc_ (.int .i64 0) (fun i => .int .i64 (cc f i)) n (k + 1)) 33 := by
          rw [← hW4, ← fc_set]
          have e : (Value.int IntKind.i64 (cc f k)) = .int .i64 cv := by rw [HCV.out]
          show Blk _ _ (List.set _ k (.int .i64 (cc f k))) _
          rw [e]
          exact kg3.set k _
        have q4 : Kp (fun j => j = g) W3 W4 := by rw [← hW4]; exact Kp.setCell _ _ _
        have K4 := hid k4
        have P4 := hid (C2.out.pu.kept q4 (fun e => by have e : p = g := e; omega) (fun e => by have e : gm = g := e; omega) (fun e => by have e : gk = g := e; omega))
        have wz := NV.out.size
        have wz2 := HB.out.size
        have B3 := hid (HB.out.trans ((Below.mono NV.out HB.out.size).trans ((C2.out.kp.below (B := w.heap.size) (by omega) (fun j hj e => by
          rcases e with e | e
          · have e : j = gm := e; omega
          · exact e.elim)).trans (q4.below (by have := C2.out.kp.size; omega) (fun j hj e => by have e : j = g := e; omega)))))
        clear wz wz2 kg3 k4 q4 gn
        go_wp2
        go_roundw
        case rel => exact ⟨k + 1, by omega, by go_num, P4.out, K4.out, B3.out⟩
        case measure => simp [RowKit.intOf]; omega
      · have e : k = n := by omega
        subst e
        have K9 := HB1.out
        rw [fc_full] at K9
        have K9 := hid K9
        have G1 := hid GE.out.1
        go_wp2
        go_ret
        exact ⟨g, rfl, K9.out, G1.out, HB.out⟩
end Go.Proofs.Ytdmacflcjbkkpaa.Co
