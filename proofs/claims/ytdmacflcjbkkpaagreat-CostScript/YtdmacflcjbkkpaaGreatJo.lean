/- Runs: the ledger of a list of skeletons. Codes: the codes of a list of skeletons. Each: the runs of each of a list of skeletons. Each: the runs of each of a list of skeletons, each in memory of its own. -/
import Derived.Test.YtdmacflcjbkkpaaGreatCnw
import Derived.Test.YtdmacflcjbkkpaaGreatCls
namespace Go.Proofs.YtdmacflcjbkkpaaGreat.Co
open Go.ChangeShapes Go.WideShapes Go.ChangeAt Go.RowKit
open Go.Proofs.YtdmacflcjbkkpaaGreat (putL Pos tot)
open Go.Proofs.YtdmacflcjbkkpaaGreat.Ou (Sk sv sL zS LDk SVk LDk_run SVk_run)
open Go.Proofs.YtdmacflcjbkkpaaGreat.Tb (Blk Blk.newAt put_all Kp.setCells results_cell1 results_cell2)
/-- The first k of them. -/
def lf (f : Nat → Sk) (k : Nat) : List Sk := (List.range k).map f
theorem lf_succ (f : Nat → Sk) (k : Nat) : lf f (k + 1) = lf f k ++ [f k] := by simp [lf, List.range_succ]
theorem lf_len (f : Nat → Sk) (k : Nat) : (lf f k).length = k := by simp [lf]
/-- What is public of an empty vault. -/
abbrev P00 : St := fun _ => none
theorem tt_tot (L : List Ru) : tt L = tot L := by
  induction L with
  | nil => rfl
  | cons r L ih => show r.c + tt L = r.c + tot L; rw [ih]
theorem st_ok (f : Nat → Sk) (k : Nat) : (aft P00 (lf f k)).Ok := aft_ok start_ok _
theorem st_mg (f : Nat → Sk) (k : Nat) (hk : k ≤ 1000) : Mg 1000000000000 (aft P00 (lf f k)) := fun i h e => by
  have := mg_aft (P := P00) (lf f k) (b := 0) (Int.le_refl 0) (fun i h e => by cases e) i h e
  rw [lf_len] at this
  omega
theorem jn_rm (f : Nat → Sk) (k : Nat) (hk : k ≤ 1000) : Rm (jn [] (rws P00 (lf f k))) 8 := by
  have h := jn_rws (lf f k) P00 [] start_ok (fun q hq => by simp at hq) (by rw [lf_len]; simp only [tt]; omega)
  rw [lf_len] at h
  simp only [tt, List.length_nil] at h
  refine ⟨by rw [← tt_tot]; omega, by omega, fun q hq => h.1 q hq⟩
theorem aft_next (f : Nat → Sk) (k : Nat) : aft P00 (lf f (k + 1)) = stp (aft P00 (lf f k)) (f k) := by rw [lf_succ, aft_snoc]
theorem jn_next (f : Nat → Sk) (k : Nat) : jn [] (rws P00 (lf f (k + 1))) = (row (aft P00 (lf f k)) (f k)).foldl putL (jn [] (rws P00 (lf f k))) := by rw [lf_succ, rws_snoc, jn_snoc]
/-- A skeleton's variable, new. -/
theorem new_sk (w : World) (s : Sk) : ∃ W1, (SVk ⟨w.heap.size, 0, none⟩ (sv s)).run Tryz.prog (w.alloc (.cells (sL zS).toArray 40)) = .ok () W1 ∧ Blk W1 w.heap.size (sL s) 40 ∧ Below w.heap.size w W1 := by
  obtain ⟨W1, s1, k1, hk1⟩ := SVk_run s (Blk.newAt w (sL zS).toArray (sL zS) 40 w.heap.size rfl rfl) rfl
  exact ⟨W1, s1, k1, (below_alloc w _).trans (hk1.below (by simp) (fun k h e => by omega))⟩
set_option maxRecDepth 8000 in
set_option maxHeartbeats 1600000 in
theorem runs_ok (v : Value) (n : Nat) (f : Nat → Sk) (w : World) (h : Sx.RB w v n f) (hs : ∀ i, i < n → SkIn (f i)) (hn : n ≤ 1000) :
    Calls Tryz.prog 19 #[v] w fun e w' => ∃ v', e = .returned v' ∧ Own w' w.heap.size v' (jn [] (rws P00 (lf f n))) ∧ Below w.heap.size w w' := by
  obtain ⟨a, c, rfl⟩ := h.isSl
  have H := hid h
  have HS := hid hs
  have HN := hid hn
  have n1 : n ≤ 100000000000000 := by omega
  clear h hs
  go_enter Tryz.func19, Tryz.ntmps19
  go_wp2_with fail
  refine (new_ok _).mono ?_
  rintro e W1 ⟨p, gm, gk, rfl, pu, hp, hgm, hgk, hb⟩
  have N1 := hid hb
  go_wp2_with fail
  refine (new9 _).mono ?_
  rintro e W2 ⟨rfl, hl, hb2⟩
  have pl := pu.lt
  have A0 : Apo (some (W1.heap.size, .slice none 0 0)) p gm gk := fun j hj => by
    rcases hj with e | e
    · have e : j = W1.heap.size := e; omega
    · cases e
  have ST : Hid (∃ rv, PU W2 p gm gk (aft P00 (lf f 0)) ∧ LdO W2 (some (W1.heap.size, rv)) (jn [] (rws P00 (lf f 0))) ∧ Apo (some (W1.heap.size, rv)) p gm gk ∧ ∀ j, rv.ownBlock = some j → w.heap.size ≤ j) := hid ⟨_, pu.below hb2, hl, A0, fun j e => by cases e⟩
  have B2 := hid (below_next hb hb2)
  have GE : Hid (w.heap.size ≤ W1.heap.size ∧ w.heap.size ≤ p ∧ w.heap.size ≤ gm ∧ w.heap.size ≤ gk) := hid ⟨hb.size, hp, hgm, hgk⟩
  obtain ⟨lb, hlb⟩ : ∃ lb, W1.heap.size = lb := ⟨_, rfl⟩
  rw [hlb] at ST GE
  rw [hlb]
  clear pu hb hb2 hl A0 pl hp hgm hgk hlb
  go_wp2_with fail
  go_loopw [11] (fun x wr => ∃ k : Nat, k ≤ n ∧ x = .int .i64 k ∧ (∃ rv, PU wr p gm gk (aft P00 (lf f k)) ∧ LdO wr (some (lb, rv)) (jn [] (rws P00 (lf f k))) ∧ Apo (some (lb, rv)) p gm gk ∧ ∀ j, rv.ownBlock = some j → w.heap.size ≤ j) ∧ Below w.heap.size w wr) (fun x _ => n - (RowKit.intOf x).toNat)
  case atStart =>
    obtain ⟨rv, h1, h2, h3, h4⟩ := ST.out
    exact ⟨0, Nat.zero_le _, rfl, ⟨rv, h1, h2, h3, h4⟩, B2.out⟩
  case round =>
    obtain ⟨k, hk, rfl, ⟨rv, hpu, hld, hap, hob⟩, hbel⟩ := hrel
    clear ST
    have HPU := hid hpu
    have HLD := hid hld
    have HAP := hid hap
    have HOB := hid hob
    have HB := hid hbel
    clear hpu hld hap hob hbel
    by_cases hlt : k < n
    · obtain ⟨b, off, rfl, ld⟩ := H.out.ldB hlt
      have x0 := ld wr HB.out
      have hin := HS.out k hlt
      obtain ⟨s, hs⟩ : ∃ s, f k = s := ⟨_, rfl⟩
      rw [hs] at x0 hin
      have rc := fun V (hb : Below wr.heap.size wr V) => record_ok p gm gk _ s (some (lb, rv)) _ V (HPU.out.below hb) (HLD.out.below hb) HAP.out hin (st_ok f k) (st_mg f k (by omega)) (jn_rm f k (by omega))
      have e1 := aft_next f k
      have e2 := jn_next f k
      rw [hs] at e1 e2
      rw [← e1, ← e2] at rc
      have E3 := hid e1
      clear e1 e2 ld hs
      obtain ⟨sk, sh, sa, sc, so, sd, sm⟩ := s
      have RC : Hid (∀ V, Below wr.heap.size wr V → Calls Tryz.prog 29 #[.pointer (some ⟨p, 0, none⟩), .pointer (some ⟨lb, 0, none⟩), .agg #[.int .u8 sk, .int .i64 sh, .int .u8 sa, .int .i64 sc, .int .i64 so, .int .i64 sd, .int .i64 sm]] V fun e w2 => e = .returned (.int .i64 _) ∧ ∃ lo', CT V w2 p gm gk (aft P00 (lf f (k + 1))) (some (lb, rv)) lo' (jn [] (rws P00 (lf f (k + 1))))) := hid rc
      obtain ⟨V1, s1, k1, b1⟩ := new_sk wr ⟨sk, sh, sa, sc, so, sd, sm⟩
      have l1 := LDk_run k1
      have NV := hid b1
      clear rc k1 b1
      go_wp2_with fail
      clear s1 x0
      refine (RC.out _ NV.out).mono ?_
      rintro e W3 ⟨rfl, l2, c2⟩
      obtain ⟨b2, v2, rfl⟩ : ∃ b v, l2 = some (b, v) := by
        cases l2 with
        | none => have := c2.ptr; simp [lpo] at this
        | some x => exact ⟨x.1, x.2, rfl⟩
      obtain rfl : b2 = lb := by have := c2.ptr; simpa [lpo] using this
      have C2 := hid c2
      clear c2
      have wz := NV.out.size
      have wz2 := HB.out.size
      have g := GE.out
      have B3 := hid (HB.out.trans ((Below.mono NV.out HB.out.size).trans (C2.out.kp.below (by omega) (fun j hj e => by
        rcases e with e | e
        · have e : j = gm := e; omega
        · rcases e with e | e
          · have e : j = b2 := e; omega
          · have := HOB.out j e; omega))))
      have A3 := hid (C2.out.apo (HPU.out.below NV.out) HAP.out)
      have O3 : Hid (∀ j, v2.ownBlock = some j → w.heap.size ≤ j) := hid (fun j hj => by
        rcases C2.out.blk j (.inr hj) with e | e
        · rcases e with e | e
          · have e : j = b2 := e; omega
          · exact HOB.out j e
        · omega)
      clear wz wz2 g
      go_wp2
      go_roundw
      case rel => exact ⟨k + 1, by omega, by go_num, ⟨v2, C2.out.pu, C2.out.led, A3.out, O3.out⟩, B3.out⟩
      case measure => simp [RowKit.intOf]; omega
    · have e : k = n := by omega
      subst e
      have hll := (jn_rws (lf f k) P00 [] start_ok (fun q hq => by simp at hq) (by rw [lf_len]; simp only [tt]; omega)).2.2
      rw [lf_len] at hll
      simp only [List.length_nil] at hll
      have RU := hid (runs22 lb rv _ wr HLD.out (by omega))
      clear hll
      go_wp2_with fail
      refine RU.out.mono ?_
      rintro e W3 ⟨u, rfl, ho, hb⟩
      have HO := hid (ho.base HB.out.size)
      have N3 := hid (HB.out.trans (Below.mono hb HB.out.size))
      clear ho hb
      go_wp2
      go_ret
      exact ⟨u, rfl, HO.out, N3.out⟩
end Go.Proofs.YtdmacflcjbkkpaaGreat.Co
namespace Go.Proofs.YtdmacflcjbkkpaaGreat.Co
open Go.ChangeShapes Go.WideShapes Go.ChangeAt Go.RowKit
open Go.Proofs.YtdmacflcjbkkpaaGreat (putL Pos tot)
open Go.Proofs.YtdmacflcjbkkpaaGreat.Ou (Sk sv sL zS LDk SVk LDk_run SVk_run)
open Go.Proofs.YtdmacflcjbkkpaaGreat.Tb (Blk Blk.newAt put_all Kp.setCells results_cell1 results_cell2)
theorem made_one (z : Value) (hz : z.cells = #[z]) (n : Nat) : madeCells z.cells n = Array.replicate n z := by
  apply Array.toList_inj.1
  apply List.ext_getElem?
  intro p
  by_cases hp : p < n
  · simp [madeCells, hp, hz]
    have e : p % 1 = 0 := Nat.mod_one p
    rw [e]; rfl
  · rw [List.getElem?_eq_none (by rw [Array.length_toList, size_madeCells]; omega), List.getElem?_eq_none (by simp; omega)]
theorem infoE : (Tryz.prog.info? 34).map (fun i => (i.zero, i.size, i.bytes)) = some (some (.int .i64 0), 1, 8) := by kernel_rfl
theorem infoR : (Tryz.prog.info? 33).map (fun i => (i.zero, i.size, i.bytes)) = some (some (.slice none 0 0), 1, 24) := by kernel_rfl
theorem make_cd (n : Nat) (hn : n ≤ 1000) (w : World) : (Instr.makeSlice 49 (.int .i64 n) (.int .i64 n)).run Tryz.prog w = .ok (.slice (some ⟨w.heap.size, 0, none⟩) n n) (w.alloc (.cells (Array.replicate n (.int .i64 0)) 34)) := by
  obtain ⟨i0, hi, hz0, hz1, hz2⟩ := info_parts infoE
  have hr := run_make (P := Tryz.prog) w 49 34 i0 (.int .i64 0) Tryz.underlying49 hi hz0 .i64 .i64 n n (by omega) (by omega) (by rw [hz2]; omega) (by omega)
  simp only [Int.toNat_natCast, hz1, Nat.mul_one] at hr
  rw [made_one _ rfl] at hr
  exact hr
theorem make_rw (n : Nat) (hn : n ≤ 1000) (w : World) : (Instr.makeSlice 30 (.int .i64 n) (.int .i64 n)).run Tryz.prog w = .ok (.slice (some ⟨w.heap.size, 0, none⟩) n n) (w.alloc (.cells (Array.replicate n (.slice none 0 0)) 33)) := by
  obtain ⟨i0, hi, hz0, hz1, hz2⟩ := info_parts infoR
  have hr := run_make (P := Tryz.prog) w 30 33 i0 (.slice none 0 0) Tryz.underlying30 hi hz0 .i64 .i64 n n (by omega) (by omega) (by rw [hz2]; omega) (by omega)
  simp only [Int.toNat_natCast, hz1, Nat.mul_one] at hr
  rw [made_one _ rfl] at hr
  exact hr
/-- The codes of n skeletons. -/
def cc (f : Nat → Sk) (i : Nat) : Int := cod (aft P00 (lf f i)) (clp (f i))
theorem cds_cc (f : Nat → Sk) : ∀ n, cds P00 (lf f n) = (List.range n).map (cc f)
  | 0 => rfl
  | n + 1 => by rw [lf_succ, cds_snoc, cds_cc f n, List.range_succ, List.map_append]; rfl
/-- The cells of a list that is filled up to k. -/
def fc_ (z : Value) (g : Nat → Value) (n k : Nat) : List Value := (List.range n).map (fun i => if i < k then g i else z)
theorem fc_len (z : Value) (g : Nat → Value) (n k : Nat) : (fc_ z g n k).length = n := by simp [fc_]
theorem fc_zero (z : Value) (g : Nat → Value) (n : Nat) : fc_ z g n 0 = List.replicate n z := by
  apply List.ext_getElem?
  intro i
  simp only [fc_, List.getElem?_map, List.getElem?_replicate]
  by_cases h : i < n
  · simp [h]
  · simp [h]
theorem fc_set (z : Value) (g : Nat → Value) (n k : Nat) : (fc_ z g n k).set k (g k) = fc_ z g n (k + 1) := by
  apply List.ext_getElem?
  intro i
  rw [List.getElem?_set]
  simp only [fc_, List.getElem?_map, List.length_map, List.length_range]
  by_cases h : k = i
  · subst h
    by_cases hk : k < n
    · simp [hk]
    · simp [hk]
  · rw [if_neg h]
    by_cases hi : i < n
    · simp only [List.getElem?_range hi, Option.map_some]
      congr 1
      by_cases h2 : i < k
      · rw [if_pos h2, if_pos (by omega)]
      · rw [if_neg h2, if_neg (by omega)]
    · rw [List.getElem?_eq_none (by simp; omega)]; rfl
theorem fc_full (z : Value) (g : Nat → Value) (n : Nat) : fc_ z g n n = (List.range n).map g := by
  apply List.map_congr_left
  intro i hi
  rw [if_pos (by simpa using hi)]
theorem fc_get (z : Value) (g : Nat → Value) (n k i : Nat) (h : i < n) : (fc_ z g n k)[i]? = some (if i < k then g i else z) := by simp [fc_, h]
set_option maxRecDepth 8000 in
set_option maxHeartbeats 3200000 in
theorem codes_ok (v : Value) (n : Nat) (f : Nat → Sk) (w : World) (h : Sx.RB w v n f) (hs : ∀ i, i < n → SkIn (f i)) (hn : n ≤ 1000) :
    Calls Tryz.prog 18 #[v] w fun e w' => ∃ g, e = .returned (.slice (some ⟨g, 0, none⟩) n n) ∧ Blk w' g ((List.range n).map (fun i => .int .i64 (cc f i))) 34 ∧ w.heap.size ≤ g ∧ Below w.heap.size w w' := by
  obtain ⟨a, c, rfl⟩ := h.isSl
  have H := hid h
  have HS := hid hs
  have n1 : n ≤ 100000000000000 := by omega
  have mk := make_cd n hn
  clear h hs
  obtain ⟨WB, hWB⟩ : ∃ W, (w.alloc (.cells (Array.replicate n (.int .i64 0)) 34)).drew = W := ⟨_, rfl⟩
  have NB : Hid (Below w.heap.size w WB) := by rw [← hWB]; exact (below_alloc _ _).drew
  have kB : Hid (Blk WB w.heap.size (List.replicate n (.int .i64 0)) 34) := by rw [← hWB]; exact (Blk.newAt w _ (List.replicate n (.int .i64 0)) _ w.heap.size rfl (by simp)).drewN 1
  have DW : Hid (Below w.heap.size w w.drew) := hid (below_drewN w 1)
  go_enter Tryz.func18, Tryz.ntmps18
  go_wp2_with fail
  go_region_held3 (fun _ => True) (trivial) (first
    | (go_at_call 5; with_reducible refine (new_ok WB).mono ?_; rintro e W0 ⟨p, gm, gk, rfl, pu, hp, hgm, hgk, hb⟩; have KR := hid (kB.out.below hb); have HPU := hid pu; have BB : Hid (Below w.heap.size w W0) := hid (below_next NB.out hb); obtain ⟨g, hg⟩ : ∃ g, w.heap.size = g := ⟨_, rfl⟩; rw [hg] at KR; have GE : Hid (w.heap.size ≤ g ∧ w.heap.size ≤ p ∧ w.heap.size ≤ gm ∧ w.heap.size ≤ gk ∧ g ≠ p ∧ g ≠ gm ∧ g ≠ gk) := hid (by have h1 := kB.out.lt; have := NB.out.size; refine ⟨by omega, by omega, by omega, by omega, by omega, by omega, by omega⟩); clear pu hb hp hgm hgk)
    | (go_at_call 5; with_reducible refine (new_ok w.drew).mono ?_; rintro e W1 ⟨p, gm, gk, rfl, pu, hp, hgm, hgk, hb⟩; obtain ⟨g, hg⟩ : ∃ g, W1.heap.size = g := ⟨_, rfl⟩; obtain ⟨W0, hW0⟩ : ∃ W, W1.alloc (.cells (Array.replicate n (.int .i64 0)) 34) = W := ⟨_, rfl⟩; have KR : Hid (Blk W0 g (List.replicate n (.int .i64 0)) 34) := hid (by rw [← hW0]; exact Blk.newAt W1 _ (List.replicate n (.int .i64 0)) _ g hg.symm (by simp)); have HPU : Hid (PU W0 p gm gk P00) := hid (by rw [← hW0]; exact pu.below (below_alloc _ _)); have BB : Hid (Below w.heap.size w W0) := hid (by rw [← hW0]; exact below_next (below_next DW.out hb) (below_alloc _ _)); have GE : Hid (w.heap.size ≤ g ∧ w.heap.size ≤ p ∧ w.heap.size ≤ gm ∧ w.heap.size ≤ gk ∧ g ≠ p ∧ g ≠ gm ∧ g ≠ gk) := hid (by have h1 := pu.lt; have h2 := hb.size; have h3 := DW.out.size; refine ⟨by omega, by omega, by omega, by omega, by omega, by omega, by omega⟩); clear pu hb hp hgm hgk))
  all_goals
    clear mk
    try clear hW0
    try clear hWB
    try clear hg
    go_wp2_with fail
    go_loopw [13] (fun x wr => ∃ k : Nat, k ≤ n ∧ x = .int .i64 k ∧ PU wr p gm gk (aft P00 (lf f k)) ∧ Blk wr g (fc_ (.int .i64 0) (fun i => .int .i64 (cc f i)) n k) 34 ∧ Below w.heap.size w wr) (fun x _ => n - (RowKit.intOf x).toNat)
    case atStart => exact ⟨0, Nat.zero_le _, rfl, HPU.out, by rw [fc_zero]; exact KR.out, BB.out⟩
    case round =>
      obtain ⟨k, hk, rfl, hpu, hbk, hbel⟩ := hrel
      have HP1 := hid hpu
      have HB1 := hid hbk
      have HB := hid hbel
      clear hpu hbk hbel KR HPU BB
      by_cases hlt : k < n
      · obtain ⟨b, off, rfl, ld⟩ := H.out.ldB hlt
        have x0 := ld wr HB.out
        have hin := HS.out k hlt
        obtain ⟨s, hs⟩ : ∃ s, f k = s := ⟨_, rfl⟩
        have cke : cc f k = cod (aft P00 (lf f k)) (clp s) := by unfold cc; rw [hs]
        rw [hs] at x0 hin
        have rc := fun V (hb : Below wr.heap.size wr V) => record_ok p gm gk _ s none [] V (HP1.out.below hb) trivial (fun j hj => hj.elim) hin (st_ok f k) (st_mg f k (by omega)) (rm_nil 8 (by decide))
        have e1 := aft_next f k
        rw [hs] at e1
        rw [← e1, ← cke] at rc
        clear e1 ld hs cke
        obtain ⟨sk, sh, sa, sc, so, sd, sm⟩ := s
        have RC : Hid (∀ V, Below wr.heap.size wr V → Calls Tryz.prog 29 #[.pointer (some ⟨p, 0, none⟩), .pointer none, .agg #[.int .u8 sk, .int .i64 sh, .int .u8 sa, .int .i64 sc, .int .i64 so, .int .i64 sd, .int .i64 sm]] V fun e w2 => e = .returned (.int .i64 (cc f k)) ∧ ∃ lo', CT V w2 p gm gk (aft P00 (lf f (k + 1))) none lo' _) := hid rc
        obtain ⟨V1, s1, k1, b1⟩ := new_sk wr ⟨sk, sh, sa, sc, so, sd, sm⟩
        have l1 := LDk_run k1
        have NV := hid b1
        have kn : (k : Int) < (n : Int) := by omega
        have kz : (0 : Int) ≤ (k : Int) := by omega
        obtain ⟨cv, hcv⟩ : ∃ x, cc f k = x := ⟨_, rfl⟩
        rw [hcv] at RC
        have HCV := hid hcv
        clear rc k1 b1 hcv
        go_wp2_with fail
        clear s1 x0
        refine (RC.out _ NV.out).mono ?_
        rintro e W3 ⟨rfl, l2, c2⟩
        have C2 := hid c2
        have gn := GE.out
        have kg3 := (HB1.out.below NV.out).kept c2.kp (fun e => e.elim (fun e => by have e : g = gm := e; omega) (fun e => e.elim))
        have cg := kg3.cell k _ (by rw [fc_get _ _ _ _ _ hlt, if_neg (Nat.lt_irrefl k)])
        have fg := kg3.frozen k
        clear c2
        obtain ⟨W4, hW4⟩ : ∃ W', W3.setCell ⟨g, k, none⟩ (.int .i64 cv) = W' := ⟨_, rfl⟩
        have k4 : Blk W4 g (fc_ (.int .i64 0) (fun i => .int .i64 (cc f i)) n (k + 1)) 34 := by
          rw [← hW4, ← fc_set]
          have e : (Value.int IntKind.i64 (cc f k)) = .int .i64 cv := by rw [HCV.out]
          show Blk _ _ (List.set _ k (.int .i64 (cc f k))) _
          rw [e]
          exact kg3.set k _
        have q4 : Kp (fun j => j = g) W3 W4 := by rw [← hW4]; exact Kp.setCell _ _ _
        have K4 := hid k4
        have P4 := hid (C2.out.pu.kept q4 (fun e => by have e : p = g := e; omega) (fun e => by have e : gm = g := e; omega) (fun e => by have e : gk = g := e; omega))
        have wz := NV.out.size
        have wz2 := HB.out.size
        have B3 := hid (HB.out.trans ((Below.mono NV.out HB.out.size).trans ((C2.out.kp.below (B := w.heap.size) (by omega) (fun j hj e => by
          rcases e with e | e
          · have e : j = gm := e; omega
          · exact e.elim)).trans (q4.below (by have := C2.out.kp.size; omega) (fun j hj e => by have e : j = g := e; omega)))))
        clear wz wz2 kg3 k4 q4 gn
        go_wp2
        go_roundw
        case rel => exact ⟨k + 1, by omega, by go_num, P4.out, K4.out, B3.out⟩
        case measure => simp [RowKit.intOf]; omega
      · have e : k = n := by omega
        subst e
        have K9 := HB1.out
        rw [fc_full] at K9
        have K9 := hid K9
        have G1 := hid GE.out.1
        go_wp2
        go_ret
        exact ⟨g, rfl, K9.out, G1.out, HB.out⟩
end Go.Proofs.YtdmacflcjbkkpaaGreat.Co
namespace Go.Proofs.YtdmacflcjbkkpaaGreat.Co
open Go.ChangeShapes Go.WideShapes Go.ChangeAt Go.RowKit
open Go.Proofs.YtdmacflcjbkkpaaGreat (putL Pos tot)
open Go.Proofs.YtdmacflcjbkkpaaGreat.Ou (Sk sv sL zS LDk SVk LDk_run SVk_run)
open Go.Proofs.YtdmacflcjbkkpaaGreat.Tb (Blk Blk.newAt put_all Kp.setCells results_cell1 results_cell2)
/-- The runs of skeleton i. -/
def rr (f : Nat → Sk) (i : Nat) : List Ru := row (aft P00 (lf f i)) (f i)
theorem rws_rr (f : Nat → Sk) : ∀ n, rws P00 (lf f n) = (List.range n).map (rr f)
  | 0 => rfl
  | n + 1 => by rw [lf_succ, rws_snoc, rws_rr f n, List.range_succ, List.map_append]; rfl
theorem own_nb {W : World} {g : Nat} {u : Value} {L : List Ru} {P : St} (ho : Own W 0 u L) (h : MP W g P) : ∀ j, u.ownBlock = some j → j ≠ g := fun j hj e => by
  subst e
  obtain ⟨D, ⟨es, clock, hg, _⟩, _⟩ := h
  rcases ho.2.2 with ⟨hu, _⟩ | ⟨b, cap, cur, hu, _, hb, _⟩
  · rw [hu] at hj; cases hj
  · rw [hu] at hj
    simp only [Value.ownBlock, Option.some.injEq] at hj
    subst hj
    rw [hb] at hg; cases hg
theorem own_nt {W : World} {g : Nat} {u : Value} {L : List Ru} {cs : List Value} {t : TypeId} (ho : Own W 0 u L) (h : Blk W g cs t) (ht : t ≠ 86) : ∀ j, u.ownBlock = some j → j ≠ g := fun j hj e => by
  subst e
  rcases ho.2.2 with ⟨hu, _⟩ | ⟨b, cap, cur, hu, _, hb, _⟩
  · rw [hu] at hj; cases hj
  · rw [hu] at hj
    simp only [Value.ownBlock, Option.some.injEq] at hj
    subst hj
    rw [show W.heap[b]? = _ from h] at hb
    simp only [Option.some.injEq, Obj.cells.injEq] at hb
    exact ht hb.2.1
set_option maxRecDepth 8000 in
set_option maxHeartbeats 3200000 in
theorem each_ok (v : Value) (n : Nat) (f : Nat → Sk) (w : World) (h : Sx.RB w v n f) (hs : ∀ i, i < n → SkIn (f i)) (hn : n ≤ 1000) :
    Calls Tryz.prog 17 #[v] w fun e w' => ∃ g u, e = .returned (.slice (some ⟨g, 0, none⟩) n n) ∧ Blk w' g ((List.range n).map u) 33 ∧ (∀ i, i < n → Own w' 0 (u i) (rr f i)) ∧ w.heap.size ≤ g ∧ Below w.heap.size w w' := by
  obtain ⟨a, c, rfl⟩ := h.isSl
  have H := hid h
  have HS := hid hs
  have n1 : n ≤ 100000000000000 := by omega
  have mk := make_rw n hn
  clear h hs
  obtain ⟨WB, hWB⟩ : ∃ W, (w.alloc (.cells (Array.replicate n (.slice none 0 0)) 33)).drew = W := ⟨_, rfl⟩
  have NB : Hid (Below w.heap.size w WB) := by rw [← hWB]; exact (below_alloc _ _).drew
  have kB : Hid (Blk WB w.heap.size (List.replicate n (.slice none 0 0)) 33) := by rw [← hWB]; exact (Blk.newAt w _ (List.replicate n (.slice none 0 0)) _ w.heap.size rfl (by simp)).drewN 1
  have DW : Hid (Below w.heap.size w w.drew) := hid (below_drewN w 1)
  go_enter Tryz.func17, Tryz.ntmps17
  go_wp2_with fail
  go_region_held3 (fun _ => True) (trivial) (first
    | (go_at_call 5; with_reducible refine (new_ok WB).mono ?_; rintro e W0 ⟨p, gm, gk, rfl, pu, hp, hgm, hgk, hb⟩; have KR := hid (kB.out.below hb); have HPU := hid pu; have BB : Hid (Below w.heap.size w W0) := hid (below_next NB.out hb); obtain ⟨g, hg⟩ : ∃ g, w.heap.size = g := ⟨_, rfl⟩; rw [hg] at KR; have GE : Hid (w.heap.size ≤ g ∧ w.heap.size ≤ p ∧ w.heap.size ≤ gm ∧ w.heap.size ≤ gk ∧ g ≠ p ∧ g ≠ gm ∧ g ≠ gk) := hid (by have h1 := kB.out.lt; have := NB.out.size; refine ⟨by omega, by omega, by omega, by omega, by omega, by omega, by omega⟩); clear pu hb hp hgm hgk)
    | (go_at_call 5; with_reducible refine (new_ok w.drew).mono ?_; rintro e W1 ⟨p, gm, gk, rfl, pu, hp, hgm, hgk, hb⟩; obtain ⟨g, hg⟩ : ∃ g, W1.heap.size = g := ⟨_, rfl⟩; obtain ⟨W0, hW0⟩ : ∃ W, W1.alloc (.cells (Array.replicate n (.slice none 0 0)) 33) = W := ⟨_, rfl⟩; have KR : Hid (Blk W0 g (List.replicate n (.slice none 0 0)) 33) := hid (by rw [← hW0]; exact Blk.newAt W1 _ (List.replicate n (.slice none 0 0)) _ g hg.symm (by simp)); have HPU : Hid (PU W0 p gm gk P00) := hid (by rw [← hW0]; exact pu.below (below_alloc _ _)); have BB : Hid (Below w.heap.size w W0) := hid (by rw [← hW0]; exact below_next (below_next DW.out hb) (below_alloc _ _)); have GE : Hid (w.heap.size ≤ g ∧ w.heap.size ≤ p ∧ w.heap.size ≤ gm ∧ w.heap.size ≤ gk ∧ g ≠ p ∧ g ≠ gm ∧ g ≠ gk) := hid (by have h1 := pu.lt; have h2 := hb.size; have h3 := DW.out.size; refine ⟨by omega, by omega, by omega, by omega, by omega, by omega, by omega⟩); clear pu hb hp hgm hgk))
  all_goals
    clear mk
    try clear hW0
    try clear hWB
    try clear hg
    go_wp2_with fail
    go_loopw [13] (fun x wr => ∃ k : Nat, k ≤ n ∧ x = .int .i64 k ∧ PU wr p gm gk (aft P00 (lf f k)) ∧ (∃ u : Nat → Value, Blk wr g (fc_ (.slice none 0 0) u n k) 33 ∧ ∀ i, i < k → Own wr 0 (u i) (rr f i)) ∧ Below w.heap.size w wr) (fun x _ => n - (RowKit.intOf x).toNat)
    case atStart => exact ⟨0, Nat.zero_le _, rfl, HPU.out, ⟨fun _ => .slice none 0 0, by rw [fc_zero]; exact KR.out, fun i hi => by omega⟩, BB.out⟩
    case round =>
      obtain ⟨k, hk, rfl, hpu, ⟨u, hbk, hou⟩, hbel⟩ := hrel
      have HP1 := hid hpu
      have HB1 := hid hbk
      have HO1 := hid hou
      have HB := hid hbel
      clear hpu hbk hou hbel KR HPU BB
      by_cases hlt : k < n
      · obtain ⟨b, off, rfl, ld⟩ := H.out.ldB hlt
        have x0 := ld wr HB.out
        have hin := HS.out k hlt
        obtain ⟨s, hs⟩ : ∃ s, f k = s := ⟨_, rfl⟩
        have cke : rr f k = row (aft P00 (lf f k)) s := by unfold rr; rw [hs]
        rw [hs] at x0 hin
        have rc := fun V (hb : Below wr.heap.size wr V) => do_ok p gm gk _ s V (HP1.out.below hb) hin (st_ok f k) (st_mg f k (by omega))
        have e1 := aft_next f k
        rw [hs] at e1
        rw [← e1, ← cke] at rc
        clear e1 ld hs cke
        obtain ⟨sk, sh, sa, sc, so, sd, sm⟩ := s
        have RC : Hid (∀ V, Below wr.heap.size wr V → Calls Tryz.prog 8 #[.pointer (some ⟨p, 0, none⟩), .agg #[.int .u8 sk, .int .i64 sh, .int .u8 sa, .int .i64 sc, .int .i64 so, .int .i64 sd, .int .i64 sm]] V fun e w2 => ∃ v, e = .returned (.tuple #[v, .int .i64 _]) ∧ Own w2 V.heap.size v (rr f k) ∧ PU w2 p gm gk (aft P00 (lf f (k + 1))) ∧ Kp (fun j => j = gm) V w2) := hid rc
        obtain ⟨V1, s1, k1, b1⟩ := new_sk wr ⟨sk, sh, sa, sc, so, sd, sm⟩
        have l1 := LDk_run k1
        have NV := hid b1
        have kn : (k : Int) < (n : Int) := by omega
        have kz : (0 : Int) ≤ (k : Int) := by omega
        clear rc k1 b1
        go_wp2_with fail
        clear s1 x0
        refine (RC.out _ NV.out).mono ?_
        rintro e W3 ⟨vk, rfl, hov, hp3, hk3⟩
        have gn := GE.out
        have kg3 := (HB1.out.below NV.out).kept hk3 (fun e => by have e : g = gm := e; omega)
        have cg := kg3.cell k _ (by rw [fc_get _ _ _ _ _ hlt, if_neg (Nat.lt_irrefl k)])
        have fg := kg3.frozen k
        obtain ⟨va, vn, vc, rfl⟩ := hov.isSlice
        obtain ⟨W4, hW4⟩ : ∃ W', W3.setCell ⟨g, k, none⟩ (.slice va vn vc) = W' := ⟨_, rfl⟩
        have q4 : Kp (fun j => j = g) W3 W4 := by rw [← hW4]; exact Kp.setCell _ _ _
        have K4 : Hid (∃ u, Blk W4 g (fc_ (.slice none 0 0) u n (k + 1)) 33 ∧ ∀ i, i < k + 1 → Own W4 0 (u i) (rr f i)) := hid ⟨fun i => if i = k then .slice va vn vc else u i, by
          have e : fc_ (.slice none 0 0) u n k = fc_ (.slice none 0 0) (fun i => if i = k then .slice va vn vc else u i) n k := by
            unfold fc_
            apply List.map_congr_left
            intro i _
            by_cases h : i < k
            · rw [if_pos h, if_pos h]; exact (if_neg (by omega)).symm
            · rw [if_neg h, if_neg h]
          rw [← hW4, ← fc_set, if_pos rfl, ← e]
          exact kg3.set k _, fun i hi => by
          by_cases h : i = k
          · subst h
            show Own W4 0 (if i = i then (.slice va vn vc : Value) else u i) (rr f i)
            rw [if_pos rfl]
            exact (hov.base (Nat.zero_le _)).kept q4 (fun j hj e => own_nt (hov.base (Nat.zero_le _)) kg3 (by decide) j hj e)
          · show Own W4 0 (if i = k then (.slice va vn vc : Value) else u i) (rr f i)
            rw [if_neg h]
            have o1 := HO1.out i (by omega)
            have o2 := o1.below NV.out
            have o3 := o2.kept hk3 (fun j hj e => own_nb o2 (HP1.out.map.below NV.out) j hj e)
            exact o3.kept q4 (fun j hj e => own_nt o3 kg3 (by decide) j hj e)⟩
        have P4 := hid (hp3.kept q4 (fun e => by have e : p = g := e; omega) (fun e => by have e : gm = g := e; omega) (fun e => by have e : gk = g := e; omega))
        have wz := NV.out.size
        have wz2 := HB.out.size
        have B3 := hid (HB.out.trans ((Below.mono NV.out HB.out.size).trans ((hk3.below (B := w.heap.size) (by omega) (fun j hj e => by
          have e : j = gm := e; omega)).trans (q4.below (by have := hk3.size; omega) (fun j hj e => by have e : j = g := e; omega)))))
        clear wz wz2 kg3 q4 gn hov hp3 hk3
        go_wp2
        go_roundw
        case rel => exact ⟨k + 1, by omega, by go_num, P4.out, K4.out, B3.out⟩
        case measure => simp [RowKit.intOf]; omega
      · have e : k = n := by omega
        subst e
        have K9 := HB1.out
        rw [fc_full] at K9
        have K9 := hid K9
        have G1 := hid GE.out.1
        go_wp2
        go_ret
        exact ⟨g, u, rfl, K9.out, fun i hi => HO1.out i hi, G1.out, HB.out⟩
end Go.Proofs.YtdmacflcjbkkpaaGreat.Co
namespace Go.Proofs.YtdmacflcjbkkpaaGreat.Co
open Go.ChangeShapes Go.WideShapes Go.ChangeAt Go.RowKit
open Go.Proofs.YtdmacflcjbkkpaaGreat (putL Pos tot)
open Go.Proofs.YtdmacflcjbkkpaaGreat.Ou (Sk sv sL zS LDk SVk LDk_run SVk_run)
open Go.Proofs.YtdmacflcjbkkpaaGreat.Tb (Blk Blk.newAt put_all Kp.setCells results_cell1 results_cell2)
set_option maxRecDepth 8000 in
set_option maxHeartbeats 3200000 in
theorem each_apart (v : Value) (n : Nat) (f : Nat → Sk) (w : World) (h : Sx.RB w v n f) (hs : ∀ i, i < n → SkIn (f i)) (hn : n ≤ 1000) :
    Calls Tryz.prog 17 #[v] w fun e w' => ∃ g u, e = .returned (.slice (some ⟨g, 0, none⟩) n n) ∧ Blk w' g ((List.range n).map u) 33 ∧ (∃ B : Nat → Nat, ∀ i, i < n → (Own w' (B i) (u i) (rr f i) ∧ w.heap.size ≤ B i ∧ ∀ j, j < i → ∀ q, (u j).ownBlock = some q → q < B i)) ∧ w.heap.size ≤ g ∧ Below w.heap.size w w' := by
  obtain ⟨a, c, rfl⟩ := h.isSl
  have H := hid h
  have HS := hid hs
  have n1 : n ≤ 100000000000000 := by omega
  have mk := make_rw n hn
  clear h hs
  obtain ⟨WB, hWB⟩ : ∃ W, (w.alloc (.cells (Array.replicate n (.slice none 0 0)) 33)).drew = W := ⟨_, rfl⟩
  have NB : Hid (Below w.heap.size w WB) := by rw [← hWB]; exact (below_alloc _ _).drew
  have kB : Hid (Blk WB w.heap.size (List.replicate n (.slice none 0 0)) 33) := by rw [← hWB]; exact (Blk.newAt w _ (List.replicate n (.slice none 0 0)) _ w.heap.size rfl (by simp)).drewN 1
  have DW : Hid (Below w.heap.size w w.drew) := hid (below_drewN w 1)
  go_enter Tryz.func17, Tryz.ntmps17
  go_wp2_with fail
  go_region_held3 (fun _ => True) (trivial) (first
    | (go_at_call 5; with_reducible refine (new_ok WB).mono ?_; rintro e W0 ⟨p, gm, gk, rfl, pu, hp, hgm, hgk, hb⟩; have KR := hid (kB.out.below hb); have HPU := hid pu; have BB : Hid (Below w.heap.size w W0) := hid (below_next NB.out hb); obtain ⟨g, hg⟩ : ∃ g, w.heap.size = g := ⟨_, rfl⟩; rw [hg] at KR; have GE : Hid (w.heap.size ≤ g ∧ w.heap.size ≤ p ∧ w.heap.size ≤ gm ∧ w.heap.size ≤ gk ∧ g ≠ p ∧ g ≠ gm ∧ g ≠ gk) := hid (by have h1 := kB.out.lt; have := NB.out.size; refine ⟨by omega, by omega, by omega, by omega, by omega, by omega, by omega⟩); clear pu hb hp hgm hgk)
    | (go_at_call 5; with_reducible refine (new_ok w.drew).mono ?_; rintro e W1 ⟨p, gm, gk, rfl, pu, hp, hgm, hgk, hb⟩; obtain ⟨g, hg⟩ : ∃ g, W1.heap.size = g := ⟨_, rfl⟩; obtain ⟨W0, hW0⟩ : ∃ W, W1.alloc (.cells (Array.replicate n (.slice none 0 0)) 33) = W := ⟨_, rfl⟩; have KR : Hid (Blk W0 g (List.replicate n (.slice none 0 0)) 33) := hid (by rw [← hW0]; exact Blk.newAt W1 _ (List.replicate n (.slice none 0 0)) _ g hg.symm (by simp)); have HPU : Hid (PU W0 p gm gk P00) := hid (by rw [← hW0]; exact pu.below (below_alloc _ _)); have BB : Hid (Below w.heap.size w W0) := hid (by rw [← hW0]; exact below_next (below_next DW.out hb) (below_alloc _ _)); have GE : Hid (w.heap.size ≤ g ∧ w.heap.size ≤ p ∧ w.heap.size ≤ gm ∧ w.heap.size ≤ gk ∧ g ≠ p ∧ g ≠ gm ∧ g ≠ gk) := hid (by have h1 := pu.lt; have h2 := hb.size; have h3 := DW.out.size; refine ⟨by omega, by omega, by omega, by omega, by omega, by omega, by omega⟩); clear pu hb hp hgm hgk))
  all_goals
    clear mk
    try clear hW0
    try clear hWB
    try clear hg
    go_wp2_with fail
    go_loopw [13] (fun x wr => ∃ k : Nat, k ≤ n ∧ x = .int .i64 k ∧ PU wr p gm gk (aft P00 (lf f k)) ∧ (∃ (u : Nat → Value) (B : Nat → Nat), Blk wr g (fc_ (.slice none 0 0) u n k) 33 ∧ ∀ i, i < k → (Own wr (B i) (u i) (rr f i) ∧ w.heap.size ≤ B i ∧ ∀ j, j < i → ∀ q, (u j).ownBlock = some q → q < B i)) ∧ Below w.heap.size w wr) (fun x _ => n - (RowKit.intOf x).toNat)
    case atStart => exact ⟨0, Nat.zero_le _, rfl, HPU.out, ⟨fun _ => .slice none 0 0, fun _ => 0, by rw [fc_zero]; exact KR.out, fun i hi => by omega⟩, BB.out⟩
    case round =>
      obtain ⟨k, hk, rfl, hpu, ⟨u, B, hbk, hou⟩, hbel⟩ := hrel
      have HP1 := hid hpu
      have HB1 := hid hbk
      have HO1 := hid hou
      have HB := hid hbel
      clear hpu hbk hou hbel KR HPU BB
      by_cases hlt : k < n
      · obtain ⟨b, off, rfl, ld⟩ := H.out.ldB hlt
        have x0 := ld wr HB.out
        have hin := HS.out k hlt
        obtain ⟨s, hs⟩ : ∃ s, f k = s := ⟨_, rfl⟩
        have cke : rr f k = row (aft P00 (lf f k)) s := by unfold rr; rw [hs]
        rw [hs] at x0 hin
        have rc := fun V (hb : Below wr.heap.size wr V) => do_ok p gm gk _ s V (HP1.out.below hb) hin (st_ok f k) (st_mg f k (by omega))
        have e1 := aft_next f k
        rw [hs] at e1
        rw [← e1, ← cke] at rc
        clear e1 ld hs cke
        obtain ⟨sk, sh, sa, sc, so, sd, sm⟩ := s
        have RC : Hid (∀ V, Below wr.heap.size wr V → Calls Tryz.prog 8 #[.pointer (some ⟨p, 0, none⟩), .agg #[.int .u8 sk, .int .i64 sh, .int .u8 sa, .int .i64 sc, .int .i64 so, .int .i64 sd, .int .i64 sm]] V fun e w2 => ∃ v, e = .returned (.tuple #[v, .int .i64 _]) ∧ Own w2 V.heap.size v (rr f k) ∧ PU w2 p gm gk (aft P00 (lf f (k + 1))) ∧ Kp (fun j => j = gm) V w2) := hid rc
        obtain ⟨V1, s1, k1, b1⟩ := new_sk wr ⟨sk, sh, sa, sc, so, sd, sm⟩
        have l1 := LDk_run k1
        have NV := hid b1
        have kn : (k : Int) < (n : Int) := by omega
        have kz : (0 : Int) ≤ (k : Int) := by omega
        clear rc k1 b1
        go_wp2_with fail
        clear s1 x0
        refine (RC.out _ NV.out).mono ?_
        rintro e W3 ⟨vk, rfl, hov, hp3, hk3⟩
        have gn := GE.out
        have kg3 := (HB1.out.below NV.out).kept hk3 (fun e => by have e : g = gm := e; omega)
        have cg := kg3.cell k _ (by rw [fc_get _ _ _ _ _ hlt, if_neg (Nat.lt_irrefl k)])
        have fg := kg3.frozen k
        obtain ⟨va, vn, vc, rfl⟩ := hov.isSlice
        obtain ⟨W4, hW4⟩ : ∃ W', W3.setCell ⟨g, k, none⟩ (.slice va vn vc) = W' := ⟨_, rfl⟩
        have q4 : Kp (fun j => j = g) W3 W4 := by rw [← hW4]; exact Kp.setCell _ _ _
        have K4 : Hid (∃ (u : Nat → Value) (B : Nat → Nat), Blk W4 g (fc_ (.slice none 0 0) u n (k + 1)) 33 ∧ ∀ i, i < k + 1 → (Own W4 (B i) (u i) (rr f i) ∧ w.heap.size ≤ B i ∧ ∀ j, j < i → ∀ q, (u j).ownBlock = some q → q < B i)) := hid ⟨fun i => if i = k then .slice va vn vc else u i, fun i => if i = k then wr.heap.size else B i, by
          have e : fc_ (.slice none 0 0) u n k = fc_ (.slice none 0 0) (fun i => if i = k then .slice va vn vc else u i) n k := by
            unfold fc_
            apply List.map_congr_left
            intro i _
            by_cases h : i < k
            · rw [if_pos h, if_pos h]; exact (if_neg (by omega)).symm
            · rw [if_neg h, if_neg h]
          rw [← hW4, ← fc_set, if_pos rfl, ← e]
          exact kg3.set k _, fun i hi => by
          by_cases h : i = k
          · subst h
            show Own W4 (if i = i then wr.heap.size else B i) (if i = i then (.slice va vn vc : Value) else u i) (rr f i) ∧ w.heap.size ≤ (if i = i then wr.heap.size else B i) ∧ ∀ j, j < i → ∀ q, (if j = i then (.slice va vn vc : Value) else u j).ownBlock = some q → q < (if i = i then wr.heap.size else B i)
            rw [if_pos rfl, if_pos rfl]
            refine ⟨(hov.base NV.out.size).kept q4 (fun j hj e => own_nt (hov.base (Nat.zero_le _)) kg3 (by decide) j hj e), HB.out.size, fun j hj q hq => ?_⟩
            rw [if_neg (by omega)] at hq
            exact ((HO1.out j hj).1.lt q hq).2
          · show Own W4 (if i = k then wr.heap.size else B i) (if i = k then (.slice va vn vc : Value) else u i) (rr f i) ∧ w.heap.size ≤ (if i = k then wr.heap.size else B i) ∧ ∀ j, j < i → ∀ q, (if j = k then (.slice va vn vc : Value) else u j).ownBlock = some q → q < (if i = k then wr.heap.size else B i)
            rw [if_neg h, if_neg h]
            obtain ⟨o1, m1, m2⟩ := HO1.out i (by omega)
            have o2 := o1.below NV.out
            have o3 := o2.kept hk3 (fun j hj e => own_nb (o2.base (Nat.zero_le _)) (HP1.out.map.below NV.out) j hj e)
            exact ⟨o3.kept q4 (fun j hj e => own_nt (o3.base (Nat.zero_le _)) kg3 (by decide) j hj e), m1, fun j hj q hq => by
              rw [if_neg (by omega)] at hq
              exact m2 j hj q hq⟩⟩
        have P4 := hid (hp3.kept q4 (fun e => by have e : p = g := e; omega) (fun e => by have e : gm = g := e; omega) (fun e => by have e : gk = g := e; omega))
        have wz := NV.out.size
        have wz2 := HB.out.size
        have B3 := hid (HB.out.trans ((Below.mono NV.out HB.out.size).trans ((hk3.below (B := w.heap.size) (by omega) (fun j hj e => by
          have e : j = gm := e; omega)).trans (q4.below (by have := hk3.size; omega) (fun j hj e => by have e : j = g := e; omega)))))
        clear wz wz2 kg3 q4 gn hov hp3 hk3
        go_wp2
        go_roundw
        case rel => exact ⟨k + 1, by omega, by go_num, P4.out, K4.out, B3.out⟩
        case measure => simp [RowKit.intOf]; omega
      · have e : k = n := by omega
        subst e
        have K9 := HB1.out
        rw [fc_full] at K9
        have K9 := hid K9
        have G1 := hid GE.out.1
        go_wp2
        go_ret
        exact ⟨g, u, rfl, K9.out, ⟨B, fun i hi => HO1.out i hi⟩, G1.out, HB.out⟩
end Go.Proofs.YtdmacflcjbkkpaaGreat.Co
