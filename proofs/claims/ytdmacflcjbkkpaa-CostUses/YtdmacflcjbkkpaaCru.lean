/- Runs: the ledger of a list of skeletons. -/
import Derived.Test.YtdmacflcjbkkpaaCnw
import Derived.Test.YtdmacflcjbkkpaaCls
namespace Go.Proofs.Ytdmacflcjbkkpaa.Co
open Go.ChangeShapes Go.WideShapes Go.ChangeAt Go.RowKit
open Go.Proofs.Ytdmacflcjbkkpaa (putL Pos tot)
open Go.Proofs.Ytdmacflcjbkkpaa.Ou (Sk sv sL zS LDk SVk LDk_run SVk_run)
open Go.Proofs.Ytdmacflcjbkkpaa.Tb (Blk Blk.newAt put_all Kp.setCells results_cell1 results_cell2)
/-- The first k of them. -/
def lf (f : Nat → Sk) (k : Nat) : List Sk := (List.range k).map f
theorem lf_succ (f : Nat → Sk) (k : Nat) : lf f (k + 1) = lf f k ++ [f k] := by simp [lf, List.range_succ]
theorem lf_len (f : Nat → Sk) (k : Nat) : (lf f k).length = k := by simp [lf]
/-- What is public of an empty vault. -/
abbrev P00 : St := fun _ => none
theorem tt_tot (L : List Ru) : tt L = tot L := by
  induction L with
  | nil => rfl
  | cons r L ih => show r.c + tt L = r.c + tot L; rw [ih]
theorem st_ok (f : Nat → Sk) (k : Nat) : (aft P00 (lf f k)).Ok := aft_ok start_ok _
theorem st_mg (f : Nat → Sk) (k : Nat) (hk : k ≤ 1000) : Mg 1000000000000 (aft P00 (lf f k)) := fun i h e => by
  have := mg_aft (P := P00) (lf f k) (b := 0) (Int.le_refl 0) (fun i h e => by cases e) i h e
  rw [lf_len] at this
  omega
theorem jn_rm (f : Nat → Sk) (k : Nat) (hk : k ≤ 1000) : Rm (jn [] (rws P00 (lf f k))) 8 := by
  have h := jn_rws (lf f k) P00 [] start_ok (fun q hq => by simp at hq) (by rw [lf_len]; simp only [tt]; omega)
  rw [lf_len] at h
  simp only [tt, List.length_nil] at h
  refine ⟨by rw [← tt_tot]; omega, by omega, fun q hq => h.1 q hq⟩
theorem aft_next (f : Nat → Sk) (k : Nat) : aft P00 (lf f (k + 1)) = stp (aft P00 (lf f k)) (f k) := by rw [lf_succ, aft_snoc]
theorem jn_next (f : Nat → Sk) (k : Nat) : jn [] (rws P00 (lf f (k + 1))) = (row (aft P00 (lf f k)) (f k)).foldl putL (jn [] (rws P00 (lf f k))) := by rw [lf_succ, rws_snoc, jn_snoc]
/-- A skeleton's variable, new. -/
theorem new_sk (w : World) (s : Sk) : ∃ W1, (SVk ⟨w.heap.size, 0, none⟩ (sv s)).run Try.prog (w.alloc (.cells (sL zS).toArray 25)) = .ok () W1 ∧ Blk W1 w.heap.size (sL s) 25 ∧ Below w.heap.size w W1 := by
  obtain ⟨W1, s1, k1, hk1⟩ := SVk_run s (Blk.newAt w (sL zS).toArray (sL zS) 25 w.heap.size rfl rfl) rfl
  exact ⟨W1, s1, k1, (below_alloc w _).trans (hk1.below (by simp) (fun k h e => by omega))⟩
set_option maxRecDepth 8000 in
set_option maxHeartbeats 1600000 in
theorem runs_ok (v : Value) (n : Nat) (f : Nat → Sk) (w : World) (h : Sx.RB w v n f) (hs : ∀ i, i < n → SkIn (f i)) (hn : n ≤ 1000) :
    Calls Try.prog 18 #[v] w fun e w' => ∃ v', e = .returned v' ∧ Own w' w.heap.size v' (jn [] (rws P00 (lf f n))) ∧ Below w.heap.size w w' := by
  obtain ⟨a, c, rfl⟩ := h.isSl
  have H := hid h
  have HS := hid hs
  have HN := hid hn
  have n1 : n ≤ 100000000000000 := by omega
  clear h hs
  go_enter Try.func18, Try.ntmps18
  go_wp2_with fail
  refine (new_ok _).mono ?_
  rintro e W1 ⟨p, gm, gk, rfl, pu, hp, hgm, hgk, hb⟩
  have N1 := hid hb
  go_wp2_with fail
  refine (new9 _).mono ?_
  rintro e W2 ⟨rfl, hl, hb2⟩
  have pl := pu.lt
  have A0 : Apo (some (W1.heap.size, .slice none 0 0)) p gm gk := fun j hj => by
    rcases hj with e | e
    · have e : j = W1.heap.size := e; omega
    · cases e
  have ST : Hid (∃ rv, PU W2 p gm gk (aft P00 (lf f 0)) ∧ LdO W2 (some (W1.heap.size, rv)) (jn [] (rws P00 (lf f 0))) ∧ Apo (some (W1.heap.size, rv)) p gm gk ∧ ∀ j, rv.ownBlock = some j → w.heap.size ≤ j) := hid ⟨_, pu.below hb2, hl, A0, fun j e => by cases e⟩
  have B2 := hid (below_next hb hb2)
  have GE : Hid (w.heap.size ≤ W1.heap.size ∧ w.heap.size ≤ p ∧ w.heap.size ≤ gm ∧ w.heap.size ≤ gk) := hid ⟨hb.size, hp, hgm, hgk⟩
  obtain ⟨lb, hlb⟩ : ∃ lb, W1.heap.size = lb := ⟨_, rfl⟩
  rw [hlb] at ST GE
  rw [hlb]
  clear pu hb hb2 hl A0 pl hp hgm hgk hlb
  go_wp2_with fail
  go_loopw [11] (fun x wr => ∃ k : Nat, k ≤ n ∧ x = .int .i64 k ∧ (∃ rv, PU wr p gm gk (aft P00 (lf f k)) ∧ LdO wr (some (lb, rv)) (jn [] (rws P00 (lf f k))) ∧ Apo (some (lb, rv)) p gm gk ∧ ∀ j, rv.ownBlock = some j → w.heap.size ≤ j) ∧ Below w.heap.size w wr) (fun x _ => n - (RowKit.intOf x).toNat)
  case atStart =>
    obtain ⟨rv, h1, h2, h3, h4⟩ := ST.out
    exact ⟨0, Nat.zero_le _, rfl, ⟨rv, h1, h2, h3, h4⟩, B2.out⟩
  case round =>
    obtain ⟨k, hk, rfl, ⟨rv, hpu, hld, hap, hob⟩, hbel⟩ := hrel
    clear ST
    have HPU := hid hpu
    have HLD := hid hld
    have HAP := hid hap
    have HOB := hid hob
    have HB := hid hbel
    clear hpu hld hap hob hbel
    by_cases hlt : k < n
    · obtain ⟨b, off, rfl, ld⟩ := H.out.ldB hlt
      have x0 := ld wr HB.out
      have hin := HS.out k hlt
      obtain ⟨s, hs⟩ : ∃ s, f k = s := ⟨_, rfl⟩
      rw [hs] at x0 hin
      have rc := fun V (hb : Below wr.heap.size wr V) => record_ok p gm gk _ s (some (lb, rv)) _ V (HPU.out.below hb) (HLD.out.below hb) HAP.out hin (st_ok f k) (st_mg f k (by omega)) (jn_rm f k (by omega))
      have e1 := aft_next f k
      have e2 := jn_next f k
      rw [hs] at e1 e2
      rw [← e1, ← e2] at rc
      have E3 := hid e1
      clear e1 e2 ld hs
      obtain ⟨sk, sh, sa, sc, so, sd, sm⟩ := s
      have RC : Hid (∀ V, Below wr.heap.size wr V → Calls Try.prog 24 #[.pointer (some ⟨p, 0, none⟩), .pointer (some ⟨lb, 0, none⟩), .agg #[.int .u8 sk, .int .i64 sh, .int .u8 sa, .int .i64 sc, .int .i64 so, .int .i64 sd, .int .i64 sm]] V fun e w2 => e = .returned (.int .i64 _) ∧ ∃ lo', CT V w2 p gm gk (aft P00 (lf f (k + 1))) (some (lb, rv)) lo' (jn [] (rws P00 (lf f (k + 1))))) := hid rc
      obtain ⟨V1, s1, k1, b1⟩ := new_sk wr ⟨sk, sh, sa, sc, so, sd, sm⟩
      have l1 := LDk_run k1
      have NV := hid b1
      clear rc k1 b1
      go_wp2_with fail
      clear s1 x0
      refine (RC.out _ NV.out).mono ?_
      rintro e W3 ⟨rfl, l2, c2⟩
      obtain ⟨b2, v2, rfl⟩ : ∃ b v, l2 = some (b, v) := by
        cases l2 with
        | none => have := c2.ptr; simp [lpo] at this
        | some x => exact ⟨x.1, x.2, rfl⟩
      obtain rfl : b2 = lb := by have := c2.ptr; simpa [lpo] using this
      have C2 := hid c2
      clear c2
      have wz := NV.out.size
      have wz2 := HB.out.size
      have g := GE.out
      have B3 := hid (HB.out.trans ((Below.mono NV.out HB.out.size).trans (C2.out.kp.below (by omega) (fun j hj e => by
        rcases e with e | e
        · have e : j = gm := e; omega
        · rcases e with e | e
          · have e : j = b2 := e; omega
          · have := HOB.out j e; omega))))
      have A3 := hid (C2.out.apo (HPU.out.below NV.out) HAP.out)
      have O3 : Hid (∀ j, v2.ownBlock = some j → w.heap.size ≤ j) := hid (fun j hj => by
        rcases C2.out.blk j (.inr hj) with e | e
        · rcases e with e | e
          · have e : j = b2 := e; omega
          · exact HOB.out j e
        · omega)
      clear wz wz2 g
      go_wp2
      go_roundw
      case rel => exact ⟨k + 1, by omega, by go_num, ⟨v2, C2.out.pu, C2.out.led, A3.out, O3.out⟩, B3.out⟩
      case measure => simp [RowKit.intOf]; omega
    · have e : k = n := by omega
      subst e
      have hll := (jn_rws (lf f k) P00 [] start_ok (fun q hq => by simp at hq) (by rw [lf_len]; simp only [tt]; omega)).2.2
      rw [lf_len] at hll
      simp only [List.length_nil] at hll
      have RU := hid (runs22 lb rv _ wr HLD.out (by omega))
      clear hll
      go_wp2_with fail
      refine RU.out.mono ?_
      rintro e W3 ⟨u, rfl, ho, hb⟩
      have HO := hid (ho.base HB.out.size)
      have N3 := hid (HB.out.trans (Below.mono hb HB.out.size))
      clear ho hb
      go_wp2
      go_ret
      exact ⟨u, rfl, HO.out, N3.out⟩
end Go.Proofs.Ytdmacflcjbkkpaa.Co
