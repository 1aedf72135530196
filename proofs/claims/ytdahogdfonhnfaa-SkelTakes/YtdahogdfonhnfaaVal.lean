/- The skeletons of a list of operations, of both. -/
import Derived.Test.YtdahogdfonhnfaaVls2
import Derived.Test.YtdahogdfonhnfaaVlo2
import Derived.Test.YtdahogdfonhnfaaVro
import Derived.Deep.RegionHeld3
namespace Go.Proofs.Ytdahogdfonhnfaa.Sx
open Go.ChangeShapes Go.WideShapes Go.ChangeAt Go.RowKit
open Go.Proofs.Ytdahogdfonhnfaa.By (hid)
open Go.Proofs.Ytdahogdfonhnfaa.Ou (Sk sL sv LDk SVk sL_one infok zS OE ov LDo SVo ps sk of_ok rof_ok var_op zA)
open Go.Proofs.Ytdahogdfonhnfaa.Tb (put put_get put_length)
theorem made_eq (n : Nat) : madeCells (sv zS).cells (n * 7) = (sl n (fun _ => zS)).toArray := by
  apply Array.toList_inj.1
  apply List.ext_getElem?
  intro p
  by_cases hp : p < n * 7
  · have h1 : (madeCells (sv zS).cells (n * 7)).toList[p]? = some ((sv zS).cells[p % (sv zS).cells.size]!) := by simp [madeCells, hp]
    have e : p = p / 7 * 7 + p % 7 := by omega
    have h2 := sl_get n (fun _ => zS) (p / 7) (p % 7) (by omega) (by omega)
    rw [← e] at h2
    rw [h1, h2]
    have hs : (sv zS).cells.size = 7 := rfl
    rw [hs]
    have hr : p % 7 < 7 := Nat.mod_lt _ (by decide)
    match p % 7, hr with
    | 0, _ => rfl
    | 1, _ => rfl
    | 2, _ => rfl
    | 3, _ => rfl
    | 4, _ => rfl
    | 5, _ => rfl
    | 6, _ => rfl
  · rw [List.getElem?_eq_none (by rw [Array.length_toList, size_madeCells]; omega), List.getElem?_eq_none (by rw [sl_length]; omega)]
theorem make_sk (n : Nat) (hn : n * 56 ≤ 140737488355328) (w : World) : (Instr.makeSlice 35 (.int .i64 n) (.int .i64 n)).run Try.prog w = .ok (.slice (some ⟨w.heap.size, 0, none⟩) n n) (w.alloc (.cells (sl n (fun _ => zS)).toArray 33)) := by
  obtain ⟨i0, hi, hz0, hz1, hz2⟩ := info_parts infoS
  have hr := run_make (P := Try.prog) w 35 33 i0 (sv zS) Try.underlying35 hi hz0 .i64 .i64 n n (by omega) (by omega) (by rw [hz2]; omega) (by omega)
  simp only [Int.toNat_natCast, hz1, made_eq] at hr
  exact hr
theorem own_made (w : World) (n : Nat) (f : Nat → Sk) (hn : n ≤ maxLen) : Own (w.alloc (.cells (sl n f).toArray 33)) w.heap.size (.slice (some ⟨w.heap.size, 0, none⟩) n n) n f :=
  World.ownsRow_lit (base := w.heap.size) (e := 33) (size := 7) w (sl n f).toArray n (Nat.le_refl _) hn (by simp [sl_length])
/-- The skeleton of an operation that is handed in. -/
def skO (y : OE) : Sk := ps (sk y.q y.dn y.mn)
set_option maxRecDepth 8000 in
set_option maxHeartbeats 1200000 in
theorem all_ok (v : Value) (n : Nat) (y : Nat → OE) (w : World) (h : Ox.RB w v n y) (hk : ∀ i, i < n → 0 ≤ (y i).q.k ∧ (y i).q.k < 256) (hn : n * 56 ≤ 140737488355328) :
    Calls Try.prog 11 #[v] w fun e w' => ∃ v', e = .returned v' ∧ Own w' w.heap.size v' n (fun i => skO (y i)) ∧ Below w.heap.size w w' := by
  obtain ⟨a, c, rfl⟩ := h.isSl
  have mk := make_sk n hn w
  have om := own_made w n (fun _ => zS) (by simp [maxLen]; omega)
  have bm := below_alloc w (.cells (sl n (fun _ => zS)).toArray 33)
  obtain ⟨W, hW⟩ : ∃ W, w.alloc (.cells (sl n (fun _ => zS)).toArray 33) = W := ⟨_, rfl⟩
  rw [hW] at mk om bm
  have H := hid h
  have HK := hid hk
  have OM := hid om
  have BM := hid bm
  have n1 : n ≤ 100000000000000 := by omega
  clear h hk om bm hW hn
  go_enter Try.func11, Try.ntmps11
  go_wp2
  go_loopw [11] (fun x wr => ∃ k : Nat, k ≤ n ∧ x = .int .i64 k ∧ Own wr w.heap.size (.slice (some ⟨w.heap.size, 0, none⟩) n n) n (fun i => if i < k then skO (y i) else zS) ∧ Below w.heap.size w wr) (fun x _ => n - (intOf x).toNat)
  case atStart => exact ⟨0, Nat.zero_le _, rfl, own_congr OM.out (fun i _ => by rw [if_neg (by omega)]), BM.out⟩
  case round =>
    obtain ⟨k, hk, rfl, hown, hbel⟩ := hrel
    clear OM BM
    have HO := hid hown
    have HB := hid hbel
    clear hown hbel
    by_cases hlt : k < n
    · obtain ⟨b, off, rfl, ld⟩ := H.out.ldB hlt
      have hq := HK.out k hlt
      obtain ⟨x, ex⟩ : ∃ x, y k = x := ⟨_, rfl⟩
      rw [ex] at ld hq
      have EX := hid ex
      clear ex
      have x0 := ld wr HB.out
      clear ld
      obtain ⟨W1, s1, k1, b1, _⟩ := var_op wr x.q (d := .slice x.da x.dn x.dc) (m := .slice x.ma x.mn x.mc) rfl rfl
      have l1 := Ou.LDo_run k1
      have OF := hid (of_ok x.q x.da x.ma x.dn x.dc x.mn x.mc W1 hq)
      obtain ⟨s, es⟩ : ∃ s, ps (sk x.q x.dn x.mn) = s := ⟨_, rfl⟩
      rw [es] at OF
      have ES : Hid (skO (y k) = s) := by show skO (y k) = s; rw [EX.out]; exact es
      replace HO := hid (own_below HO.out b1)
      replace HB := hid (below_next HB.out b1)
      clear b1 k1 es hq
      go_wp2_with fail
      clear s1 x0 l1
      refine OF.out.mono ?_
      rintro e W2 ⟨rfl, hb⟩
      replace HO := hid (own_below HO.out hb)
      replace HB := hid (below_next HB.out hb)
      obtain ⟨s3, o3, k3⟩ := own_put HO.out hlt s
      obtain ⟨W3, hW3⟩ : ∃ V, W2.setCells w.heap.size (k * 7) (sL s) = V := ⟨_, rfl⟩
      rw [hW3] at s3 o3 k3
      have O3 := hid (own_congr o3 (g := fun i => if i < k + 1 then skO (y i) else zS) (fun i _ => by
        unfold upd
        by_cases e : i = k
        · subst e; rw [if_pos rfl, if_pos (by omega)]; exact ES.out.symm
        · rw [if_neg e]
          show (if i < k then skO (y i) else zS) = if i < k + 1 then skO (y i) else zS
          by_cases h2 : i < k
          · rw [if_pos h2, if_pos (by omega)]
          · rw [if_neg h2, if_neg (by omega)]))
      have B3 := hid (HB.out.trans (k3.below HB.out.size (fun j hj e => by omega)))
      clear hb o3 k3 HO HB OF hW3
      go_wp2
      go_roundw
      case rel => exact ⟨k + 1, by omega, by go_num, O3.out, B3.out⟩
      case measure => simp [intOf]; omega
    · have e : k = n := by omega
      subst e
      have F := hid (own_congr HO.out (g := fun i => skO (y i)) (fun i hi => if_pos hi))
      go_wp2
      go_ret
      exact ⟨_, rfl, F.out, HB.out⟩
set_option maxRecDepth 8000 in
set_option maxHeartbeats 1200000 in
theorem rall_ok (v : Value) (n : Nat) (y : Nat → OE) (w : World) (h : Ox.RB w v n y) (hn : n * 56 ≤ 140737488355328) :
    Calls Try.prog 12 #[v] w fun e w' => ∃ v', e = .returned v' ∧ Own w' w.heap.size v' n (fun i => skO (y i)) ∧ Below w.heap.size w w' := by
  obtain ⟨a, c, rfl⟩ := h.isSl
  have H := hid h
  have HN := hid hn
  have n1 : n ≤ 100000000000000 := by omega
  clear h hn
  go_enter Try.func12, Try.ntmps12
  go_wp2
  go_loopw [3, 4] (fun v x wr => ∃ k : Nat, k ≤ n ∧ x = .int .i64 k ∧ Own wr w.heap.size v k (fun i => skO (y i)) ∧ Below w.heap.size w wr) (fun _ x _ => n - (intOf x).toNat)
  case atStart => exact ⟨0, Nat.zero_le _, rfl, own_nil _ _ _, Below.refl _ _⟩
  case round =>
    obtain ⟨k, hk, rfl, hown, hbel⟩ := hrel
    have HO := hid hown
    have HB := hid hbel
    clear hown hbel
    by_cases hlt : k < n
    · obtain ⟨b, off, rfl, ld⟩ := H.out.ldB hlt
      obtain ⟨x, ex⟩ : ∃ x, y k = x := ⟨_, rfl⟩
      rw [ex] at ld
      have EX := hid ex
      clear ex
      have x0 := ld wr HB.out
      clear ld
      have OF := hid (rof_ok x.q x.da x.ma x.dn x.dc x.mn x.mc wr)
      obtain ⟨s, es⟩ : ∃ s, ps (sk x.q x.dn x.mn) = s := ⟨_, rfl⟩
      rw [es] at OF
      have ES : Hid (skO (y k) = s) := by show skO (y k) = s; rw [EX.out]; exact es
      clear es
      go_wp2_with fail
      clear x0
      refine OF.out.mono ?_
      rintro e W2 ⟨rfl, hb⟩
      replace HO := hid (own_below HO.out hb)
      replace HB := hid (below_next HB.out hb)
      have HR := hid (show (k + 1) * 56 ≤ 140737488355328 from Nat.le_trans (Nat.mul_le_mul_right 56 hlt) HN.out)
      clear hb OF
      go_wp2_with (at_builtin; go_must (refine wpList_pushK rfl _ _ rfl w.heap.size k _ (fun i => skO (y i)) s HO.out HR.out ES.out HB.out.size rfl rfl ?_))
      intro v' w3 hown hgrow
      have R := hid hown
      have RB := hid (below_push HB.out HB.out.size HO.out hgrow)
      clear hown hgrow HO HB
      go_wp2
      go_roundw
      case rel => exact ⟨k + 1, by omega, by go_num, R.out, RB.out⟩
      case measure => simp [intOf]; omega
    · have e : k = n := by omega
      subst e
      go_wp2
      go_ret
      exact ⟨_, rfl, HO.out, HB.out⟩
end Go.Proofs.Ytdahogdfonhnfaa.Sx
