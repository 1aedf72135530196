/- A new Public; one that is none; what Do tells. -/
import Derived.Test.YtdmacflcjbkkpaaGreatCmx
import Derived.Laws.Cover3
import Derived.Carry
namespace Go.Proofs.YtdmacflcjbkkpaaGreat.Co
open Go.ChangeShapes Go.WideShapes Go.ChangeAt Go.RowKit
open Go.Proofs.YtdmacflcjbkkpaaGreat (putL)
open Go.Proofs.YtdmacflcjbkkpaaGreat.Ou (Sk sv sL LDk SVk LDk_run SVk_run)
open Go.Proofs.YtdmacflcjbkkpaaGreat.Tb (Blk Blk.newAt put_all Kp.setCells results_cell1 results_cell2)
@[go_sem ↓ high] theorem eqm_ (m : Option Nat) (w : World) : (binOp .eql 57 (.map m) (.map none)).run Tryz.prog w = .ok (.bool m.isNone) w := by
  simp only [binOp]
  simp [run_equal_map_nil w 57 3 82 m Tryz.underlying57]
set_option maxRecDepth 8000 in
set_option maxHeartbeats 1600000 in
theorem kinds_ok (w : World) : Calls Tryz.prog 26 #[] w fun e w' => e = .returned (.slice (some ⟨w.heap.size, 0, none⟩) 11 11) ∧ w' = w.alloc (.cells ktab.toArray 93) := by
  go_enter Tryz.func26, Tryz.ntmps26
  go_wp2
  go_ret
  exact ⟨rfl, rfl⟩
set_option maxRecDepth 8000 in
set_option maxHeartbeats 1600000 in
theorem new_ok (w : World) : Calls Tryz.prog 5 #[] w fun e w' => ∃ p gm gk, e = .returned (.pointer (some ⟨p, 0, none⟩)) ∧ PU w' p gm gk (fun _ => none) ∧ w.heap.size ≤ p ∧ w.heap.size ≤ gm ∧ w.heap.size ≤ gk ∧ Below w.heap.size w w' := by
  have hmm := @run_makeMap Tryz.prog
  go_enter Tryz.func5, Tryz.ntmps5
  go_wp2_with fail
  refine (kinds_ok _).mono ?_
  rintro e W1 ⟨rfl, rfl⟩
  go_wp2
  go_ret
  have b1 := below_alloc w (.map #[] 0)
  have b2 := below_alloc (w.alloc (.map #[] 0)) (.cells ktab.toArray 93)
  have m1 := (MP.new w).below b2
  have k1 : Blk ((w.alloc (.map #[] 0)).alloc (.cells ktab.toArray 93)) (w.heap.size + 1) ktab 93 := Blk.newAt (w.alloc _) _ _ _ (w.heap.size + 1) (by simp) rfl
  refine ⟨w.heap.size + 1 + 1, w.heap.size, w.heap.size + 1, ?_, ⟨?_, m1.below (below_alloc _ _), k1.alloc _⟩, by omega, Nat.le_refl _, by omega, below_next (below_next b1 b2) (below_alloc _ _)⟩
  · first | rfl | simp
  · exact Blk.newAt ((w.alloc _).alloc _) _ _ _ (w.heap.size + 1 + 1) (by simp) rfl
set_option maxRecDepth 8000 in
set_option maxHeartbeats 1600000 in
theorem isNone_no (p gm gk : Nat) (P : St) (w : World) (hp : PU w p gm gk P) : Calls Tryz.prog 27 #[.pointer (some ⟨p, 0, none⟩)] w fun e w' => e = .returned (.bool false) ∧ w' = w := by
  have x0 := hp.c0
  go_enter Tryz.func27, Tryz.ntmps27
  go_wp2
  go_ret
  exact ⟨rfl, rfl⟩
set_option maxRecDepth 8000 in
theorem isNone_nil (w : World) : Calls Tryz.prog 27 #[.pointer none] w fun e w' => e = .returned (.bool true) ∧ w' = w := by
  go_enter Tryz.func27, Tryz.ntmps27
  go_wp2
  go_ret
  exact ⟨rfl, rfl⟩
set_option maxRecDepth 8000 in
theorem isNone_zero (p : Nat) (u : Value) (w : World) (h : Blk w p [.map none, u] 61) : Calls Tryz.prog 27 #[.pointer (some ⟨p, 0, none⟩)] w fun e w' => e = .returned (.bool true) ∧ w' = w := by
  have x0 := h.cell 0 _ rfl
  go_enter Tryz.func27, Tryz.ntmps27
  go_wp2
  go_ret
  exact ⟨rfl, rfl⟩
theorem rm_nil (m : Nat) (h : m ≤ 100) : Rm [] m := ⟨by show (0 : Int) + _ ≤ _; omega, by show 0 + m ≤ _; omega, fun q hq => by simp at hq⟩
theorem row_rb {P : St} {s : Sk} : (row P s).foldl putL [] = row P s := by
  have h := row_ok P s
  have := fold_nb (row P s) [] h.2 (by simpa using h.1)
  simpa using this
set_option maxRecDepth 8000 in
set_option maxHeartbeats 1600000 in
theorem do_ok (p gm gk : Nat) (P : St) (s : Sk) (w : World) (hp : PU w p gm gk P) (hs : SkIn s) (hP : P.Ok) (hg : Mg 1000000000000 P) :
    Calls Tryz.prog 8 #[.pointer (some ⟨p, 0, none⟩), sv s] w fun e w' => ∃ v, e = .returned (.tuple #[v, .int .i64 (cod P (clp s))]) ∧ Own w' w.heap.size v (row P s) ∧ PU w' p gm gk (stp P s) ∧ Kp (fun j => j = gm) w w' := by
  obtain ⟨sk, sh, sa, sc, so, sd, sm⟩ := s
  obtain ⟨W, hW⟩ : ∃ W, w.alloc (.cells #[.int .u8 sk, .int .i64 sh, .int .u8 sa, .int .i64 sc, .int .i64 so, .int .i64 sd, .int .i64 sm] 40) = W := ⟨_, rfl⟩
  have BW : Hid (Below w.heap.size w W) := by rw [← hW]; exact below_alloc _ _
  have KB : Hid (Blk W w.heap.size [.int .u8 sk, .int .i64 sh, .int .u8 sa, .int .i64 sc, .int .i64 so, .int .i64 sd, .int .i64 sm] 40) := by rw [← hW]; exact Blk.newAt w _ _ _ w.heap.size rfl rfl
  have HP := hid (hp.below BW.out)
  have HS := hid hs
  have HK := hid hP
  have HG := hid hg
  have GL := hid hp.lt
  clear hp hs hP hg
  go_enter Tryz.func8, Tryz.ntmps8
  go_wp2_with fail
  clear hW
  refine (isNone_no p gm gk P _ HP.out).mono ?_
  rintro e w' ⟨rfl, rfl⟩
  go_wp2_with fail
  refine (new9 _).mono ?_
  rintro e W1 ⟨rfl, hl, hb⟩
  have N1 := hid hb
  have HL : Hid (LdO W1 (some (w'.heap.size, .slice none 0 0)) []) := hid hl
  have x1 : (LDk ⟨w.heap.size, 0, none⟩).run Tryz.prog W1 = .ok _ W1 := LDk_run (s := ⟨sk, sh, sa, sc, so, sd, sm⟩) (KB.out.below hb)
  have ap : Apo (some (w'.heap.size, .slice none 0 0)) p gm gk := fun j hj => by
    have h1 := GL.out; have h2 := BW.out.size
    rcases hj with e | e
    · have e : j = w'.heap.size := e; omega
    · cases e
  have rc := record_ok p gm gk P ⟨sk, sh, sa, sc, so, sd, sm⟩ (some (w'.heap.size, .slice none 0 0)) [] W1 (HP.out.below hb) hl ap HS.out HK.out HG.out (rm_nil 8 (by decide))
  have RC : Hid (Calls Tryz.prog 29 #[.pointer (some ⟨p, 0, none⟩), .pointer (some ⟨w'.heap.size, 0, none⟩), .agg #[.int .u8 sk, .int .i64 sh, .int .u8 sa, .int .i64 sc, .int .i64 so, .int .i64 sd, .int .i64 sm]] W1 fun e w2 => e = .returned (.int .i64 (cod P (clp ⟨sk, sh, sa, sc, so, sd, sm⟩))) ∧ ∃ lo', CT W1 w2 p gm gk (stp P ⟨sk, sh, sa, sc, so, sd, sm⟩) (some (w'.heap.size, .slice none 0 0)) lo' ((row P ⟨sk, sh, sa, sc, so, sd, sm⟩).foldl putL [])) := hid rc
  have AP := hid ap
  clear hl hb rc ap
  go_wp2_with fail
  refine RC.out.mono ?_
  rintro e W2 ⟨rfl, l2, c2⟩
  have rr := row_rb (P := P) (s := ⟨sk, sh, sa, sc, so, sd, sm⟩)
  rw [rr] at c2
  obtain ⟨b2, v2, rfl⟩ : ∃ b v, l2 = some (b, v) := by
    cases l2 with
    | none => have := c2.ptr; simp [lpo] at this
    | some x => exact ⟨x.1, x.2, rfl⟩
  obtain rfl : b2 = w'.heap.size := by have := c2.ptr; simpa [lpo] using this
  have C2 := hid c2
  have rl := row_len P ⟨sk, sh, sa, sc, so, sd, sm⟩
  have RU := hid (runs22 w'.heap.size v2 _ W2 c2.led (by omega))
  clear c2 rr rl
  go_wp2_with fail
  refine RU.out.mono ?_
  rintro e W3 ⟨v, rfl, ho, hb⟩
  have HO := hid ho
  have N3 := hid hb
  clear ho hb
  go_wp2
  refine bodyPost_ret (results_tmp2 rfl _ _ _) rfl ?_
  have ksz := C2.out.kp.size
  refine ⟨v, rfl, HO.out.base (by have := BW.out.size; have := N1.out.size; omega), C2.out.pu.below N3.out, ?_⟩
  have k2 : Kp (fun j => j = gm) w W2 := ((Kp.of_below (fun j => j = gm) (below_next BW.out N1.out))).trans (S := fun j => j = gm) (T := fun j => j = gm ∨ blo (some (w'.heap.size, .slice none 0 0)) j) C2.out.kp (fun i hi e => e.elim id (fun e => by
    have h2 := BW.out.size
    rcases e with e | e
    · have e : i = w'.heap.size := e; omega
    · cases e))
  exact k2.trans (Kp.of_below (fun _ => False) N3.out) (fun _ _ e => e.elim)
end Go.Proofs.YtdmacflcjbkkpaaGreat.Co
