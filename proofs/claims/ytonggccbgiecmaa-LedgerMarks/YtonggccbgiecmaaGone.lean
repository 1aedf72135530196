/- The statement's helper 'gone' answers true: the program's All goes over the events of the ledger's runs, as far as 5000 of them. -/
import Derived.Test.YtonggccbgiecmaaRuns
import Derived.Test.YtonggccbgiecmaaLedgerNone
namespace Go.Proofs.Ytonggccbgiecmaa
open Go.ChangeShapes Go.WideShapes Go.ChangeAt Go.RowKit Go.Shelf
attribute [local go_sem] Oper.semAt_some

/-- A variable of one cell. -/
def Cel (W : World) (b : Nat) (v : Value) (t : TypeId) : Prop := W.heap[b]? = some (.cells #[v] t (0, 0))
theorem Cel.lt {W : World} {b : Nat} {v : Value} {t : TypeId} (h : Cel W b v t) : b < W.heap.size := (Array.getElem?_eq_some_iff.1 h).1
theorem Cel.cell {W : World} {b : Nat} {v : Value} {t : TypeId} (h : Cel W b v t) : W.cell? ⟨b, 0, none⟩ = some v := by rw [cell_of_row W b 0 _ t (0, 0) h]; rfl
theorem Cel.frozen {W : World} {b : Nat} {v : Value} {t : TypeId} (h : Cel W b v t) : W.frozen? ⟨b, 0, none⟩ = false := frozen_of_row W b 0 _ t h
theorem Cel.kept {W W' : World} {b : Nat} {v : Value} {t : TypeId} {S : Nat → Prop} (h : Cel W b v t) (hk : Kp S W W') (hn : ¬ S b) : Cel W' b v t := (hk.block b h.lt hn).trans h
theorem Cel.alloc {W : World} {b : Nat} {v : Value} {t : TypeId} (h : Cel W b v t) (o : Obj) : Cel (W.alloc o) b v t := h.kept (Kp.of_below (fun _ => False) (below_alloc W o)) id
theorem Cel.set {W : World} {b : Nat} {v : Value} {t : TypeId} (h : Cel W b v t) (u : Value) : Cel (W.setCell ⟨b, 0, none⟩ u) b u t := by
  show (W.setCell ⟨b, 0, none⟩ u).heap[b]? = _
  rw [heap_setCell_same W b 0 _ t u h]; rfl
theorem Cel.other {W : World} {b b' : Nat} {v : Value} {t : TypeId} (h : Cel W b v t) (hn : b ≠ b') (u : Value) : Cel (W.setCell ⟨b', 0, none⟩ u) b v t := h.kept (Kp.setCell b' 0 u) hn
theorem Cel.own {W W' : World} {b : Nat} {v : Value} {t : TypeId} {row : Option Nat} (h : Cel W b v t) (hg : W.grownBy W' row) (hr : ∀ r, row = some r → ∃ o : Obj, W.heap[r]? = some o ∧ o.isCells = false) : Cel W' b v t := by
  refine (hg.block b h.lt ?_).trans h
  intro e
  obtain ⟨o, ho, hc⟩ := hr _ e.symm
  rw [h] at ho
  cases ho
  simp [Obj.isCells] at hc
theorem Box.own {W W' : World} {A : Nat} {k s : Int} {row : Option Nat} (h : Box W A k s) (hg : W.grownBy W' row) (hr : ∀ r, row = some r → ∃ o : Obj, W.heap[r]? = some o ∧ o.isCells = false) : Box W' A k s := by
  refine (hg.block A h.lt ?_).trans h
  intro e
  obtain ⟨o, ho, hc⟩ := hr _ e.symm
  rw [h] at ho
  cases ho
  simp [Obj.isCells] at hc

/-- How far 'gone' has come: i runs whole, j events of run i. -/
structure GI (w : World) (n0 : Nat) (sl : Value) (L : List Rn) (pre : List (Int × Int)) (W : World) (i : Nat) (r : Rn) (j : Nat) : Prop where
  at_ : L[i]? = some r
  le : j ≤ r.c.toNat
  pre_ : pre = evs (L.take i) ++ List.replicate j (r.k, r.s)
  cn : Cel W n0 (.int .i64 pre.length) 3
  ca : Cel W (n0 + 1) (.int .i64 i) 3
  cl : Cel W (n0 + 1 + 1) (.int .i64 (r.c - j)) 3
  cr : Cel W (w.heap.size + 1) (.bool false) 4
  cs : Cel W w.heap.size sl 32
  bel : Below w.heap.size w W
  low : w.heap.size ≤ n0

/-- Which event comes next. -/
theorem next_ev {L : List Rn} {i j : Nat} {r : Rn} {x : Int × Int} (h : L[i]? = some r) (hj : j < r.c.toNat) (hp : evs (L.take i) ++ List.replicate j (r.k, r.s) ++ [x] <+: evs L) : x = (r.k, r.s) := by
  have h1 := evs_part (j := j + 1) h (by omega)
  rw [List.replicate_succ', ← List.append_assoc] at h1
  obtain ⟨a, ha⟩ := hp
  obtain ⟨b, hb⟩ := h1
  rw [← hb] at ha
  simp only [List.append_assoc] at ha
  have := List.append_cancel_left (List.append_cancel_left ha)
  simp at this
  exact this.1

/-- Which blocks 'gone' may write. -/
def GS (w : World) (n0 : Nat) : Nat → Prop := fun q => q = n0 ∨ q = n0 + 1 ∨ q = n0 + 1 + 1 ∨ q = w.heap.size + 1
theorem kc_drew {S : Nat → Prop} {A B : World} (h : KC S A B) : KC S A B.drew := ⟨h.size, h.same⟩
theorem kf_drew {n : Nat} {A B : World} (h : KeepsFrom n A B) : KeepsFrom n A B.drew := ⟨h.size, h.same⟩
theorem kc_set {S : Nat → Prop} {A B : World} {b : Nat} (h : KC S A B) (hb : S b) (u : Value) : KC S A (B.setCell ⟨b, 0, none⟩ u) := h.trans (KC.of_kp (Kp.setCell b 0 u) (fun q _ e => by subst e; exact hb))
theorem gi_goes {w W : World} {n0 n1 i j p : Nat} {sl : Value} {L : List Rn} {pre : List (Int × Int)} {r : Rn} {x : Int × Int} {lf : Int} (g : GI w n0 sl L pre W i r j) (he : r.k = x.1 ∧ r.s = x.2) (hj : j < r.c.toNat) (hlf : r.c - (j : Int) = lf) (hp : pre.length = p) {l : Nat} (_hl : n1 ≤ l) :
    KeepsFrom n1 W ((W.setCell ⟨n0 + 1 + 1, 0, none⟩ (.int .i64 (lf - 1))).setCell ⟨n0, 0, none⟩ (.int .i64 ((p : Int) + 1))).drew ∧
      KC (GS w n0) W ((W.setCell ⟨n0 + 1 + 1, 0, none⟩ (.int .i64 (lf - 1))).setCell ⟨n0, 0, none⟩ (.int .i64 ((p : Int) + 1))).drew ∧
      ∃ i r j, GI w n0 sl L (pre ++ [x]) ((W.setCell ⟨n0 + 1 + 1, 0, none⟩ (.int .i64 (lf - 1))).setCell ⟨n0, 0, none⟩ (.int .i64 ((p : Int) + 1))).drew i r j := by
  subst hlf hp
  have hx : x = (r.k, r.s) := by rw [he.1, he.2]
  have hn : w.heap.size + 1 ≠ n0 + 1 + 1 ∧ w.heap.size + 1 ≠ n0 ∧ w.heap.size ≠ n0 + 1 + 1 ∧ w.heap.size ≠ n0 := by
    refine ⟨fun e => ?_, fun e => ?_, fun e => ?_, fun e => ?_⟩
    · have h1 : W.heap[n0 + 1 + 1]? = _ := g.cl; have h2 : W.heap[w.heap.size + 1]? = _ := g.cr; rw [e, h1] at h2; simp at h2
    · have h1 : W.heap[n0]? = _ := g.cn; have h2 : W.heap[w.heap.size + 1]? = _ := g.cr; rw [e, h1] at h2; simp at h2
    · have h1 : W.heap[n0 + 1 + 1]? = _ := g.cl; have h2 : W.heap[w.heap.size]? = _ := g.cs; rw [e, h1] at h2; simp at h2
    · have h1 : W.heap[n0]? = _ := g.cn; have h2 : W.heap[w.heap.size]? = _ := g.cs; rw [e, h1] at h2; simp at h2
  have hlow : w.heap.size ≤ n0 ∧ w.heap.size ≤ n0 + 1 + 1 := by have := g.low; omega
  refine ⟨kf_drew (((KeepsOthers.setCell _ _ _).trans (KeepsOthers.setCell _ _ _)).from _), kc_drew (kc_set (kc_set (KC.refl _ _) (.inr (.inr (.inl rfl))) _) (.inl rfl) _), i, r, j + 1, g.at_, by omega, ?_, ?_, ?_, ?_, ?_, ?_, ?_, g.low⟩
  · rw [g.pre_, hx, List.replicate_succ', List.append_assoc]
  · have h := (g.cn.other (b' := n0 + 1 + 1) (by omega) (.int .i64 (r.c - (j : Int) - 1))).set (.int .i64 ((pre.length : Int) + 1))
    rw [List.length_append, List.length_singleton]
    exact h
  · exact (g.ca.other (by omega) _).other (by omega) _
  · have h := ((g.cl.set (.int .i64 (r.c - (j : Int) - 1))).other (b' := n0) (by omega) (.int .i64 ((pre.length : Int) + 1)))
    rw [show r.c - ((j + 1 : Nat) : Int) = r.c - (j : Int) - 1 by omega]
    exact h
  · exact (g.cr.other hn.1 _).other hn.2.1 _
  · exact (g.cs.other hn.2.2.1 _).other hn.2.2.2 _
  · exact ((g.bel.setCell (p := ⟨n0 + 1 + 1, 0, none⟩) hlow.2 _).setCell (p := ⟨n0, 0, none⟩) hlow.1 _).drew
theorem GI.next {w W : World} {n0 i j i1 : Nat} {sl : Value} {L : List Rn} {pre : List (Int × Int)} {r q : Rn} (g : GI w n0 sl L pre W i r j) (hj : j = r.c.toNat) (hi : i + 1 = i1) (hq : L[i1]? = some q) :
    GI w n0 sl L pre ((W.setCell ⟨n0 + 1, 0, none⟩ (.int .i64 i1)).setCell ⟨n0 + 1 + 1, 0, none⟩ (.int .i64 q.c)) i1 q 0 := by
  subst hi
  have hn : w.heap.size + 1 ≠ n0 + 1 + 1 ∧ w.heap.size + 1 ≠ n0 + 1 ∧ w.heap.size ≠ n0 + 1 + 1 ∧ w.heap.size ≠ n0 + 1 := by
    refine ⟨fun e => ?_, fun e => ?_, fun e => ?_, fun e => ?_⟩
    · have h1 : W.heap[n0 + 1 + 1]? = _ := g.cl; have h2 : W.heap[w.heap.size + 1]? = _ := g.cr; rw [e, h1] at h2; simp at h2
    · have h1 : W.heap[n0 + 1]? = _ := g.ca; have h2 : W.heap[w.heap.size + 1]? = _ := g.cr; rw [e, h1] at h2; simp at h2
    · have h1 : W.heap[n0 + 1 + 1]? = _ := g.cl; have h2 : W.heap[w.heap.size]? = _ := g.cs; rw [e, h1] at h2; simp at h2
    · have h1 : W.heap[n0 + 1]? = _ := g.ca; have h2 : W.heap[w.heap.size]? = _ := g.cs; rw [e, h1] at h2; simp at h2
  have hlow := g.low
  refine ⟨hq, Nat.zero_le _, ?_, (g.cn.other (by omega) _).other (by omega) _, (g.ca.set _).other (by omega) _, ?_, (g.cr.other hn.2.1 _).other hn.1 _, (g.cs.other hn.2.2.2 _).other hn.2.2.1 _, (g.bel.setCell (p := ⟨n0 + 1, 0, none⟩) (by show w.heap.size ≤ n0 + 1; omega) _).setCell (p := ⟨n0 + 1 + 1, 0, none⟩) (by show w.heap.size ≤ n0 + 1 + 1; omega) _, hlow⟩
  · rw [g.pre_, hj, ← evs_next g.at_]; simp
  · have h := ((g.cl.other (b' := n0 + 1) (by omega) (.int .i64 ((i + 1 : Nat) : Int))).set (.int .i64 q.c))
    rw [show q.c - ((0 : Nat) : Int) = q.c by omega]
    exact h
theorem gi_goes2 {w W : World} {n0 n1 i1 p : Nat} {sl : Value} {L : List Rn} {pre : List (Int × Int)} {q : Rn} {x : Int × Int} (g : GI w n0 sl L pre ((W.setCell ⟨n0 + 1, 0, none⟩ (.int .i64 i1)).setCell ⟨n0 + 1 + 1, 0, none⟩ (.int .i64 q.c)) i1 q 0) (he : q.k = x.1 ∧ q.s = x.2) (hj : 0 < q.c.toNat) (hp : pre.length = p) :
    KeepsFrom n1 W ((((W.setCell ⟨n0 + 1, 0, none⟩ (.int .i64 i1)).setCell ⟨n0 + 1 + 1, 0, none⟩ (.int .i64 q.c)).setCell ⟨n0 + 1 + 1, 0, none⟩ (.int .i64 (q.c - 1))).setCell ⟨n0, 0, none⟩ (.int .i64 ((p : Int) + 1))).drew ∧
      KC (GS w n0) W ((((W.setCell ⟨n0 + 1, 0, none⟩ (.int .i64 i1)).setCell ⟨n0 + 1 + 1, 0, none⟩ (.int .i64 q.c)).setCell ⟨n0 + 1 + 1, 0, none⟩ (.int .i64 (q.c - 1))).setCell ⟨n0, 0, none⟩ (.int .i64 ((p : Int) + 1))).drew ∧
      ∃ i r j, GI w n0 sl L (pre ++ [x]) ((((W.setCell ⟨n0 + 1, 0, none⟩ (.int .i64 i1)).setCell ⟨n0 + 1 + 1, 0, none⟩ (.int .i64 q.c)).setCell ⟨n0 + 1 + 1, 0, none⟩ (.int .i64 (q.c - 1))).setCell ⟨n0, 0, none⟩ (.int .i64 ((p : Int) + 1))).drew i r j := by
  have R := gi_goes (n1 := n1) (l := n1) g he hj (show q.c - ((0 : Nat) : Int) = q.c by omega) hp (Nat.le_refl _)
  exact ⟨(((KeepsOthers.setCell _ _ _).trans (KeepsOthers.setCell _ _ _)).from _).trans R.1, (kc_set (kc_set (KC.refl _ _) (.inr (.inl rfl)) _) (.inr (.inr (.inl rfl))) _).trans R.2.1, R.2.2⟩
theorem gi_ends {w W : World} {n0 n1 i j : Nat} {sl : Value} {L : List Rn} {pre : List (Int × Int)} {r : Rn} {x : Int × Int} (g : GI w n0 sl L pre W i r j) (he : ¬ (r.k = x.1 ∧ r.s = x.2)) (hj : j < r.c.toNat) :
    KeepsFrom n1 W (W.setCell ⟨w.heap.size + 1, 0, none⟩ (.bool false)).drew ∧ Code.ret = Code.ret ∧
      ∃ bv, Cel (W.setCell ⟨w.heap.size + 1, 0, none⟩ (.bool false)).drew (w.heap.size + 1) (.bool bv) 4 ∧ (bv = true ∨ ¬ pre ++ [x] <+: evs L) ∧ Below w.heap.size w (W.setCell ⟨w.heap.size + 1, 0, none⟩ (.bool false)).drew := by
  refine ⟨kf_drew ((KeepsOthers.setCell _ _ _).from _), rfl, false, g.cr.set _, .inr (fun h => he ?_), (g.bel.setCell (p := ⟨w.heap.size + 1, 0, none⟩) (by show w.heap.size ≤ w.heap.size + 1; omega) _).drew⟩
  rw [g.pre_] at h
  have := next_ev g.at_ hj h
  rw [this]
  exact ⟨rfl, rfl⟩

theorem gi_ends2 {w W : World} {n0 n1 i1 : Nat} {sl : Value} {L : List Rn} {pre : List (Int × Int)} {q : Rn} {x : Int × Int} (g : GI w n0 sl L pre ((W.setCell ⟨n0 + 1, 0, none⟩ (.int .i64 i1)).setCell ⟨n0 + 1 + 1, 0, none⟩ (.int .i64 q.c)) i1 q 0) (he : ¬ (q.k = x.1 ∧ q.s = x.2)) (hj : 0 < q.c.toNat) :
    KeepsFrom n1 W (((W.setCell ⟨n0 + 1, 0, none⟩ (.int .i64 i1)).setCell ⟨n0 + 1 + 1, 0, none⟩ (.int .i64 q.c)).setCell ⟨w.heap.size + 1, 0, none⟩ (.bool false)).drew ∧ Code.ret = Code.ret ∧
      ∃ bv, Cel (((W.setCell ⟨n0 + 1, 0, none⟩ (.int .i64 i1)).setCell ⟨n0 + 1 + 1, 0, none⟩ (.int .i64 q.c)).setCell ⟨w.heap.size + 1, 0, none⟩ (.bool false)).drew (w.heap.size + 1) (.bool bv) 4 ∧ (bv = true ∨ ¬ pre ++ [x] <+: evs L) ∧ Below w.heap.size w (((W.setCell ⟨n0 + 1, 0, none⟩ (.int .i64 i1)).setCell ⟨n0 + 1 + 1, 0, none⟩ (.int .i64 q.c)).setCell ⟨w.heap.size + 1, 0, none⟩ (.bool false)).drew := by
  have R := gi_ends (n1 := n1) g he hj
  exact ⟨(((KeepsOthers.setCell _ _ _).trans (KeepsOthers.setCell _ _ _)).from _).trans R.1, R.2⟩

theorem results_bool {tmps : Array Value} {W : World} {g : Nat} {bv : Bool} (hp : tmps.getD 4 undef = .pointer (some ⟨g, 0, none⟩)) (hc : Cel W g (.bool bv) 4) : (results Try.f34 tmps).run Try.prog W = .ok (.bool bv) W := by
  have hc1 := hc.cell
  have u4 := Try.underlying4
  have hp' : tmps[4]?.getD undef = .pointer (some ⟨g, 0, none⟩) := by simpa using hp
  simp [results, hp', asAddr]
  go_simp
theorem evs_length' {L : List Rn} (h : Pos L) : (Value.int .i64 ((evs L).length : Int)) = .int .i64 (tot L) := by rw [evs_length h]
set_option maxRecDepth 100000 in
set_option maxHeartbeats 9000000 in
theorem gone34 (b : Nat) (rv v : Value) (L : List Rn) (w : World) (h : Led w b rv L) (hv : RB w v L) (hn : L.length * 24 ≤ 140737488355328) :
    Calls Try.prog 34 #[.pointer (some ⟨b, 0, none⟩), v] w fun e w' => e = .returned (.bool true) ∧ Below w.heap.size w w' := by
  obtain ⟨m, hm⟩ : ∃ m, L.length = m := ⟨_, rfl⟩
  obtain ⟨a, cap, rfl⟩ : ∃ a cap, v = .slice a m cap := by
    obtain ⟨a, cap, e⟩ := hv.isSlice
    exact ⟨a, cap, by rw [← hm]; exact e⟩
  have H := hid h
  have HV := hid hv
  have HL := hid hm
  have HN := hid hn
  rw [hm] at hn
  clear h hv hm
  refine (callsIn_wide (n := 7)).1 ?_
  refine callsIn_of_wp_marks Try.func34 rfl trivial ?_ rfl
  simp only [Try.ntmps34, List.size_toArray, List.length_cons, List.length_nil, Nat.reduceAdd, Nat.reduceSub, Array.replicate_succ, Array.replicate_zero, List.push_toArray, List.append_toArray, List.nil_append, List.cons_append]
  have B0 : Hid (Below w.heap.size w ((w.alloc (.cells #[.slice a m cap] 32)).alloc (.cells #[.bool false] 4))) := below_next (below_alloc w _) (below_alloc _ _)
  gi_wp2_with fail
  refine ⟨trivial, (callsIn_wide.2 (all19 b rv L _ (H.out.below B0.out) HN.out)).mono ?_⟩
  rintro e w3 ⟨Bs, sv, rfl, hbs, hsv, hbz, hb⟩
  have B3 := hid (below_next B0.out hb)
  have HBS := hid hbs
  have HSV := hid hsv
  have hbz' : w.heap.size + 2 ≤ Bs := by have := hbz; simp at this; omega
  have HA : Hid (w3.heap[w.heap.size]? = some (.cells #[.slice a m cap] 32 (0, 0))) := by
    show _ = _
    rw [hb.block w.heap.size (by simp <;> omega), Below.heap_alloc _ _ _ (by simp), heap_alloc_new]
  have HR : Hid (w3.heap[w.heap.size + 1]? = some (.cells #[.bool false] 4 (0, 0))) := by
    show _ = _
    rw [hb.block (w.heap.size + 1) (by simp <;> omega)]
    have := heap_alloc_new (w.alloc (.cells #[.slice a m cap] 32)) (.cells #[.bool false] 4)
    simpa using this
  have hsz : w.heap.size + 2 ≤ w3.heap.size := by have := hb.size; simp at this; omega
  have hwa : w.heap.size < w3.heap.size := by omega
  have hwa1 : w.heap.size < w3.heap.size + 1 := by omega
  have hwa2 : w.heap.size < w3.heap.size + 1 + 1 := by omega
  clear hb hbs hsv hbz B0
  have hnil := eqlFunc
  have ca : w3.cell? ⟨w.heap.size, 0, none⟩ = some (.slice a m cap) := by rw [cell_of_row _ _ 0 _ 32 (0, 0) HA.out]; rfl
  by_cases hm0 : m = 0
  · subst hm0
    have hL0 : Hid (L = []) := List.eq_nil_of_length_eq_zero HL.out
    gi_wp2_with fail
    have hBl : Bs < w3.heap.size := block_lt_of_cell HBS.out
    have hfol : Try.prog.follows .mixedOrders = true := by kernel_rfl
    have f0 : Hid (Cel (((w3.alloc (.cells #[.int .i64 0] 3)).alloc (.cells #[.int .i64 0] 3)).alloc (.cells #[.int .i64 0] 3)) w3.heap.size (.int .i64 0) 3) := by
      have f1 : Cel (w3.alloc (.cells #[.int .i64 0] 3)) w3.heap.size (.int .i64 0) 3 := heap_alloc_new w3 _
      exact (f1.alloc _).alloc _
    have f4 : Cel w3 (w.heap.size + 1) (.bool false) 4 := HR.out
    have hW4 : Hid ((((w3.alloc (.cells #[.int .i64 0] 3)).alloc (.cells #[.int .i64 0] 3)).alloc (.cells #[.int .i64 0] 3)).heap.size = w3.heap.size + 3) := by show _ = _; simp
    refine wpIn_rangeFunc_ownH (α := Int × Int) (hro := rfl) (h1 := by omega) (gf := 48) (lb := #[.pointer (some ⟨Bs, 0, none⟩)]) rfl trivial (enters_of Try.func48 (by kernel_rfl) rfl)
      (all_stops Fence.wide _ trivial rfl (by omega) Bs (fun _ => False) sv [] pos_nil (by simp) (((w3.alloc (.cells #[.int .i64 0] 3)).alloc (.cells #[.int .i64 0] 3)).alloc (.cells #[.int .i64 0] 3)) ?q1 ?q2 (fun _ h => h.elim) (fun _ _ h => h)) (fun h k => h.trans k) (fun W l o o' hl ho hc _ => KC.putObj ho hc) (Below.refl _ _) (fun _ => rfl)
      (fun _ W => Cel W w3.heap.size (.int .i64 0) 3 ∧ Cel W (w.heap.size + 1) (.bool false) 4 ∧ Below w.heap.size w W)
      (fun _ _ _ => False) ?hI (fun _ _ _ _ _ h _ _ => h) ⟨f0.out, ((f4.alloc _).alloc _).alloc _, below_next (below_next (below_next B3.out (below_alloc _ _)) (below_alloc _ _)) (below_alloc _ _)⟩
      (fun _ _ _ => True) (fun _ _ _ _ _ _ _ _ _ => trivial) ?assign ?body ?done ?stop
    case q1 =>
      rw [(below_next (below_next (below_alloc w3 _) (below_alloc _ _)) (below_alloc _ _)).cell (p := ⟨Bs, 0, none⟩) hBl]
      exact HBS.out
    case q2 =>
      have h := HSV.out.reads.below (below_next (below_next (below_alloc w3 (.cells #[.int .i64 0] 3)) (below_alloc _ (.cells #[.int .i64 0] 3))) (below_alloc _ (.cells #[.int .i64 0] 3)))
      rw [hL0.out] at h
      exact h
    case hI =>
      rintro pre A B row ⟨h1, h2, h3⟩ hg hr
      refine ⟨h1.own hg (fun q e => (hr q e).2), h2.own hg (fun q e => (hr q e).2), h3.grown hg h3.size (fun q e => ?_)⟩
      have := (hr q e).1
      rw [hW4.out] at this
      omega
    case assign =>
      rintro l pre x W K ⟨h1, h2, h3⟩ hK
      gi_wp2
      exact hK _ _ ((KeepsOthers.alloc _ _).from _) (KC.alloc _ _ _) ⟨h1.alloc _, h2.alloc _, below_next h3 (below_alloc _ _)⟩ trivial
    case body =>
      rintro l pre x a' W _ _ _ _ hlt
      simp [evs] at hlt
    case done =>
      rintro D ys W hD _ ⟨h1, h2, h3⟩ hK
      have G1 := hid h1
      have G2 := hid h2
      have G3 := hid h3
      have HK := hid hK
      have HD : Hid (w.heap.size ≤ D) := by show _ ≤ _; rw [hW4.out] at hD; omega
      have n1 := h1.cell
      have r1 := h2.cell
      have r2 := h2.frozen
      have hLd := hid (H.out.below h3)
      have ht0 : tot L = 0 := by rw [hL0.out]; rfl
      clear h1 h2 h3 hK hD
      gi_wp2_with fail
      refine Code.wpIn_mono NoPanic.imp ?_
      gi_region_with (refine ⟨trivial, (callsIn_wide.2 (len20 b rv L _ (hLd.out.below (Below.refl _ _).drew))).mono ?_⟩; rintro e w' ⟨rfl, rfl⟩)
      all_goals refine NoPanic.normal ?_
      all_goals gi_wp2
      all_goals
        have hne : D ≠ w.heap.size + 1 := fun e => by
          have h1 : W.heap[w.heap.size + 1]? = _ := G2.out
          rw [← e, HK.out] at h1
          simp at h1
        have hK2 : (W.setCell ⟨w.heap.size + 1, 0, none⟩ (.bool true)).drew.heap[D]? = some (.deferred (some [])) := (Below.heap_setCell W ⟨w.heap.size + 1, 0, none⟩ (.bool true) D hne).trans HK.out
        have hR2 : Cel (W.setCell ⟨w.heap.size + 1, 0, none⟩ (.bool true)).drew (w.heap.size + 1) (.bool true) 4 := G2.out.set _
        have hB2 : Below w.heap.size w (W.setCell ⟨w.heap.size + 1, 0, none⟩ (.bool true)).drew := (G3.out.setCell (p := ⟨w.heap.size + 1, 0, none⟩) (by show w.heap.size ≤ w.heap.size + 1; omega) _).drew
        refine ⟨by simp, .inl ⟨_, _, rfl, run_takeDeferred hK2, ?_⟩⟩
        refine ⟨_, results_bool rfl (hR2.kept (Kp.of_grown (grownBy_putObj' _ D _)) (fun e => ?_)), rfl, hB2.trans (belowK_b (w := w) (Nat.le_refl _) _ D _ _ HD.out hK2 rfl rfl)⟩
        simp only [Option.some.injEq] at e
        exact hne e
    case stop =>
      rintro D c pre W _ _ h _
      exact h.elim
  · obtain ⟨r0, hr0⟩ := get_of_lt (L := L) (k := 0) (by rw [HL.out]; omega)
    obtain ⟨ba, offa, rfl, c1, c2, c3⟩ := (HV.out.below B3.out).at hr0
    simp only [Nat.zero_mul, Nat.add_zero] at c1 c2 c3
    have hml : 0 < m := by omega
    have hba : ba < w3.heap.size := block_lt_of_cell c1
    have hba1 : ba < w3.heap.size + 1 := by omega
    have hba2 : ba < w3.heap.size + 1 + 1 := by omega
    gi_wp2_with fail
    -- RANGE
    have hp0 := H.out.pos r0 (List.mem_of_getElem? hr0)
    have hS0 : Hid (GI w w3.heap.size (.slice (some ⟨ba, offa, none⟩) m cap) L [] (((w3.alloc (.cells #[.int .i64 0] 3)).alloc (.cells #[.int .i64 0] 3)).alloc (.cells #[.int .i64 r0.c] 3)) 0 r0 0) := by
      have e1 := heap_alloc_new w3 (.cells #[.int .i64 0] 3)
      have e2 := heap_alloc_new (w3.alloc (.cells #[.int .i64 0] 3)) (.cells #[.int .i64 0] 3)
      have e3 := heap_alloc_new ((w3.alloc (.cells #[.int .i64 0] 3)).alloc (.cells #[.int .i64 0] 3)) (.cells #[.int .i64 r0.c] 3)
      simp only [World.size_alloc] at e2 e3
      have f1 : Cel (w3.alloc (.cells #[.int .i64 0] 3)) w3.heap.size (.int .i64 0) 3 := e1
      have f2 : Cel ((w3.alloc (.cells #[.int .i64 0] 3)).alloc (.cells #[.int .i64 0] 3)) (w3.heap.size + 1) (.int .i64 0) 3 := e2
      have f3 : Cel (((w3.alloc (.cells #[.int .i64 0] 3)).alloc (.cells #[.int .i64 0] 3)).alloc (.cells #[.int .i64 r0.c] 3)) (w3.heap.size + 1 + 1) (.int .i64 r0.c) 3 := e3
      have f4 : Cel w3 (w.heap.size + 1) (.bool false) 4 := HR.out
      have f5 : Cel w3 w.heap.size (.slice (some ⟨ba, offa, none⟩) m cap) 32 := HA.out
      refine ⟨hr0, Nat.zero_le _, by simp [evs], (f1.alloc _).alloc _, f2.alloc _, by rw [show r0.c - ((0 : Nat) : Int) = r0.c by omega]; exact f3, ((f4.alloc _).alloc _).alloc _, ((f5.alloc _).alloc _).alloc _, below_next (below_next (below_next B3.out (below_alloc _ _)) (below_alloc _ _)) (below_alloc _ _), by omega⟩
    have hW4 : Hid ((((w3.alloc (.cells #[.int .i64 0] 3)).alloc (.cells #[.int .i64 0] 3)).alloc (.cells #[.int .i64 r0.c] 3)).heap.size = w3.heap.size + 3) := by show _ = _; simp
    have hBl : Bs < w3.heap.size := block_lt_of_cell HBS.out
    have hN2 : Hid (L.length < 1000000000000000000) := by show _ < _; rw [HL.out]; omega
    have hmax := H.out.most
    have hev := evs_length H.out.pos
    refine wpIn_rangeFunc_ownH (α := Int × Int) (hro := rfl) (h1 := by omega) (gf := 48) (lb := #[.pointer (some ⟨Bs, 0, none⟩)]) rfl trivial (enters_of Try.func48 (by kernel_rfl) rfl)
      (all_stops Fence.wide _ trivial rfl (by omega) Bs (GS w w3.heap.size) sv L H.out.pos hN2.out (((w3.alloc (.cells #[.int .i64 0] 3)).alloc (.cells #[.int .i64 0] 3)).alloc (.cells #[.int .i64 r0.c] 3)) ?q1 ?q2 ?q3 ?q4) (fun h k => h.trans k) (fun W l o o' hl ho hc _ => KC.putObj ho hc) (Below.refl _ _) (fun _ => rfl)
      (fun pre W => ∃ i r j, GI w w3.heap.size (.slice (some ⟨ba, offa, none⟩) m cap) L pre W i r j)
      (fun c pre W => c = .ret ∧ ∃ bv, Cel W (w.heap.size + 1) (.bool bv) 4 ∧ (bv = true ∨ ¬ pre <+: evs L) ∧ Below w.heap.size w W) ?hI ?hIx ⟨0, r0, 0, hS0.out⟩
      (fun x a' W => ∃ Bx, w3.heap.size + 3 ≤ Bx ∧ Box W Bx x.1 x.2 ∧ a' = { tmps := #[.pointer (some ⟨b, 0, none⟩), .slice (some ⟨ba, offa, none⟩) m cap, undef, .pointer (some ⟨w.heap.size, 0, none⟩), .pointer (some ⟨w.heap.size + 1, 0, none⟩), .func (.func 48) #[] #[.pointer (some ⟨Bs, 0, none⟩)], .pointer (some ⟨w3.heap.size, 0, none⟩), .pointer (some ⟨w3.heap.size + 1, 0, none⟩), .pointer (some ⟨w3.heap.size + 1 + 1, 0, none⟩), .pointer (some ⟨Bx, 0, none⟩), .pointer (some ⟨b, 0, none⟩), .func (.func 48) #[] #[.pointer (some ⟨Bs, 0, none⟩)], .func (.func 48) #[] #[.pointer (some ⟨Bs, 0, none⟩)], .bool false, .slice (some ⟨ba, offa, none⟩) m cap, .int .i64 m, .bool true, .slice (some ⟨ba, offa, none⟩) m cap, .pointer (some ⟨ba, offa, none⟩), .pointer (some ⟨ba, offa + 2, none⟩), .int .i64 r0.c, .func (.func 48) #[] #[.pointer (some ⟨Bs, 0, none⟩)], .agg #[.int .u8 x.1, .int .i64 x.2], undef, undef, undef, undef, undef, undef, undef, undef, undef, undef, undef, undef, undef, undef, undef, undef, undef, undef, undef, undef, undef, undef, undef, undef, undef, undef, undef, undef, undef, undef, undef, undef, undef, undef, undef, undef], defers := [] }) ?hAx ?assign ?body ?done ?stop
    case q1 =>
      rw [(below_next (below_next (below_alloc w3 _) (below_alloc _ _)) (below_alloc _ _)).cell (p := ⟨Bs, 0, none⟩) hBl]
      exact HBS.out
    case q2 => exact HSV.out.reads.below (below_next (below_next (below_alloc w3 _) (below_alloc _ _)) (below_alloc _ _))
    case q3 =>
      intro q hq
      rw [hW4.out]
      unfold GS at hq
      omega
    case q4 =>
      intro q hq e
      have h1 := HSV.out.lt q hq
      simp at h1
      unfold GS at e
      omega
    case hI =>
      rintro pre A B row ⟨i, r, j, g⟩ hg hr
      refine ⟨i, r, j, g.at_, g.le, g.pre_, g.cn.own hg (fun q e => (hr q e).2), g.ca.own hg (fun q e => (hr q e).2), g.cl.own hg (fun q e => (hr q e).2), g.cr.own hg (fun q e => (hr q e).2), g.cs.own hg (fun q e => (hr q e).2), g.bel.grown hg g.bel.size (fun q e => ?_), g.low⟩
      have := (hr q e).1
      rw [hW4.out] at this
      omega
    case hIx =>
      rintro c pre A B row ⟨rfl, bv, h1, h2, h3⟩ hg hr
      refine ⟨rfl, bv, h1.own hg (fun q e => (hr q e).2), h2, h3.grown hg h3.size (fun q e => ?_)⟩
      have := (hr q e).1
      rw [hW4.out] at this
      omega
    case hAx =>
      rintro x a' _ A B row ⟨Bx, h1, h2, rfl⟩ hg hr
      exact ⟨Bx, h1, h2.own hg (fun q e => (hr q e).2), rfl⟩
    case assign =>
      rintro l pre x W K ⟨i, r, j, g⟩ hK
      have hsz := g.cl.lt
      gi_wp2
      refine hK _ _ ((KeepsOthers.alloc _ _).from _) (KC.alloc _ _ _) ⟨i, r, j, g.at_, g.le, g.pre_, g.cn.alloc _, g.ca.alloc _, g.cl.alloc _, g.cr.alloc _, g.cs.alloc _, below_next g.bel (below_alloc _ _), g.low⟩ ⟨W.heap.size, by omega, heap_alloc_new _ _, rfl⟩
    case body =>
      rintro l pre x a' W hl ⟨rr, hrr⟩ ⟨i, r, j, g⟩ ⟨Bx, hBx, hbx, rfl⟩ hlt
      have hfol : Try.prog.follows .mixedOrders = true := by kernel_rfl
      have G := hid g
      have HX := hid hbx
      obtain ⟨p, hp⟩ : ∃ p, pre.length = p := ⟨_, rfl⟩
      have n1 := g.cn.cell
      have n2 := g.cn.frozen
      have a1 := g.ca.cell
      have a2 := g.ca.frozen
      have l1 := g.cl.cell
      have l2 := g.cl.frozen
      have r1 := g.cr.cell
      have r2 := g.cr.frozen
      have s1 := g.cs.cell
      have x1 := hbx.c0
      have x2 := hbx.c1
      rw [hp] at n1
      have hiL : i < m := by have := (List.getElem?_eq_some_iff.1 g.at_).1; rw [HL.out] at this; exact this
      have hpr := H.out.pos r (List.mem_of_getElem? g.at_)
      have hrm := ((HV.out.below g.bel).ok g.at_).2.2.2
      have hpl : (p : Int) < 9223372036854775807 := by rw [hp] at hlt; omega
      have hwn : IntKind.i64.wrap ((p : Int) + 1) = (p : Int) + 1 := by rw [IntKind.wrap_i64]; omega
      have HLT := hid hlt
      have HP := hid hp
      have gle := g.le
      clear g hbx hp hlt
      by_cases h5 : p = 5000
      · subst h5
        gi_wp2
        exact ⟨(KeepsOthers.setCell _ _ _).from _, rfl, true, G.out.cr.set _, .inl rfl, G.out.bel.setCell (p := ⟨w.heap.size + 1, 0, none⟩) (by show w.heap.size ≤ w.heap.size + 1; omega) _⟩
      · have h5' : ¬ (p : Int) = 5000 := by omega
        by_cases hj : j = r.c.toNat
        · have hi1 : i + 1 < m := by
            rcases Nat.lt_or_ge (i + 1) m with h | h
            · exact h
            · exfalso
              have e1 := HLT.out
              rw [G.out.pre_, hj, ← evs_next G.out.at_, List.take_of_length_le (by rw [HL.out]; exact h)] at e1
              omega
          obtain ⟨q, hq⟩ := get_of_lt (L := L) (k := i + 1) (by rw [HL.out]; exact hi1)
          obtain ⟨b5, off5, hbb, d1, d2, d3⟩ := (HV.out.below G.out.bel).at hq
          simp only [Option.some.injEq, Addr.mk.injEq, and_true] at hbb
          obtain ⟨rfl, rfl⟩ := hbb
          have hpq := H.out.pos q (List.mem_of_getElem? hq)
          have hqm := ((HV.out.below G.out.bel).ok hq).2.2.2
          obtain ⟨i1, hi1e⟩ : ∃ z, i + 1 = z := ⟨_, rfl⟩
          rw [hi1e] at d1 d2 d3 hq hi1
          have hwa3 : IntKind.i64.wrap ((i : Int) + 1) = (i1 : Int) := by rw [IntKind.wrap_i64]; omega
          have hwl : IntKind.i64.wrap (q.c - 1) = q.c - 1 := by rw [IntKind.wrap_i64]; omega
          have li : (i1 : Int) < m := by omega
          have li2 : ¬ (m : Int) ≤ i1 := by omega
          have hleft : r.c - (j : Int) = 0 := by omega
          rw [hleft] at l1
          have hqc : ¬ q.c = 0 := by omega
          have hqt : Hid (0 < q.c.toNat) := by show _ < _; omega
          have g2 := GI.next G.out hj hi1e hq
          have G2 := hid g2
          have Hq := hid hq
          have ne1 : ¬ w3.heap.size + 1 = w.heap.size := by omega
          have ne2 : ¬ w3.heap.size + 1 + 1 = w.heap.size := by omega
          have ne3 : ¬ ba = w3.heap.size + 1 := by have := block_lt_of_cell d1; omega
          clear hj gle hpr hrm hev hmax h5 hpl g2 hq hi1e hleft
          by_cases he : q.k = x.1 ∧ q.s = x.2
          · have hd := eq2_true he.1 he.2
            have HE := hid he
            clear he
            gi_wp2
            gi_region_with_o (fail)
            all_goals gi_wp2
            all_goals exact gi_goes2 G2.out HE.out hqt.out HP.out
          · have hd := eq2_false he
            have HE := hid he
            clear he
            gi_wp2
            gi_region_with_o (fail)
            all_goals gi_wp2
            all_goals exact gi_ends2 G2.out HE.out hqt.out
        · obtain ⟨lf, hlf⟩ : ∃ lf, r.c - (j : Int) = lf := ⟨_, rfl⟩
          rw [hlf] at l1
          have hleft : ¬ lf = 0 := by omega
          have hwl : IntKind.i64.wrap (lf - 1) = lf - 1 := by rw [IntKind.wrap_i64]; omega
          have hjlt : Hid (j < r.c.toNat) := by show _ < _; omega
          have HLF := hid hlf
          clear hlf hj gle hpr hrm hev hmax h5 hpl
          obtain ⟨b5, off5, hbb, d1, d2, d3⟩ := (HV.out.below G.out.bel).at G.out.at_
          simp only [Option.some.injEq, Addr.mk.injEq, and_true] at hbb
          obtain ⟨rfl, rfl⟩ := hbb
          have li : (i : Int) < m := by omega
          have li2 : ¬ (m : Int) ≤ i := by omega
          by_cases he : r.k = x.1 ∧ r.s = x.2
          · have hd := eq2_true he.1 he.2
            have HE := hid he
            clear he
            gi_wp2
            gi_region_with_o (fail)
            all_goals gi_wp2
            all_goals exact gi_goes G.out HE.out hjlt.out HLF.out HP.out hl
          · have hd := eq2_false he
            have HE := hid he
            clear he
            gi_wp2
            gi_region_with_o (fail)
            all_goals gi_wp2
            all_goals exact gi_ends G.out HE.out hjlt.out
    case done =>
      rintro D ys W hD rfl ⟨i, r, j, g⟩ hK
      have G := hid g
      have HK := hid hK
      have HD : Hid (w.heap.size ≤ D) := by show _ ≤ _; rw [hW4.out] at hD; omega
      have n1 := g.cn.cell
      have r1 := g.cr.cell
      have r2 := g.cr.frozen
      rw [evs_length' H.out.pos] at n1
      have hLd := hid (H.out.below g.bel)
      have hfol : Try.prog.follows .mixedOrders = true := by kernel_rfl
      clear g hK hD
      gi_wp2_with fail
      refine Code.wpIn_mono NoPanic.imp ?_
      gi_region_with (refine ⟨trivial, (callsIn_wide.2 (len20 b rv L _ (hLd.out.below (Below.refl _ _).drew))).mono ?_⟩; rintro e w' ⟨rfl, rfl⟩)
      all_goals refine NoPanic.normal ?_
      all_goals gi_wp2
      all_goals
        have hne : D ≠ w.heap.size + 1 := fun e => by
          have h1 : W.heap[w.heap.size + 1]? = _ := G.out.cr
          rw [← e, HK.out] at h1
          simp at h1
        have hK2 : (W.setCell ⟨w.heap.size + 1, 0, none⟩ (.bool true)).drew.heap[D]? = some (.deferred (some [])) := (Below.heap_setCell W ⟨w.heap.size + 1, 0, none⟩ (.bool true) D hne).trans HK.out
        have hR2 : Cel (W.setCell ⟨w.heap.size + 1, 0, none⟩ (.bool true)).drew (w.heap.size + 1) (.bool true) 4 := G.out.cr.set _
        have hB2 : Below w.heap.size w (W.setCell ⟨w.heap.size + 1, 0, none⟩ (.bool true)).drew := (G.out.bel.setCell (p := ⟨w.heap.size + 1, 0, none⟩) (by show w.heap.size ≤ w.heap.size + 1; omega) _).drew
        refine ⟨by simp, .inl ⟨_, _, rfl, run_takeDeferred hK2, ?_⟩⟩
        refine ⟨_, results_bool rfl (hR2.kept (Kp.of_grown (grownBy_putObj' _ D _)) (fun e => ?_)), rfl, hB2.trans (belowK_b (w := w) (Nat.le_refl _) _ D _ _ HD.out hK2 rfl rfl)⟩
        simp only [Option.some.injEq] at e
        exact hne e
    case stop =>
      rintro D c pre W hD hsp ⟨rfl, bv, hc, hb, hbel⟩ hK
      have hbv : bv = true := by
        rcases hb with h | h
        · exact h
        · exact absurd hsp h
      subst hbv
      have HD : Hid (w.heap.size ≤ D) := by show _ ≤ _; rw [hW4.out] at hD; omega
      gi_wp2
      refine ⟨by simp, .inl ⟨_, _, rfl, run_takeDeferred hK, ?_⟩⟩
      refine ⟨_, results_bool rfl (hc.kept (Kp.of_grown (grownBy_putObj' _ D _)) (fun e => ?_)), rfl, hbel.trans (belowK_b (w := w) (Nat.le_refl _) _ D _ _ HD.out hK rfl rfl)⟩
      have h1 : W.heap[w.heap.size + 1]? = _ := hc
      simp only [Option.some.injEq] at e
      rw [← e, hK] at h1
      simp at h1
end Go.Proofs.Ytonggccbgiecmaa
