/- The walk of CostScript: two Publics, any skeletons in turns. -/
import Derived.Test.YtdmacflcjbkkpaaGreatJs
import Derived.Test.YtdmacflcjbkkpaaGreatCio
import Derived.BigQuiet
namespace Go.Proofs.YtdmacflcjbkkpaaGreat.Cd
open Go.Proofs.YtdmacflcjbkkpaaGreat.Co
open Go.ChangeShapes Go.WideShapes Go.ChangeAt Go.RowKit
open Go.Proofs.YtdmacflcjbkkpaaGreat (Rn RB Own SameOrNew same14 AP Inv1 apart15)
open Go.Proofs.YtdmacflcjbkkpaaGreat.Ou (Sk sv sL LDk SVk LDk_run SVk_run)
open Go.Proofs.YtdmacflcjbkkpaaGreat.Tb (Blk Blk.newAt put_all Kp.setCells)
set_option maxHeartbeats 1600000 in
theorem pick_n (i : Int) (n : Nat) (hn : 0 < n) (hn2 : n ≤ 1000000) (w : World) : Calls Tryz.prog 7 #[.int .i64 i, .int .i64 (n : Int)] w fun e w' => (∃ r : Nat, e = .returned (.int .i64 (r : Int)) ∧ r < n) ∧ w' = w := by
  have hn0 : ¬ (n : Int) = 0 := by omega
  have hn1 : ((n : Int) == 0) = false := beq_eq_false_iff_ne.2 hn0
  have hm1 : ¬ (n : Int) = -1 := by omega
  have ht := Int.tmod_lt_of_pos i (show (0 : Int) < n by omega)
  have ht2 : -(n : Int) < i.tmod n := by
    have := Int.natAbs_tmod i n
    have h2 : i.natAbs % (n : Int).natAbs < n := by
      have : (n : Int).natAbs = n := Int.natAbs_natCast n
      rw [this]; exact Nat.mod_lt _ hn
    omega
  have w1 : IntKind.i64.wrap (i.tmod n) = i.tmod n := by rw [IntKind.wrap_i64]; omega
  by_cases hneg : i.tmod n < 0
  · have w2 : IntKind.i64.wrap (i.tmod n + n) = i.tmod n + n := by rw [IntKind.wrap_i64]; omega
    go_enter Tryz.func7, Tryz.ntmps7
    go_wp2
    go_ret
    refine ⟨⟨(i.tmod n + n).toNat, ?_, by omega⟩, rfl⟩
    rw [show (((i.tmod n + n).toNat : Nat) : Int) = i.tmod n + n by omega]
    rfl
  · go_enter Tryz.func7, Tryz.ntmps7
    go_wp2
    go_ret
    refine ⟨⟨(i.tmod n).toNat, ?_, by omega⟩, rfl⟩
    rw [show (((i.tmod n).toNat : Nat) : Int) = i.tmod n by omega]
    rfl
def SVp (a : Addr) (v : Value) : Sem Unit := storeVar 26 a v
def SVq (a : Addr) (v : Value) : Sem Unit := storeVar 29 a v
@[go_sem ↓ high] theorem svp (a : Addr) (v : Value) : storeVar 26 a v = SVp a v := rfl
@[go_sem ↓ high] theorem svq (a : Addr) (v : Value) : storeVar 29 a v = SVq a v := rfl
theorem infop : (Tryz.prog.info? 26).map (·.size) = some 2 := by kernel_rfl
theorem infoq : (Tryz.prog.info? 29).map (·.size) = some 2 := by kernel_rfl
/-- Two pointers. -/
def pp (f : Nat → Nat) : List Value := [.pointer (some ⟨f 0, 0, none⟩), .pointer (some ⟨f 1, 0, none⟩)]
theorem pp_get (f : Nat → Nat) {k : Nat} (h : k < 2) : (pp f)[k]? = some (.pointer (some ⟨f k, 0, none⟩)) := by
  have : k = 0 ∨ k = 1 := by omega
  rcases this with rfl | rfl <;> rfl
theorem SVp_run {W : World} {g : Nat} {cs : List Value} (p q : Nat) (h : Blk W g cs 26) (hl : cs.length = 2) : ∃ W', (SVp ⟨g, 0, none⟩ (.agg #[.pointer (some ⟨p, 0, none⟩), .pointer (some ⟨q, 0, none⟩)])).run Tryz.prog W = .ok () W' ∧ Blk W' g [.pointer (some ⟨p, 0, none⟩), .pointer (some ⟨q, 0, none⟩)] 26 ∧ Kp (fun j => j = g) W W' := by
  refine ⟨W.setCells g 0 [.pointer (some ⟨p, 0, none⟩), .pointer (some ⟨q, 0, none⟩)], run_storeVar_mid W g 0 _ #[.pointer (some ⟨p, 0, none⟩), .pointer (some ⟨q, 0, none⟩)] (h.there 0 _ (by simp [hl])) infop (all_oneCell_toArray (fun u hu => by simp at hu; rcases hu with rfl | rfl <;> rfl)), ?_, Kp.setCells g 0 _⟩
  have := h.put 0 [.pointer (some ⟨p, 0, none⟩), .pointer (some ⟨q, 0, none⟩)]
  rw [put_all cs _ (by rw [hl]; rfl)] at this
  exact this
theorem SVq_run {W : World} {g : Nat} {cs : List Value} (p q : Nat) (h : Blk W g cs 29) (hl : cs.length = 2) : ∃ W', (SVq ⟨g, 0, none⟩ (.agg #[.pointer (some ⟨p, 0, none⟩), .pointer (some ⟨q, 0, none⟩)])).run Tryz.prog W = .ok () W' ∧ Blk W' g [.pointer (some ⟨p, 0, none⟩), .pointer (some ⟨q, 0, none⟩)] 29 ∧ Kp (fun j => j = g) W W' := by
  refine ⟨W.setCells g 0 [.pointer (some ⟨p, 0, none⟩), .pointer (some ⟨q, 0, none⟩)], run_storeVar_mid W g 0 _ #[.pointer (some ⟨p, 0, none⟩), .pointer (some ⟨q, 0, none⟩)] (h.there 0 _ (by simp [hl])) infoq (all_oneCell_toArray (fun u hu => by simp at hu; rcases hu with rfl | rfl <;> rfl)), ?_, Kp.setCells g 0 _⟩
  have := h.put 0 [.pointer (some ⟨p, 0, none⟩), .pointer (some ⟨q, 0, none⟩)]
  rw [put_all cs _ (by rw [hl]; rfl)] at this
  exact this
def two (a b k : Nat) : Nat := if k = 0 then a else b
/-- What the turns have made so far. -/
structure Tn (w wr : World) (pa ra : Nat) (pk gmk gkk rk : Nat → Nat) (a b c : Value) (i : Nat) (P : Nat → St) (T : Nat → Value) (B : Nat → Nat) (T' : Nat → Value) (B' : Nat → Nat) (F : Nat → List Ru) (H : Nat → Value) (D N : Nat → Nat) (G : Nat → Nat → Int) : Prop where
  tw : Two wr pk gmk gkk rk P P
  ok : ∀ k, k < 2 → (P k).Ok ∧ Mg (65536 * (i : Int)) (P k)
  pa : Blk wr pa (pp pk) 26
  ra : Blk wr ra (pp rk) 29
  t1 : Tol wr w.heap.size a i T B F
  t2 : Tol wr w.heap.size b i T' B' F
  ap : ∀ g, a.ownBlock = some g → b.ownBlock ≠ some g
  fl : ∀ j, j < i → (F j).length ≤ 5
  hl : Hel wr w.heap.size c i H D N G
  nl : ∀ j, j < i → N j ≤ 64
  bel : Below w.heap.size w wr
theorem fe_row {w : World} {base sz n : Nat} {e e' : TypeId} {v : Value} {xs : List Value} (h : w.ownsRow base e sz v n xs) (ht : e ≠ e') : ∀ g, v.ownBlock = some g → Far w g e' := fun _ hg => far_row h ht hg
theorem ap_told {w w7 w8 : World} {pa ra : Nat} {pk gmk gkk rk : Nat → Nat} {a a' b c x y vh : Value} {i bx bY bh nn : Nat} {R : List Ru} {Fh : Nat → Int} {P : Nat → St} {T : Nat → Value} {B : Nat → Nat} {T' : Nat → Value} {B' : Nat → Nat} {F : Nat → List Ru} {H : Nat → Value} {D N : Nat → Nat} {G : Nat → Nat → Int}
    (tw : Two w7 pk gmk gkk rk P P) (kpa : Blk w7 pa (pp pk) 26) (kra : Blk w7 ra (pp rk) 29) (t1 : Tol w7 w.heap.size a i T B F) (t2 : Tol w7 w.heap.size b i T' B' F) (ap : ∀ g, a.ownBlock = some g → b.ownBlock ≠ some g) (hl : Hel w7 w.heap.size c i H D N G) (bel : Below w.heap.size w w7)
    (xo : Own w7 bx x R) (yo : Own w7 bY y R) (ho : Ic.Own w7 bh vh nn Fh) (hbx : w.heap.size ≤ bx) (hlt : ∀ k, k < i → ∀ q, (T k).ownBlock = some q → q < bx)
    (hr : w8.ownsRow w.heap.size 33 1 a' (i + 1) ((List.range i).map T ++ [x])) (hk : Kp (fun q => a.ownBlock = some q) w7 w8) (hs : ∀ g, a'.ownBlock = some g → a.ownBlock = some g ∨ w7.heap.size ≤ g) :
    Two w8 pk gmk gkk rk P P ∧ Blk w8 pa (pp pk) 26 ∧ Blk w8 ra (pp rk) 29 ∧ Tol w8 w.heap.size a' (i + 1) (upd T i x) (upd B i bx) (upd F i R) ∧ Tol w8 w.heap.size b i T' B' F ∧ (∀ g, a'.ownBlock = some g → b.ownBlock ≠ some g) ∧ Hel w8 w.heap.size c i H D N G ∧ Below w.heap.size w w8 ∧ Own w8 bY y R ∧ Ic.Own w8 bh vh nn Fh := by
  refine ⟨tw.row t1.row (by decide) (by decide) (by decide) hk, kpa.kept hk (row_far t1.row (far_blk kpa (by decide))), kra.kept hk (row_far t1.row (far_blk kra (by decide))), t1.push xo hbx hlt hr hk, t2.kept hk (fun g e s => ap g s e) (fun g s => far_row t1.row (by decide) s), fun g e1 e2 => ?_, hl.kept hk (fun g s => far_row t1.row (by decide) s) (fun g s => far_row t1.row (by decide) s), bel.trans (hk.below bel.size (fun j hj e => by have := (t1.row.lt j e).1; omega)), yo.kept hk (fun g e s => row_far yo.2 (far_row t1.row (by decide) s) e), ic_kept ho hk (fun g e s => row_far ho.2 (far_row t1.row (by decide) s) e)⟩
  rcases hs g e1 with h | h
  · exact ap g h e2
  · have := (t2.row.lt g e2).2; omega
theorem ap_wants {w w7 w8 : World} {pa ra : Nat} {pk gmk gkk rk : Nat → Nat} {a b b' c y vh : Value} {i bY bh nn : Nat} {R : List Ru} {Fh : Nat → Int} {P : Nat → St} {T : Nat → Value} {B : Nat → Nat} {T' : Nat → Value} {B' : Nat → Nat} {F F' : Nat → List Ru} {H : Nat → Value} {D N : Nat → Nat} {G : Nat → Nat → Int}
    (tw : Two w7 pk gmk gkk rk P P) (kpa : Blk w7 pa (pp pk) 26) (kra : Blk w7 ra (pp rk) 29) (t1 : Tol w7 w.heap.size a (i + 1) T B F') (t2 : Tol w7 w.heap.size b i T' B' F) (ap : ∀ g, a.ownBlock = some g → b.ownBlock ≠ some g) (hl : Hel w7 w.heap.size c i H D N G) (bel : Below w.heap.size w w7)
    (yo : Own w7 bY y R) (ho : Ic.Own w7 bh vh nn Fh) (hbY : w.heap.size ≤ bY) (hlt : ∀ k, k < i → ∀ q, (T' k).ownBlock = some q → q < bY)
    (hr : w8.ownsRow w.heap.size 33 1 b' (i + 1) ((List.range i).map T' ++ [y])) (hk : Kp (fun q => b.ownBlock = some q) w7 w8) (hs : ∀ g, b'.ownBlock = some g → b.ownBlock = some g ∨ w7.heap.size ≤ g) :
    Two w8 pk gmk gkk rk P P ∧ Blk w8 pa (pp pk) 26 ∧ Blk w8 ra (pp rk) 29 ∧ Tol w8 w.heap.size a (i + 1) T B F' ∧ Tol w8 w.heap.size b' (i + 1) (upd T' i y) (upd B' i bY) (upd F i R) ∧ (∀ g, a.ownBlock = some g → b'.ownBlock ≠ some g) ∧ Hel w8 w.heap.size c i H D N G ∧ Below w.heap.size w w8 ∧ Ic.Own w8 bh vh nn Fh := by
  refine ⟨tw.row t2.row (by decide) (by decide) (by decide) hk, kpa.kept hk (row_far t2.row (far_blk kpa (by decide))), kra.kept hk (row_far t2.row (far_blk kra (by decide))), t1.kept hk (fun g e s => ap g e s) (fun g s => far_row t2.row (by decide) s), t2.push yo hbY hlt hr hk, fun g e1 e2 => ?_, hl.kept hk (fun g s => far_row t2.row (by decide) s) (fun g s => far_row t2.row (by decide) s), bel.trans (hk.below bel.size (fun j hj e => by have := (t2.row.lt j e).1; omega)), ic_kept ho hk (fun g e s => row_far ho.2 (far_row t2.row (by decide) s) e)⟩
  rcases hs g e2 with h | h
  · exact ap g e1 h
  · have := (t1.row.lt g e1).2; omega
theorem ap_helds {w w7 w8 : World} {pa ra : Nat} {pk gmk gkk rk : Nat → Nat} {a b c c' vh : Value} {i bh nn : Nat} {R : List Ru} {Fh : Nat → Int} {P : Nat → St} {T : Nat → Value} {B : Nat → Nat} {T' : Nat → Value} {B' : Nat → Nat} {F : Nat → List Ru} {H : Nat → Value} {D N : Nat → Nat} {G : Nat → Nat → Int}
    (tw : Two w7 pk gmk gkk rk P P) (ok : ∀ k, k < 2 → (P k).Ok ∧ Mg (65536 * ((i + 1 : Nat) : Int)) (P k)) (kpa : Blk w7 pa (pp pk) 26) (kra : Blk w7 ra (pp rk) 29) (t1 : Tol w7 w.heap.size a (i + 1) T B (upd F i R)) (t2 : Tol w7 w.heap.size b (i + 1) T' B' (upd F i R)) (ap : ∀ g, a.ownBlock = some g → b.ownBlock ≠ some g) (fl : ∀ j, j < i → (F j).length ≤ 5) (rl : R.length ≤ 5) (hl : Hel w7 w.heap.size c i H D N G) (nl : ∀ j, j < i → N j ≤ 64) (bel : Below w.heap.size w w7)
    (ho : Ic.Own w7 bh vh nn Fh) (hnn : nn ≤ 64) (hbh : w.heap.size ≤ bh) (hlt : ∀ k, k < i → ∀ q, (H k).ownBlock = some q → q < bh)
    (hr : w8.ownsRow w.heap.size 23 1 c' (i + 1) ((List.range i).map H ++ [vh])) (hk : Kp (fun q => c.ownBlock = some q) w7 w8) :
    Tn w w8 pa ra pk gmk gkk rk a b c' (i + 1) P T B T' B' (upd F i R) (upd H i vh) (upd D i bh) (upd N i nn) (upd G i Fh) := by
  refine ⟨tw.row hl.row (by decide) (by decide) (by decide) hk, ok, kpa.kept hk (row_far hl.row (far_blk kpa (by decide))), kra.kept hk (row_far hl.row (far_blk kra (by decide))), t1.kept hk (fun g e s => row_far t1.row (far_row hl.row (by decide) s) e) (fun g s => far_row hl.row (by decide) s), t2.kept hk (fun g e s => row_far t2.row (far_row hl.row (by decide) s) e) (fun g s => far_row hl.row (by decide) s), ap, fun j hj => ?_, hl.push ho hbh hlt hr hk, fun j hj => ?_, bel.trans (hk.below bel.size (fun j hj e => by have := (hl.row.lt j e).1; omega))⟩
  · by_cases e : j = i
    · subst e; rw [upd_at]; exact rl
    · rw [upd_lt F R (by omega)]; exact fl j (by omega)
  · by_cases e : j = i
    · subst e; rw [upd_at]; exact hnn
    · rw [upd_lt N nn (by omega)]; exact nl j (by omega)
theorem son_or {w w' : World} {u u' : Value} (h : SameOrNew w' u u') (hs : w.heap.size ≤ w'.heap.size) : ∀ g, u'.ownBlock = some g → u.ownBlock = some g ∨ w.heap.size ≤ g := fun g e => by
  rcases h with h | h
  · exact .inl (h ▸ e)
  · exact .inr (Nat.le_trans hs (h g e))
set_option maxRecDepth 100000 in
set_option maxHeartbeats 16000000 in
theorem script_w (v : Value) (n : Nat) (f : Nat → Sk) (ta : Option Addr) (tn tc : Nat) (z : Nat → Int) (w : World) (h : Sx.RB w v n f) (hs : ∀ i, i < n → SkIn (f i)) (hn : (n + 6) * 56 ≤ 140737488355328) (ht : AI w ta tn z) (htn : tn ≤ 9223372036854775807) :
    Calls Tryz.prog 3 #[v, .slice ta tn tc] w fun e w' => e = .returned (.bool true) ∧ Below w.heap.size w w' := by
  obtain ⟨a, c, rfl⟩ := h.isSl
  have H0 := hid h
  have HS := hid hs
  have HT := hid ht
  have n1 : n ≤ 100000000000000 := by omega
  clear h hs hn ht
  by_cases hlt : 300 < n
  · have h3 : 300 < (n : Int) := by omega
    go_enter Tryz.func3, Tryz.ntmps3
    go_wp2
    go_ret
    exact ⟨rfl, Below.refl _ _⟩
  · have h3 : ¬ 300 < (n : Int) := by omega
    have hn3 : n ≤ 300 := by omega
    go_enter Tryz.func3, Tryz.ntmps3
    go_wp2_with fail
    refine (new_ok _).mono ?_
    rintro e W1 ⟨p0, gm0, gk0, rfl, pu0, hp0, hg0, hk0, b1⟩
    have PU0 := hid pu0
    have L0 := hid pu0.lt
    have G0 := hid hg0
    have B1 := hid b1
    clear pu0 hp0 hg0 hk0 b1
    go_wp2_with fail
    refine (new_ok _).mono ?_
    rintro e W2 ⟨p1, gm1, gk1, rfl, pu1, hp1, hg1, hk1, b2⟩
    have PU1 := hid pu1
    have L1 := hid pu1.lt
    have G1 := hid hg1
    have B2 := hid b2
    clear pu1 hp1 hg1 hk1 b2
    obtain ⟨WA, hWA⟩ : ∃ U, W2.alloc (.cells #[.pointer none, .pointer none] 26) = U := ⟨_, rfl⟩
    have BA : Below W2.heap.size W2 WA := by rw [← hWA]; exact below_alloc _ _
    have KA : Blk WA W2.heap.size [.pointer none, .pointer none] 26 := by rw [← hWA]; exact Blk.newAt W2 _ _ _ W2.heap.size rfl rfl
    obtain ⟨W3, s3, k3, q3⟩ := SVp_run p0 p1 KA rfl
    have K3 : Hid (Blk W3 W2.heap.size (pp (two p0 p1)) 26) := hid k3
    have B3 : Hid (Below W2.heap.size W2 W3) := hid (BA.trans (q3.below (B := W2.heap.size) BA.size (fun j hj e => by have e : j = W2.heap.size := e; omega)))
    clear k3 q3 BA KA
    go_wp2_with fail
    clear hWA s3
    refine (dnew_ok _).mono ?_
    rintro e W4 ⟨r0, rfl, dp0, hr0, b4⟩
    have DP0 := hid dp0
    have R0 := hid dp0.lt
    have R00 := hid hr0
    have B4 := hid b4
    clear dp0 hr0 b4
    go_wp2_with fail
    refine (dnew_ok _).mono ?_
    rintro e W5 ⟨r1, rfl, dp1, hr1, b5⟩
    have DP1 := hid dp1
    have R1 := hid hr1
    have B5 := hid b5
    clear dp1 hr1 b5
    obtain ⟨WA, hWA⟩ : ∃ U, W5.alloc (.cells #[.pointer none, .pointer none] 29) = U := ⟨_, rfl⟩
    have BA : Below W5.heap.size W5 WA := by rw [← hWA]; exact below_alloc _ _
    have KA : Blk WA W5.heap.size [.pointer none, .pointer none] 29 := by rw [← hWA]; exact Blk.newAt W5 _ _ _ W5.heap.size rfl rfl
    obtain ⟨W6, s6, k6, q6⟩ := SVq_run r0 r1 KA rfl
    have K6 : Hid (Blk W6 W5.heap.size (pp (two r0 r1)) 29) := hid k6
    have B6 : Hid (Below W5.heap.size W5 W6) := hid (BA.trans (q6.below (B := W5.heap.size) BA.size (fun j hj e => by have e : j = W5.heap.size := e; omega)))
    clear k6 q6 BA KA
    have c0 := (K3.out.below (below_next (below_next B4.out B5.out) B6.out)).cell 0 _ rfl
    have c1 := (K3.out.below (below_next (below_next B4.out B5.out) B6.out)).cell 1 _ rfl
    have BW := hid (below_next (below_next (below_next (below_next (below_next B1.out B2.out) B3.out) B4.out) B5.out) B6.out)
    have B16 := hid (below_next (below_next (below_next (below_next B2.out B3.out) B4.out) B5.out) B6.out)
    have B26 := hid (below_next (below_next (below_next B3.out B4.out) B5.out) B6.out)
    have B46 := hid (below_next B5.out B6.out)
    obtain ⟨pk, hpk⟩ : ∃ g, two p0 p1 = g := ⟨_, rfl⟩
    obtain ⟨gmk, hgm⟩ : ∃ g, two gm0 gm1 = g := ⟨_, rfl⟩
    obtain ⟨gkk, hgk⟩ : ∃ g, two gk0 gk1 = g := ⟨_, rfl⟩
    obtain ⟨rk, hrk⟩ : ∃ g, two r0 r1 = g := ⟨_, rfl⟩
    have TW : Hid (Two W6 pk gmk gkk rk (fun _ => P00) (fun _ => P00)) := hid (by
      rw [← hpk, ← hgm, ← hgk, ← hrk]
      refine ⟨fun k hk => ?_, fun k hk => ?_⟩
      · have : k = 0 ∨ k = 1 := by omega
        rcases this with rfl | rfl
        · exact PU0.out.below B16.out
        · exact PU1.out.below B26.out
      · have : k = 0 ∨ k = 1 := by omega
        rcases this with rfl | rfl
        · exact DP0.out.below B46.out
        · exact DP1.out.below B6.out)
    have GN : Hid (gmk 0 ≠ gmk 1) := hid (by rw [← hgm]; show gm0 ≠ gm1; have := L0.out; have := G1.out; omega)
    have RN : Hid (rk 0 ≠ rk 1) := hid (by rw [← hrk]; show r0 ≠ r1; have := R0.out; have := R1.out; omega)
    have GG : Hid (∀ k, k < 2 → w.heap.size ≤ gmk k) := hid (fun k hk => by
      rw [← hgm]
      have : k = 0 ∨ k = 1 := by omega
      rcases this with rfl | rfl
      · exact G0.out
      · show w.heap.size ≤ gm1; have := G1.out; have := B1.out.size; omega)
    have RG : Hid (∀ k, k < 2 → w.heap.size ≤ rk k) := hid (fun k hk => by
      rw [← hrk]
      have s1 := B1.out.size
      have s2 := B2.out.size
      have s3 := B3.out.size
      have s4 := B4.out.size
      have : k = 0 ∨ k = 1 := by omega
      rcases this with rfl | rfl
      · show w.heap.size ≤ r0; have := R00.out; omega
      · show w.heap.size ≤ r1; have := R1.out; omega)
    rw [hpk] at K3
    rw [hrk] at K6
    have T0 : Hid (Tn w W6 W2.heap.size W5.heap.size pk gmk gkk rk (.slice none 0 0) (.slice none 0 0) (.slice none 0 0) 0 (fun _ => P00) (fun _ => .slice none 0 0) (fun _ => 0) (fun _ => .slice none 0 0) (fun _ => 0) (fun _ => []) (fun _ => .slice none 0 0) (fun _ => 0) (fun _ => 0) (fun _ _ => 0)) := hid (by
      exact ⟨TW.out, (fun k hk => ⟨start_ok, fun j y e => by cases e⟩), K3.out.below (below_next (below_next B4.out B5.out) B6.out), K6.out, Tol.nil _ _ _ _ _, Tol.nil _ _ _ _ _, (fun g e => by cases e), (fun j hj => by omega), Hel.nil _ _ _ _ _ _, (fun j hj => by omega), BW.out⟩)
    go_wp2_with fail
    clear hWA s6 c0 c1
    obtain ⟨pa, hpa⟩ : ∃ g, W2.heap.size = g := ⟨_, rfl⟩
    obtain ⟨ra, hra⟩ : ∃ g, W5.heap.size = g := ⟨_, rfl⟩
    rw [hpa, hra]
    rw [hpa, hra] at T0
    clear hpa hra hpk hgm hgk hrk PU0 PU1 DP0 DP1 TW K3 K6
    go_loopw [7, 8, 9, 10] (fun sa sb sc x wr => ∃ i : Nat, i ≤ n ∧ x = .int .i64 i ∧ (n = 0 → sa = .slice none 0 0 ∧ sb = .slice none 0 0 ∧ sc = .slice none 0 0) ∧ ∃ P T B T' B' F H D N G, Tn w wr pa ra pk gmk gkk rk sa sb sc i P T B T' B' F H D N G) (fun _ _ _ x _ => n - (RowKit.intOf x).toNat)
    case atStart => exact ⟨0, Nat.zero_le _, rfl, fun _ => ⟨rfl, rfl, rfl⟩, _, _, _, _, _, _, _, _, _, _, T0.out⟩
    case round =>
      obtain ⟨i, hi, rfl, hnil, P, T, B, T', B', F, H, D, N, G, tn0⟩ := hrel
      have TN := hid tn0
      clear tn0 T0
      by_cases hlti : i < n
      · obtain ⟨b, off, rfl, ld⟩ := H0.out.ldB hlti
        have hsi := HS.out i hlti
        obtain ⟨s, hs⟩ : ∃ s, f i = s := ⟨_, rfl⟩
        rw [hs] at ld hsi
        obtain ⟨y1, y2, y3, y4, y5, y6, y7⟩ := s
        have LD : Hid (∀ V, Below w.heap.size w V → (LDk ⟨b, off + i * 7, none⟩).run Tryz.prog V = .ok (.agg #[.int .u8 y1, .int .i64 y2, .int .u8 y3, .int .i64 y4, .int .i64 y5, .int .i64 y6, .int .i64 y7]) V) := hid ld
        have SI := hid hsi
        have im : (i : Int) < (n : Int) := by omega
        have iz : (0 : Int) ≤ (i : Int) := by omega
        clear ld hsi hs
        by_cases hm : i < tn
        · obtain ⟨tb, toff, rfl, tcell⟩ := HT.out.resolve_left (by omega)
          have tci := tcell i hm
          have x9 : wr.cell? ⟨tb, toff + i, none⟩ = some (.int .i64 (z i)) := by rw [TN.out.bel.cell (p := ⟨tb, toff + i, none⟩) (block_lt_of_cell tci)]; exact tci
          have PI := hid (pick_n (z i) 2 (by decide) (by decide) wr)
          have PI : Hid (Calls Tryz.prog 7 #[.int .i64 (z i), .int .i64 2] wr fun e w' => (∃ r : Nat, e = .returned (.int .i64 (r : Int)) ∧ r < 2) ∧ w' = wr) := PI
          have tim : (i : Int) < (tn : Int) := by omega
          clear tcell tci
          go_wp2_with fail
          refine PI.out.mono ?_
          rintro e wr ⟨⟨k, rfl, hk2⟩, rfl⟩
          clear x9 PI
          have TK := hid (TN.out.tw)
          have OK := hid (TN.out.ok k hk2)
          obtain ⟨Q, hQ⟩ : ∃ Q, P k = Q := ⟨_, rfl⟩
          obtain ⟨cc0, hcc⟩ : ∃ c, cod Q (clp ⟨y1, y2, y3, y4, y5, y6, y7⟩) = c := ⟨_, rfl⟩
          obtain ⟨R, hR⟩ : ∃ R, row Q ⟨y1, y2, y3, y4, y5, y6, y7⟩ = R := ⟨_, rfl⟩
          obtain ⟨Q', hQ'⟩ : ∃ R, stp Q ⟨y1, y2, y3, y4, y5, y6, y7⟩ = R := ⟨_, rfl⟩
          have RL : Hid (R.length ≤ 5) := hid (by rw [← hR]; exact (row_len _ _).2)
          have OQ : Hid (Q.Ok ∧ Mg 1000000000000 Q) := hid (by rw [← hQ]; exact ⟨OK.out.1, fun j y e => by have := OK.out.2 j y e; omega⟩)
          have OQ' : Hid (Q'.Ok ∧ Mg (65536 * ((i + 1 : Nat) : Int)) Q') := hid (by
            rw [← hQ']
            refine ⟨stp_ok OQ.out.1 _, ?_⟩
            have hm1 : Mg (65536 * (i : Int)) Q := by rw [← hQ]; exact OK.out.2
            have := mg_stp (b := 65536 * (i : Int)) (by omega) hm1 ⟨y1, y2, y3, y4, y5, y6, y7⟩
            intro j y e
            have := this j y e
            omega)
          have PUQ : Hid (PU wr (pk k) (gmk k) (gkk k) Q) := hid (by rw [← hQ]; exact TK.out.pu k hk2)
          have DA : Hid (∀ V, Below wr.heap.size wr V → Calls Tryz.prog 8 #[.pointer (some ⟨pk k, 0, none⟩), .agg #[.int .u8 y1, .int .i64 y2, .int .u8 y3, .int .i64 y4, .int .i64 y5, .int .i64 y6, .int .i64 y7]] V fun e w2 => ∃ va vn vc, e = .returned (.tuple #[.slice va vn vc, .int .i64 cc0]) ∧ Hid (Own w2 V.heap.size (.slice va vn vc) R ∧ PU w2 (pk k) (gmk k) (gkk k) Q' ∧ Kp (fun j => j = gmk k) V w2)) := hid fun V hV => by
            have d := do_ok (pk k) (gmk k) (gkk k) Q ⟨y1, y2, y3, y4, y5, y6, y7⟩ V (PUQ.out.below hV) SI.out OQ.out.1 OQ.out.2
            rw [hcc, hR, hQ'] at d
            refine Calls.mono d ?_
            rintro e w2 ⟨v, he, ho, hp, hk⟩
            obtain ⟨va, vn, vc, rfl⟩ := ho.isSlice
            exact ⟨va, vn, vc, he, hid ⟨ho, hp, hk⟩⟩
          have MQ := hid (PUQ.out.map.below (below_drewN wr 1))
          have NX : Hid (∀ w2, Kp (fun j => j = gmk k) wr.drew w2 → Below w.heap.size w w2 ∧ Blk w2 pa (pp pk) 26 ∧ Blk w2 ra (pp rk) 29 ∧ Tol w2 w.heap.size u7 i T B F ∧ Tol w2 w.heap.size u8 i T' B' F ∧ Hel w2 w.heap.size u9 i H D N G) := hid fun w2 hk => by
            have bd := below_drewN wr 1
            have fm : ∀ e g, g = gmk k → Far wr.drew g e := fun e g hg => by rw [hg]; exact far_map MQ.out e
            refine ⟨(TN.out.bel.trans (bd.mono TN.out.bel.size)).trans (hk.below TN.out.bel.size (fun j hj e => by have e : j = gmk k := e; have := GG.out k hk2; omega)), (TN.out.pa.below bd).kept hk (fun e => MQ.out.ne (TN.out.pa.below bd) (e ▸ rfl)), (TN.out.ra.below bd).kept hk (fun e => MQ.out.ne (TN.out.ra.below bd) (e ▸ rfl)), (TN.out.t1.below bd).kept hk (fun g e s => row_far (TN.out.t1.below bd).row (fm _ g s) e) (fun g s => fm _ g s), (TN.out.t2.below bd).kept hk (fun g e s => row_far (TN.out.t2.below bd).row (fm _ g s) e) (fun g s => fm _ g s), (TN.out.hl.below bd).kept hk (fun g s => fm _ g s) (fun g s => fm _ g s)⟩
          have z1 := TN.out.pa.cell k _ (pp_get pk hk2)
          have z2 : (LDk ⟨b, off + i * 7, none⟩).run Tryz.prog wr.drew = .ok (.agg #[.int .u8 y1, .int .i64 y2, .int .u8 y3, .int .i64 y4, .int .i64 y5, .int .i64 y6, .int .i64 y7]) wr.drew := LD.out wr.drew (TN.out.bel.trans ((below_drewN wr 1).mono TN.out.bel.size))
          have kn : (k : Int) < 2 := by omega
          have kz : (0 : Int) ≤ (k : Int) := by omega
          have HQ := hid hQ
          have HCC := hid hcc
          have HR := hid hR
          have HQ' := hid hQ'
          clear hcc hR hQ' hQ
          go_wp2_with fail
          go_region_held3 (fun V => V.cell? ⟨pa, k, none⟩ = some (.pointer (some ⟨pk k, 0, none⟩)) ∧ (LDk ⟨b, off + i * 7, none⟩).run Tryz.prog V = .ok (.agg #[.int .u8 y1, .int .i64 y2, .int .u8 y3, .int .i64 y4, .int .i64 y5, .int .i64 y6, .int .i64 y7]) V) (go_keep) ((go_at_call 8; refine (DA.out wr.drew (below_drewN wr 1)).mono ?_; rintro e w2 ⟨xa, xn, xc, rfl, h2⟩; have n2 := NX.out w2 h2.out.2.2; have m1 := n2.2.1.cell k _ (pp_get pk hk2); have m2 := LD.out w2 n2.1; have N2 := hid n2; clear n2))
          have TW2 : Hid (Two w2 pk gmk gkk rk (upd P k Q') P) := hid (Two.prog (TK.out.below (below_drewN wr 1)) hk2 h2.out.2.2 h2.out.2.1 GN.out)
          have XO : Hid (Own w2 wr.heap.size (.slice xa xn xc) R) := hid h2.out.1
          have SZ2 : Hid (wr.heap.size ≤ w2.heap.size) := hid h2.out.2.2.size
          have DPQ : Hid (DP w2 (rk k) Q) := hid (by rw [← HQ.out]; exact TW2.out.dp k hk2)
          have DB : Hid (∀ V, Below w2.heap.size w2 V → Calls Tryz.prog 9 #[.pointer (some ⟨rk k, 0, none⟩), .agg #[.int .u8 y1, .int .i64 y2, .int .u8 y3, .int .i64 y4, .int .i64 y5, .int .i64 y6, .int .i64 y7]] V fun e w3 => ∃ va vn vc, e = .returned (.tuple #[.slice va vn vc, .int .i64 cc0]) ∧ Hid (Own w3 V.heap.size (.slice va vn vc) R ∧ DP w3 (rk k) Q' ∧ Kp (fun j => j = rk k) V w3)) := hid fun V hV => by
            have d := ddo_ok (rk k) Q ⟨y1, y2, y3, y4, y5, y6, y7⟩ V (DPQ.out.below hV) SI.out OQ.out.1 OQ.out.2
            rw [HCC.out, HR.out, HQ'.out] at d
            refine Calls.mono d ?_
            rintro e w3 ⟨v, he, ho, hp, hk⟩
            obtain ⟨va, vn, vc, rfl⟩ := ho.isSlice
            exact ⟨va, vn, vc, he, hid ⟨ho, hp, hk⟩⟩
          have NY : Hid (∀ w3, Kp (fun j => j = rk k) w2.drew w3 → Below w.heap.size w w3 ∧ Blk w3 pa (pp pk) 26 ∧ Blk w3 ra (pp rk) 29 ∧ Tol w3 w.heap.size u7 i T B F ∧ Tol w3 w.heap.size u8 i T' B' F ∧ Hel w3 w.heap.size u9 i H D N G ∧ Own w3 wr.heap.size (.slice xa xn xc) R) := hid fun w3 hk => by
            have bd := below_drewN w2 1
            obtain ⟨n0, n1, n2, n3, n4, n5⟩ := N2.out
            obtain ⟨_, _, hb, _⟩ := DPQ.out.below bd
            have fm : ∀ e g, 67 ≠ e → g = rk k → Far w2.drew g e := fun e g he hg => by rw [hg]; exact far_blk hb he
            refine ⟨(n0.trans (bd.mono n0.size)).trans (hk.below n0.size (fun j hj e => by have e : j = rk k := e; have := RG.out k hk2; omega)), (n1.below bd).kept hk (fun e => (n1.below bd).ne hb (by decide) e), (n2.below bd).kept hk (fun e => (n2.below bd).ne hb (by decide) e), (n3.below bd).kept hk (fun g e s => row_far (n3.below bd).row (fm _ g (by decide) s) e) (fun g s => fm _ g (by decide) s), (n4.below bd).kept hk (fun g e s => row_far (n4.below bd).row (fm _ g (by decide) s) e) (fun g s => fm _ g (by decide) s), (n5.below bd).kept hk (fun g s => fm _ g (by decide) s) (fun g s => fm _ g (by decide) s), (XO.out.below bd).kept hk (fun g e s => row_far (XO.out.below bd).2 (fm _ g (by decide) s) e)⟩
          have z3 := N2.out.2.2.1.cell k _ (pp_get rk hk2)
          have z4 : (LDk ⟨b, off + i * 7, none⟩).run Tryz.prog w2.drew = .ok (.agg #[.int .u8 y1, .int .i64 y2, .int .u8 y3, .int .i64 y4, .int .i64 y5, .int .i64 y6, .int .i64 y7]) w2.drew := LD.out w2.drew (N2.out.1.trans ((below_drewN w2 1).mono N2.out.1.size))
          clear z1 z2 m1 m2 h2
          go_wp2_with fail
          go_region_held3 (fun V => V.cell? ⟨ra, k, none⟩ = some (.pointer (some ⟨rk k, 0, none⟩)) ∧ (LDk ⟨b, off + i * 7, none⟩).run Tryz.prog V = .ok (.agg #[.int .u8 y1, .int .i64 y2, .int .u8 y3, .int .i64 y4, .int .i64 y5, .int .i64 y6, .int .i64 y7]) V) (go_keep) ((go_at_call 9; refine (DB.out w2.drew (below_drewN w2 1)).mono ?_; rintro e w3 ⟨ya, yn, yc, rfl, h4⟩; have n3 := NY.out w3 h4.out.2.2; have q1 := n3.2.2.1.cell k _ (pp_get rk hk2); have q2 := LD.out w3 n3.1; have N3 := hid n3; clear n3))
          have TW3 : Hid (Two w3 pk gmk gkk rk (upd P k Q') (upd P k Q')) := hid (Two.doc (TW2.out.below (below_drewN w2 1)) hk2 h4.out.2.2 h4.out.2.1 RN.out)
          have YO : Hid (Own w3 w2.heap.size (.slice ya yn yc) R) := hid h4.out.1
          have SZ3 : Hid (w2.heap.size ≤ w3.heap.size) := hid h4.out.2.2.size
          have z5 := N3.out.2.1.cell k _ (pp_get pk hk2)
          obtain ⟨PK, hPK⟩ : ∃ R, upd P k Q' k = R := ⟨_, rfl⟩
          have HH := hid (pheld_ok (pk k) (gmk k) (gkk k) _ w3 (TW3.out.pu k hk2))
          have DD3 := hid (TW3.out.dp k hk2)
          rw [hPK] at HH DD3
          clear z3 z4 q1 q2 h4 hPK
          go_wp2_with fail
          refine HH.out.mono ?_
          rintro e w4 ⟨vh, rfl, hho, b4⟩
          have HO4 := hid hho
          have B4 := hid b4
          obtain ⟨_, ha, hc, ehv, _⟩ := hho.reads
          subst ehv
          clear HH hho b4 z5
          have SR : Hid (Calls Tryz.prog 11 #[.slice xa xn xc, .slice ya yn yc] w4 fun e w5 => e = .returned (.bool true) ∧ Below w4.heap.size w4 w5) := hid (by
            have rl := RL.out
            have h := same14 _ _ R R w4 (N3.out.2.2.2.2.2.2.below B4.out).reads (YO.out.below B4.out).reads (by omega) (by omega)
            rw [decide_eq_true rfl] at h
            refine Calls.mono h ?_
            rintro e w5 ⟨he, d, rfl⟩
            exact ⟨he, below_drewN _ _⟩)
          have cne : (cc0 != cc0) = false := by simp
          go_wp2_with fail
          refine SR.out.mono ?_
          rintro e w5 ⟨rfl, b5⟩
          have B5 := hid (below_next B4.out b5)
          have z6 := (N3.out.2.2.1.below B5.out).cell k _ (pp_get rk hk2)
          have DH := hid (dheld_ok (rk k) PK w5 (DD3.out.below B5.out))
          have C5 := hid b5
          clear SR b5
          go_wp2_with fail
          refine DH.out.mono ?_
          rintro e w6 ⟨vi, rfl, hio, b6⟩
          have B6 := hid (below_next B5.out b6)
          have C6 := hid (below_next C5.out b6)
          have HO6 : Hid (Ic.Own w6 w3.heap.size (.slice ha (Co.cnt PK) hc) (Co.cnt PK) (hF PK)) := hid (ic_kept HO4.out (Kp.of_below (fun _ => False) C6.out) (fun _ _ e => e))
          have SIN := hid (samei _ _ _ (hF PK) w6 HO6.out.reads hio.reads (by have := cnt_le PK; omega))
          obtain ⟨_, ia, ic, eiv, _⟩ := hio.reads
          subst eiv
          clear DH b6 hio z6
          go_wp2_with fail
          refine SIN.out.mono ?_
          rintro e w7 ⟨rfl, b7⟩
          have B7 := hid (below_next B6.out b7)
          have TW7 := hid (TW3.out.below B7.out)
          have N7 : Hid (Below w.heap.size w w7 ∧ Blk w7 pa (pp pk) 26 ∧ Blk w7 ra (pp rk) 29 ∧ Tol w7 w.heap.size u7 i T B F ∧ Tol w7 w.heap.size u8 i T' B' F ∧ Hel w7 w.heap.size u9 i H D N G ∧ Own w7 wr.heap.size (.slice xa xn xc) R ∧ Own w7 w2.heap.size (.slice ya yn yc) R ∧ Ic.Own w7 w3.heap.size (.slice ha (Co.cnt PK) hc) (Co.cnt PK) (hF PK)) := hid (by
            obtain ⟨n0, n1, n2, n3, n4, n5, n6⟩ := N3.out
            exact ⟨n0.trans (B7.out.mono n0.size), n1.below B7.out, n2.below B7.out, n3.below B7.out, n4.below B7.out, n5.below B7.out, n6.below B7.out, YO.out.below B7.out, ic_kept HO6.out (Kp.of_below (fun _ => False) b7) (fun _ _ e => e)⟩)
          have SZ0 := hid TN.out.bel.size
          have S7 := N7.out.1.size
          have L1 : Hid (∀ t, t < i → ∀ q, (T t).ownBlock = some q → q < wr.heap.size) := hid fun t ht q e => ((TN.out.t1.own t ht).1.2.lt q e).2
          have L2 : Hid (∀ t, t < i → ∀ q, (T' t).ownBlock = some q → q < w2.heap.size) := hid fun t ht q e => by have := ((TN.out.t2.own t ht).1.2.lt q e).2; have := SZ2.out; omega
          have L3 : Hid (∀ t, t < i → ∀ q, (H t).ownBlock = some q → q < w3.heap.size) := hid fun t ht q e => by have := ((TN.out.hl.own t ht).1.2.lt q e).2; have := SZ2.out; have := SZ3.out; omega
          have OKN : Hid (∀ j, j < 2 → (upd P k Q' j).Ok ∧ Mg (65536 * ((i + 1 : Nat) : Int)) (upd P k Q' j)) := hid fun j hj => by
            by_cases e : j = k
            · rw [e, upd_at]; exact OQ'.out
            · rw [show upd P k Q' j = P j from if_neg e]
              obtain ⟨o1, o2⟩ := TN.out.ok j hj
              exact ⟨o1, fun j2 y e2 => by have := o2 j2 y e2; omega⟩
          have i9 : i ≤ 1000 := by omega
          have ROW1 := hid N7.out.2.2.2.1.row
          clear SIN b7
          go_wp2_with (at_builtin; go_must (refine wpList_pushV rfl _ _ 30 33 (.slice none 0 0) 24 rfl Tryz.underlying30 infoR rfl w.heap.size _ i _ (.slice xa xn xc) (ROW1.out.alloc _) rfl ?b0 ?b1 ?b2 ⟨_, 0, none⟩ rfl rfl (cell_one_new _ _ _) ?_))
          case b0 => exact Nat.le_trans S7 (below_alloc _ _).size
          case b1 => omega
          case b2 => omega
          intro s1 w8 hrow8 hk8 hs8
          have A1 := hid (by
            obtain ⟨n0, n1, n2, n3, n4, n5, n6, n7, n8⟩ := N7.out
            exact ap_told TW7.out n1 n2 n3 n4 TN.out.ap n5 n0 n6 n7 n8 SZ0.out L1.out hrow8 ((Kp.of_below _ (below_alloc _ _)).trans hk8 (fun _ _ e => e)) (son_or hs8 (below_alloc _ _).size))
          have S8 := A1.out.2.2.2.2.2.2.2.1.size
          have ROW2 := hid A1.out.2.2.2.2.1.row
          clear hrow8 hk8 hs8
          go_wp2_with (at_builtin; go_must (refine wpList_pushV rfl _ _ 30 33 (.slice none 0 0) 24 rfl Tryz.underlying30 infoR rfl w.heap.size _ i _ (.slice ya yn yc) (ROW2.out.alloc _) rfl ?b0 ?b1 ?b2 ⟨_, 0, none⟩ rfl rfl (cell_one_new _ _ _) ?_))
          case b0 => exact Nat.le_trans S8 (below_alloc _ _).size
          case b1 => omega
          case b2 => omega
          intro s2 w9 hrow9 hk9 hs9
          have A2 := hid (by
            obtain ⟨m0, m1, m2, m3, m4, m5, m6, m7, m8, m9⟩ := A1.out
            exact ap_wants m0 m1 m2 m3 m4 m5 m6 m7 m8 m9 (Nat.le_trans SZ0.out SZ2.out) L2.out hrow9 ((Kp.of_below _ (below_alloc _ _)).trans hk9 (fun _ _ e => e)) (son_or hs9 (below_alloc _ _).size))
          have S9 := A2.out.2.2.2.2.2.2.2.1.size
          have ROW3 := hid A2.out.2.2.2.2.2.2.1.row
          clear hrow9 hk9 hs9
          go_wp2_with (at_builtin; go_must (refine wpList_pushV rfl _ _ 31 23 (.slice none 0 0) 24 rfl Tryz.underlying31 Ic.info32 rfl w.heap.size _ i _ (.slice ha (Co.cnt PK) hc) (ROW3.out.alloc _) rfl ?b0 ?b1 ?b2 ⟨_, 0, none⟩ rfl rfl (cell_one_new _ _ _) ?_))
          case b0 => exact Nat.le_trans S9 (below_alloc _ _).size
          case b1 => omega
          case b2 => omega
          intro s3 w10 hrow10 hk10 hs10
          have A3 := hid (by
            obtain ⟨m0, m1, m2, m3, m4, m5, m6, m7, m8⟩ := A2.out
            exact ap_helds m0 OKN.out m1 m2 m3 m4 m5 TN.out.fl RL.out m6 TN.out.nl m7 m8 (cnt_le PK) (Nat.le_trans SZ0.out (Nat.le_trans SZ2.out SZ3.out)) L3.out hrow10 ((Kp.of_below _ (below_alloc _ _)).trans hk10 (fun _ _ e => e)))
          clear hrow10 hk10 hs10
          go_wp2
          go_roundw
          case rel => exact ⟨i + 1, by omega, by go_num, fun e => by omega, _, _, _, _, _, _, _, _, _, _, A3.out⟩
          case measure => simp [RowKit.intOf]; omega
        · have tim : ¬ (i : Int) < (tn : Int) := by omega
          have hk2 : 0 < 2 := by decide
          have TK := hid (TN.out.tw)
          have OK := hid (TN.out.ok 0 hk2)
          obtain ⟨Q, hQ⟩ : ∃ Q, P 0 = Q := ⟨_, rfl⟩
          obtain ⟨cc0, hcc⟩ : ∃ c, cod Q (clp ⟨y1, y2, y3, y4, y5, y6, y7⟩) = c := ⟨_, rfl⟩
          obtain ⟨R, hR⟩ : ∃ R, row Q ⟨y1, y2, y3, y4, y5, y6, y7⟩ = R := ⟨_, rfl⟩
          obtain ⟨Q', hQ'⟩ : ∃ R, stp Q ⟨y1, y2, y3, y4, y5, y6, y7⟩ = R := ⟨_, rfl⟩
          have RL : Hid (R.length ≤ 5) := hid (by rw [← hR]; exact (row_len _ _).2)
          have OQ : Hid (Q.Ok ∧ Mg 1000000000000 Q) := hid (by rw [← hQ]; exact ⟨OK.out.1, fun j y e => by have := OK.out.2 j y e; omega⟩)
          have OQ' : Hid (Q'.Ok ∧ Mg (65536 * ((i + 1 : Nat) : Int)) Q') := hid (by
            rw [← hQ']
            refine ⟨stp_ok OQ.out.1 _, ?_⟩
            have hm1 : Mg (65536 * (i : Int)) Q := by rw [← hQ]; exact OK.out.2
            have := mg_stp (b := 65536 * (i : Int)) (by omega) hm1 ⟨y1, y2, y3, y4, y5, y6, y7⟩
            intro j y e
            have := this j y e
            omega)
          have PUQ : Hid (PU wr (pk 0) (gmk 0) (gkk 0) Q) := hid (by rw [← hQ]; exact TK.out.pu 0 hk2)
          have DA : Hid (∀ V, Below wr.heap.size wr V → Calls Tryz.prog 8 #[.pointer (some ⟨pk 0, 0, none⟩), .agg #[.int .u8 y1, .int .i64 y2, .int .u8 y3, .int .i64 y4, .int .i64 y5, .int .i64 y6, .int .i64 y7]] V fun e w2 => ∃ va vn vc, e = .returned (.tuple #[.slice va vn vc, .int .i64 cc0]) ∧ Hid (Own w2 V.heap.size (.slice va vn vc) R ∧ PU w2 (pk 0) (gmk 0) (gkk 0) Q' ∧ Kp (fun j => j = gmk 0) V w2)) := hid fun V hV => by
            have d := do_ok (pk 0) (gmk 0) (gkk 0) Q ⟨y1, y2, y3, y4, y5, y6, y7⟩ V (PUQ.out.below hV) SI.out OQ.out.1 OQ.out.2
            rw [hcc, hR, hQ'] at d
            refine Calls.mono d ?_
            rintro e w2 ⟨v, he, ho, hp, hk⟩
            obtain ⟨va, vn, vc, rfl⟩ := ho.isSlice
            exact ⟨va, vn, vc, he, hid ⟨ho, hp, hk⟩⟩
          have MQ := hid (PUQ.out.map.below (below_drewN wr 1))
          have NX : Hid (∀ w2, Kp (fun j => j = gmk 0) wr.drew w2 → Below w.heap.size w w2 ∧ Blk w2 pa (pp pk) 26 ∧ Blk w2 ra (pp rk) 29 ∧ Tol w2 w.heap.size u7 i T B F ∧ Tol w2 w.heap.size u8 i T' B' F ∧ Hel w2 w.heap.size u9 i H D N G) := hid fun w2 hk => by
            have bd := below_drewN wr 1
            have fm : ∀ e g, g = gmk 0 → Far wr.drew g e := fun e g hg => by rw [hg]; exact far_map MQ.out e
            refine ⟨(TN.out.bel.trans (bd.mono TN.out.bel.size)).trans (hk.below TN.out.bel.size (fun j hj e => by have e : j = gmk 0 := e; have := GG.out 0 hk2; omega)), (TN.out.pa.below bd).kept hk (fun e => MQ.out.ne (TN.out.pa.below bd) (e ▸ rfl)), (TN.out.ra.below bd).kept hk (fun e => MQ.out.ne (TN.out.ra.below bd) (e ▸ rfl)), (TN.out.t1.below bd).kept hk (fun g e s => row_far (TN.out.t1.below bd).row (fm _ g s) e) (fun g s => fm _ g s), (TN.out.t2.below bd).kept hk (fun g e s => row_far (TN.out.t2.below bd).row (fm _ g s) e) (fun g s => fm _ g s), (TN.out.hl.below bd).kept hk (fun g s => fm _ g s) (fun g s => fm _ g s)⟩
          have z1 := TN.out.pa.cell 0 _ (pp_get pk hk2)
          have z2 : (LDk ⟨b, off + i * 7, none⟩).run Tryz.prog wr.drew = .ok (.agg #[.int .u8 y1, .int .i64 y2, .int .u8 y3, .int .i64 y4, .int .i64 y5, .int .i64 y6, .int .i64 y7]) wr.drew := LD.out wr.drew (TN.out.bel.trans ((below_drewN wr 1).mono TN.out.bel.size))
          have kn : (0 : Int) < 2 := by omega
          have kz : (0 : Int) ≤ (0 : Int) := by omega
          have HQ := hid hQ
          have HCC := hid hcc
          have HR := hid hR
          have HQ' := hid hQ'
          clear hcc hR hQ' hQ
          go_wp2_with fail
          go_region_held3 (fun V => V.cell? ⟨pa, 0, none⟩ = some (.pointer (some ⟨pk 0, 0, none⟩)) ∧ (LDk ⟨b, off + i * 7, none⟩).run Tryz.prog V = .ok (.agg #[.int .u8 y1, .int .i64 y2, .int .u8 y3, .int .i64 y4, .int .i64 y5, .int .i64 y6, .int .i64 y7]) V) (go_keep) ((go_at_call 8; refine (DA.out wr.drew (below_drewN wr 1)).mono ?_; rintro e w2 ⟨xa, xn, xc, rfl, h2⟩; have n2 := NX.out w2 h2.out.2.2; have m1 := n2.2.1.cell 0 _ (pp_get pk hk2); have m2 := LD.out w2 n2.1; have N2 := hid n2; clear n2))
          have TW2 : Hid (Two w2 pk gmk gkk rk (upd P 0 Q') P) := hid (Two.prog (TK.out.below (below_drewN wr 1)) hk2 h2.out.2.2 h2.out.2.1 GN.out)
          have XO : Hid (Own w2 wr.heap.size (.slice xa xn xc) R) := hid h2.out.1
          have SZ2 : Hid (wr.heap.size ≤ w2.heap.size) := hid h2.out.2.2.size
          have DPQ : Hid (DP w2 (rk 0) Q) := hid (by rw [← HQ.out]; exact TW2.out.dp 0 hk2)
          have DB : Hid (∀ V, Below w2.heap.size w2 V → Calls Tryz.prog 9 #[.pointer (some ⟨rk 0, 0, none⟩), .agg #[.int .u8 y1, .int .i64 y2, .int .u8 y3, .int .i64 y4, .int .i64 y5, .int .i64 y6, .int .i64 y7]] V fun e w3 => ∃ va vn vc, e = .returned (.tuple #[.slice va vn vc, .int .i64 cc0]) ∧ Hid (Own w3 V.heap.size (.slice va vn vc) R ∧ DP w3 (rk 0) Q' ∧ Kp (fun j => j = rk 0) V w3)) := hid fun V hV => by
            have d := ddo_ok (rk 0) Q ⟨y1, y2, y3, y4, y5, y6, y7⟩ V (DPQ.out.below hV) SI.out OQ.out.1 OQ.out.2
            rw [HCC.out, HR.out, HQ'.out] at d
            refine Calls.mono d ?_
            rintro e w3 ⟨v, he, ho, hp, hk⟩
            obtain ⟨va, vn, vc, rfl⟩ := ho.isSlice
            exact ⟨va, vn, vc, he, hid ⟨ho, hp, hk⟩⟩
          have NY : Hid (∀ w3, Kp (fun j => j = rk 0) w2.drew w3 → Below w.heap.size w w3 ∧ Blk w3 pa (pp pk) 26 ∧ Blk w3 ra (pp rk) 29 ∧ Tol w3 w.heap.size u7 i T B F ∧ Tol w3 w.heap.size u8 i T' B' F ∧ Hel w3 w.heap.size u9 i H D N G ∧ Own w3 wr.heap.size (.slice xa xn xc) R) := hid fun w3 hk => by
            have bd := below_drewN w2 1
            obtain ⟨n0, n1, n2, n3, n4, n5⟩ := N2.out
            obtain ⟨_, _, hb, _⟩ := DPQ.out.below bd
            have fm : ∀ e g, 67 ≠ e → g = rk 0 → Far w2.drew g e := fun e g he hg => by rw [hg]; exact far_blk hb he
            refine ⟨(n0.trans (bd.mono n0.size)).trans (hk.below n0.size (fun j hj e => by have e : j = rk 0 := e; have := RG.out 0 hk2; omega)), (n1.below bd).kept hk (fun e => (n1.below bd).ne hb (by decide) e), (n2.below bd).kept hk (fun e => (n2.below bd).ne hb (by decide) e), (n3.below bd).kept hk (fun g e s => row_far (n3.below bd).row (fm _ g (by decide) s) e) (fun g s => fm _ g (by decide) s), (n4.below bd).kept hk (fun g e s => row_far (n4.below bd).row (fm _ g (by decide) s) e) (fun g s => fm _ g (by decide) s), (n5.below bd).kept hk (fun g s => fm _ g (by decide) s) (fun g s => fm _ g (by decide) s), (XO.out.below bd).kept hk (fun g e s => row_far (XO.out.below bd).2 (fm _ g (by decide) s) e)⟩
          have z3 := N2.out.2.2.1.cell 0 _ (pp_get rk hk2)
          have z4 : (LDk ⟨b, off + i * 7, none⟩).run Tryz.prog w2.drew = .ok (.agg #[.int .u8 y1, .int .i64 y2, .int .u8 y3, .int .i64 y4, .int .i64 y5, .int .i64 y6, .int .i64 y7]) w2.drew := LD.out w2.drew (N2.out.1.trans ((below_drewN w2 1).mono N2.out.1.size))
          clear z1 z2 m1 m2 h2
          go_wp2_with fail
          go_region_held3 (fun V => V.cell? ⟨ra, 0, none⟩ = some (.pointer (some ⟨rk 0, 0, none⟩)) ∧ (LDk ⟨b, off + i * 7, none⟩).run Tryz.prog V = .ok (.agg #[.int .u8 y1, .int .i64 y2, .int .u8 y3, .int .i64 y4, .int .i64 y5, .int .i64 y6, .int .i64 y7]) V) (go_keep) ((go_at_call 9; refine (DB.out w2.drew (below_drewN w2 1)).mono ?_; rintro e w3 ⟨ya, yn, yc, rfl, h4⟩; have n3 := NY.out w3 h4.out.2.2; have q1 := n3.2.2.1.cell 0 _ (pp_get rk hk2); have q2 := LD.out w3 n3.1; have N3 := hid n3; clear n3))
          have TW3 : Hid (Two w3 pk gmk gkk rk (upd P 0 Q') (upd P 0 Q')) := hid (Two.doc (TW2.out.below (below_drewN w2 1)) hk2 h4.out.2.2 h4.out.2.1 RN.out)
          have YO : Hid (Own w3 w2.heap.size (.slice ya yn yc) R) := hid h4.out.1
          have SZ3 : Hid (w2.heap.size ≤ w3.heap.size) := hid h4.out.2.2.size
          have z5 := N3.out.2.1.cell 0 _ (pp_get pk hk2)
          obtain ⟨PK, hPK⟩ : ∃ R, upd P 0 Q' 0 = R := ⟨_, rfl⟩
          have HH := hid (pheld_ok (pk 0) (gmk 0) (gkk 0) _ w3 (TW3.out.pu 0 hk2))
          have DD3 := hid (TW3.out.dp 0 hk2)
          rw [hPK] at HH DD3
          clear z3 z4 q1 q2 h4 hPK
          go_wp2_with fail
          refine HH.out.mono ?_
          rintro e w4 ⟨vh, rfl, hho, b4⟩
          have HO4 := hid hho
          have B4 := hid b4
          obtain ⟨_, ha, hc, ehv, _⟩ := hho.reads
          subst ehv
          clear HH hho b4 z5
          have SR : Hid (Calls Tryz.prog 11 #[.slice xa xn xc, .slice ya yn yc] w4 fun e w5 => e = .returned (.bool true) ∧ Below w4.heap.size w4 w5) := hid (by
            have rl := RL.out
            have h := same14 _ _ R R w4 (N3.out.2.2.2.2.2.2.below B4.out).reads (YO.out.below B4.out).reads (by omega) (by omega)
            rw [decide_eq_true rfl] at h
            refine Calls.mono h ?_
            rintro e w5 ⟨he, d, rfl⟩
            exact ⟨he, below_drewN _ _⟩)
          have cne : (cc0 != cc0) = false := by simp
          go_wp2_with fail
          refine SR.out.mono ?_
          rintro e w5 ⟨rfl, b5⟩
          have B5 := hid (below_next B4.out b5)
          have z6 := (N3.out.2.2.1.below B5.out).cell 0 _ (pp_get rk hk2)
          have DH := hid (dheld_ok (rk 0) PK w5 (DD3.out.below B5.out))
          have C5 := hid b5
          clear SR b5
          go_wp2_with fail
          refine DH.out.mono ?_
          rintro e w6 ⟨vi, rfl, hio, b6⟩
          have B6 := hid (below_next B5.out b6)
          have C6 := hid (below_next C5.out b6)
          have HO6 : Hid (Ic.Own w6 w3.heap.size (.slice ha (Co.cnt PK) hc) (Co.cnt PK) (hF PK)) := hid (ic_kept HO4.out (Kp.of_below (fun _ => False) C6.out) (fun _ _ e => e))
          have SIN := hid (samei _ _ _ (hF PK) w6 HO6.out.reads hio.reads (by have := cnt_le PK; omega))
          obtain ⟨_, ia, ic, eiv, _⟩ := hio.reads
          subst eiv
          clear DH b6 hio z6
          go_wp2_with fail
          refine SIN.out.mono ?_
          rintro e w7 ⟨rfl, b7⟩
          have B7 := hid (below_next B6.out b7)
          have TW7 := hid (TW3.out.below B7.out)
          have N7 : Hid (Below w.heap.size w w7 ∧ Blk w7 pa (pp pk) 26 ∧ Blk w7 ra (pp rk) 29 ∧ Tol w7 w.heap.size u7 i T B F ∧ Tol w7 w.heap.size u8 i T' B' F ∧ Hel w7 w.heap.size u9 i H D N G ∧ Own w7 wr.heap.size (.slice xa xn xc) R ∧ Own w7 w2.heap.size (.slice ya yn yc) R ∧ Ic.Own w7 w3.heap.size (.slice ha (Co.cnt PK) hc) (Co.cnt PK) (hF PK)) := hid (by
            obtain ⟨n0, n1, n2, n3, n4, n5, n6⟩ := N3.out
            exact ⟨n0.trans (B7.out.mono n0.size), n1.below B7.out, n2.below B7.out, n3.below B7.out, n4.below B7.out, n5.below B7.out, n6.below B7.out, YO.out.below B7.out, ic_kept HO6.out (Kp.of_below (fun _ => False) b7) (fun _ _ e => e)⟩)
          have SZ0 := hid TN.out.bel.size
          have S7 := N7.out.1.size
          have L1 : Hid (∀ t, t < i → ∀ q, (T t).ownBlock = some q → q < wr.heap.size) := hid fun t ht q e => ((TN.out.t1.own t ht).1.2.lt q e).2
          have L2 : Hid (∀ t, t < i → ∀ q, (T' t).ownBlock = some q → q < w2.heap.size) := hid fun t ht q e => by have := ((TN.out.t2.own t ht).1.2.lt q e).2; have := SZ2.out; omega
          have L3 : Hid (∀ t, t < i → ∀ q, (H t).ownBlock = some q → q < w3.heap.size) := hid fun t ht q e => by have := ((TN.out.hl.own t ht).1.2.lt q e).2; have := SZ2.out; have := SZ3.out; omega
          have OKN : Hid (∀ j, j < 2 → (upd P 0 Q' j).Ok ∧ Mg (65536 * ((i + 1 : Nat) : Int)) (upd P 0 Q' j)) := hid fun j hj => by
            by_cases e : j = 0
            · rw [e, upd_at]; exact OQ'.out
            · rw [show upd P 0 Q' j = P j from if_neg e]
              obtain ⟨o1, o2⟩ := TN.out.ok j hj
              exact ⟨o1, fun j2 y e2 => by have := o2 j2 y e2; omega⟩
          have i9 : i ≤ 1000 := by omega
          have ROW1 := hid N7.out.2.2.2.1.row
          clear SIN b7
          go_wp2_with (at_builtin; go_must (refine wpList_pushV rfl _ _ 30 33 (.slice none 0 0) 24 rfl Tryz.underlying30 infoR rfl w.heap.size _ i _ (.slice xa xn xc) (ROW1.out.alloc _) rfl ?b0 ?b1 ?b2 ⟨_, 0, none⟩ rfl rfl (cell_one_new _ _ _) ?_))
          case b0 => exact Nat.le_trans S7 (below_alloc _ _).size
          case b1 => omega
          case b2 => omega
          intro s1 w8 hrow8 hk8 hs8
          have A1 := hid (by
            obtain ⟨n0, n1, n2, n3, n4, n5, n6, n7, n8⟩ := N7.out
            exact ap_told TW7.out n1 n2 n3 n4 TN.out.ap n5 n0 n6 n7 n8 SZ0.out L1.out hrow8 ((Kp.of_below _ (below_alloc _ _)).trans hk8 (fun _ _ e => e)) (son_or hs8 (below_alloc _ _).size))
          have S8 := A1.out.2.2.2.2.2.2.2.1.size
          have ROW2 := hid A1.out.2.2.2.2.1.row
          clear hrow8 hk8 hs8
          go_wp2_with (at_builtin; go_must (refine wpList_pushV rfl _ _ 30 33 (.slice none 0 0) 24 rfl Tryz.underlying30 infoR rfl w.heap.size _ i _ (.slice ya yn yc) (ROW2.out.alloc _) rfl ?b0 ?b1 ?b2 ⟨_, 0, none⟩ rfl rfl (cell_one_new _ _ _) ?_))
          case b0 => exact Nat.le_trans S8 (below_alloc _ _).size
          case b1 => omega
          case b2 => omega
          intro s2 w9 hrow9 hk9 hs9
          have A2 := hid (by
            obtain ⟨m0, m1, m2, m3, m4, m5, m6, m7, m8, m9⟩ := A1.out
            exact ap_wants m0 m1 m2 m3 m4 m5 m6 m7 m8 m9 (Nat.le_trans SZ0.out SZ2.out) L2.out hrow9 ((Kp.of_below _ (below_alloc _ _)).trans hk9 (fun _ _ e => e)) (son_or hs9 (below_alloc _ _).size))
          have S9 := A2.out.2.2.2.2.2.2.2.1.size
          have ROW3 := hid A2.out.2.2.2.2.2.2.1.row
          clear hrow9 hk9 hs9
          go_wp2_with (at_builtin; go_must (refine wpList_pushV rfl _ _ 31 23 (.slice none 0 0) 24 rfl Tryz.underlying31 Ic.info32 rfl w.heap.size _ i _ (.slice ha (Co.cnt PK) hc) (ROW3.out.alloc _) rfl ?b0 ?b1 ?b2 ⟨_, 0, none⟩ rfl rfl (cell_one_new _ _ _) ?_))
          case b0 => exact Nat.le_trans S9 (below_alloc _ _).size
          case b1 => omega
          case b2 => omega
          intro s3 w10 hrow10 hk10 hs10
          have A3 := hid (by
            obtain ⟨m0, m1, m2, m3, m4, m5, m6, m7, m8⟩ := A2.out
            exact ap_helds m0 OKN.out m1 m2 m3 m4 m5 TN.out.fl RL.out m6 TN.out.nl m7 m8 (cnt_le PK) (Nat.le_trans SZ0.out (Nat.le_trans SZ2.out SZ3.out)) L3.out hrow10 ((Kp.of_below _ (below_alloc _ _)).trans hk10 (fun _ _ e => e)))
          clear hrow10 hk10 hs10
          go_wp2
          go_roundw
          case rel => exact ⟨i + 1, by omega, by go_num, fun e => by omega, _, _, _, _, _, _, _, _, _, _, A3.out⟩
          case measure => simp [RowKit.intOf]; omega

      · have e : i = n := by omega
        subst e
        have HN := hid hnil
        clear hnil
        by_cases h0 : i = 0
        · obtain ⟨e1, e2, e3⟩ := HN.out h0
          subst e1 e2 e3
          subst h0
          clear HN
          go_wp2
          go_loopw [17] (fun x wq => x = .int .i64 0 ∧ wq = wr) (fun _ _ => 0)
          case atStart => exact ⟨rfl, rfl⟩
          case round =>
            obtain ⟨rfl, rfl⟩ := hrel
            go_wp2_with fail
            refine (apart0r _).mono ?_
            rintro e w8 ⟨rfl, rfl⟩
            go_wp2_with fail
            refine (apart0i _).mono ?_
            rintro e w8 ⟨rfl, rfl⟩
            go_wp2
            go_ret
            exact ⟨rfl, TN.out.bel⟩
        · obtain ⟨wp, ewp⟩ : ∃ g, g = wr := ⟨_, rfl⟩
          subst ewp
          obtain ⟨ga, ca, e1, ga1, ga2, hca⟩ := row_some TN.out.t1.row (by omega)
          obtain ⟨gb, cb, e2, gb1, gb2, hcb⟩ := row_some TN.out.t2.row (by omega)
          obtain ⟨gc, cc, e3, gc1, gc2, _⟩ := row_some TN.out.hl.row (by omega)
          subst e1 e2 e3
          clear HN
          have HCA := hid hca
          have HCB := hid hcb
          clear hca hcb
          go_wp2
          go_loopw [17] (fun x wq => ∃ j : Nat, j ≤ i ∧ x = .int .i64 j ∧ Below wp.heap.size wp wq) (fun x _ => i - (RowKit.intOf x).toNat)
          case atStart => exact ⟨0, Nat.zero_le _, rfl, Below.refl _ _⟩
          case round =>
            obtain ⟨j, hj, rfl, hbq⟩ := hrel
            obtain ⟨wq, ewq⟩ : ∃ g, g = wr := ⟨_, rfl⟩
            subst ewq
            have BQ := hid hbq
            clear hbq
            have T1 := hid (TN.out.t1.below BQ.out)
            have T2 := hid (TN.out.t2.below BQ.out)
            have TH := hid (TN.out.hl.below BQ.out)
            by_cases hlj : j < i
            · have x7 : wq.cell? ⟨ga, j, none⟩ = some (T j) := (BQ.out.cell (p := ⟨ga, j, none⟩) ga2).trans (HCA.out j _ hlj (row_at T hlj))
              have x8 : wq.cell? ⟨gb, j, none⟩ = some (T' j) := (BQ.out.cell (p := ⟨gb, j, none⟩) gb2).trans (HCB.out j _ hlj (row_at T' hlj))
              obtain ⟨⟨ta1, tn1, tc1, ta2, tn2, tc2, q1, q2⟩, sr⟩ := told_same T1.out T2.out hlj (TN.out.fl j hlj)
              rw [q1] at x7
              rw [q2] at x8
              clear sr
              have SR : Hid (∀ d, Calls Tryz.prog 11 #[.slice ta1 tn1 tc1, .slice ta2 tn2 tc2] (wq.drewN d) fun e w4 => e = .returned (.bool true) ∧ ∃ d', w4 = (wq.drewN d).drewN d') := hid fun d => by
                rw [← q1, ← q2]
                exact (told_same (T1.out.below (below_drewN _ d)) (T2.out.below (below_drewN _ d)) hlj (TN.out.fl j hlj)).2
              have jm : (j : Int) < (i : Int) := by omega
              have jz : (0 : Int) ≤ (j : Int) := by omega
              clear q1 q2
              go_wp2_with fail
              go_quiet (first
                | (go_at_call 11; with_reducible refine (SR.out _).mono ?_; rintro e w4 ⟨rfl, d, rfl⟩; exact ⟨rfl, _, drewN_two _ _ _⟩))
              go_wp2
              go_roundw
              case rel => exact ⟨j + 1, by omega, by go_num, below_next BQ.out (below_drewN _ _)⟩
              case measure => simp [RowKit.intOf]; omega
            · have jm : ¬ (j : Int) < (i : Int) := by omega
              go_wp2_with fail
              refine (told_apart T1.out (by omega) (by omega) TN.out.fl).mono ?_
              rintro e w8 ⟨rfl, k8⟩
              have TH8 := hid (TH.out.kept k8 (fun g ⟨j, hj, e⟩ => far_row (T1.out.own j hj).1.2 (by decide) e) (fun g ⟨j, hj, e⟩ => far_row (T1.out.own j hj).1.2 (by decide) e))
              have B8 := hid ((TN.out.bel.trans (BQ.out.mono TN.out.bel.size)).trans (k8.below (Nat.le_trans TN.out.bel.size BQ.out.size) (fun g hg ⟨j, hj, e⟩ => by have := ((T1.out.own j hj).1.2.lt g e).1; have := (T1.out.own j hj).2; omega)))
              clear k8
              go_wp2_with fail
              refine (helds_apart TH8.out (by omega) (by omega) TN.out.nl).mono ?_
              rintro e w9 ⟨rfl, b9⟩
              go_wp2
              go_ret
              exact ⟨rfl, B8.out.trans b9⟩
end Go.Proofs.YtdmacflcjbkkpaaGreat.Cd
