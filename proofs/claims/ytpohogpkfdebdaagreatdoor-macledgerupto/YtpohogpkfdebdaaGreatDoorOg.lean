/- A session: each of its calls. A session: Verify, Clone, Wipe, Form, Alg, Out. -/
import Derived.Test.YtpohogpkfdebdaaGreatDoorOb
import Derived.Test.YtpohogpkfdebdaaGreatDoorZme
import Derived.Test.YtpohogpkfdebdaaGreatDoorZc
namespace Go.Proofs.YtpohogpkfdebdaaGreatDoor.Oc
open Go.ChangeShapes Go.WideShapes Go.ChangeAt Go.RowKit
open Go.Proofs.YtpohogpkfdebdaaGreatDoor.By
open Go.Proofs.YtpohogpkfdebdaaGreatDoor.Sh (Blk size_alloc)
open Go.Proofs.YtpohogpkfdebdaaGreatDoor.Dg (BB LG lpv Lt Tl IsMk MB)
theorem eq_fn {t : TypeId} {A B : Array TypeId} {v : Bool} (hu : Tryz.prog.underlying t = some (.func A B v)) (d : Nat) (f : Fn) (a c : Array Value) (w : World) : (Op.equalIn (d + 1) t (.func f a c) .nilFunc).run Tryz.prog w = .ok false w := by
  simp [Op.equalIn, run_underlying hu]
theorem eq_nn {t : TypeId} {A B : Array TypeId} {v : Bool} (hu : Tryz.prog.underlying t = some (.func A B v)) (d : Nat) (w : World) : (Op.equalIn (d + 1) t .nilFunc .nilFunc).run Tryz.prog w = .ok true w := by
  simp [Op.equalIn, run_underlying hu]
theorem fn_nil {t : TypeId} {A B : Array TypeId} {v : Bool} (hu : Tryz.prog.underlying t = some (.func A B v)) (f : Fn) (a c : Array Value) (w : World) : (binOp .eql t (.func f a c) .nilFunc).run Tryz.prog w = .ok (.bool false) w := by
  have e : (Op.equal t (.func f a c) .nilFunc).run Tryz.prog w = .ok false w := eq_fn hu _ f a c w
  simp only [binOp, Sem.run_bind, e]
  rfl
theorem nil_nil {t : TypeId} {A B : Array TypeId} {v : Bool} (hu : Tryz.prog.underlying t = some (.func A B v)) (w : World) : (binOp .eql t .nilFunc .nilFunc).run Tryz.prog w = .ok (.bool true) w := by
  have e : (Op.equal t .nilFunc .nilFunc).run Tryz.prog w = .ok true w := eq_nn hu _ w
  simp only [binOp, Sem.run_bind, e]
  rfl
set_option maxRecDepth 20000 in
theorem none_s {w : World} {x : SX} (h : IsS w x) : Calls Tryz.prog 61 #[pt x.s] w fun e w' => e = .returned (.bool false) ∧ w' = w := by
  have c2 := h.here.cell 2 _ rfl
  have f2 := fn_nil Tryz.underlying61 (.func (fW x.p)) #[pt x.b] #[] w
  clear h
  go_enter Tryz.func61, Tryz.ntmps61
  go_wp2
  go_ret
  exact ⟨rfl, rfl⟩
/-- No session: nil, or one that nobody made, or a wiped one. -/
def NoS (W : World) (v : Value) : Prop := v = .pointer none ∨ ∃ s, v = pt s ∧ Blk W s [.int .u8 0, .int .i64 0, .nilFunc, .nilFunc, .nilFunc, .nilFunc, .nilFunc] 84
set_option maxRecDepth 20000 in
theorem none_n {w : World} {v : Value} (h : NoS w v) : Calls Tryz.prog 61 #[v] w fun e w' => e = .returned (.bool true) ∧ w' = w := by
  rcases h with rfl | ⟨s, rfl, h⟩
  · go_enter Tryz.func61, Tryz.ntmps61
    go_wp2
    go_ret
    exact ⟨rfl, rfl⟩
  · have c2 := h.cell 2 _ rfl
    have f2 := nil_nil Tryz.underlying61 w
    clear h
    go_enter Tryz.func61, Tryz.ntmps61
    go_wp2
    go_ret
    exact ⟨rfl, rfl⟩
theorem sl_nil (a : Addr) (n c : Nat) (w : World) : (binOp .eql 23 (.slice (some a) n c) (.slice none 0 0)).run Tryz.prog w = .ok (.bool false) w := by
  have e0 : ∀ d, (Op.equalIn (d + 1) 23 (.slice (some a) n c) (.slice none 0 0)).run Tryz.prog w = .ok false w := fun d => by
    simp [Op.equalIn, run_underlying Tryz.underlying23]
  have e : (Op.equal 23 (.slice (some a) n c) (.slice none 0 0)).run Tryz.prog w = .ok false w := e0 _
  simp only [binOp, Sem.run_bind, e]
  rfl
set_option maxRecDepth 20000 in
theorem bclone (g o n cap : Nat) (f : Nat → Int) (w : World) (h : By.RB w (.slice (some ⟨g, o, none⟩) n cap) n f) (hn : n ≤ 1000000) : Calls Tryz.prog 62 #[.slice (some ⟨g, o, none⟩) n cap] w fun e w' => ∃ u, e = .returned u ∧ By.Own w' w.heap.size u n f ∧ Below w.heap.size w w' := by
  have H := hid h
  have hq := sl_nil ⟨g, o, none⟩ n cap w
  have O0 := hid (show By.Own (w.alloc (.cells #[] 5)) w.heap.size (.slice (some ⟨w.heap.size, 0, none⟩) 0 0) 0 (fun _ => 0) from Sh.own_made w 0 0 w.heap.size (fun _ => 0) (fun _ => by decide) (Nat.zero_le _) (by decide) (Nat.le_refl _))
  have R0 := hid (h.alloc (.cells #[] 5))
  have hz := size_alloc w (.cells #[] 5)
  have b0 := hid (below_alloc w (.cells #[] 5))
  clear h
  go_enter Tryz.func62, Tryz.ntmps62
  go_wp2_with (at_builtin; go_must (refine Dg.wpList_catS rfl _ _ rfl w.heap.size 0 n _ _ (fun _ => 0) f rfl O0.out rfl R0.out (by omega) (by omega) ?_))
  intro u w1 hu hk hs
  have U := hid hu
  have hb := hid (show Below w.heap.size w w1 from b0.out.trans (hk.below (by omega) (fun j hj e => by
    simp [Value.ownBlock] at e
    omega)))
  clear hu hk hs
  go_wp2
  go_ret
  refine ⟨u, rfl, ?_, hb.out⟩
  have := own_congr U.out (g := f) H.out.1 (fun i hi => by show (if i < 0 then _ else _) = _; rw [if_neg (by omega)]; rfl)
  exact this
set_option maxRecDepth 20000 in
theorem NoS.write {w : World} {v : Value} (h : NoS w v) (lp x : Value) : Calls Tryz.prog 27 #[v, lp, x] w fun e w' => e = .returned (.int .i64 1) ∧ w' = w := by
  have N1 := hid (none_n h)
  clear h
  go_enter Tryz.func27, Tryz.ntmps27
  go_wp2_with (go_at_call 61; refine N1.out.mono ?_; rintro e w' ⟨rfl, rfl⟩)
  go_ret
  exact ⟨rfl, rfl⟩
set_option maxRecDepth 20000 in
theorem NoS.sum {w : World} {v : Value} (h : NoS w v) (lp : Value) : Calls Tryz.prog 31 #[v, lp] w fun e w' => e = .returned (.tuple #[.slice none 0 0, .int .i64 1]) ∧ w' = w := by
  have N1 := hid (none_n h)
  clear h
  go_enter Tryz.func31, Tryz.ntmps31
  go_wp2_with (go_at_call 61; refine N1.out.mono ?_; rintro e w' ⟨rfl, rfl⟩)
  go_ret2
  exact ⟨rfl, rfl⟩
set_option maxRecDepth 20000 in
theorem NoS.verify {w : World} {v : Value} (h : NoS w v) (lp x : Value) : Calls Tryz.prog 33 #[v, lp, x] w fun e w' => e = .returned (.tuple #[.bool false, .int .i64 1]) ∧ w' = w := by
  have N1 := hid (none_n h)
  clear h
  go_enter Tryz.func33, Tryz.ntmps33
  go_wp2_with (go_at_call 61; refine N1.out.mono ?_; rintro e w' ⟨rfl, rfl⟩)
  go_ret2
  exact ⟨rfl, rfl⟩
set_option maxRecDepth 20000 in
theorem NoS.clone {w : World} {v : Value} (h : NoS w v) : Calls Tryz.prog 29 #[v] w fun e w' => e = .returned (.tuple #[.pointer none, .int .i64 1]) ∧ w' = w := by
  have N1 := hid (none_n h)
  clear h
  go_enter Tryz.func29, Tryz.ntmps29
  go_wp2_with (go_at_call 61; refine N1.out.mono ?_; rintro e w' ⟨rfl, rfl⟩)
  go_ret2
  exact ⟨rfl, rfl⟩
set_option maxRecDepth 20000 in
theorem NoS.wipe {w : World} {v : Value} (h : NoS w v) (lp : Value) : Calls Tryz.prog 30 #[v, lp] w fun e w' => e = .returned (.int .i64 1) ∧ w' = w := by
  have N1 := hid (none_n h)
  clear h
  go_enter Tryz.func30, Tryz.ntmps30
  go_wp2_with (go_at_call 61; refine N1.out.mono ?_; rintro e w' ⟨rfl, rfl⟩)
  go_ret
  exact ⟨rfl, rfl⟩
set_option maxRecDepth 20000 in
theorem NoS.form {w : World} {v : Value} (h : NoS w v) : Calls Tryz.prog 32 #[v] w fun e w' => e = .returned (.slice none 0 0) ∧ w' = w := by
  have N1 := hid (none_n h)
  clear h
  go_enter Tryz.func32, Tryz.ntmps32
  go_wp2_with (go_at_call 61; refine N1.out.mono ?_; rintro e w' ⟨rfl, rfl⟩)
  go_ret
  exact ⟨rfl, rfl⟩
set_option maxRecDepth 20000 in
theorem NoS.alg {w : World} {v : Value} (h : NoS w v) : Calls Tryz.prog 24 #[v] w fun e w' => e = .returned (.int .u8 0) ∧ w' = w := by
  have N1 := hid (none_n h)
  clear h
  go_enter Tryz.func24, Tryz.ntmps24
  go_wp2_with (go_at_call 61; refine N1.out.mono ?_; rintro e w' ⟨rfl, rfl⟩)
  go_ret
  exact ⟨rfl, rfl⟩
set_option maxRecDepth 20000 in
theorem NoS.out {w : World} {v : Value} (h : NoS w v) : Calls Tryz.prog 25 #[v] w fun e w' => e = .returned (.int .i64 0) ∧ w' = w := by
  have N1 := hid (none_n h)
  clear h
  go_enter Tryz.func25, Tryz.ntmps25
  go_wp2_with (go_at_call 61; refine N1.out.mono ?_; rintro e w' ⟨rfl, rfl⟩)
  go_ret
  exact ⟨rfl, rfl⟩
theorem IsS.turn {w w' : World} {al out s b : Nat} {o cc : List Nat} {p p' : PX} {S : Nat → Prop} (h : IsS w ⟨al, out, p, s, b, o, cc⟩) (hk : Kp S w w') (hn : ¬ S s) (hc : ∀ j, j ∈ cc → ¬ S j) (hd : dd b cc p' = dd b cc p) (hx : IsX w' b o p') (hC : ∀ {W}, IsC W b cc p → IsC W b cc p') (ht : p'.tl = p.tl) : IsS w' ⟨al, out, p', s, b, o, cc⟩ :=
  ⟨by have := h.here.kept hk hn; show Blk w' s (_ :: _ :: dd b cc p') _; rw [hd]; exact this, hx, hC (h.cs.kept hk hc), h.o1, by show out ≤ p'.tl; rw [ht]; exact h.ot⟩
/-- What a call of a session may turn leaves its own cells. -/
theorem IsS.own {w : World} {x : SX} (h : IsS w x) {T : Nat → Prop} (hT : Tl w T) : ¬ (T x.s ∨ FX x.b x.o x.s) ∧ ∀ j, j ∈ x.cc → ¬ (T j ∨ FX x.b x.o j) := by
  refine ⟨fun e => e.elim (hT.no h.here (by decide)) (fun e => (h.apart e).1 rfl), fun j hj e => e.elim (fun e => ?_) (fun e => (h.apart e).2 hj)⟩
  obtain ⟨cs, t, hb, ht⟩ := h.cs.kind hj
  exact hT.no hb (cty_l ht) e
set_option maxRecDepth 20000 in
set_option maxHeartbeats 2000000 in
theorem wr_s (x : SX) (n k : Nat) (v : Value) (g : Nat → Int) (lo : Option Nat) (L : List Rn) (T : Nat → Prop) (w : World) (h : IsS w x) (hk : KA w) (hT : Tl w T) (hn : ∀ j, j < 5 → ¬ (T j ∨ FX x.b x.o j)) (hl : LG T w w lo L) (hf : Fit k L) (hk4 : k ≤ 4000000)
    (hr : ∀ w', Kp (fun j => T j ∨ FX x.b x.o j) w w' → By.RB w' v n g) (hm : x.p.ml + n ≤ 5000000) :
    Calls Tryz.prog 27 #[pt x.s, lpv lo, v] w fun e w' => e = .returned (.int .i64 0) ∧ IsS w' { x with p := x.p.add n g } ∧ LG T w w' lo (x.p.eW n L) ∧ Kp (fun j => T j ∨ FX x.b x.o j) w w' := by
  obtain ⟨al, out, p, s, b, o, cc⟩ := x
  have HC := hid (wrX p b o n k v g lo L T w h.mx hk hT hn hl hf hk4 hr hm)
  obtain ⟨-, va, vc, rfl, -⟩ := hr w (Kp.refl _ _)
  have N1 := hid (none_s h)
  have c2 := h.here.cell 2 _ rfl
  have H := hid h
  have HO := hid (h.own hT)
  obtain ⟨lp, hlp⟩ : ∃ lp, lpv lo = .pointer lp := by cases lo; exact ⟨_, rfl⟩; exact ⟨_, rfl⟩
  rw [hlp] at HC ⊢
  clear hk hT hn hl hf hr h hm
  cases p
  all_goals
    dsimp only [fW] at c2 HC
    go_enter Tryz.func27, Tryz.ntmps27
    go_wp2_with (go_at_call 61; refine N1.out.mono ?_; rintro e w' ⟨rfl, rfl⟩)
    refine HC.out.mono ?_
    rintro e w1 ⟨rfl, h1, l1, k1⟩
    have X1 := hid h1
    have L1 := hid l1
    have K1 := hid k1
    clear h1 l1 k1 HC c2 N1
    go_wp2
    go_ret
    exact ⟨rfl, H.out.turn K1.out HO.out.1 HO.out.2 (dd_add _ _ _ _ _) X1.out (fun h => h.add n g) (PX.tl_add _ _ _), L1.out, K1.out⟩
theorem rb_some {w : World} {v : Value} {n : Nat} {f : Nat → Int} (h : By.RB w v n f) (hn : 0 < n) : ∃ g q cap, v = .slice (some ⟨g, q, none⟩) n cap ∧ n ≤ cap := by
  obtain ⟨_, a, cap, rfl, h1, _, h0 | ⟨g, q, rfl, _⟩⟩ := h
  · omega
  · exact ⟨g, q, cap, rfl, h1⟩
theorem tl_64 {w : World} {b : Nat} {o : List Nat} {p : PX} (h : IsX w b o p) : p.tl ≤ 64 := by
  cases p with
  | h a K m f => cases a; exact (by decide : (32 : Nat) ≤ 64); exact (by decide : (64 : Nat) ≤ 64)
  | c k ws m f => exact (by decide : (16 : Nat) ≤ 64)
  | u st r z q x => exact h.fine.2.2
set_option maxRecDepth 20000 in
set_option maxHeartbeats 2000000 in
theorem sm_s (x : SX) (k : Nat) (lo : Option Nat) (L : List Rn) (T : Nat → Prop) (w : World) (h : IsS w x) (hk : KA w) (hT : Tl w T) (hn : ∀ j, j < 5 → ¬ T j) (hl : LG T w w lo L) (hf : Fit k L) (hk4 : k ≤ 4000000) (hm : x.p.ml ≤ 4900000) :
    Calls Tryz.prog 31 #[pt x.s, lpv lo] w fun e w' => ∃ v, e = .returned (.tuple #[v, .int .i64 0]) ∧ By.Own w' w.heap.size v x.out x.p.tf ∧ IsS w' x ∧ LG T w w' lo (x.p.eS L) ∧ Kp T w w' := by
  obtain ⟨al, out, p, s, b, o, cc⟩ := x
  have HC := hid (smX p b o cc k lo L T w h.mx h.cs hk hn hl hf hk4 hm)
  have N1 := hid (none_s h)
  have c3 := h.here.cell 3 _ rfl
  have H := hid h
  have HT := hid hT
  have ho1 : 1 ≤ out := h.o1
  have hot : out ≤ p.tl := h.ot
  have ht6 := tl_64 h.mx
  have HK : Hid (∀ w', Kp T w w' → IsS w' ⟨al, out, p, s, b, o, cc⟩) := hid (fun w' hk => h.kept hk (fun j hj e => by
    obtain ⟨cs, t, hb, ht⟩ := h.kind hj
    exact hT.no hb (sty_l ht) e))
  have HL := hid (show LG T w w lo L from hl)
  obtain ⟨lp, hlp⟩ : ∃ lp, lpv lo = .pointer lp := by cases lo; exact ⟨_, rfl⟩; exact ⟨_, rfl⟩
  rw [hlp]
  clear hk hT hn hl hf h hm
  cases p
  all_goals
    dsimp only [fS, aS, vS] at c3 HC
    rw [hlp] at HC
    go_enter Tryz.func31, Tryz.ntmps31
    go_wp2_with (go_at_call 61; refine N1.out.mono ?_; rintro e w' ⟨rfl, rfl⟩)
    refine HC.out.mono ?_
    rintro e w1 ⟨v, rfl, hv, l1, k1⟩
    obtain ⟨g, q, cap, rfl, hcap⟩ := rb_some hv (Nat.lt_of_lt_of_le ho1 hot)
    have c1 := (HK.out w1 k1).here.cell 1 _ rfl
    have L1 := hid l1
    have K1 := hid k1
    have V1 := hid (bclone g q out cap _ w1 (hv.first out hot) (by omega))
    have hoc : (out : Int) ≤ (cap : Int) := by omega
    clear l1 k1 hv HC c3 N1
    go_wp2_with (go_at_call 62; refine V1.out.mono ?_; rintro e w2 ⟨u, rfl, hu, hb⟩; have U := hid hu; have B2 := hid hb; clear hu hb)
    go_ret2
    have k2 := K1.out.trans (Kp.of_below T B2.out) (fun _ _ e => e)
    exact ⟨u, rfl, Sh.own_mono U.out K1.out.size, HK.out _ k2, L1.out.below B2.out, k2⟩
end Go.Proofs.YtpohogpkfdebdaaGreatDoor.Oc
namespace Go.Proofs.YtpohogpkfdebdaaGreatDoor.Oc
open Go.ChangeShapes Go.WideShapes Go.ChangeAt Go.RowKit
open Go.Proofs.YtpohogpkfdebdaaGreatDoor.By
open Go.Proofs.YtpohogpkfdebdaaGreatDoor.Sh (Blk size_alloc)
open Go.Proofs.YtpohogpkfdebdaaGreatDoor.Dg (BB LG lpv Lt Tl IsMk MB)
theorem own_kind {W : World} {base n : Nat} {v : Value} {f : Nat → Int} (h : By.Own W base v n f) {j : Nat} (hj : v.ownBlock = some j) : ∃ cs, Blk W j cs 5 := by
  obtain ⟨c, hc⟩ := Sg.own8_type h hj
  exact ⟨c.toList, by show W.heap[j]? = _; rw [hc]⟩
theorem lgb {S S' : Nat → Prop} {w w1 w' : World} {lo : Option Nat} {L L0 : List Rn} (h : LG S' w1 w' lo L) (h0 : LG S w w1 lo L0) (hz : w.heap.size ≤ w1.heap.size) (hs : ∀ i, i < w.heap.size → S' i → S i) : LG S w w' lo L := by
  cases lo with
  | none => trivial
  | some lb =>
    obtain ⟨_, rv, hl, ho⟩ := h
    exact ⟨h0.1, rv, hl, fun g hg hlt => hs g hlt (ho g hg (by omega))⟩
set_option maxHeartbeats 1200000 in
set_option maxRecDepth 20000 in
theorem notes_lg (k : Nat) (s : Nat) (lo : Option Nat) (L : List Rn) (T : Nat → Prop) (w : World) (hl : LG T w w lo L) (hf : Fit k L) (hk : k ≤ 4000000) (hs : s ≤ 1000000) : By.Notes w (lpv lo) 6 s (fun w' => LG T w w' lo (putL L ⟨6, s, 1⟩) ∧ Kp T w w') := by
  have h1 := hf.tot
  have h2 := hf.len
  show Calls _ _ _ _ _
  cases lo with
  | none =>
    clear hl hf
    show Calls Tryz.prog 88 #[.pointer none, .int .u8 6, .int .i64 s] w _
    go_enter Tryz.func88, Tryz.ntmps88
    go_wp2_with fail
    refine (note16n 6 s w).mono ?_
    rintro e w1 ⟨rfl, hR⟩
    have R := hid hR
    clear hR
    go_wp2
    go_end0
    exact ⟨rfl, trivial, Kp.of_below _ R.out⟩
  | some lb =>
    obtain ⟨ht, rv, hL, ho⟩ := hl
    have N := hid (note16 lb rv L 6 s w hL (by constructor <;> simp <;> omega) (by omega) (by omega))
    have HO := hid (show ∀ j, j < w.heap.size → (j = lb ∨ rv.ownBlock = some j) → T j from fun j hj e => e.elim (fun e => e ▸ ht) (fun e => ho j e hj))
    have HT := hid ht
    clear hL hf ho ht
    show Calls Tryz.prog 88 #[.pointer (some ⟨lb, 0, none⟩), .int .u8 6, .int .i64 s] w _
    go_enter Tryz.func88, Tryz.ntmps88
    go_wp2_with fail
    refine N.out.mono ?_
    rintro e w1 ⟨rfl, rv', hL, hk, hsn⟩
    have R := hid (show Led w1 lb rv' (putL L ⟨6, s, 1⟩) from hL)
    have K := hid hk
    have SN := hid hsn
    clear hL hk hsn N
    go_wp2
    go_end0
    refine ⟨rfl, ⟨HT.out, rv', R.out, fun g hg hlt => ?_⟩, K.out.mono HO.out⟩
    rcases SN.out with e | e
    · exact HO.out g hlt (.inr (e ▸ hg))
    · have := e g hg; omega
def SVz (a : Addr) (v : Value) : Sem Unit := storeVar 84 a v
@[go_sem ↓ high] theorem svz (a : Addr) (v : Value) : storeVar 84 a v = SVz a v := rfl
theorem infoz : (Tryz.prog.info? 84).map (·.size) = some 7 := by kernel_rfl
def nos : List Value := [.int .u8 0, .int .i64 0, .nilFunc, .nilFunc, .nilFunc, .nilFunc, .nilFunc]
theorem SVz_run {w : World} {g : Nat} (h : w.there g 0 7) : (SVz ⟨g, 0, none⟩ (.agg #[.int .u8 0, .int .i64 0, .nilFunc, .nilFunc, .nilFunc, .nilFunc, .nilFunc])).run Tryz.prog w = .ok () (w.setCells g 0 nos) :=
  run_storeVar_mid w g 0 _ nos.toArray h infoz (all_oneCell_toArray (fun u hu => by simp only [nos, List.mem_cons, List.not_mem_nil, or_false] at hu; rcases hu with rfl | rfl | rfl | rfl | rfl | rfl | rfl <;> rfl))
theorem nos_put (cs : List Value) (h : cs.length = 7) : Sh.put cs 0 nos = nos := Sh.put_all cs nos (by rw [h]; rfl)
set_option maxRecDepth 20000 in
theorem al_s {w : World} {x : SX} (h : IsS w x) : Calls Tryz.prog 24 #[pt x.s] w fun e w' => e = .returned (.int .u8 (x.al : Int)) ∧ w' = w := by
  have N1 := hid (none_s h)
  have c0 := h.here.cell 0 _ rfl
  clear h
  go_enter Tryz.func24, Tryz.ntmps24
  go_wp2_with (go_at_call 61; refine N1.out.mono ?_; rintro e w' ⟨rfl, rfl⟩)
  go_ret
  exact ⟨rfl, rfl⟩
set_option maxRecDepth 20000 in
theorem ou_s {w : World} {x : SX} (h : IsS w x) : Calls Tryz.prog 25 #[pt x.s] w fun e w' => e = .returned (.int .i64 (x.out : Int)) ∧ w' = w := by
  have N1 := hid (none_s h)
  have c1 := h.here.cell 1 _ rfl
  clear h
  go_enter Tryz.func25, Tryz.ntmps25
  go_wp2_with (go_at_call 61; refine N1.out.mono ?_; rintro e w' ⟨rfl, rfl⟩)
  go_ret
  exact ⟨rfl, rfl⟩
set_option maxRecDepth 20000 in
theorem fm_s (x : SX) (w : World) (h : IsS w x) : Calls Tryz.prog 32 #[pt x.s] w fun e w' => ∃ v, e = .returned v ∧ By.Own w' w.heap.size v x.p.fl x.p.ff ∧ Below w.heap.size w w' := by
  obtain ⟨al, out, p, s, b, o, cc⟩ := x
  have HC := hid (fmX p b o w h.mx)
  have N1 := hid (none_s h)
  have c6 := h.here.cell 6 _ rfl
  clear h
  cases p
  all_goals
    dsimp only [fF] at c6 HC
    go_enter Tryz.func32, Tryz.ntmps32
    go_wp2_with (go_at_call 61; refine N1.out.mono ?_; rintro e w' ⟨rfl, rfl⟩)
    refine HC.out.mono ?_
    rintro e w1 ⟨v, rfl, hv, hb⟩
    have V := hid hv
    have B := hid hb
    clear hv hb HC c6 N1
    go_wp2
    go_ret
    exact ⟨v, rfl, V.out, B.out⟩
set_option maxRecDepth 20000 in
set_option maxHeartbeats 2000000 in
theorem wp_s (x : SX) (k : Nat) (lo : Option Nat) (L : List Rn) (T : Nat → Prop) (w : World) (h : IsS w x) (hT : Tl w T) (hl : LG T w w lo L) (hf : Fit k L) (hk4 : k ≤ 4000000) :
    Calls Tryz.prog 30 #[pt x.s, lpv lo] w fun e w' => e = .returned (.int .i64 0) ∧ NoS w' (pt x.s) ∧ LG (fun j => T j ∨ FS x j) w w' lo (putL L ⟨8, (x.p.fl : Int), 1⟩) ∧ Kp (fun j => T j ∨ FS x j) w w' := by
  obtain ⟨al, out, p, s, b, o, cc⟩ := x
  have HC := hid (wpX p b o k lo L T w h.mx hl hf hk4)
  have N1 := hid (none_s h)
  have c5 := h.here.cell 5 _ rfl
  have H := hid h
  have HO := hid (h.own hT)
  obtain ⟨lp, hlp⟩ : ∃ lp, lpv lo = .pointer lp := by cases lo; exact ⟨_, rfl⟩; exact ⟨_, rfl⟩
  rw [hlp] at HC ⊢
  clear hT hl hf h
  cases p
  all_goals
    dsimp only [fZ] at c5 HC
    go_enter Tryz.func30, Tryz.ntmps30
    go_wp2_with (go_at_call 61; refine N1.out.mono ?_; rintro e w' ⟨rfl, rfl⟩)
    refine HC.out.mono ?_
    rintro e w1 ⟨rfl, l1, k1⟩
    have L1 := hid l1
    have K1 := hid k1
    have S1 := hid (H.out.here.kept k1 HO.out.1)
    clear l1 k1 HC c5 N1
    have z1 := SVz_run (S1.out.there 0 7 (Nat.le_refl 7))
    go_wp2
    go_ret
    have k2 : Kp (fun j => j = s) w1 (w1.setCells s 0 nos) := Sh.Kp.setCells _ _ _
    refine ⟨rfl, .inr ⟨s, rfl, ?_⟩, ?_, (K1.out.mono (fun j _ e => e.imp id (fun e => .inr (.inl e)))).trans k2 (fun j _ e => .inr (.inl e))⟩
    · have b2 := S1.out.put 0 nos
      rw [nos_put _ rfl] at b2
      exact b2
    · exact (lg_mono L1.out (fun j e => e.imp id (fun e => .inr (.inl e)))).kept k2 (fun j e => by cases (show j = s from e); exact ⟨_, _, S1.out, by decide, by decide⟩)
set_option maxRecDepth 20000 in
theorem vf_len (x : SX) (n cap : Nat) (a : Option Addr) (lp : Value) (w : World) (h : IsS w x) (hn : n ≠ x.out) : Calls Tryz.prog 33 #[pt x.s, lp, .slice a n cap] w fun e w' => e = .returned (.tuple #[.bool false, .int .i64 11]) ∧ w' = w := by
  have N1 := hid (none_s h)
  have c1 := h.here.cell 1 _ rfl
  have hne : ¬ (n : Int) = (x.out : Int) := by omega
  have hne2 : ((n : Int) == (x.out : Int)) = false := by rw [beq_eq_false_iff_ne]; exact hne
  clear h
  go_enter Tryz.func33, Tryz.ntmps33
  go_wp2_with (go_at_call 61; refine N1.out.mono ?_; rintro e w' ⟨rfl, rfl⟩)
  go_ret2
  exact ⟨rfl, rfl⟩
set_option maxRecDepth 20000 in
set_option maxHeartbeats 2000000 in
theorem vf_s (x : SX) (k : Nat) (v : Value) (g : Nat → Int) (lo : Option Nat) (L : List Rn) (T : Nat → Prop) (w : World) (h : IsS w x) (hk : KA w) (hT : Tl w T) (hn : ∀ j, j < 5 → ¬ T j) (hl : LG T w w lo L) (hf : Fit k L) (hk4 : k ≤ 3900000) (hm : x.p.ml ≤ 4900000)
    (hr : ∀ w', Kp T w w' → By.RB w' v x.out g) :
    Calls Tryz.prog 33 #[pt x.s, lpv lo, v] w fun e w' => e = .returned (.tuple #[.bool (By.eqB x.p.tf g x.out), .int .i64 0]) ∧ IsS w' x ∧ LG T w w' lo (putL (x.p.eS L) ⟨6, (x.out : Int), 1⟩) ∧ Kp T w w' := by
  have HC := hid (sm_s x k lo L T w h hk hT hn hl hf (by omega) hm)
  obtain ⟨-, va, vc, rfl, -⟩ := hr w (Kp.refl _ _)
  have N1 := hid (none_s h)
  have c1 := h.here.cell 1 _ rfl
  have ho : x.out ≤ 64 := Nat.le_trans h.ot (tl_64 h.mx)
  have hE := hid (PX.eS_fit h.mx.fine hf (by omega))
  have HR := hid hr
  have HT := hid hT
  have HL := hid hl
  have HKS : Hid (∀ w', Kp T w w' → IsS w' x) := hid (fun w' hk => h.kept hk (fun j hj e => by
    obtain ⟨cs, t, hb, ht⟩ := h.kind hj
    exact hT.no hb (sty_l ht) e))
  obtain ⟨lp, hlp⟩ : ∃ lp, lpv lo = .pointer lp := by cases lo; exact ⟨_, rfl⟩; exact ⟨_, rfl⟩
  have HLP := hid hlp
  rw [hlp] at HC ⊢
  clear hk hT hn hl hf h hm hr hlp
  go_enter Tryz.func33, Tryz.ntmps33
  go_wp2_with (go_at_call 61; refine N1.out.mono ?_; rintro e w' ⟨rfl, rfl⟩)
  refine HC.out.mono ?_
  rintro e w1 ⟨u, rfl, hu, hs, l1, k1⟩
  obtain ⟨T1, m1, hT1, hTS⟩ := Dg.LG.own l1
  have E := hid (equal12 (lpv lo) u (.slice va x.out vc) x.out x.p.tf g w1 _ (notes_lg _ x.out lo _ T1 w1 m1 hE.out (by omega) (by omega)) (By.RB.isSlice hu.reads) ⟨va, vc, rfl⟩
    (fun w' hw => (Sg.own_kept hu hw.2 (fun j hj e => by
      obtain ⟨cs, hb⟩ := own_kind hu hj
      exact hT1.no hb (by decide) e)).reads)
    (fun w' hw => HR.out w' (k1.trans hw.2 hTS)) (by omega))
  rw [HLP.out] at E
  have L1 := hid l1
  have K1 := hid k1
  have HTS := hid hTS
  obtain ⟨ua, uc, rfl⟩ := By.RB.isSlice hu.reads
  clear hu hs l1 k1 hT1 m1 hTS HC N1 c1
  go_wp2_with fail
  refine E.out.mono ?_
  rintro e w2 ⟨rfl, w3, d, ⟨l3, k3⟩, rfl⟩
  have L3 := hid l3
  have K3 := hid k3
  clear l3 k3 E
  go_wp2
  go_ret2
  have kk := K1.out.trans K3.out HTS.out
  exact ⟨rfl, (HKS.out _ kk).below (below_drewN _ d), (lgb L3.out L1.out K1.out.size HTS.out).below (below_drewN _ d), kk.trans (Kp.of_below T (below_drewN _ d)) (fun _ _ e => e)⟩
end Go.Proofs.YtpohogpkfdebdaaGreatDoor.Oc
