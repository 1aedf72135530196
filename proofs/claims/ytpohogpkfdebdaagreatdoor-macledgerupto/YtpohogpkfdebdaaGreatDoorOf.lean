/- How the arguments of the statements are opened: cases, how a message is cut and spoilt. lives: the tag of RFC 4231's second case. small: are there few enough bytes? -/
import Derived.Test.YtpohogpkfdebdaaGreatDoorZa
import Derived.Deep.Slices
import Derived.OpenShut
import Derived.ChangeOld
import Derived.SizedLaws
import Derived.Test.YtpohogpkfdebdaaGreatDoorOe
import Derived.Test.YtpohogpkfdebdaaGreatDoorZv
import Derived.Lib.SlBytesConst
import Derived.Deep.RegionHeld3
namespace Go.Proofs.YtpohogpkfdebdaaGreatDoor.Oc
open Go.ChangeShapes Go.WideShapes Go.ChangeAt Go.RowKit
open Go.Proofs.YtpohogpkfdebdaaGreatDoor.By
/-- Nothing in a datum is greater than memory reaches. -/
def Sz {H : Type} (d : DataW H) (t : TypeId) : Prop := ∀ n ∈ d.weights Tryz.prog t, n ≤ reachBytes
theorem sz_each {H : Type} {ts : List TypeId} {ds : List (DataW H)} (h : (DataW.weightsEach Tryz.prog ts ds).all (· ≤ reachBytes) = true) {j : Nat} {t : TypeId} {d : DataW H} (ht : ts[j]? = some t) (hd : ds[j]? = some d) : Sz d t := fun n hn => by
  have := List.all_eq_true.1 h _ (DataW.weights_mem_each ht hd n hn)
  simpa using this
theorem mem_all {H : Type} {e : TypeId} {l : List (DataW H)} {d : DataW H} (h : d ∈ l) {n : Nat} (hn : n ∈ d.weights Tryz.prog e) : n ∈ DataW.weightsAll Tryz.prog e l := by
  induction l with
  | nil => cases h
  | cons y r ih =>
    simp only [DataW.weightsAll, List.mem_append]
    rcases List.mem_cons.1 h with rfl | h
    · exact .inl hn
    · exact .inr (ih h)
theorem sz_slice {H : Type} {t e : TypeId} {es sp : List (DataW H)} (hu : Tryz.prog.underlying t = some (.slice e)) (h : Sz (.slice es sp) t) : (es.length + sp.length) * Tryz.prog.bytesOf e ≤ reachBytes ∧ ∀ d ∈ es, Sz d e := by
  refine ⟨h _ (by simp [DataW.weights, hu]), fun d hd n hn => h n ?_⟩
  simp only [DataW.weights, hu, List.mem_cons, List.mem_append]
  exact .inr (.inl (mem_all hd hn))
set_option maxRecDepth 100000 in
/-- A slice of bytes within an argument. -/
theorem open_p {H : Type} {enc : TypeId × Value → H} {w : World} {base : Nat} {held : Bool} {fuel : Nat} {c : Value} {x : DataW H × List MemPlace} (h : DataW.trod enc Tryz.prog w base (fun _ => true) held fuel 23 [c] = some x) (hs : Sz x.1 23) : ∃ pa pn pc g, c = .slice pa pn pc ∧ By.RB w (.slice pa pn pc) pn g ∧ pn ≤ 140737488355328 := by
  rcases open_ints Tryz.underlying23 Tryz.underlying5 (by kernel_rfl) h with ⟨hcs, _⟩ | ⟨a, l, cp, zs, hcs, _, hl, hm, hz, hx, hcell, hwz⟩
  · simp only [List.cons.injEq, and_true] at hcs
    subst hcs
    exact ⟨none, 0, 0, _, rfl, By.rb_of_row (zs := []) (.inl ⟨rfl, rfl, rfl, rfl⟩), by omega⟩
  · simp only [List.cons.injEq, and_true] at hcs
    subst hcs
    have hz' : zs.length = cp := by simpa using hz
    refine ⟨some a, l, cp, _, rfl, By.rb_of_row (zs := zs) (.inr ⟨_, rfl, hl, hm, hz', hcell, hwz⟩), ?_⟩
    rw [hx] at hs
    have h2 := (sz_slice Tryz.underlying23 hs).1
    rw [By.bytes5] at h2
    simp only [lits, List.length_map, List.length_take, List.length_drop, reachBytes] at h2
    omega
/-- A case: its algorithm, key, customization and number. -/
structure CE where
  al : Nat
  out : Int
  ka : Option Addr
  kn : Nat
  kc : Nat
  ca : Option Addr
  cn : Nat
  cc : Nat
  f : Nat → Int
  h : Nat → Int
structure CE.Ok (W : World) (q : CE) : Prop where
  rk : By.RB W (.slice q.ka q.kn q.kc) q.kn q.f
  rc : By.RB W (.slice q.ca q.cn q.cc) q.cn q.h
  lk : q.kn ≤ 140737488355328
  lc : q.cn ≤ 140737488355328
  al : q.al < 256
  ou : -9223372036854775808 ≤ q.out ∧ q.out < 9223372036854775808
theorem CE.Ok.below {W W' : World} {q : CE} (h : q.Ok W) (hb : Below W.heap.size W W') : q.Ok W' := ⟨h.rk.below hb, h.rc.below hb, h.lk, h.lc, h.al, h.ou⟩
structure SE where
  pa : Option Addr
  pn : Nat
  pc : Nat
  g : Nat → Int
  at' : Int
  bit : Int
structure SE.Ok (W : World) (q : SE) : Prop where
  rp : By.RB W (.slice q.pa q.pn q.pc) q.pn q.g
  lp : q.pn ≤ 140737488355328
  ou : -9223372036854775808 ≤ q.at' ∧ q.at' < 9223372036854775808
  bi : 0 ≤ q.bit ∧ q.bit < 256
theorem SE.Ok.below {W W' : World} {q : SE} (h : q.Ok W) (hb : Below W.heap.size W W') : q.Ok W' := ⟨h.rp.below hb, h.lp, h.ou, h.bi⟩
theorem wf_u8 {z : Int} (h : (Lit.int .u8 z).wf = true) : 0 ≤ z ∧ z < 256 := by
  simp [Lit.wf, IntKind.min, IntKind.max, IntKind.bits, IntKind.signed] at h; omega
theorem wf_i64 {z : Int} (h : (Lit.int .i64 z).wf = true) : -9223372036854775808 ≤ z ∧ z < 9223372036854775808 := by
  simp [Lit.wf, IntKind.min, IntKind.max, IntKind.bits, IntKind.signed] at h; omega
set_option maxRecDepth 100000 in
theorem open_case {H : Type} {enc : TypeId × Value → H} {w : World} {base : Nat} {held : Bool} {fuel : Nat} {cs : List Value} {x : DataW H × List MemPlace} (h : DataW.trod enc Tryz.prog w base (fun _ => true) held fuel 25 cs = some x) (hsz : Sz x.1 25) : ∃ q : CE, q.Ok w ∧ cs = [.int .u8 (q.al : Int), .slice q.ka q.kn q.kc, .slice q.ca q.cn q.cc, .int .i64 q.out] := by
  obtain ⟨xs, n1, _, hx, hl, hxl, hf⟩ := DataW.trod_struct Tryz.underlying25 h
  have hl7 : cs.length = 4 := by rw [hl]; kernel_rfl
  match cs, hl7 with
  | [c0, c1, c2, c3], _ =>
    have g0 := hf 0 { name := "Alg", type := 22, offset := 0, embedded := false, tag := "", pkgPath := "", byteOffset := 0 } rfl
    have g1 := hf 1 { name := "Key", type := 23, offset := 1, embedded := false, tag := "", pkgPath := "", byteOffset := 8 } rfl
    have g2 := hf 2 { name := "Custom", type := 23, offset := 2, embedded := false, tag := "", pkgPath := "", byteOffset := 32 } rfl
    have g3 := hf 3 { name := "Out", type := 3, offset := 3, embedded := false, tag := "", pkgPath := "", byteOffset := 56 } rfl
    have e0 : Tryz.prog.cellsOf 22 = 1 := by kernel_rfl
    have e1 : Tryz.prog.cellsOf 23 = 1 := by kernel_rfl
    have e2 : Tryz.prog.cellsOf 3 = 1 := by kernel_rfl
    dsimp only at g0 g1 g2 g3
    rw [e0] at g0
    rw [e1] at g1 g2
    rw [e2] at g3
    simp only [List.drop_zero, List.take_succ_cons, List.take_zero, List.drop_succ_cons] at g0 g1 g2 g3
    have hx7 : xs.length = 4 := by rw [hxl]; rfl
    match xs, hx7 with
    | [y0, y1, y2, y3], _ =>
      obtain ⟨a0, h0, _, w0⟩ := DataW.trod_int Tryz.underlying22 (show _ = some y0 from g0)
      simp only [List.cons.injEq, and_true] at h0
      have hs1 : Sz y1.1 23 := fun n hn => by
        refine hsz n ?_
        rw [hx]
        have hu := Tryz.underlying25
        simp only [DataW.weights, hu, List.map_cons, List.map_nil]
        exact DataW.weights_mem_each (j := 1) (t := 23) (d := y1.1) rfl rfl n hn
      obtain ⟨p1, n1', c1', f1, h1, r1, l1⟩ := open_p (show _ = some y1 from g1) hs1
      have hs2 : Sz y2.1 23 := fun n hn => by
        refine hsz n ?_
        rw [hx]
        have hu := Tryz.underlying25
        simp only [DataW.weights, hu, List.map_cons, List.map_nil]
        exact DataW.weights_mem_each (j := 2) (t := 23) (d := y2.1) rfl rfl n hn
      obtain ⟨p2, n2', c2', f2, h2, r2, l2⟩ := open_p (show _ = some y2 from g2) hs2
      obtain ⟨a3, h3, _, w3⟩ := DataW.trod_int Tryz.underlying3 (show _ = some y3 from g3)
      simp only [List.cons.injEq, and_true] at h3
      subst h0 h1 h2 h3
      have u0 := wf_u8 w0
      have u3 := wf_i64 w3
      refine ⟨⟨a0.toNat, a3, p1, n1', c1', p2, n2', c2', f1, f2⟩, ⟨r1, r2, l1, l2, by show a0.toNat < 256; omega, u3⟩, ?_⟩
      show _ = [Value.int .u8 ((a0.toNat : Nat) : Int), _, _, _]
      rw [show ((a0.toNat : Nat) : Int) = a0 by omega]
set_option maxRecDepth 100000 in
theorem open_spoil {H : Type} {enc : TypeId × Value → H} {w : World} {base : Nat} {held : Bool} {fuel : Nat} {cs : List Value} {x : DataW H × List MemPlace} (h : DataW.trod enc Tryz.prog w base (fun _ => true) held fuel 59 cs = some x) (hsz : Sz x.1 59) : ∃ q : SE, q.Ok w ∧ cs = [.slice q.pa q.pn q.pc, .int .i64 q.at', .int .u8 q.bit] := by
  obtain ⟨xs, n1, _, hx, hl, hxl, hf⟩ := DataW.trod_struct Tryz.underlying59 h
  have hl7 : cs.length = 3 := by rw [hl]; kernel_rfl
  match cs, hl7 with
  | [c0, c1, c2], _ =>
    have g0 := hf 0 { name := "Cuts", type := 23, offset := 0, embedded := false, tag := "", pkgPath := "", byteOffset := 0 } rfl
    have g1 := hf 1 { name := "At", type := 3, offset := 1, embedded := false, tag := "", pkgPath := "", byteOffset := 24 } rfl
    have g2 := hf 2 { name := "Bit", type := 5, offset := 2, embedded := false, tag := "", pkgPath := "", byteOffset := 32 } rfl
    have e0 : Tryz.prog.cellsOf 23 = 1 := by kernel_rfl
    have e1 : Tryz.prog.cellsOf 3 = 1 := by kernel_rfl
    have e2 : Tryz.prog.cellsOf 5 = 1 := by kernel_rfl
    dsimp only at g0 g1 g2
    rw [e0] at g0
    rw [e1] at g1
    rw [e2] at g2
    simp only [List.drop_zero, List.take_succ_cons, List.take_zero, List.drop_succ_cons] at g0 g1 g2
    have hx7 : xs.length = 3 := by rw [hxl]; rfl
    match xs, hx7 with
    | [y0, y1, y2], _ =>
      have hs0 : Sz y0.1 23 := fun n hn => by
        refine hsz n ?_
        rw [hx]
        have hu := Tryz.underlying59
        simp only [DataW.weights, hu, List.map_cons, List.map_nil]
        exact DataW.weights_mem_each (j := 0) (t := 23) (d := y0.1) rfl rfl n hn
      obtain ⟨p0, n0', c0', f0, h0, r0, l0⟩ := open_p (show _ = some y0 from g0) hs0
      obtain ⟨a1, h1, _, w1⟩ := DataW.trod_int Tryz.underlying3 (show _ = some y1 from g1)
      simp only [List.cons.injEq, and_true] at h1
      obtain ⟨a2, h2, _, w2⟩ := DataW.trod_int Tryz.underlying5 (show _ = some y2 from g2)
      simp only [List.cons.injEq, and_true] at h2
      subst h0 h1 h2
      exact ⟨⟨p0, n0', c0', f0, a1, a2⟩, ⟨r0, l0, wf_i64 w1, wf_u8 w2⟩, rfl⟩
end Go.Proofs.YtpohogpkfdebdaaGreatDoor.Oc
namespace Go.Proofs.YtpohogpkfdebdaaGreatDoor.Oc
open Go.ChangeShapes Go.WideShapes Go.ChangeAt Go.RowKit
open Go.Proofs.YtpohogpkfdebdaaGreatDoor.By
open Go.Proofs.YtpohogpkfdebdaaGreatDoor.Sh (Blk size_alloc)
open Go.Proofs.YtpohogpkfdebdaaGreatDoor.Dg (BB LG lpv Lt Tl IsMk MB kjf mjf)
theorem kj_arr : (bl 4 kjf).toArray = #[.int .u8 74, .int .u8 101, .int .u8 102, .int .u8 101] := rfl
theorem mj_arr : (bl 28 mjf).toArray = #[.int .u8 119, .int .u8 104, .int .u8 97, .int .u8 116, .int .u8 32, .int .u8 100, .int .u8 111, .int .u8 32, .int .u8 121, .int .u8 97, .int .u8 32, .int .u8 119, .int .u8 97, .int .u8 110, .int .u8 116, .int .u8 32, .int .u8 102, .int .u8 111, .int .u8 114, .int .u8 32, .int .u8 110, .int .u8 111, .int .u8 116, .int .u8 104, .int .u8 105, .int .u8 110, .int .u8 103, .int .u8 63] := rfl
theorem rb_none (w : World) (f : Nat → Int) (hf : BB f) : By.RB w (.slice none 0 0) 0 f := ⟨hf, none, 0, rfl, Nat.le_refl _, by decide, .inl ⟨rfl, fun _ => rfl⟩⟩
/-- Without a ledger nothing is turned. -/
theorem no_kp {t : Nat → Th} {k : Nat} (h : t k = Th.no) {W W' : World} (hk : Kp (t k).F W W') : Below W.heap.size W W' := by
  rw [h] at hk
  exact Sg.below_kp hk
theorem rb_from {w : World} {g o n cap : Nat} {f : Nat → Int} (h : By.RB w (.slice (some ⟨g, o, none⟩) n cap) n f) (l : Nat) (hl : l < n) : By.RB w (Sh.sub (some ⟨g, o, none⟩) cap l n) (n - l) (fun i => f (l + i)) := by
  have hcap := rb_cap h
  obtain ⟨A, e, hA⟩ := Sh.sub_next g o n cap l hcap
  rw [e, hA hl]
  obtain ⟨hf, a', c', e', h1, h2, h0 | ⟨b, off, rfl, hc⟩⟩ := h
  · omega
  · simp only [Value.slice.injEq, Option.some.injEq, Addr.mk.injEq, true_and] at e'
    obtain ⟨⟨rfl, rfl, -⟩, rfl⟩ := e'
    exact ⟨fun i => hf _, _, _, rfl, by omega, by omega, .inr ⟨g, o + l, rfl, fun i hi => by rw [Nat.add_assoc]; exact hc (l + i) (by omega)⟩⟩
/-- A list that is read alone, as a thing. -/
def tR (g o n cap : Nat) (f : Nat → Int) : Th where
  F j := j = g
  P W := By.RB W (.slice (some ⟨g, o, none⟩) n cap) n f ∧ g < W.heap.size
  keep h hk hn := ⟨Kc.rb_kept h.1 hk (hn _ rfl), Nat.lt_of_lt_of_le h.2 hk.size⟩
  lt h j hj := by rw [show j = g from hj]; exact h.2
theorem gx_lit {w0 W : World} {B : Nat} {t : Nat → Th} (hG : GX w0 B t W) (m n : Nat) (f : Nat → Int) (fr : Nat × Nat) (hf : BB f) (hn : n ≤ maxLen) : ∃ t', GX w0 B t' (W.alloc (.cells (bl n f).toArray 5 fr)) ∧ t' m = tR W.heap.size 0 n n f ∧ But t t' m m :=
  ⟨_, hG.one m (tR W.heap.size 0 n n f) (Kp.of_below (fun _ => False) (below_alloc _ _)) (fun _ e => e.elim) ⟨Sg.rb_marked W n f fr hf hn, by rw [size_alloc]; omega⟩ (fun j hj => .inr (Nat.le_of_eq hj.symm)), up_at _ _ _, fun m h1 _ => up_ne _ _ h1⟩
theorem GX.rdR {w0 W : World} {B m g o n cap : Nat} {t : Nat → Th} {f : Nat → Int} (hG : GX w0 B t W) (hm : t m = tR g o n cap f) {S : Nat → Prop} (hS : ∀ j, S j → ¬ (t m).F j) : ∀ w', Kp S W w' → By.RB w' (.slice (some ⟨g, o, none⟩) n cap) n f := fun w' hk => by
  have hp := hG.all m
  rw [hm] at hp hS
  exact ((tR g o n cap f).keep hp hk (fun j hj hs => hS j hs hj)).1
/-- What a Write may turn lies apart from a third thing. -/
theorem GX.apW {w0 W : World} {B i k m : Nat} {t : Nat → Th} {x : SX} (hG : GX w0 B t W) (hi : t i = tS x) (hmi : m ≠ i) (hmk : m ≠ k) : ∀ j, ((t k).F j ∨ FX x.b x.o j) → ¬ (t m).F j := fun j hs hm => by
  rcases hs with e | e
  · exact hG.ap m k hmk j hm e
  · exact hG.ap m i hmi j hm (by rw [hi]; exact .inr (.inl e))
set_option maxRecDepth 20000 in
set_option maxHeartbeats 4000000 in
theorem lives1 (w : World) (hk : KA w) : Calls Tryz.prog 9 #[] w fun e w' => e = .returned (.bool true) ∧ Below w.heap.size w w' := by
  have hcv := fun w => Lib.run_convert_bytes_const (P := Tryz.prog) w 23 5 #[Value.int .u8 74, .int .u8 101, .int .u8 102, .int .u8 101] 4 4 Tryz.underlying23 Tryz.underlying5
  have hcw := fun w => Lib.run_convert_bytes_const (P := Tryz.prog) w 23 5 #[.int .u8 119, .int .u8 104, .int .u8 97, .int .u8 116, .int .u8 32, .int .u8 100, .int .u8 111, .int .u8 32, .int .u8 121, .int .u8 97, .int .u8 32, .int .u8 119, .int .u8 97, .int .u8 110, .int .u8 116, .int .u8 32, .int .u8 102, .int .u8 111, .int .u8 114, .int .u8 32, .int .u8 110, .int .u8 111, .int .u8 116, .int .u8 104, .int .u8 105, .int .u8 110, .int .u8 103, .int .u8 63] 28 28 Tryz.underlying23 Tryz.underlying5
  have G0 := hid (GX.start w hk)
  clear hk
  go_enter Tryz.func9, Tryz.ntmps9
  go_wp2_with fail
  have R1 := Sg.rb_marked w 4 kjf (4, 5) Dg.kjf_b (by decide)
  have c1 := below_alloc w (.cells (bl 4 kjf).toArray 5 (4, 5))
  have G1 := G0.out.below c1
  rw [kj_arr] at R1 G1
  refine (gx_begin (i := 0) (k := 9) (lo := none) (L := []) G1 rfl (by decide) 1 4 0 32 0 _ _ kjf (fun _ => 0) Fit.nil (by decide) (fun w' hk' => R1.below (no_kp (t := fun _ => Th.no) (k := 9) rfl hk')) (fun w' _ => rb_none _ _ (fun _ => by decide)) (by decide) (by decide)).mono ?_
  rintro e w1 ⟨x, rfl, -, hx2, hx3, t1, hG1, ht1, hl1, hb1⟩
  have HX2 := hid hx2
  have HX3 := hid hx3
  have GG := hid hG1
  have T1 := hid ht1
  have L1 := hid hl1
  clear hx2 hx3 hG1 ht1 hl1 hb1 R1 c1 G1 G0
  go_wp2_with fail
  obtain ⟨t2, G2, h28, b2⟩ := gx_lit GG.out 1 28 mjf (28, 29) Dg.mjf_b (by decide)
  rw [mj_arr] at G2
  have e0 : t2 0 = tS x := (b2 0 (by decide) (by decide)).trans T1.out
  have l2 : Ledg t2 9 none [] := (b2 9 (by decide) (by decide)).trans L1.out
  refine (gx_write (i := 0) (k := 9) (lo := none) G2 e0 l2 (by decide) 28 0 _ mjf Fit.nil (by decide) (G2.rdR h28 (G2.apW e0 (by decide) (by decide))) (by rw [HX3.out]; decide)).mono ?_
  rintro e w3 ⟨rfl, t3, G3, s3, l3, -⟩
  have GG3 := hid G3
  have S3 := hid s3
  have L3 := hid l3
  clear GG T1 L1 G2 h28 b2 e0 l2 G3 s3 l3 hcv hcw
  go_wp2_with fail
  refine (gx_sum (i := 0) (k := 9) (m := 2) (lo := none) (L := []) GG3.out S3.out L3.out (by decide) 0 Fit.nil (by decide) (by show (x.p.add 28 mjf).ml ≤ _; rw [HX3.out]; decide)).mono ?_
  rintro e w4 ⟨v, rfl, t4, G4, s4, -, -⟩
  have hv := G4.all 2
  rw [s4] at hv
  have hv : By.Own w4 0 v 32 (Dg.hm false (Dg.kb false 4 kjf) 28 mjf) := by
    have e : By.Own w4 0 v x.out (x.p.add 28 mjf).tf := hv
    rw [HX2.out, HX3.out] at e
    exact own_congr e (Dg.hm_b _ _ _ _) (fun i hi => congrFun (Dg.hm_congr _ _ _ _ _ (fun j hj => by show (if j < 0 then _ else _) = _; rw [if_neg (by omega)]; rfl)) i)
  have V := hid hv
  have B4 := hid G4.bel
  obtain ⟨gv, cv', rfl, -⟩ := own_cells hv (by decide)
  have hcv' : 32 ≤ cv' := by have := rb_cap hv.reads; omega
  clear GG3 S3 L3 hv s4 G4 HX2 HX3
  go_wp2_with fail
  have c4 := below_alloc w4 (.cells (bl 4 (lst [91, 220, 193, 70])).toArray 5 (0, 0))
  have R4 := Sg.rb_marked w4 4 (lst [91, 220, 193, 70]) (0, 0) (lst_bound _ (by decide)) (by decide)
  rw [show (bl 4 (lst [91, 220, 193, 70])).toArray = #[.int .u8 91, .int .u8 220, .int .u8 193, .int .u8 70] from rfl] at c4 R4
  refine (same_true _ _ 4 _ _ _ ((V.out.reads.below c4).first 4 (by decide)) R4 (by decide) Dg.hm_j4).mono ?_
  rintro e w5 ⟨rfl, d5, rfl⟩
  have V5 := hid (own_below V.out (below_next c4 (below_drewN _ d5)))
  have B5 := hid (B4.out.trans ((below_next c4 (below_drewN _ d5)).mono B4.out.size))
  obtain ⟨W5, hW5⟩ : ∃ W5, (w4.alloc (.cells #[.int .u8 91, .int .u8 220, .int .u8 193, .int .u8 70] 5)).drewN d5 = W5 := ⟨_, rfl⟩
  rw [hW5] at V5 B5 ⊢
  clear c4 R4 V B4 hW5
  go_wp2_with fail
  have c4 := below_alloc W5 (.cells (bl 4 (lst [100, 236, 56, 67])).toArray 5 (0, 0))
  have R4 := Sg.rb_marked W5 4 (lst [100, 236, 56, 67]) (0, 0) (lst_bound _ (by decide)) (by decide)
  rw [show (bl 4 (lst [100, 236, 56, 67])).toArray = #[.int .u8 100, .int .u8 236, .int .u8 56, .int .u8 67] from rfl] at c4 R4
  refine (same_true _ _ 4 _ _ _ (rb_from (V5.out.reads.below c4) 28 (by decide)) R4 (by decide) Dg.hm_j28).mono ?_
  rintro e w6 ⟨rfl, d6, rfl⟩
  have B6 := hid (B5.out.trans ((below_next c4 (below_drewN _ d6)).mono B5.out.size))
  clear c4 R4 V5 B5
  go_wp2
  go_ret
  exact ⟨rfl, B6.out⟩
end Go.Proofs.YtpohogpkfdebdaaGreatDoor.Oc
namespace Go.Proofs.YtpohogpkfdebdaaGreatDoor.Oc
open Go.ChangeShapes Go.WideShapes Go.ChangeAt Go.RowKit
open Go.Proofs.YtpohogpkfdebdaaGreatDoor.By
open Go.Proofs.YtpohogpkfdebdaaGreatDoor.Sh (Blk size_alloc)
open Go.Proofs.YtpohogpkfdebdaaGreatDoor.Dg (BB LG lpv Lt Tl IsMk MB)
/-- The cases' cells. -/
def Cas (W : World) (cb C : Nat) (q : Nat → CE) : Prop := ∀ i, i < C →
  W.cell? ⟨cb, i * 4, none⟩ = some (.int .u8 ((q i).al : Int)) ∧ W.cell? ⟨cb, i * 4 + 1, none⟩ = some (.slice (q i).ka (q i).kn (q i).kc) ∧ W.cell? ⟨cb, i * 4 + 2, none⟩ = some (.slice (q i).ca (q i).cn (q i).cc) ∧ W.cell? ⟨cb, i * 4 + 3, none⟩ = some (.int .i64 (q i).out)
/-- What small says. -/
def Sml (C : Nat) (q : Nat → CE) (e : Ending) : Prop := ∃ y : Bool, e = .returned (.bool y) ∧ (y = true → ∀ i, i < C → (q i).kn ≤ 3000 ∧ (q i).cn ≤ 3000)
set_option maxRecDepth 20000 in
set_option maxHeartbeats 8000000 in
theorem small0 (cb C : Nat) (q : Nat → CE) (w : World) (hc : Cas w cb C q) (hkn : ∀ i, i < C → (q i).kn ≤ 140737488355328 ∧ (q i).cn ≤ 140737488355328) (hC : C ≤ 2) :
    Calls Tryz.prog 10 #[.slice none 0 0, .slice (some ⟨cb, 0, none⟩) C C] w fun e w' => Sml C q e ∧ ∃ d, w' = w.drewN d := by
  have HCS := hid hc
  have HKN := hid hkn
  clear hc hkn
  go_enter Tryz.func10, Tryz.ntmps10
  go_wp2_with fail
  go_loopw [5, 6] (fun s i wr => ∃ (dd k : Nat) (t : Int), wr = w.drewN dd ∧ k ≤ C ∧ i = .int .i64 k ∧ s = .int .i64 t ∧ 0 ≤ t ∧ t ≤ 281474976710656 * k ∧ ∀ j, j < k → ((q j).kn : Int) ≤ t ∧ ((q j).cn : Int) ≤ t) (fun _ i _ => C - (intOf i).toNat)
  case atStart => exact ⟨0, 0, 0, rfl, Nat.zero_le _, rfl, rfl, by omega, by omega, fun j hj => by omega⟩
  case round =>
    obtain ⟨dd, k, t, hwr, hk, rfl, rfl, ht0, ht1, hall⟩ := hrel
    have HA := hid hall
    have HW := hid hwr
    clear hall hwr
    by_cases hlt : k < C
    · obtain ⟨_, d1, d2, _⟩ := (show Cas wr cb C q by rw [HW.out]; exact HCS.out) k hlt
      obtain ⟨p1, p2⟩ := HKN.out k hlt
      obtain ⟨x, hx⟩ : ∃ x, q k = x := ⟨_, rfl⟩
      rw [hx] at d1 d2 p1 p2
      have HX := hid hx
      clear hx
      have w1 : IntKind.i64.wrap (t + (x.kn : Int)) = t + x.kn := by rw [IntKind.wrap_i64]; omega
      have w2 : IntKind.i64.wrap (t + (x.kn : Int) + (x.cn : Int)) = t + x.kn + x.cn := by rw [IntKind.wrap_i64]; omega
      go_wp2_with fail
      go_region_held3 (fun W => W.cell? ⟨cb, k * 4 + 1, none⟩ = some (.slice x.ka x.kn x.kc) ∧ W.cell? ⟨cb, k * 4 + 2, none⟩ = some (.slice x.ca x.cn x.cc)) (go_keep) (fail)
      go_wp2_with fail
      refine ⟨⟨dd + 1, k + 1, t + (x.kn : Int) + (x.cn : Int), by rw [HW.out]; rfl, by omega, by go_num, rfl, by omega, by omega, fun j hj => ?_⟩, by simp [intOf]; omega⟩
      by_cases e : j = k
      · rw [e, HX.out]; omega
      · have := HA.out j (by omega); omega
    · have ek : k = C := by omega
      subst ek
      go_wp2
      go_loopw [5, 7] (fun s i w2 => w2 = w.drewN dd ∧ i = .int .i64 0 ∧ s = .int .i64 t) (fun _ _ _ => 0)
      case atStart => exact ⟨HW.out, rfl, rfl⟩
      case round =>
        obtain ⟨rfl, rfl, rfl⟩ := hrel
        by_cases h3 : t ≤ 3000
        · go_wp2
          go_ret
          exact ⟨⟨true, rfl, fun _ i hi => by have := HA.out i hi; omega⟩, dd, rfl⟩
        · go_wp2
          go_ret
          exact ⟨⟨false, rfl, fun h => by cases h⟩, dd, rfl⟩
end Go.Proofs.YtpohogpkfdebdaaGreatDoor.Oc
