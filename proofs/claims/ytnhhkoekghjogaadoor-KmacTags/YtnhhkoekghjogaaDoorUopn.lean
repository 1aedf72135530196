/- How the arguments of the statements are opened: cases, a whole message, scripts. -/
import Derived.Test.YtnhhkoekghjogaaDoorUsml
import Derived.Deep.Slices
import Derived.OpenShut
import Derived.ChangeOld
import Derived.SizedLaws
namespace Go.Proofs.YtnhhkoekghjogaaDoor.Kc
open Go.ChangeShapes Go.WideShapes Go.ChangeAt Go.RowKit
open Go.Proofs.YtnhhkoekghjogaaDoor.By Go.Proofs.YtnhhkoekghjogaaDoor.Wd
/-- Nothing in a datum is greater than memory reaches. -/
def Sz {H : Type} (d : DataW H) (t : TypeId) : Prop := ∀ n ∈ d.weights Tryd.prog t, n ≤ reachBytes
theorem sz_each {H : Type} {ts : List TypeId} {ds : List (DataW H)} (h : (DataW.weightsEach Tryd.prog ts ds).all (· ≤ reachBytes) = true) {j : Nat} {t : TypeId} {d : DataW H} (ht : ts[j]? = some t) (hd : ds[j]? = some d) : Sz d t := fun n hn => by
  have := List.all_eq_true.1 h _ (DataW.weights_mem_each ht hd n hn)
  simpa using this
theorem mem_all {H : Type} {e : TypeId} {l : List (DataW H)} {d : DataW H} (h : d ∈ l) {n : Nat} (hn : n ∈ d.weights Tryd.prog e) : n ∈ DataW.weightsAll Tryd.prog e l := by
  induction l with
  | nil => cases h
  | cons y r ih =>
    simp only [DataW.weightsAll, List.mem_append]
    rcases List.mem_cons.1 h with rfl | h
    · exact .inl hn
    · exact .inr (ih h)
theorem sz_slice {H : Type} {t e : TypeId} {es sp : List (DataW H)} (hu : Tryd.prog.underlying t = some (.slice e)) (h : Sz (.slice es sp) t) : (es.length + sp.length) * Tryd.prog.bytesOf e ≤ reachBytes ∧ ∀ d ∈ es, Sz d e := by
  refine ⟨h _ (by simp [DataW.weights, hu]), fun d hd n hn => h n ?_⟩
  simp only [DataW.weights, hu, List.mem_cons, List.mem_append]
  exact .inr (.inl (mem_all hd hn))
set_option maxRecDepth 100000 in
/-- A slice of bytes within an argument. -/
theorem open_p {H : Type} {enc : TypeId × Value → H} {w : World} {base : Nat} {held : Bool} {fuel : Nat} {c : Value} {x : DataW H × List MemPlace} (h : DataW.trod enc Tryd.prog w base (fun _ => true) held fuel 22 [c] = some x) (hs : Sz x.1 22) : ∃ pa pn pc g, c = .slice pa pn pc ∧ By.RB w (.slice pa pn pc) pn g ∧ pn ≤ 140737488355328 := by
  rcases open_ints Tryd.underlying22 Tryd.underlying5 (by kernel_rfl) h with ⟨hcs, _⟩ | ⟨a, l, cp, zs, hcs, _, hl, hm, hz, hx, hcell, hwz⟩
  · simp only [List.cons.injEq, and_true] at hcs
    subst hcs
    exact ⟨none, 0, 0, _, rfl, By.rb_of_row (zs := []) (.inl ⟨rfl, rfl, rfl, rfl⟩), by omega⟩
  · simp only [List.cons.injEq, and_true] at hcs
    subst hcs
    have hz' : zs.length = cp := by simpa using hz
    refine ⟨some a, l, cp, _, rfl, By.rb_of_row (zs := zs) (.inr ⟨_, rfl, hl, hm, hz', hcell, hwz⟩), ?_⟩
    rw [hx] at hs
    have h2 := (sz_slice Tryd.underlying22 hs).1
    rw [By.bytes5] at h2
    simp only [lits, List.length_map, List.length_take, List.length_drop, reachBytes] at h2
    omega
set_option maxRecDepth 100000 in
theorem open_case {H : Type} {enc : TypeId × Value → H} {w : World} {base : Nat} {held : Bool} {fuel : Nat} {cs : List Value} {x : DataW H × List MemPlace} (h : DataW.trod enc Tryd.prog w base (fun _ => true) held fuel 24 cs = some x) (hsz : Sz x.1 24) : ∃ q : CE, (By.RB w (.slice q.ka q.kn q.kc) q.kn q.f ∧ By.RB w (.slice q.ca q.cn q.cc) q.cn q.h ∧ q.kn ≤ 140737488355328 ∧ q.cn ≤ 140737488355328) ∧ cs = [.int .i64 q.st, .slice q.ka q.kn q.kc, .slice q.ca q.cn q.cc] := by
  obtain ⟨xs, n1, _, hx, hl, hxl, hf⟩ := DataW.trod_struct Tryd.underlying24 h
  have hl7 : cs.length = 3 := by rw [hl]; kernel_rfl
  match cs, hl7 with
  | [c0, c1, c2], _ =>
    have g0 := hf 0 { name := "Strength", type := 3, offset := 0, embedded := false, tag := "", pkgPath := "", byteOffset := 0 } rfl
    have g1 := hf 1 { name := "Key", type := 22, offset := 1, embedded := false, tag := "", pkgPath := "", byteOffset := 8 } rfl
    have g2 := hf 2 { name := "Custom", type := 22, offset := 2, embedded := false, tag := "", pkgPath := "", byteOffset := 32 } rfl
    have ei : Tryd.prog.cellsOf 3 = 1 := by kernel_rfl
    have es : Tryd.prog.cellsOf 22 = 1 := by kernel_rfl
    dsimp only at g0 g1 g2
    rw [ei] at g0
    rw [es] at g1 g2
    simp only [List.drop_zero, List.take_succ_cons, List.take_zero, List.drop_succ_cons] at g0 g1 g2
    have hx7 : xs.length = 3 := by rw [hxl]; rfl
    match xs, hx7 with
    | [y0, y1, y2], _ =>
      have hs1 : Sz y1.1 22 := fun n hn => by
        refine hsz n ?_
        rw [hx]
        have hu := Tryd.underlying24
        simp only [DataW.weights, hu, List.map_cons, List.map_nil]
        exact DataW.weights_mem_each (j := 1) (t := 22) (d := y1.1) rfl rfl n hn
      have hs2 : Sz y2.1 22 := fun n hn => by
        refine hsz n ?_
        rw [hx]
        have hu := Tryd.underlying24
        simp only [DataW.weights, hu, List.map_cons, List.map_nil]
        exact DataW.weights_mem_each (j := 2) (t := 22) (d := y2.1) rfl rfl n hn
      obtain ⟨a0, h0, _, w0⟩ := DataW.trod_int Tryd.underlying3 (show _ = some y0 from g0)
      obtain ⟨p1, n1', c1', f1, h1, r1, l1⟩ := open_p (show _ = some y1 from g1) hs1
      obtain ⟨p2, n2', c2', f2, h2, r2, l2⟩ := open_p (show _ = some y2 from g2) hs2
      simp only [List.cons.injEq, and_true] at h0
      subst h0 h1 h2
      exact ⟨⟨a0, p1, n1', c1', p2, n2', c2', f1, f2⟩, ⟨r1, r2, l1, l2⟩, rfl⟩
set_option maxRecDepth 100000 in
theorem open_whole {H : Type} {enc : TypeId × Value → H} {w : World} {base : Nat} {held : Bool} {fuel : Nat} {cs : List Value} {x : DataW H × List MemPlace} (h : DataW.trod enc Tryd.prog w base (fun _ => true) held fuel 26 cs = some x) (hsz : Sz x.1 26) : ∃ (pa : Option Addr) (pn pc : Nat) (g : Nat → Int) (n : Int) (xof : Bool), By.RB w (.slice pa pn pc) pn g ∧ pn ≤ 140737488355328 ∧ cs = [.slice pa pn pc, .int .i64 n, .bool xof] := by
  obtain ⟨xs, n1, _, hx, hl, hxl, hf⟩ := DataW.trod_struct Tryd.underlying26 h
  have hl7 : cs.length = 3 := by rw [hl]; kernel_rfl
  match cs, hl7 with
  | [c0, c1, c2], _ =>
    have g0 := hf 0 { name := "P", type := 22, offset := 0, embedded := false, tag := "", pkgPath := "", byteOffset := 0 } rfl
    have g1 := hf 1 { name := "N", type := 3, offset := 1, embedded := false, tag := "", pkgPath := "", byteOffset := 24 } rfl
    have g2 := hf 2 { name := "Xof", type := 4, offset := 2, embedded := false, tag := "", pkgPath := "", byteOffset := 32 } rfl
    have ei : Tryd.prog.cellsOf 3 = 1 := by kernel_rfl
    have eb : Tryd.prog.cellsOf 4 = 1 := by kernel_rfl
    have es : Tryd.prog.cellsOf 22 = 1 := by kernel_rfl
    dsimp only at g0 g1 g2
    rw [ei] at g1
    rw [eb] at g2
    rw [es] at g0
    simp only [List.drop_zero, List.take_succ_cons, List.take_zero, List.drop_succ_cons] at g0 g1 g2
    have hx7 : xs.length = 3 := by rw [hxl]; rfl
    match xs, hx7 with
    | [y0, y1, y2], _ =>
      have hs0 : Sz y0.1 22 := fun n hn => by
        refine hsz n ?_
        rw [hx]
        have hu := Tryd.underlying26
        simp only [DataW.weights, hu, List.map_cons, List.map_nil]
        exact DataW.weights_mem_each (j := 0) (t := 22) (d := y0.1) rfl rfl n hn
      obtain ⟨p0, n0', c0', f0, h0, r0, l0⟩ := open_p (show _ = some y0 from g0) hs0
      obtain ⟨a1, h1, _, w1⟩ := DataW.trod_int Tryd.underlying3 (show _ = some y1 from g1)
      obtain ⟨a2, h2, _⟩ := DataW.trod_bool Tryd.underlying4 (show _ = some y2 from g2)
      simp only [List.cons.injEq, and_true] at h1 h2
      subst h0 h1 h2
      exact ⟨p0, n0', c0', f0, a1, a2, r0, l0, rfl⟩
end Go.Proofs.YtnhhkoekghjogaaDoor.Kc
