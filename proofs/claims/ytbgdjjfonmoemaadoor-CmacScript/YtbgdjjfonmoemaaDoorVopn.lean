/- The law CmacScript: how its script is opened. -/
import Derived.Test.YtbgdjjfonmoemaaDoorVscr
import Derived.Test.YtbgdjjfonmoemaaDoorWh
import Derived.Deep.Slices
import Derived.OpenShut
import Derived.ChangeOld
import Derived.SizedLaws
namespace Go.Proofs.YtbgdjjfonmoemaaDoor.Vm
open Go.ChangeShapes Go.WideShapes Go.ChangeAt Go.RowKit
open Go.Proofs.YtbgdjjfonmoemaaDoor.By Go.Proofs.YtbgdjjfonmoemaaDoor.Gf Go.Proofs.YtbgdjjfonmoemaaDoor.Ae
/-- Nothing in a datum is greater than memory reaches. -/
def Sz {H : Type} (d : DataW H) (t : TypeId) : Prop := ∀ n ∈ d.weights Tryd.prog t, n ≤ reachBytes
theorem sz_each {H : Type} {ts : List TypeId} {ds : List (DataW H)} (h : (DataW.weightsEach Tryd.prog ts ds).all (· ≤ reachBytes) = true) {j : Nat} {t : TypeId} {d : DataW H} (ht : ts[j]? = some t) (hd : ds[j]? = some d) : Sz d t := fun n hn => by
  have := List.all_eq_true.1 h _ (DataW.weights_mem_each ht hd n hn)
  simpa using this
theorem mem_all {H : Type} {e : TypeId} {l : List (DataW H)} {d : DataW H} (h : d ∈ l) {n : Nat} (hn : n ∈ d.weights Tryd.prog e) : n ∈ DataW.weightsAll Tryd.prog e l := by
  induction l with
  | nil => cases h
  | cons y r ih =>
    simp only [DataW.weightsAll, List.mem_append]
    rcases List.mem_cons.1 h with rfl | h
    · exact .inl hn
    · exact .inr (ih h)
theorem sz_slice {H : Type} {t e : TypeId} {es sp : List (DataW H)} (hu : Tryd.prog.underlying t = some (.slice e)) (h : Sz (.slice es sp) t) : (es.length + sp.length) * Tryd.prog.bytesOf e ≤ reachBytes ∧ ∀ d ∈ es, Sz d e := by
  refine ⟨h _ (by simp [DataW.weights, hu]), fun d hd n hn => h n ?_⟩
  simp only [DataW.weights, hu, List.mem_cons, List.mem_append]
  exact .inr (.inl (mem_all hd hn))
set_option maxRecDepth 100000 in
/-- A slice of bytes within an argument. -/
theorem open_p {H : Type} {enc : TypeId × Value → H} {w : World} {base : Nat} {held : Bool} {fuel : Nat} {c : Value} {x : DataW H × List MemPlace} (h : DataW.trod enc Tryd.prog w base (fun _ => true) held fuel 22 [c] = some x) (hs : Sz x.1 22) : ∃ pa pn pc g, c = .slice pa pn pc ∧ By.RB w (.slice pa pn pc) pn g ∧ pn ≤ 140737488351232 := by
  rcases open_ints Tryd.underlying22 Tryd.underlying5 (by kernel_rfl) h with ⟨hcs, _⟩ | ⟨a, l, cp, zs, hcs, _, hl, hm, hz, hx, hcell, hwz⟩
  · simp only [List.cons.injEq, and_true] at hcs
    subst hcs
    exact ⟨none, 0, 0, _, rfl, By.rb_of_row (zs := []) (.inl ⟨rfl, rfl, rfl, rfl⟩), by omega⟩
  · simp only [List.cons.injEq, and_true] at hcs
    subst hcs
    have hz' : zs.length = cp := by simpa using hz
    refine ⟨some a, l, cp, _, rfl, By.rb_of_row (zs := zs) (.inr ⟨_, rfl, hl, hm, hz', hcell, hwz⟩), ?_⟩
    rw [hx] at hs
    have h2 := (sz_slice Tryd.underlying22 hs).1
    rw [By.bytes5] at h2
    simp only [lits, List.length_map, List.length_take, List.length_drop, reachBytes] at h2
    omega
set_option maxRecDepth 100000 in
/-- Cells of an act, as an argument's reading opens them. -/
theorem open_act {H : Type} {enc : TypeId × Value → H} {w : World} {base : Nat} {held : Bool} {fuel : Nat} {cs : List Value} {x : DataW H × List MemPlace} (h : DataW.trod enc Tryd.prog w base (fun _ => true) held fuel 40 cs = some x) (hsz : Sz x.1 40) : ∃ q : AE, ((By.RB w (.slice q.ka q.kn q.kc) q.kn (cb q.fk) ∧ q.kn ≤ 140737488351232) ∧ (By.RB w (.slice q.da q.dn q.dc) q.dn (cb q.fd) ∧ q.dn ≤ 140737488351232)) ∧ cs = [.int .i64 q.on, .int .i64 q.kd, .slice q.ka q.kn q.kc, .slice q.da q.dn q.dc, .bool q.mute] := by
  obtain ⟨xs, n1, _, hx, hl, hxl, hf⟩ := DataW.trod_struct Tryd.underlying40 h
  have hl7 : cs.length = 5 := by rw [hl]; kernel_rfl
  match cs, hl7 with
  | [c0, c1, c2, c3, c4], _ =>
    have g0 := hf 0 { name := "On", type := 3, offset := 0, embedded := false, tag := "", pkgPath := "", byteOffset := 0 } rfl
    have g1 := hf 1 { name := "Kind", type := 3, offset := 1, embedded := false, tag := "", pkgPath := "", byteOffset := 8 } rfl
    have g2 := hf 2 { name := "Key", type := 22, offset := 2, embedded := false, tag := "", pkgPath := "", byteOffset := 16 } rfl
    have g3 := hf 3 { name := "Data", type := 22, offset := 3, embedded := false, tag := "", pkgPath := "", byteOffset := 40 } rfl
    have g4 := hf 4 { name := "Mute", type := 4, offset := 4, embedded := false, tag := "", pkgPath := "", byteOffset := 64 } rfl
    have e3 : Tryd.prog.cellsOf 3 = 1 := by kernel_rfl
    have e4 : Tryd.prog.cellsOf 4 = 1 := by kernel_rfl
    have eb : Tryd.prog.cellsOf 22 = 1 := by kernel_rfl
    dsimp only at g0 g1 g2 g3 g4
    rw [e3] at g0 g1
    rw [eb] at g2 g3
    rw [e4] at g4
    simp only [List.drop_zero, List.take_succ_cons, List.take_zero, List.drop_succ_cons] at g0 g1 g2 g3 g4
    have hx7 : xs.length = 5 := by rw [hxl]; rfl
    match xs, hx7 with
    | [y0, y1, y2, y3, y4], _ =>
      have hs2 : Sz y2.1 22 := fun n hn => by
        refine hsz n ?_
        rw [hx]
        have hu := Tryd.underlying40
        simp only [DataW.weights, hu, List.map_cons, List.map_nil]
        exact DataW.weights_mem_each (j := 2) (t := 22) (d := y2.1) rfl rfl n hn
      have hs3 : Sz y3.1 22 := fun n hn => by
        refine hsz n ?_
        rw [hx]
        have hu := Tryd.underlying40
        simp only [DataW.weights, hu, List.map_cons, List.map_nil]
        exact DataW.weights_mem_each (j := 3) (t := 22) (d := y3.1) rfl rfl n hn
      obtain ⟨a0, h0, _, _⟩ := DataW.trod_int Tryd.underlying3 (show _ = some y0 from g0)
      obtain ⟨a1, h1, _, _⟩ := DataW.trod_int Tryd.underlying3 (show _ = some y1 from g1)
      obtain ⟨pa, pn, pc, g, h2, hr, hpn⟩ := open_p (show _ = some y2 from g2) hs2
      obtain ⟨qa, qn, qc, g', h3, hr', hqn⟩ := open_p (show _ = some y3 from g3) hs3
      obtain ⟨a4, h4, _⟩ := DataW.trod_bool Tryd.underlying4 (show _ = some y4 from g4)
      simp only [List.cons.injEq, and_true] at h0 h1 h4
      subst h0 h1 h2 h3 h4
      exact ⟨⟨a0, a1, pa, pn, pc, qa, qn, qc, a4, kf g, kf g'⟩, ⟨⟨rb_kf hr, hpn⟩, rb_kf hr', hqn⟩, rfl⟩
set_option maxRecDepth 100000 in
/-- A script, as an argument's reading opens it. -/
theorem openActs {H : Type} {enc : TypeId × Value → H} {w : World} {base : Nat} {held : Bool} {fuel : Nat} {A : Option Addr} {m cap : Nat} {x : DataW H × List MemPlace} (h : DataW.trod enc Tryd.prog w base (fun _ => true) held fuel 23 (Value.slice A m cap).cells.toList = some x) (hsz : Sz x.1 23) :
    ∃ bb off a, (0 < m → A = some ⟨bb, off, none⟩) ∧ m ≤ cap ∧ cap ≤ maxLen ∧ Scr w bb off m a ∧ ∀ i, i < m → (By.RB w (.slice (a i).ka (a i).kn (a i).kc) (a i).kn (cb (a i).fk) ∧ (a i).kn ≤ 140737488351232) ∧ (By.RB w (.slice (a i).da (a i).dn (a i).dc) (a i).dn (cb (a i).fd) ∧ (a i).dn ≤ 140737488351232) := by
  rcases Deep.open_slice Tryd.underlying23 h with ⟨hcs, _⟩ | ⟨a, len, cp, k, n, D, Pl, hcs, _, hl, hm, hmm, hx, hel⟩
  · simp [Value.cells] at hcs
    obtain ⟨rfl, rfl, rfl⟩ := hcs
    exact ⟨0, 0, fun _ => ⟨0, 0, none, 0, 0, none, 0, 0, false, fun _ => 0, fun _ => 0⟩, fun h => absurd h (by omega), Nat.le_refl _, by simp [maxLen], fun i hi => absurd hi (by omega), fun i hi => absurd hi (by omega)⟩
  · simp [Value.cells] at hcs
    obtain ⟨rfl, rfl, rfl⟩ := hcs
    have e7 : Tryd.prog.cellsOf 40 = 5 := by kernel_rfl
    have hlm : m ≤ k := by rw [hmm]; split <;> omega
    rw [hx] at hsz
    have hD := (sz_slice Tryd.underlying23 hsz).2
    have each : ∀ i, i < m → ∃ q : AE, ((By.RB w (.slice q.ka q.kn q.kc) q.kn (cb q.fk) ∧ q.kn ≤ 140737488351232) ∧ (By.RB w (.slice q.da q.dn q.dc) q.dn (cb q.fd) ∧ q.dn ≤ 140737488351232)) ∧ w.cell? (a.add (i * 5)) = some (.int .i64 q.on) ∧ w.cell? (a.add (i * 5 + 1)) = some (.int .i64 q.kd) ∧ w.cell? (a.add (i * 5 + 2)) = some (.slice q.ka q.kn q.kc) ∧ w.cell? (a.add (i * 5 + 3)) = some (.slice q.da q.dn q.dc) ∧ w.cell? (a.add (i * 5 + 4)) = some (.bool q.mute) := by
      intro i hi
      obtain ⟨cs, h1, h2⟩ := hel i (by omega)
      rw [e7] at h1
      obtain ⟨_, _, hcell⟩ := World.cells?_some h1
      obtain ⟨q, hq, rfl⟩ := open_act h2 (hD (D i) (List.mem_map.2 ⟨i, List.mem_range.2 hi, rfl⟩))
      have q0 := hcell 0 (by omega)
      have q1 := hcell 1 (by omega)
      have q2 := hcell 2 (by omega)
      have q3 := hcell 3 (by omega)
      have q4 := hcell 4 (by omega)
      rw [Deep.add_add] at q0 q1 q2 q3 q4
      exact ⟨q, hq, q0, q1, q2, q3, q4⟩
    obtain ⟨R, hR⟩ := @Deep.choose_lt AE ⟨⟨0, 0, none, 0, 0, none, 0, 0, false, fun _ => 0, fun _ => 0⟩⟩ _ _ each
    by_cases h0 : 0 < m
    · obtain ⟨b, off, spot⟩ := a
      have hc := (hR 0 h0).2.1
      have hspot : spot = none := by simpa [Addr.add] using World.cell?_spot hc
      subst hspot
      refine ⟨b, off, R, fun _ => rfl, hl, hm, fun i hi => ?_, fun i hi => (hR i hi).1⟩
      obtain ⟨_, q⟩ := hR i hi
      simp only [By.add_plain, ← Nat.add_assoc] at q
      exact q
    · exact ⟨0, 0, R, fun h => absurd h h0, hl, hm, fun i hi => absurd hi (by omega), fun i hi => absurd hi (by omega)⟩
end Go.Proofs.YtbgdjjfonmoemaaDoor.Vm
