/- Scripts and cases: their cells; what the helper small answers. How the arguments of the statements are opened: cases, a whole message, scripts. How the script is opened. -/
import Derived.Test.YtnhhkoekghjogaaGreatDoorKh
import Derived.Deep.RegionHeld3
import Derived.Deep.Slices
import Derived.OpenShut
import Derived.ChangeOld
import Derived.SizedLaws
namespace Go.Proofs.YtnhhkoekghjogaaGreatDoor.Kc
open Go.ChangeShapes Go.WideShapes Go.ChangeAt Go.RowKit
open Go.Proofs.YtnhhkoekghjogaaGreatDoor.By Go.Proofs.YtnhhkoekghjogaaGreatDoor.Wd
/-- A call of the script. -/
structure AE where
  on : Int
  cc : Int
  tgt : Int
  pa : Option Addr
  pn : Nat
  pc : Nat
  n : Int
  xof : Bool
  g : Nat → Int
/-- A case. -/
structure CE where
  st : Int
  ka : Option Addr
  kn : Nat
  kc : Nat
  ca : Option Addr
  cn : Nat
  cc : Nat
  f : Nat → Int
  h : Nat → Int
/-- The script's cells. -/
def Scr (W : World) (bb off m : Nat) (a : Nat → AE) : Prop := ∀ i, i < m →
  W.cell? ⟨bb, off + i * 6, none⟩ = some (.int .i64 (a i).on) ∧ W.cell? ⟨bb, off + i * 6 + 1, none⟩ = some (.int .i64 (a i).cc) ∧ W.cell? ⟨bb, off + i * 6 + 2, none⟩ = some (.int .i64 (a i).tgt) ∧
  W.cell? ⟨bb, off + i * 6 + 3, none⟩ = some (.slice (a i).pa (a i).pn (a i).pc) ∧ W.cell? ⟨bb, off + i * 6 + 4, none⟩ = some (.int .i64 (a i).n) ∧ W.cell? ⟨bb, off + i * 6 + 5, none⟩ = some (.bool (a i).xof)
/-- The cases' cells. -/
def Cas (W : World) (cb C : Nat) (q : Nat → CE) : Prop := ∀ i, i < C →
  W.cell? ⟨cb, i * 3, none⟩ = some (.int .i64 (q i).st) ∧ W.cell? ⟨cb, i * 3 + 1, none⟩ = some (.slice (q i).ka (q i).kn (q i).kc) ∧ W.cell? ⟨cb, i * 3 + 2, none⟩ = some (.slice (q i).ca (q i).cn (q i).cc)
/-- What small says. -/
def Sml (m : Nat) (a : Nat → AE) (C : Nat) (q : Nat → CE) (e : Ending) : Prop := ∃ y : Bool, e = .returned (.bool y) ∧ (y = true → m ≤ 40 ∧ (∀ i, i < m → (a i).pn ≤ 4000) ∧ ∀ i, i < C → (q i).kn ≤ 4000 ∧ (q i).cn ≤ 4000)
set_option maxRecDepth 4000 in
set_option maxHeartbeats 8000000 in
theorem small1 (A : Option Addr) (bb off m cap : Nat) (hA : 0 < m → A = some ⟨bb, off, none⟩) (a : Nat → AE) (cb C : Nat) (q : Nat → CE) (w : World) (hs : Scr w bb off m a) (hc : Cas w cb C q) (hm : m ≤ cap) (hcap : cap ≤ maxLen) (hpn : ∀ i, i < m → (a i).pn ≤ 140737488355328) (hkn : ∀ i, i < C → (q i).kn ≤ 140737488355328 ∧ (q i).cn ≤ 140737488355328) (hC : C ≤ 2) :
    Calls Tryz.prog 5 #[.slice A m cap, .slice (some ⟨cb, 0, none⟩) C C] w fun e w' => Sml m a C q e ∧ ∃ d, w' = w.drewN d := by
  have HS := hid hs
  have HCS := hid hc
  have HAA := hid hA
  have HP := hid hpn
  have HKN := hid hkn
  have hm2 : m ≤ maxLen := Nat.le_trans hm hcap
  have hm3 : Hid (m ≤ maxLen) := hm2
  clear hs hpn hcap hm2 hA hc hkn
  go_enter Tryz.func5, Tryz.ntmps5
  go_wp2_with fail
  go_loopw [5, 6] (fun s i wr => ∃ (dd k : Nat) (t : Int), wr = w.drewN dd ∧ k ≤ C ∧ i = .int .i64 k ∧ s = .int .i64 t ∧ 0 ≤ t ∧ t ≤ 281474976710656 * k ∧ ∀ j, j < k → ((q j).kn : Int) ≤ t ∧ ((q j).cn : Int) ≤ t) (fun _ i _ => C - (intOf i).toNat)
  case atStart => exact ⟨0, 0, 0, rfl, Nat.zero_le _, rfl, rfl, by omega, by omega, fun j hj => by omega⟩
  case round =>
    obtain ⟨dd, k, t, hwr, hk, rfl, rfl, ht0, ht1, hall⟩ := hrel
    have HA := hid hall
    have HW := hid hwr
    clear hall hwr
    by_cases hlt : k < C
    · obtain ⟨_, d1, d2⟩ := (show Cas wr cb C q by rw [HW.out]; exact HCS.out) k hlt
      obtain ⟨p1, p2⟩ := HKN.out k hlt
      obtain ⟨x, hx⟩ : ∃ x, q k = x := ⟨_, rfl⟩
      rw [hx] at d1 d2 p1 p2
      have HX := hid hx
      clear hx
      have w1 : IntKind.i64.wrap (t + (x.kn : Int)) = t + x.kn := by rw [IntKind.wrap_i64]; omega
      have w2 : IntKind.i64.wrap (t + (x.kn : Int) + (x.cn : Int)) = t + x.kn + x.cn := by rw [IntKind.wrap_i64]; omega
      go_wp2_with fail
      go_region_held3 (fun W => W.cell? ⟨cb, k * 3 + 1, none⟩ = some (.slice x.ka x.kn x.kc) ∧ W.cell? ⟨cb, k * 3 + 2, none⟩ = some (.slice x.ca x.cn x.cc)) (go_keep) (fail)
      go_wp2_with fail
      refine ⟨⟨dd + 1, k + 1, t + (x.kn : Int) + (x.cn : Int), by rw [HW.out]; rfl, by omega, by go_num, rfl, by omega, by omega, fun j hj => ?_⟩, by simp [intOf]; omega⟩
      by_cases e : j = k
      · rw [e, HX.out]; omega
      · have := HA.out j (by omega); omega
    · have ek : k = C := by omega
      subst ek
      have HT0 := hid (show t ≤ 1000000000000000 by omega)
      clear ht1
      go_wp2
      go_loopw [5, 7] (fun s i wr => ∃ (d2 k2 : Nat) (T : Int), wr = w.drewN d2 ∧ k2 ≤ m ∧ i = .int .i64 k2 ∧ s = .int .i64 T ∧ t ≤ T ∧ T ≤ 1000000000000000 ∧ ∀ j, j < k2 → ((a j).pn : Int) ≤ T) (fun _ i _ => m - (intOf i).toNat)
      case atStart => exact ⟨dd, 0, t, HW.out, Nat.zero_le _, rfl, rfl, by omega, HT0.out, fun j hj => by omega⟩
      case round =>
        obtain ⟨d2, k2, T, rfl, hk2, rfl, rfl, hT0, hT1, hall⟩ := hrel
        have HB := hid hall
        have hmx := hm3.out
        simp only [maxLen] at hmx
        clear hall
        by_cases hlt2 : k2 < m
        · obtain rfl := HAA.out (by omega)
          obtain ⟨_, _, _, d3, d4, _⟩ := (show Scr (w.drewN d2) bb off m a from HS.out) k2 hlt2
          have dp := HP.out k2 hlt2
          obtain ⟨x, hx⟩ : ∃ x, a k2 = x := ⟨_, rfl⟩
          rw [hx] at d3 d4 dp
          have HX := hid hx
          clear hx
          have w1 : IntKind.i64.wrap (T + (x.pn : Int)) = T + x.pn := by rw [IntKind.wrap_i64]; omega
          by_cases r2 : 0 < x.n
          · by_cases r3 : x.n ≤ 65536
            · have w2 : IntKind.i64.wrap (T + (x.pn : Int) + x.n) = T + x.pn + x.n := by rw [IntKind.wrap_i64]; omega
              by_cases hb : 4000 < T + (x.pn : Int) + x.n
              · go_wp2
                go_ret
                exact ⟨⟨false, rfl, fun h => by cases h⟩, _, rfl⟩
              · go_wp2_with fail
                exact ⟨⟨d2, k2 + 1, T + (x.pn : Int) + x.n, rfl, by omega, by go_num, rfl, by omega, by omega, fun j hj => by
                  by_cases e : j = k2
                  · rw [e, HX.out]; omega
                  · have := HB.out j (by omega); omega⟩, by simp [intOf]; omega⟩
            · by_cases hb : 4000 < T + (x.pn : Int)
              · go_wp2
                go_ret
                exact ⟨⟨false, rfl, fun h => by cases h⟩, _, rfl⟩
              · go_wp2_with fail
                exact ⟨⟨d2, k2 + 1, T + (x.pn : Int), rfl, by omega, by go_num, rfl, by omega, by omega, fun j hj => by
                  by_cases e : j = k2
                  · rw [e, HX.out]; omega
                  · have := HB.out j (by omega); omega⟩, by simp [intOf]; omega⟩
          · by_cases hb : 4000 < T + (x.pn : Int)
            · go_wp2
              go_ret
              exact ⟨⟨false, rfl, fun h => by cases h⟩, _, rfl⟩
            · go_wp2_with fail
              exact ⟨⟨d2, k2 + 1, T + (x.pn : Int), rfl, by omega, by go_num, rfl, by omega, by omega, fun j hj => by
                by_cases e : j = k2
                · rw [e, HX.out]; omega
                · have := HB.out j (by omega); omega⟩, by simp [intOf]; omega⟩
        · have ek : k2 = m := by omega
          subst ek
          by_cases h40 : k2 ≤ 40
          · have h40' : (k2 : Int) ≤ 40 := by omega
            by_cases h4 : T ≤ 4000
            · go_wp2
              go_ret
              exact ⟨⟨true, rfl, fun _ => ⟨h40, fun i hi => by have := HB.out i hi; omega, fun i hi => by have := HA.out i hi; omega⟩⟩, _, rfl⟩
            · go_wp2
              go_ret
              exact ⟨⟨false, rfl, fun h => by cases h⟩, _, rfl⟩
          · have h40' : ¬ (k2 : Int) ≤ 40 := by omega
            go_wp2
            go_ret
            exact ⟨⟨false, rfl, fun h => by cases h⟩, _, rfl⟩
end Go.Proofs.YtnhhkoekghjogaaGreatDoor.Kc
namespace Go.Proofs.YtnhhkoekghjogaaGreatDoor.Kc
open Go.ChangeShapes Go.WideShapes Go.ChangeAt Go.RowKit
open Go.Proofs.YtnhhkoekghjogaaGreatDoor.By Go.Proofs.YtnhhkoekghjogaaGreatDoor.Wd
/-- Nothing in a datum is greater than memory reaches. -/
def Sz {H : Type} (d : DataW H) (t : TypeId) : Prop := ∀ n ∈ d.weights Tryz.prog t, n ≤ reachBytes
theorem sz_each {H : Type} {ts : List TypeId} {ds : List (DataW H)} (h : (DataW.weightsEach Tryz.prog ts ds).all (· ≤ reachBytes) = true) {j : Nat} {t : TypeId} {d : DataW H} (ht : ts[j]? = some t) (hd : ds[j]? = some d) : Sz d t := fun n hn => by
  have := List.all_eq_true.1 h _ (DataW.weights_mem_each ht hd n hn)
  simpa using this
theorem mem_all {H : Type} {e : TypeId} {l : List (DataW H)} {d : DataW H} (h : d ∈ l) {n : Nat} (hn : n ∈ d.weights Tryz.prog e) : n ∈ DataW.weightsAll Tryz.prog e l := by
  induction l with
  | nil => cases h
  | cons y r ih =>
    simp only [DataW.weightsAll, List.mem_append]
    rcases List.mem_cons.1 h with rfl | h
    · exact .inl hn
    · exact .inr (ih h)
theorem sz_slice {H : Type} {t e : TypeId} {es sp : List (DataW H)} (hu : Tryz.prog.underlying t = some (.slice e)) (h : Sz (.slice es sp) t) : (es.length + sp.length) * Tryz.prog.bytesOf e ≤ reachBytes ∧ ∀ d ∈ es, Sz d e := by
  refine ⟨h _ (by simp [DataW.weights, hu]), fun d hd n hn => h n ?_⟩
  simp only [DataW.weights, hu, List.mem_cons, List.mem_append]
  exact .inr (.inl (mem_all hd hn))
set_option maxRecDepth 100000 in
/-- A slice of bytes within an argument. -/
theorem open_p {H : Type} {enc : TypeId × Value → H} {w : World} {base : Nat} {held : Bool} {fuel : Nat} {c : Value} {x : DataW H × List MemPlace} (h : DataW.trod enc Tryz.prog w base (fun _ => true) held fuel 22 [c] = some x) (hs : Sz x.1 22) : ∃ pa pn pc g, c = .slice pa pn pc ∧ By.RB w (.slice pa pn pc) pn g ∧ pn ≤ 140737488355328 := by
  rcases open_ints Tryz.underlying22 Tryz.underlying5 (by kernel_rfl) h with ⟨hcs, _⟩ | ⟨a, l, cp, zs, hcs, _, hl, hm, hz, hx, hcell, hwz⟩
  · simp only [List.cons.injEq, and_true] at hcs
    subst hcs
    exact ⟨none, 0, 0, _, rfl, By.rb_of_row (zs := []) (.inl ⟨rfl, rfl, rfl, rfl⟩), by omega⟩
  · simp only [List.cons.injEq, and_true] at hcs
    subst hcs
    have hz' : zs.length = cp := by simpa using hz
    refine ⟨some a, l, cp, _, rfl, By.rb_of_row (zs := zs) (.inr ⟨_, rfl, hl, hm, hz', hcell, hwz⟩), ?_⟩
    rw [hx] at hs
    have h2 := (sz_slice Tryz.underlying22 hs).1
    rw [By.bytes5] at h2
    simp only [lits, List.length_map, List.length_take, List.length_drop, reachBytes] at h2
    omega
set_option maxRecDepth 100000 in
theorem open_case {H : Type} {enc : TypeId × Value → H} {w : World} {base : Nat} {held : Bool} {fuel : Nat} {cs : List Value} {x : DataW H × List MemPlace} (h : DataW.trod enc Tryz.prog w base (fun _ => true) held fuel 24 cs = some x) (hsz : Sz x.1 24) : ∃ q : CE, (By.RB w (.slice q.ka q.kn q.kc) q.kn q.f ∧ By.RB w (.slice q.ca q.cn q.cc) q.cn q.h ∧ q.kn ≤ 140737488355328 ∧ q.cn ≤ 140737488355328) ∧ cs = [.int .i64 q.st, .slice q.ka q.kn q.kc, .slice q.ca q.cn q.cc] := by
  obtain ⟨xs, n1, _, hx, hl, hxl, hf⟩ := DataW.trod_struct Tryz.underlying24 h
  have hl7 : cs.length = 3 := by rw [hl]; kernel_rfl
  match cs, hl7 with
  | [c0, c1, c2], _ =>
    have g0 := hf 0 { name := "Strength", type := 3, offset := 0, embedded := false, tag := "", pkgPath := "", byteOffset := 0 } rfl
    have g1 := hf 1 { name := "Key", type := 22, offset := 1, embedded := false, tag := "", pkgPath := "", byteOffset := 8 } rfl
    have g2 := hf 2 { name := "Custom", type := 22, offset := 2, embedded := false, tag := "", pkgPath := "", byteOffset := 32 } rfl
    have ei : Tryz.prog.cellsOf 3 = 1 := by kernel_rfl
    have es : Tryz.prog.cellsOf 22 = 1 := by kernel_rfl
    dsimp only at g0 g1 g2
    rw [ei] at g0
    rw [es] at g1 g2
    simp only [List.drop_zero, List.take_succ_cons, List.take_zero, List.drop_succ_cons] at g0 g1 g2
    have hx7 : xs.length = 3 := by rw [hxl]; rfl
    match xs, hx7 with
    | [y0, y1, y2], _ =>
      have hs1 : Sz y1.1 22 := fun n hn => by
        refine hsz n ?_
        rw [hx]
        have hu := Tryz.underlying24
        simp only [DataW.weights, hu, List.map_cons, List.map_nil]
        exact DataW.weights_mem_each (j := 1) (t := 22) (d := y1.1) rfl rfl n hn
      have hs2 : Sz y2.1 22 := fun n hn => by
        refine hsz n ?_
        rw [hx]
        have hu := Tryz.underlying24
        simp only [DataW.weights, hu, List.map_cons, List.map_nil]
        exact DataW.weights_mem_each (j := 2) (t := 22) (d := y2.1) rfl rfl n hn
      obtain ⟨a0, h0, _, w0⟩ := DataW.trod_int Tryz.underlying3 (show _ = some y0 from g0)
      obtain ⟨p1, n1', c1', f1, h1, r1, l1⟩ := open_p (show _ = some y1 from g1) hs1
      obtain ⟨p2, n2', c2', f2, h2, r2, l2⟩ := open_p (show _ = some y2 from g2) hs2
      simp only [List.cons.injEq, and_true] at h0
      subst h0 h1 h2
      exact ⟨⟨a0, p1, n1', c1', p2, n2', c2', f1, f2⟩, ⟨r1, r2, l1, l2⟩, rfl⟩
end Go.Proofs.YtnhhkoekghjogaaGreatDoor.Kc
namespace Go.Proofs.YtnhhkoekghjogaaGreatDoor.Kc
open Go.ChangeShapes Go.WideShapes Go.ChangeAt Go.RowKit
open Go.Proofs.YtnhhkoekghjogaaGreatDoor.By Go.Proofs.YtnhhkoekghjogaaGreatDoor.Wd
set_option maxRecDepth 100000 in
theorem open_act {H : Type} {enc : TypeId × Value → H} {w : World} {base : Nat} {held : Bool} {fuel : Nat} {cs : List Value} {x : DataW H × List MemPlace} (h : DataW.trod enc Tryz.prog w base (fun _ => true) held fuel 43 cs = some x) (hsz : Sz x.1 43) : ∃ q : AE, (By.RB w (.slice q.pa q.pn q.pc) q.pn q.g ∧ q.pn ≤ 140737488355328) ∧ cs = [.int .i64 q.on, .int .i64 q.cc, .int .i64 q.tgt, .slice q.pa q.pn q.pc, .int .i64 q.n, .bool q.xof] := by
  obtain ⟨xs, n1, _, hx, hl, hxl, hf⟩ := DataW.trod_struct Tryz.underlying43 h
  have hl7 : cs.length = 6 := by rw [hl]; kernel_rfl
  match cs, hl7 with
  | [c0, c1, c2, c3, c4, c5], _ =>
    have g0 := hf 0 { name := "On", type := 3, offset := 0, embedded := false, tag := "", pkgPath := "", byteOffset := 0 } rfl
    have g1 := hf 1 { name := "Call", type := 3, offset := 1, embedded := false, tag := "", pkgPath := "", byteOffset := 8 } rfl
    have g2 := hf 2 { name := "To", type := 3, offset := 2, embedded := false, tag := "", pkgPath := "", byteOffset := 16 } rfl
    have g3 := hf 3 { name := "P", type := 22, offset := 3, embedded := false, tag := "", pkgPath := "", byteOffset := 24 } rfl
    have g4 := hf 4 { name := "N", type := 3, offset := 4, embedded := false, tag := "", pkgPath := "", byteOffset := 48 } rfl
    have g5 := hf 5 { name := "Xof", type := 4, offset := 5, embedded := false, tag := "", pkgPath := "", byteOffset := 56 } rfl
    have ei : Tryz.prog.cellsOf 3 = 1 := by kernel_rfl
    have eb : Tryz.prog.cellsOf 4 = 1 := by kernel_rfl
    have es : Tryz.prog.cellsOf 22 = 1 := by kernel_rfl
    dsimp only at g0 g1 g2 g3 g4 g5
    rw [ei] at g0 g1 g2 g4
    rw [eb] at g5
    rw [es] at g3
    simp only [List.drop_zero, List.take_succ_cons, List.take_zero, List.drop_succ_cons] at g0 g1 g2 g3 g4 g5
    have hx7 : xs.length = 6 := by rw [hxl]; rfl
    match xs, hx7 with
    | [y0, y1, y2, y3, y4, y5], _ =>
      have hs3 : Sz y3.1 22 := fun n hn => by
        refine hsz n ?_
        rw [hx]
        have hu := Tryz.underlying43
        simp only [DataW.weights, hu, List.map_cons, List.map_nil]
        exact DataW.weights_mem_each (j := 3) (t := 22) (d := y3.1) rfl rfl n hn
      obtain ⟨a0, h0, _, w0⟩ := DataW.trod_int Tryz.underlying3 (show _ = some y0 from g0)
      obtain ⟨a1, h1, _, w1⟩ := DataW.trod_int Tryz.underlying3 (show _ = some y1 from g1)
      obtain ⟨a2, h2, _, w2⟩ := DataW.trod_int Tryz.underlying3 (show _ = some y2 from g2)
      obtain ⟨p3, n3', c3', f3, h3, r3, l3⟩ := open_p (show _ = some y3 from g3) hs3
      obtain ⟨a4, h4, _, w4⟩ := DataW.trod_int Tryz.underlying3 (show _ = some y4 from g4)
      obtain ⟨a5, h5, _⟩ := DataW.trod_bool Tryz.underlying4 (show _ = some y5 from g5)
      simp only [List.cons.injEq, and_true] at h0 h1 h2 h4 h5
      subst h0 h1 h2 h3 h4 h5
      exact ⟨⟨a0, a1, a2, p3, n3', c3', a4, a5, f3⟩, ⟨r3, l3⟩, rfl⟩
set_option maxRecDepth 100000 in
/-- A script, as an argument's reading opens it. -/
theorem openActs {H : Type} {enc : TypeId × Value → H} {w : World} {base : Nat} {held : Bool} {fuel : Nat} {A : Option Addr} {m cap : Nat} {x : DataW H × List MemPlace} (h : DataW.trod enc Tryz.prog w base (fun _ => true) held fuel 25 (Value.slice A m cap).cells.toList = some x) (hsz : Sz x.1 25) :
    ∃ bb off a, (0 < m → A = some ⟨bb, off, none⟩) ∧ m ≤ cap ∧ cap ≤ maxLen ∧ Scr w bb off m a ∧ ∀ i, i < m → By.RB w (.slice (a i).pa (a i).pn (a i).pc) (a i).pn (a i).g ∧ (a i).pn ≤ 140737488355328 := by
  rcases Deep.open_slice Tryz.underlying25 h with ⟨hcs, _⟩ | ⟨a, len, cp, k, n, D, Pl, hcs, _, hl, hm, hmm, hx, hel⟩
  · simp [Value.cells] at hcs
    obtain ⟨rfl, rfl, rfl⟩ := hcs
    exact ⟨0, 0, fun _ => ⟨0, 0, 0, none, 0, 0, 0, false, fun _ => 0⟩, fun h => absurd h (by omega), Nat.le_refl _, by simp [maxLen], fun i hi => absurd hi (by omega), fun i hi => absurd hi (by omega)⟩
  · simp [Value.cells] at hcs
    obtain ⟨rfl, rfl, rfl⟩ := hcs
    have e7 : Tryz.prog.cellsOf 43 = 6 := by kernel_rfl
    have hlm : m ≤ k := by rw [hmm]; split <;> omega
    rw [hx] at hsz
    have hD := (sz_slice Tryz.underlying25 hsz).2
    have each : ∀ i, i < m → ∃ q : AE, (By.RB w (.slice q.pa q.pn q.pc) q.pn q.g ∧ q.pn ≤ 140737488355328) ∧ w.cell? (a.add (i * 6)) = some (.int .i64 q.on) ∧ w.cell? (a.add (i * 6 + 1)) = some (.int .i64 q.cc) ∧ w.cell? (a.add (i * 6 + 2)) = some (.int .i64 q.tgt) ∧ w.cell? (a.add (i * 6 + 3)) = some (.slice q.pa q.pn q.pc) ∧ w.cell? (a.add (i * 6 + 4)) = some (.int .i64 q.n) ∧ w.cell? (a.add (i * 6 + 5)) = some (.bool q.xof) := by
      intro i hi
      obtain ⟨cs, h1, h2⟩ := hel i (by omega)
      rw [e7] at h1
      obtain ⟨_, _, hcell⟩ := World.cells?_some h1
      obtain ⟨q, hq, rfl⟩ := open_act h2 (hD (D i) (List.mem_map.2 ⟨i, List.mem_range.2 hi, rfl⟩))
      have q0 := hcell 0 (by omega)
      have q1 := hcell 1 (by omega)
      have q2 := hcell 2 (by omega)
      have q3 := hcell 3 (by omega)
      have q4 := hcell 4 (by omega)
      have q5 := hcell 5 (by omega)
      rw [Deep.add_add] at q0 q1 q2 q3 q4 q5
      exact ⟨q, hq, q0, q1, q2, q3, q4, q5⟩
    obtain ⟨R, hR⟩ := @Deep.choose_lt AE ⟨⟨0, 0, 0, none, 0, 0, 0, false, fun _ => 0⟩⟩ _ _ each
    by_cases h0 : 0 < m
    · obtain ⟨b, off, spot⟩ := a
      have hc := (hR 0 h0).2.1
      have hspot : spot = none := by simpa [Addr.add] using World.cell?_spot hc
      subst hspot
      refine ⟨b, off, R, fun _ => rfl, hl, hm, fun i hi => ?_, fun i hi => (hR i hi).1⟩
      obtain ⟨_, q⟩ := hR i hi
      simp only [By.add_plain, ← Nat.add_assoc] at q
      exact q
    · exact ⟨0, 0, R, fun h => absurd h h0, hl, hm, fun i hi => absurd hi (by omega), fun i hi => absurd hi (by omega)⟩
theorem scr_below {w W : World} {bb off m : Nat} {a : Nat → AE} (h : Scr w bb off m a) (hb : Below w.heap.size w W) : Scr W bb off m a := fun i hi => by
  obtain ⟨c0, c1, c2, c3, c4, c5⟩ := h i hi
  have k : ∀ j v, w.cell? ⟨bb, j, none⟩ = some v → W.cell? ⟨bb, j, none⟩ = some v := fun j v hc => by
    rw [hb.cell (p := ⟨bb, j, none⟩) (block_lt_of_cell hc)]; exact hc
  exact ⟨k _ _ c0, k _ _ c1, k _ _ c2, k _ _ c3, k _ _ c4, k _ _ c5⟩
end Go.Proofs.YtnhhkoekghjogaaGreatDoor.Kc
