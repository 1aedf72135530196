/- The script: its cells; what the helper small answers. The law DigestCalls: how its script is opened. -/
import Derived.Test.YtojldjckpjokcaaGreatDoorZgd
import Derived.Deep.Slices
import Derived.OpenShut
import Derived.ChangeOld
import Derived.SizedLaws
namespace Go.Proofs.YtojldjckpjokcaaGreatDoor.Dg
open Go.ChangeShapes Go.WideShapes Go.ChangeAt Go.RowKit
open Go.Proofs.YtojldjckpjokcaaGreatDoor.By
open Go.Proofs.YtojldjckpjokcaaGreatDoor.Sh (Blk size_alloc)
/-- A call of the script. -/
structure AE where
  on : Int
  cc : Int
  to : Int
  pa : Option Addr
  pn : Nat
  pc : Nat
  al : Int
  g : Nat → Int
/-- The script's cells. -/
def Scr (W : World) (bb off m : Nat) (a : Nat → AE) : Prop := ∀ i, i < m →
  W.cell? ⟨bb, off + i * 5, none⟩ = some (.int .i64 (a i).on) ∧ W.cell? ⟨bb, off + i * 5 + 1, none⟩ = some (.int .i64 (a i).cc) ∧ W.cell? ⟨bb, off + i * 5 + 2, none⟩ = some (.int .i64 (a i).to) ∧
  W.cell? ⟨bb, off + i * 5 + 3, none⟩ = some (.slice (a i).pa (a i).pn (a i).pc) ∧ W.cell? ⟨bb, off + i * 5 + 4, none⟩ = some (.int .u8 (a i).al)
/-- The bytes of the first k calls. -/
def sm (a : Nat → AE) : Nat → Nat
  | 0 => 0
  | k + 1 => sm a k + (a k).pn
theorem sm_mono (a : Nat → AE) (k m : Nat) (h : k ≤ m) : sm a k ≤ sm a m := by
  induction m with
  | zero => rw [Nat.le_zero.1 h]; exact Nat.le_refl _
  | succ m ih =>
    by_cases e : k = m + 1
    · rw [e]; exact Nat.le_refl _
    · have := ih (by omega); show sm a k ≤ sm a m + (a m).pn; omega
theorem sm_small (a : Nat → AE) (k : Nat) (hk : k ≤ 50) (h : ∀ i, i < k → (a i).pn ≤ 140737488355328) : sm a k ≤ k * 140737488355328 := by
  induction k with
  | zero => exact Nat.le_refl _
  | succ k ih =>
    have h1 := ih (by omega) (fun i hi => h i (by omega))
    have h2 := h k (by omega)
    show sm a k + (a k).pn ≤ _
    omega
/-- What small says. -/
def Sml (m : Nat) (a : Nat → AE) (e : Ending) : Prop := ∃ y : Bool, e = .returned (.bool y) ∧ (y = true → m ≤ 50 ∧ sm a m ≤ 8192)
set_option maxRecDepth 4000 in
set_option maxHeartbeats 4000000 in
theorem small1 (A : Option Addr) (bb off m cap : Nat) (hA : 0 < m → A = some ⟨bb, off, none⟩) (a : Nat → AE) (w : World) (hs : Scr w bb off m a) (hm : m ≤ cap) (hcap : cap ≤ maxLen) (hpn : ∀ i, i < m → (a i).pn ≤ 140737488355328) :
    Calls Tryz.prog 6 #[.slice A m cap] w fun e w' => Sml m a e ∧ w' = w := by
  have HS := hid hs
  have HAA := hid hA
  have HP := hid hpn
  have hm2 : m ≤ maxLen := Nat.le_trans hm hcap
  have hm3 : Hid (m ≤ maxLen) := hm2
  clear hs hpn hcap hm2 hA
  go_enter Tryz.func6, Tryz.ntmps6
  go_wp2_with fail
  go_loopw [3, 4] (fun s i wr => wr = w ∧ ∃ (k : Nat) (t : Int), k ≤ m ∧ i = .int .i64 k ∧ s = .int .i64 t ∧ (k ≤ 50 → t = sm a k)) (fun _ i _ => m - (intOf i).toNat)
  case atStart => exact ⟨rfl, 0, 0, Nat.zero_le _, rfl, rfl, fun _ => rfl⟩
  case round =>
    obtain ⟨rfl, k, t, hk, rfl, rfl, hall⟩ := hrel
    have HA := hid hall
    have hmx := hm3.out
    simp only [maxLen] at hmx
    clear hall
    by_cases hlt : k < m
    · obtain rfl := HAA.out (by omega)
      obtain ⟨_, _, _, d3, _⟩ := HS.out k hlt
      have dp := HP.out k hlt
      obtain ⟨q, hq⟩ : ∃ q, a k = q := ⟨_, rfl⟩
      rw [hq] at d3 dp
      have HQ := hid hq
      clear hq
      obtain ⟨t', ht'⟩ : ∃ t', IntKind.i64.wrap (t + (q.pn : Int)) = t' := ⟨_, rfl⟩
      have HT' := hid ht'
      go_wp2_with fail
      refine ⟨⟨trivial, k + 1, t', by omega, by go_num, by first | rfl | (rw [← HT'.out]), fun h50 => ?_⟩, by simp [intOf]; omega⟩
      have e1 := HA.out (by omega)
      have e2 := sm_small a k (by omega) (fun i hi => HP.out i (by omega))
      rw [← HT'.out, IntKind.wrap_i64, e1]
      show _ = ((sm a k + (a k).pn : Nat) : Int)
      rw [HQ.out]
      omega
    · have ek : k = m := by omega
      subst ek
      by_cases h50 : k ≤ 50
      · have h50' : (k : Int) ≤ 50 := by omega
        by_cases hb : t ≤ 8192
        · go_wp2
          go_ret
          exact ⟨⟨true, rfl, fun _ => ⟨h50, by have := HA.out h50; omega⟩⟩, rfl⟩
        · go_wp2
          go_ret
          exact ⟨⟨false, rfl, fun h => by cases h⟩, rfl⟩
      · have h50' : ¬ (k : Int) ≤ 50 := by omega
        go_wp2
        go_ret
        exact ⟨⟨false, rfl, fun h => by cases h⟩, rfl⟩
end Go.Proofs.YtojldjckpjokcaaGreatDoor.Dg
namespace Go.Proofs.YtojldjckpjokcaaGreatDoor.Dg
open Go.ChangeShapes Go.WideShapes Go.ChangeAt Go.RowKit
open Go.Proofs.YtojldjckpjokcaaGreatDoor.By
/-- Nothing in a datum is greater than memory reaches. -/
def Sz {H : Type} (d : DataW H) (t : TypeId) : Prop := ∀ n ∈ d.weights Tryz.prog t, n ≤ reachBytes
theorem sz_each {H : Type} {ts : List TypeId} {ds : List (DataW H)} (h : (DataW.weightsEach Tryz.prog ts ds).all (· ≤ reachBytes) = true) {j : Nat} {t : TypeId} {d : DataW H} (ht : ts[j]? = some t) (hd : ds[j]? = some d) : Sz d t := fun n hn => by
  have := List.all_eq_true.1 h _ (DataW.weights_mem_each ht hd n hn)
  simpa using this
theorem mem_all {H : Type} {e : TypeId} {l : List (DataW H)} {d : DataW H} (h : d ∈ l) {n : Nat} (hn : n ∈ d.weights Tryz.prog e) : n ∈ DataW.weightsAll Tryz.prog e l := by
  induction l with
  | nil => cases h
  | cons y r ih =>
    simp only [DataW.weightsAll, List.mem_append]
    rcases List.mem_cons.1 h with rfl | h
    · exact .inl hn
    · exact .inr (ih h)
theorem sz_slice {H : Type} {t e : TypeId} {es sp : List (DataW H)} (hu : Tryz.prog.underlying t = some (.slice e)) (h : Sz (.slice es sp) t) : (es.length + sp.length) * Tryz.prog.bytesOf e ≤ reachBytes ∧ ∀ d ∈ es, Sz d e := by
  refine ⟨h _ (by simp [DataW.weights, hu]), fun d hd n hn => h n ?_⟩
  simp only [DataW.weights, hu, List.mem_cons, List.mem_append]
  exact .inr (.inl (mem_all hd hn))
set_option maxRecDepth 100000 in
/-- A slice of bytes within an argument. -/
theorem open_p {H : Type} {enc : TypeId × Value → H} {w : World} {base : Nat} {held : Bool} {fuel : Nat} {c : Value} {x : DataW H × List MemPlace} (h : DataW.trod enc Tryz.prog w base (fun _ => true) held fuel 41 [c] = some x) (hs : Sz x.1 41) : ∃ pa pn pc g, c = .slice pa pn pc ∧ By.RB w (.slice pa pn pc) pn g ∧ pn ≤ 140737488355328 := by
  rcases open_ints Tryz.underlying41 Tryz.underlying5 (by kernel_rfl) h with ⟨hcs, _⟩ | ⟨a, l, cp, zs, hcs, _, hl, hm, hz, hx, hcell, hwz⟩
  · simp only [List.cons.injEq, and_true] at hcs
    subst hcs
    exact ⟨none, 0, 0, _, rfl, By.rb_of_row (zs := []) (.inl ⟨rfl, rfl, rfl, rfl⟩), by omega⟩
  · simp only [List.cons.injEq, and_true] at hcs
    subst hcs
    have hz' : zs.length = cp := by simpa using hz
    refine ⟨some a, l, cp, _, rfl, By.rb_of_row (zs := zs) (.inr ⟨_, rfl, hl, hm, hz', hcell, hwz⟩), ?_⟩
    rw [hx] at hs
    have h2 := (sz_slice Tryz.underlying41 hs).1
    rw [By.bytes5] at h2
    simp only [lits, List.length_map, List.length_take, List.length_drop, reachBytes] at h2
    omega
set_option maxRecDepth 100000 in
/-- Cells of an act, as an argument's reading opens them. -/
theorem open_act {H : Type} {enc : TypeId × Value → H} {w : World} {base : Nat} {held : Bool} {fuel : Nat} {cs : List Value} {x : DataW H × List MemPlace} (h : DataW.trod enc Tryz.prog w base (fun _ => true) held fuel 43 cs = some x) (hsz : Sz x.1 43) : ∃ q : AE, (By.RB w (.slice q.pa q.pn q.pc) q.pn q.g ∧ q.pn ≤ 140737488355328) ∧ cs = [.int .i64 q.on, .int .i64 q.cc, .int .i64 q.to, .slice q.pa q.pn q.pc, .int .u8 q.al] := by
  obtain ⟨xs, n1, _, hx, hl, hxl, hf⟩ := DataW.trod_struct Tryz.underlying43 h
  have hl7 : cs.length = 5 := by rw [hl]; kernel_rfl
  match cs, hl7 with
  | [c0, c1, c2, c3, c4], _ =>
    have g0 := hf 0 { name := "On", type := 3, offset := 0, embedded := false, tag := "", pkgPath := "", byteOffset := 0 } rfl
    have g1 := hf 1 { name := "Call", type := 3, offset := 1, embedded := false, tag := "", pkgPath := "", byteOffset := 8 } rfl
    have g2 := hf 2 { name := "To", type := 3, offset := 2, embedded := false, tag := "", pkgPath := "", byteOffset := 16 } rfl
    have g3 := hf 3 { name := "P", type := 41, offset := 3, embedded := false, tag := "", pkgPath := "", byteOffset := 24 } rfl
    have g4 := hf 4 { name := "Alg", type := 39, offset := 4, embedded := false, tag := "", pkgPath := "", byteOffset := 48 } rfl
    have e3 : Tryz.prog.cellsOf 3 = 1 := by kernel_rfl
    have e4 : Tryz.prog.cellsOf 39 = 1 := by kernel_rfl
    have eb : Tryz.prog.cellsOf 41 = 1 := by kernel_rfl
    dsimp only at g0 g1 g2 g3 g4
    rw [e3] at g0 g1 g2
    rw [eb] at g3
    rw [e4] at g4
    simp only [List.drop_zero, List.take_succ_cons, List.take_zero, List.drop_succ_cons] at g0 g1 g2 g3 g4
    have hx7 : xs.length = 5 := by rw [hxl]; rfl
    match xs, hx7 with
    | [y0, y1, y2, y3, y4], _ =>
      have hs3 : Sz y3.1 41 := fun n hn => by
        refine hsz n ?_
        rw [hx]
        have hu := Tryz.underlying43
        simp only [DataW.weights, hu, List.map_cons, List.map_nil]
        exact DataW.weights_mem_each (j := 3) (t := 41) (d := y3.1) rfl rfl n hn
      obtain ⟨a0, h0, _, _⟩ := DataW.trod_int Tryz.underlying3 (show _ = some y0 from g0)
      obtain ⟨a1, h1, _, _⟩ := DataW.trod_int Tryz.underlying3 (show _ = some y1 from g1)
      obtain ⟨a2, h2, _, _⟩ := DataW.trod_int Tryz.underlying3 (show _ = some y2 from g2)
      obtain ⟨pa, pn, pc, g, h3, hr, hpn⟩ := open_p (show _ = some y3 from g3) hs3
      obtain ⟨a4, h4, _, _⟩ := DataW.trod_int Tryz.underlying39 (show _ = some y4 from g4)
      simp only [List.cons.injEq, and_true] at h0 h1 h2 h4
      subst h0 h1 h2 h3 h4
      exact ⟨⟨a0, a1, a2, pa, pn, pc, a4, g⟩, ⟨hr, hpn⟩, rfl⟩
set_option maxRecDepth 100000 in
/-- A script, as an argument's reading opens it. -/
theorem openActs {H : Type} {enc : TypeId × Value → H} {w : World} {base : Nat} {held : Bool} {fuel : Nat} {A : Option Addr} {m cap : Nat} {x : DataW H × List MemPlace} (h : DataW.trod enc Tryz.prog w base (fun _ => true) held fuel 22 (Value.slice A m cap).cells.toList = some x) (hsz : Sz x.1 22) :
    ∃ bb off a, (0 < m → A = some ⟨bb, off, none⟩) ∧ m ≤ cap ∧ cap ≤ maxLen ∧ Scr w bb off m a ∧ ∀ i, i < m → By.RB w (.slice (a i).pa (a i).pn (a i).pc) (a i).pn (a i).g ∧ (a i).pn ≤ 140737488355328 := by
  rcases Deep.open_slice Tryz.underlying22 h with ⟨hcs, _⟩ | ⟨a, len, cp, k, n, D, Pl, hcs, _, hl, hm, hmm, hx, hel⟩
  · simp [Value.cells] at hcs
    obtain ⟨rfl, rfl, rfl⟩ := hcs
    exact ⟨0, 0, fun _ => ⟨0, 0, 0, none, 0, 0, 0, fun _ => 0⟩, fun h => absurd h (by omega), Nat.le_refl _, by simp [maxLen], fun i hi => absurd hi (by omega), fun i hi => absurd hi (by omega)⟩
  · simp [Value.cells] at hcs
    obtain ⟨rfl, rfl, rfl⟩ := hcs
    have e7 : Tryz.prog.cellsOf 43 = 5 := by kernel_rfl
    have hlm : m ≤ k := by rw [hmm]; split <;> omega
    rw [hx] at hsz
    have hD := (sz_slice Tryz.underlying22 hsz).2
    have each : ∀ i, i < m → ∃ q : AE, (By.RB w (.slice q.pa q.pn q.pc) q.pn q.g ∧ q.pn ≤ 140737488355328) ∧ w.cell? (a.add (i * 5)) = some (.int .i64 q.on) ∧ w.cell? (a.add (i * 5 + 1)) = some (.int .i64 q.cc) ∧ w.cell? (a.add (i * 5 + 2)) = some (.int .i64 q.to) ∧ w.cell? (a.add (i * 5 + 3)) = some (.slice q.pa q.pn q.pc) ∧ w.cell? (a.add (i * 5 + 4)) = some (.int .u8 q.al) := by
      intro i hi
      obtain ⟨cs, h1, h2⟩ := hel i (by omega)
      rw [e7] at h1
      obtain ⟨_, _, hcell⟩ := World.cells?_some h1
      obtain ⟨q, hq, rfl⟩ := open_act h2 (hD (D i) (List.mem_map.2 ⟨i, List.mem_range.2 hi, rfl⟩))
      have q0 := hcell 0 (by omega)
      have q1 := hcell 1 (by omega)
      have q2 := hcell 2 (by omega)
      have q3 := hcell 3 (by omega)
      have q4 := hcell 4 (by omega)
      rw [Deep.add_add] at q0 q1 q2 q3 q4
      exact ⟨q, hq, q0, q1, q2, q3, q4⟩
    obtain ⟨R, hR⟩ := @Deep.choose_lt AE ⟨⟨0, 0, 0, none, 0, 0, 0, fun _ => 0⟩⟩ _ _ each
    by_cases h0 : 0 < m
    · obtain ⟨b, off, spot⟩ := a
      have hc := (hR 0 h0).2.1
      have hspot : spot = none := by simpa [Addr.add] using World.cell?_spot hc
      subst hspot
      refine ⟨b, off, R, fun _ => rfl, hl, hm, fun i hi => ?_, fun i hi => (hR i hi).1⟩
      obtain ⟨_, q⟩ := hR i hi
      simp only [By.add_plain, ← Nat.add_assoc] at q
      exact q
    · exact ⟨0, 0, R, fun h => absurd h h0, hl, hm, fun i hi => absurd hi (by omega), fun i hi => absurd hi (by omega)⟩
theorem scr_below {w W : World} {bb off m : Nat} {a : Nat → AE} (h : Scr w bb off m a) (hb : Below w.heap.size w W) : Scr W bb off m a := fun i hi => by
  obtain ⟨c0, c1, c2, c3, c4⟩ := h i hi
  have k : ∀ j v, w.cell? ⟨bb, j, none⟩ = some v → W.cell? ⟨bb, j, none⟩ = some v := fun j v hc => by
    rw [hb.cell (p := ⟨bb, j, none⟩) (block_lt_of_cell hc)]; exact hc
  exact ⟨k _ _ c0, k _ _ c1, k _ _ c2, k _ _ c3, k _ _ c4⟩
end Go.Proofs.YtojldjckpjokcaaGreatDoor.Dg
