/- The document's Public in memory: which handles are held, what is under them. -/
import Derived.Test.YtdmacflcjbkkpaaGreatJd
import Derived.Test.YtdmacflcjbkkpaaGreatCmp
namespace Go.Proofs.YtdmacflcjbkkpaaGreat.Cd
open Go.Proofs.YtdmacflcjbkkpaaGreat.Co
open Go.ChangeShapes Go.WideShapes Go.ChangeAt Go.RowKit
open Go.Proofs.YtdmacflcjbkkpaaGreat.Ou (Sk sv sL LDk SVk LDk_run SVk_run)
open Go.Proofs.YtdmacflcjbkkpaaGreat.Tb (Blk Blk.newAt put put_get put_length put_all Kp.setCells)
/-- Its cells. -/
def hc (n : Nat) (h : Nat → He) : List Value := (List.range n).flatMap (fun i => dL (h i))
def pc (b : Nat → Bool) (h : Nat → He) : List Value := (List.range 64).map (fun i => .bool (b i)) ++ hc 64 h
theorem hc_succ (n : Nat) (h : Nat → He) : hc (n + 1) h = hc n h ++ dL (h n) := by simp [hc, List.range_succ]
theorem hc_length (n : Nat) (h : Nat → He) : (hc n h).length = n * 5 := by
  induction n with
  | zero => rfl
  | succ n ih => rw [hc_succ, List.length_append, ih]; show n * 5 + 5 = _; omega
theorem hc_get (n : Nat) (h : Nat → He) (i j : Nat) (hi : i < n) (hj : j < 5) : (hc n h)[i * 5 + j]? = (dL (h i))[j]? := by
  induction n with
  | zero => omega
  | succ n ih =>
    rw [hc_succ]
    by_cases e : i < n
    · rw [List.getElem?_append_left (by rw [hc_length]; omega)]; exact ih e
    · obtain rfl : i = n := by omega
      rw [List.getElem?_append_right (by rw [hc_length]; omega), hc_length, show i * 5 + j - i * 5 = j by omega]
theorem pc_length (b : Nat → Bool) (h : Nat → He) : (pc b h).length = 384 := by unfold pc; rw [List.length_append, hc_length]; simp
theorem pc_b (b : Nat → Bool) (h : Nat → He) {i : Nat} (hi : i < 64) : (pc b h)[i]? = some (.bool (b i)) := by
  unfold pc
  rw [List.getElem?_append_left (by simpa using hi), List.getElem?_map, List.getElem?_range hi]; rfl
theorem pc_h (b : Nat → Bool) (h : Nat → He) {i j : Nat} (hi : i < 64) (hj : j < 5) : (pc b h)[64 + i * 5 + j]? = (dL (h i))[j]? := by
  unfold pc
  rw [List.getElem?_append_right (by simp; omega)]
  rw [show 64 + i * 5 + j - ((List.range 64).map (fun i => Value.bool (b i))).length = i * 5 + j by simp; omega]
  exact hc_get 64 h i j hi hj
def ub (b : Nat → Bool) (i : Nat) (x : Bool) (j : Nat) : Bool := if j = i then x else b j
def uH (h : Nat → He) (i : Nat) (x : He) (j : Nat) : He := if j = i then x else h j
theorem pc_setb (b : Nat → Bool) (h : Nat → He) {i : Nat} (hi : i < 64) (x : Bool) : (pc b h).set i (.bool x) = pc (ub b i x) h := by
  unfold pc
  rw [List.set_append_left _ _ (by simpa using hi)]
  congr 1
  apply List.ext_getElem?
  intro j
  by_cases hj : j < 64
  · rw [List.getElem?_set, List.getElem?_map, List.getElem?_map, List.getElem?_range hj]
    by_cases e : i = j
    · subst e
      rw [if_pos rfl, if_pos (by simpa using hj)]
      simp [ub]
    · rw [if_neg e]
      simp [ub, show ¬ j = i from fun h => e h.symm]
  · rw [List.getElem?_eq_none (by simp; omega), List.getElem?_eq_none (by simp; omega)]
theorem pc_put (b : Nat → Bool) (h : Nat → He) {i : Nat} (hi : i < 64) (x : He) : put (pc b h) (64 + i * 5) (dL x) = pc b (uH h i x) := by
  apply List.ext_getElem?
  intro p
  rw [put_get _ _ _ _ (by rw [pc_length]; show 64 + i * 5 + 5 ≤ _; omega)]
  show (if 64 + i * 5 ≤ p ∧ p < 64 + i * 5 + 5 then _ else _) = _
  by_cases hp : p < 64
  · rw [if_neg (by omega), pc_b b h hp, pc_b b _ hp]
  · by_cases hp2 : p < 384
    · have e : p = 64 + (p - 64) / 5 * 5 + (p - 64) % 5 := by omega
      have e1 := pc_h b h (i := (p - 64) / 5) (j := (p - 64) % 5) (by omega) (by omega)
      have e2 := pc_h b (uH h i x) (i := (p - 64) / 5) (j := (p - 64) % 5) (by omega) (by omega)
      rw [← e] at e1 e2
      rw [e1, e2]
      unfold uH
      by_cases hi2 : (p - 64) / 5 = i
      · rw [if_pos (by omega), if_pos hi2, show p - (64 + i * 5) = (p - 64) % 5 by omega]
      · rw [if_neg (by omega), if_neg hi2]
    · rw [if_neg (by omega), List.getElem?_eq_none (by rw [pc_length]; omega), List.getElem?_eq_none (by rw [pc_length]; omega)]
theorem pc_msg (b : Nat → Bool) (h : Nat → He) {i : Nat} (hi : i < 64) (m : Int) : (pc b h).set (64 + i * 5 + 4) (.int .i64 m) = pc b (uH h i ⟨(h i).key, (h i).alg, (h i).out, (h i).cus, m⟩) := by
  rw [← pc_put b h hi]
  apply List.ext_getElem?
  intro p
  rw [List.getElem?_set, put_get _ _ _ _ (by rw [pc_length]; show 64 + i * 5 + 5 ≤ _; omega)]
  show _ = (if 64 + i * 5 ≤ p ∧ p < 64 + i * 5 + 5 then _ else _)
  by_cases e : 64 + i * 5 + 4 = p
  · rw [if_pos e, if_pos (by rw [pc_length]; omega), if_pos (by omega), ← e, show 64 + i * 5 + 4 - (64 + i * 5) = 4 by omega]; rfl
  · rw [if_neg e]
    by_cases q : 64 + i * 5 ≤ p ∧ p < 64 + i * 5 + 5
    · rw [if_pos q]
      obtain ⟨j, hj, rfl⟩ : ∃ j, j < 4 ∧ p = 64 + i * 5 + j := ⟨p - (64 + i * 5), by omega, by omega⟩
      rw [pc_h b h hi (by omega), show 64 + i * 5 + j - (64 + i * 5) = j by omega]
      match j, hj with
      | 0, _ => rfl
      | 1, _ => rfl
      | 2, _ => rfl
      | 3, _ => rfl
    · rw [if_neg q]
/-- The document's Public in block r says what is held. -/
def DP (W : World) (r : Nat) (P : St) : Prop := ∃ b h, Blk W r (pc b h) 67 ∧ ∀ i, i < 64 → P i = if b i then some (h i) else none
theorem DP.lt {W : World} {r : Nat} {P : St} (h : DP W r P) : r < W.heap.size := by obtain ⟨_, _, hb, _⟩ := h; exact hb.lt
theorem DP.kept {W W' : World} {r : Nat} {P : St} {S : Nat → Prop} (h : DP W r P) (hk : Kp S W W') (hn : ¬ S r) : DP W' r P := by
  obtain ⟨b, f, hb, hs⟩ := h
  exact ⟨b, f, hb.kept hk hn, hs⟩
theorem DP.below {W W' : World} {r : Nat} {P : St} (h : DP W r P) (hb : Below W.heap.size W W') : DP W' r P := h.kept (Kp.of_below (fun _ => False) hb) id
theorem isb {P : St} {b : Nat → Bool} {h : Nat → He} (hs : ∀ i, i < 64 → P i = if b i then some (h i) else none) {i : Nat} (hi : i < 64) : b i = (P i).isSome := by
  rw [hs i hi]; cases b i <;> rfl
theorem DP.cell {W : World} {r : Nat} {P : St} (h : DP W r P) {i : Nat} (hi : i < 64) : W.cell? ⟨r, i, none⟩ = some (.bool (P i).isSome) := by
  obtain ⟨b, f, hb, hs⟩ := h
  rw [← isb hs hi]
  exact hb.cell i _ (pc_b b f hi)
theorem DP.frozen {W : World} {r : Nat} {P : St} (h : DP W r P) (i : Nat) : W.frozen? ⟨r, i, none⟩ = false := by
  obtain ⟨b, f, hb, hs⟩ := h
  exact hb.frozen i
theorem DP.load {W : World} {r : Nat} {P : St} (h : DP W r P) {i : Nat} (hi : i < 64) {x : He} (e : P i = some x) : (LDd ⟨r, 64 + i * 5, none⟩).run Tryz.prog W = .ok (dv x) W := by
  obtain ⟨b, f, hb, hs⟩ := h
  have e2 := hs i hi
  rw [e] at e2
  have ef : f i = x := by
    cases hbi : b i with
    | true => rw [hbi] at e2; simpa using e2.symm
    | false => rw [hbi] at e2; cases e2
  rw [← ef]
  exact LDd_run (hb.range (64 + i * 5) _ (fun j v hv => by
    have hj : j < 5 := (List.getElem?_eq_some_iff.1 hv).1
    rw [pc_h b f hi hj]; exact hv))
/-- A handle is let go. -/
theorem DP.free {W : World} {r : Nat} {P : St} (h : DP W r P) {i : Nat} (hi : i < 64) : DP (W.setCell ⟨r, i, none⟩ (.bool false)) r (upS P i none) := by
  obtain ⟨b, f, hb, hs⟩ := h
  refine ⟨ub b i false, f, ?_, fun j hj => ?_⟩
  · rw [← pc_setb b f hi]; exact hb.set i _
  · unfold upS ub
    by_cases e : j = i
    · rw [if_pos e, if_pos e]; rfl
    · rw [if_neg e, if_neg e]; exact hs j hj
/-- A message goes on. -/
theorem DP.more {W : World} {r : Nat} {P : St} (h : DP W r P) {i : Nat} (hi : i < 64) {x : He} (e : P i = some x) (m : Int) : DP (W.setCell ⟨r, 64 + i * 5 + 4, none⟩ (.int .i64 m)) r (upS P i (some ⟨x.key, x.alg, x.out, x.cus, m⟩)) := by
  obtain ⟨b, f, hb, hs⟩ := h
  have e2 := hs i hi
  rw [e] at e2
  have bi : b i = true := by
    cases hbi : b i with
    | true => rfl
    | false => rw [hbi] at e2; cases e2
  have ef : f i = x := by rw [bi] at e2; simpa using e2.symm
  refine ⟨b, uH f i ⟨(f i).key, (f i).alg, (f i).out, (f i).cus, m⟩, ?_, fun j hj => ?_⟩
  · have := hb.set (64 + i * 5 + 4) (.int .i64 m)
    rw [pc_msg b f hi] at this
    exact this
  · unfold upS uH
    by_cases ej : j = i
    · rw [if_pos ej, if_pos ej, ej, bi, ef]; rfl
    · rw [if_neg ej, if_neg ej]; exact hs j hj
/-- A handle is taken: first it is marked, then what it has is written. -/
theorem DP.take {W : World} {r : Nat} {P : St} (h : DP W r P) {i : Nat} (hi : i < 64) (x : He) : (W.setCell ⟨r, i, none⟩ (.bool true)).there r (64 + i * 5) 5 ∧ DP ((W.setCell ⟨r, i, none⟩ (.bool true)).setCells r (64 + i * 5) (dL x)) r (upS P i (some x)) := by
  obtain ⟨b, f, hb, hs⟩ := h
  have h1 : Blk (W.setCell ⟨r, i, none⟩ (.bool true)) r (pc (ub b i true) f) 67 := by rw [← pc_setb b f hi]; exact hb.set i _
  refine ⟨h1.there _ _ (by rw [pc_length]; omega), ub b i true, uH f i x, ?_, fun j hj => ?_⟩
  · rw [← pc_put _ f hi]; exact h1.put _ _
  · unfold upS ub uH
    by_cases e : j = i
    · rw [if_pos e, if_pos e, if_pos e]; rfl
    · rw [if_neg e, if_neg e, if_neg e]; exact hs j hj
theorem hat_oor {P : St} {x : Int} (h : ¬ (0 ≤ x ∧ x < 64)) : hat P x = none := hat_out P h
set_option maxRecDepth 8000 in
set_option maxHeartbeats 1600000 in
theorem there_ok (r : Nat) (P : St) (x : Int) (w : World) (hp : DP w r P) : Calls Tryz.prog 65 #[.pointer (some ⟨r, 0, none⟩), .int .i64 x] w fun e w' => e = .returned (.bool (hat P x).isSome) ∧ w' = w := by
  by_cases h0 : 0 ≤ x
  · by_cases h1 : x < 64
    · obtain ⟨n, rfl⟩ : ∃ n : Nat, x = n := ⟨x.toNat, by omega⟩
      have hn : n < 64 := by omega
      have c := hp.cell hn
      have E : Hid (hat P n = P n) := hid (hat_nat P hn)
      obtain ⟨v, hv⟩ : ∃ v, (P n).isSome = v := ⟨_, rfl⟩
      rw [hv] at c
      have HV := hid hv
      clear hv hp
      go_enter Tryz.func65, Tryz.ntmps65
      go_wp2
      go_ret
      exact ⟨by rw [E.out, HV.out]; rfl, rfl⟩
    · have E : Hid ((hat P x).isSome = false) := hid (by rw [hat_oor (by omega)]; rfl)
      clear hp
      go_enter Tryz.func65, Tryz.ntmps65
      go_wp2
      go_ret
      exact ⟨by rw [E.out]; rfl, rfl⟩
  · have E : Hid ((hat P x).isSome = false) := hid (by rw [hat_oor (by omega)]; rfl)
    clear hp
    go_enter Tryz.func65, Tryz.ntmps65
    go_wp2
    go_ret
    exact ⟨by rw [E.out]; rfl, rfl⟩
/-- The least that is free, as the document tells it. -/
def frI (P : St) : Int := match fre P with | some n => n | none => -1
set_option maxRecDepth 8000 in
set_option maxHeartbeats 1600000 in
theorem free_ok (r : Nat) (P : St) (w : World) (hp : DP w r P) : Calls Tryz.prog 68 #[.pointer (some ⟨r, 0, none⟩)] w fun e w' => e = .returned (.int .i64 (frI P)) ∧ w' = w := by
  have HP := hid hp
  clear hp
  go_enter Tryz.func68, Tryz.ntmps68
  go_wp2
  go_loop [3] (fun x => ∃ k : Nat, k ≤ 64 ∧ x = .int .i64 k ∧ ∀ i, i < k → P i ≠ none) (fun x => 64 - (RowKit.intOf x).toNat)
  case atStart => exact ⟨0, by omega, rfl, fun i hi => by omega⟩
  case round =>
    obtain ⟨k, hk, rfl, hall⟩ := hrel
    have HA := hid hall
    clear hall
    by_cases hlt : k < 64
    · have c := HP.out.cell hlt
      have l1 : (k : Int) < 64 := by omega
      cases e : P k with
      | none =>
        rw [e] at c
        have E : Hid (frI P = k) := hid (by unfold frI; rw [fre_some hlt e HA.out])
        clear e
        have c : w.cell? ⟨r, k, none⟩ = some (.bool false) := c
        go_wp2
        go_ret
        exact ⟨by rw [E.out]; rfl, rfl⟩
      | some y =>
        rw [e] at c
        have c : w.cell? ⟨r, k, none⟩ = some (.bool true) := c
        have HE := hid e
        clear e
        go_wp2
        go_round
        case rel => exact ⟨k + 1, by omega, by go_num, fun i hi => by
          by_cases h : i = k
          · rw [h, HE.out]; simp
          · exact HA.out i (by omega)⟩
        case measure => simp [RowKit.intOf]; omega
    · have e : k = 64 := by omega
      subst e
      have E : Hid (frI P = -1) := hid (by unfold frI; rw [fre_none HA.out])
      go_wp2
      go_ret
      exact ⟨by rw [E.out]; rfl, rfl⟩
end Go.Proofs.YtdmacflcjbkkpaaGreat.Cd
