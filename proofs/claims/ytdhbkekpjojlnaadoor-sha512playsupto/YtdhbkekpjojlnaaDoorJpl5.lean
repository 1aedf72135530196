/- The law Sha512Plays: between two steps. -/
import Derived.Test.YtdhbkekpjojlnaaDoorJpl4
namespace Go.Proofs.YtdhbkekpjojlnaaDoor.Sg
open Go.ChangeShapes Go.WideShapes Go.ChangeAt Go.RowKit
open Go.Proofs.YtdhbkekpjojlnaaDoor.By Go.Proofs.YtdhbkekpjojlnaaDoor.Wd
section
variable {w0 W W' : World} {B xb lb mb : Nat} {sts rts : List EN} {tl : List TE} {L M : List Rn} {sv rv tv wv lv mv : Value}
theorem rowG_view {w : World} {B n : Nat} {v : Value} {e : TypeId} {xs : List Value} (h : w.ownsRow B e 1 v n xs) (hn : 0 < n) : ∃ g c, v = .slice (some ⟨g, 0, none⟩) n c ∧ ∀ k x, xs[k]? = some x → w.cell? ⟨g, k, none⟩ = some x := by
  obtain ⟨_, ⟨_, h0⟩ | ⟨g, cap, cur, rfl, _⟩⟩ := id h
  · omega
  · refine ⟨g, cap, rfl, fun k x hx => ?_⟩
    have := h.cells rfl k x hx
    rw [add_plain, Nat.zero_add] at this
    exact this
theorem PL.viewS (h : PL w0 B xb lb mb sts rts tl L M sv rv tv wv lv mv W) {n : Nat} (hl : sts.length = n) (hn : 0 < n) : ∃ g c, sv = .slice (some ⟨g, 0, none⟩) n c ∧ ∀ k x, sts[k]? = some x → W.cell? ⟨g, k, none⟩ = some (sp x) := by
  have := h.four.r1
  rw [List.length_map, hl] at this
  obtain ⟨g, c, e, hc⟩ := rowG_view this hn
  exact ⟨g, c, e, fun k x hx => hc k _ (by rw [List.getElem?_map, hx]; rfl)⟩
theorem PL.viewR (h : PL w0 B xb lb mb sts rts tl L M sv rv tv wv lv mv W) {n : Nat} (hl : rts.length = n) (hn : 0 < n) : ∃ g c, rv = .slice (some ⟨g, 0, none⟩) n c ∧ ∀ k x, rts[k]? = some x → W.cell? ⟨g, k, none⟩ = some (sp x) := by
  have := h.four.r2
  rw [List.length_map, hl] at this
  obtain ⟨g, c, e, hc⟩ := rowG_view this hn
  exact ⟨g, c, e, fun k x hx => hc k _ (by rw [List.getElem?_map, hx]; rfl)⟩
end
theorem PL.fresh {w0 V W' : World} {B xb lb mb : Nat} {sts rts : List EN} {tl : List TE} {L M : List Rn} {sv rv tv wv lv mv : Value} (h : PL w0 B xb lb mb sts rts tl L M sv rv tv wv lv mv V) {b : Value} {n : Nat} {f : Nat → Int} (hb : By.Own W' V.heap.size b n f) : ∀ q ∈ tl, ∀ g, q.t.ownBlock = some g → b.ownBlock ≠ some g := fun q hq g hg hg' => by
  have h1 := By.own_lt (h.told.own q hq).1 g hg
  rcases hb.shape with ⟨rfl, _⟩ | ⟨g', cap, rfl, hgb, _⟩
  · simp [Value.ownBlock] at hg'
  · simp [Value.ownBlock] at hg'; omega
theorem sn_le (k : SK) : sn k ≤ 200 := by cases k <;> simp [sn]
theorem fn_le (k : SK) : fn k ≤ 200 := by cases k <;> simp [fn]
/-- The total of a ledger's counts, behind what a step records. -/
def PG (w0 : World) (B xb lb mb T tn : Nat) (tt : Int) (ln : Nat) (W : World) : Prop := ∃ sts rts tl L sv rv tv wv lv mv, PL w0 B xb lb mb sts rts tl L L sv rv tv wv lv mv W ∧ sts.map kd = rts.map kd ∧ 3 ≤ sts.length ∧ sts.length ≤ 12 ∧ tl.length ≤ tn ∧ (∀ k ∈ sts.map kd, lk k ≤ T) ∧ tot L ≤ tt ∧ L.length ≤ ln
theorem kinds_at {sts rts : List EN} (h : sts.map kd = rts.map kd) {i : Nat} (hi : i < sts.length) : rts.length = sts.length ∧ ∃ e e', sts[i]? = some e ∧ rts[i]? = some e' ∧ kd e' = kd e := by
  have hl : rts.length = sts.length := by have := congrArg List.length h; simpa using this.symm
  refine ⟨hl, sts[i], rts[i], List.getElem?_eq_getElem hi, List.getElem?_eq_getElem (by omega), ?_⟩
  have := congrArg (fun l => l[i]?) h
  simp only [List.getElem?_map, List.getElem?_eq_getElem hi, List.getElem?_eq_getElem (show i < rts.length by omega), Option.map_some, Option.some.injEq] at this
  exact this.symm
theorem kinds_set {sts rts : List EN} (h : sts.map kd = rts.map kd) {i : Nat} {e e' : EN} (F : SK → SK) (hF : F none = none) (hk : kd e' = kd e) : (sts.set i (up e (F (kd e)))).map kd = (rts.set i (up e' (F (kd e')))).map kd := by
  rw [map_kd_set, map_kd_set, kd_up e F hF, kd_up e' F hF, hk, h]
theorem lens_set {sts : List EN} {T T' : Nat} (h : ∀ k ∈ sts.map kd, lk k ≤ T) (hT : T ≤ T') {i : Nat} {e : EN} (F : SK → SK) (hF : F none = none) (hk : lk (F (kd e)) ≤ T') : ∀ k ∈ (sts.set i (up e (F (kd e)))).map kd, lk k ≤ T' := by
  intro k hk'
  rw [map_kd_set, kd_up e F hF] at hk'
  rcases List.mem_or_eq_of_mem_set hk' with hk' | rfl
  · exact Nat.le_trans (h k hk') hT
  · exact hk
theorem lens_at {sts : List EN} {T : Nat} (h : ∀ k ∈ sts.map kd, lk k ≤ T) {i : Nat} {e : EN} (he : sts[i]? = some e) : lk (kd e) ≤ T := h _ (List.mem_map_of_mem (List.mem_of_getElem? he))
theorem wtl_tot {L : List Rn} (hp : Pos L) (n T : Nat) (k : SK) (hk : lk k ≤ T) (hn : T + n ≤ 140737488351232) (hb : tot L ≤ 1152921504606846976) : tot (wtl n L k) ≤ tot L + n ∧ (wtl n L k).length ≤ L.length + 1 := by
  match k, hk with
  | none, _ => exact ⟨by show tot L ≤ tot L + n; omega, by show L.length ≤ _; omega⟩
  | some (m, f), hk =>
    have hk' : m ≤ T := hk
    refine ⟨?_, evs512_len hp _⟩
    show tot (evs512 L _) ≤ _
    rw [evs512_tot hp _ (by omega)]
    omega
theorem sl_tot {L : List Rn} (hp : Pos L) (k : SK) (hb : tot L ≤ 1152921504606846976) : tot (sl L k) ≤ tot L + 2 ∧ (sl L k).length ≤ L.length + 1 := by
  match k with
  | none => exact ⟨by show tot L ≤ tot L + 2; omega, by show L.length ≤ _; omega⟩
  | some (m, f) =>
    have hl : last m ≤ 2 := by unfold last zs; omega
    refine ⟨?_, evs512_len hp _⟩
    show tot (evs512 L _) ≤ _
    rw [evs512_tot hp _ (by omega)]
    omega
theorem PG.mono {w0 W : World} {B xb lb mb T T' tn tn' ln ln' : Nat} {tt tt' : Int} (h : PG w0 B xb lb mb T tn tt ln W) (h1 : T ≤ T') (h2 : tn ≤ tn') (h3 : tt ≤ tt') (h4 : ln ≤ ln') : PG w0 B xb lb mb T' tn' tt' ln' W := by
  obtain ⟨sts, rts, tl, L, sv, rv, tv, wv, lv, mv, hP, hev, q3, q12, htl, hT, hL1, hL2⟩ := h
  exact ⟨sts, rts, tl, L, sv, rv, tv, wv, lv, mv, hP, hev, q3, q12, by omega, fun k hk => Nat.le_trans (hT k hk) h1, by omega, by omega⟩
theorem pl_tot {L : List Rn} (hp : Pos L) (k : SK) (hb : tot L ≤ 1152921504606846976) : tot (pl L k) ≤ tot L + 2 ∧ (pl L k).length ≤ L.length + 1 := by
  match k with
  | none => exact ⟨by show tot L ≤ tot L + 2; omega, by show L.length ≤ _; omega⟩
  | some (m, f) =>
    refine ⟨?_, putL_len.1⟩
    show tot (putL L _) ≤ _
    rw [putL_tot hp rfl (by omega)]
    omega
end Go.Proofs.YtdhbkekpjojlnaaDoor.Sg
