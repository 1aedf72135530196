/- Variables that hold an operation, or two lists, loaded and stored at once. -/
import Derived.Test.YtdahogdfonhnfaaUop
namespace Go.Proofs.Ytdahogdfonhnfaa.Ou
open Go.ChangeShapes Go.WideShapes Go.ChangeAt Go.RowKit
open Go.Proofs.Ytdahogdfonhnfaa.By
open Go.Proofs.Ytdahogdfonhnfaa.Tb (Blk put_all Kp.setCells)
abbrev oL (q : Nu) (d m : Value) : List Value := [.int .u8 q.k, .int .i64 q.h, .int .u8 q.a, .int .i64 q.c, .int .i64 q.o, d, m]
def LDo (a : Addr) : Sem Value := loadVar 28 a
def SVo (a : Addr) (v : Value) : Sem Unit := storeVar 28 a v
def LDa (a : Addr) : Sem Value := loadVar 29 a
def SVa (a : Addr) (v : Value) : Sem Unit := storeVar 29 a v
@[go_sem ↓ high] theorem ldo (a : Addr) : loadVar 28 a = LDo a := rfl
@[go_sem ↓ high] theorem svo (a : Addr) (v : Value) : storeVar 28 a v = SVo a v := rfl
@[go_sem ↓ high] theorem lda (a : Addr) : loadVar 29 a = LDa a := rfl
@[go_sem ↓ high] theorem sva (a : Addr) (v : Value) : storeVar 29 a v = SVa a v := rfl
theorem infoo (q : Nu) (d m : Value) : (Try.prog.info? 28).map (·.size) = some (oL q d m).length := by kernel_rfl
theorem infoa (d m : Value) : (Try.prog.info? 29).map (·.size) = some [d, m].length := by kernel_rfl
theorem LDo_run {W : World} {g : Nat} {q : Nu} {d m : Value} (h : Blk W g (oL q d m) 28) : (LDo ⟨g, 0, none⟩).run Try.prog W = .ok (ov q d m) W :=
  run_loadVar_mid W g 0 _ (oL q d m) _ (h.range 0 _ (fun _ _ hv => by rw [Nat.zero_add]; exact hv)) Try.underlying28 rfl (infoo q d m)
theorem LDa_run {W : World} {g : Nat} {d m : Value} (h : Blk W g [d, m] 29) : (LDa ⟨g, 0, none⟩).run Try.prog W = .ok (.agg #[d, m]) W :=
  run_loadVar_mid W g 0 _ [d, m] _ (h.range 0 _ (fun _ _ hv => by rw [Nat.zero_add]; exact hv)) Try.underlying29 rfl (infoa d m)
theorem oL_one (q : Nu) (d m : Value) (hd : d.oneCell' = true) (hm : m.oneCell' = true) : ∀ u ∈ oL q d m, u.oneCell' = true := by
  intro u hu
  simp only [oL, List.mem_cons, List.not_mem_nil, or_false] at hu
  rcases hu with rfl | rfl | rfl | rfl | rfl | rfl | rfl
  · rfl
  · rfl
  · rfl
  · rfl
  · rfl
  · exact hd
  · exact hm
theorem SVo_run {W : World} {g : Nat} {cs : List Value} {q : Nu} {d m : Value} (h : Blk W g cs 28) (hl : cs.length = 7) (hd : d.oneCell' = true) (hm : m.oneCell' = true) : ∃ W', (SVo ⟨g, 0, none⟩ (ov q d m)).run Try.prog W = .ok () W' ∧ Blk W' g (oL q d m) 28 ∧ Kp (fun j => j = g) W W' := by
  refine ⟨W.setCells g 0 (oL q d m), run_storeVar_mid W g 0 _ (oL q d m).toArray (h.there 0 _ (by simp [hl])) (by simpa using infoo q d m) (all_oneCell_toArray (oL_one q d m hd hm)), ?_, Kp.setCells g 0 _⟩
  have := h.put 0 (oL q d m)
  rw [put_all cs (oL q d m) (by rw [hl]; rfl)] at this
  exact this
theorem SVa_run {W : World} {g : Nat} {cs : List Value} {d m : Value} (h : Blk W g cs 29) (hl : cs.length = 2) (hd : d.oneCell' = true) (hm : m.oneCell' = true) : ∃ W', (SVa ⟨g, 0, none⟩ (.agg #[d, m])).run Try.prog W = .ok () W' ∧ Blk W' g [d, m] 29 ∧ Kp (fun j => j = g) W W' := by
  refine ⟨W.setCells g 0 [d, m], run_storeVar_mid W g 0 _ [d, m].toArray (h.there 0 _ (by simp [hl])) (by simpa using infoa d m) (all_oneCell_toArray (fun u hu => ?_)), ?_, Kp.setCells g 0 _⟩
  · simp only [List.mem_cons, List.not_mem_nil, or_false] at hu
    rcases hu with rfl | rfl
    · exact hd
    · exact hm
  have := h.put 0 [d, m]
  rw [put_all cs [d, m] (by rw [hl]; rfl)] at this
  exact this
theorem own_keptB {S : Nat → Prop} {w w' : World} {base : Nat} {v : Value} {n : Nat} {f : Nat → Int} (h : By.Own w base v n f) (hk : Kp S w w') (hne : ∀ g, v.ownBlock = some g → ¬ S g) : By.Own w' base v n f := by
  refine ⟨h.1, h.2.1, ?_⟩
  rcases h.2.2 with hn | ⟨g, cap, cur, rfl, hb, hg, hr⟩
  · exact .inl hn
  · exact .inr ⟨g, cap, cur, rfl, hb, (hk.block g (Array.getElem?_eq_some_iff.1 hg).1 (hne g rfl)).trans hg, hr⟩
theorem results_cells2 {P : Program} {fn : Func} {p q : Tmp} {ty tz : TypeId} {tmps : Array Value} {w : World} {a b : Addr} {v u : Value} (h : fn.results = #[.cell p ty, .cell q tz]) (ha : tmps.getD p undef = .pointer (some a)) (hb : tmps.getD q undef = .pointer (some b)) (hl : (loadVar ty a).run P w = .ok v w) (hm : (loadVar tz b).run P w = .ok u w) :
    (results fn tmps).run P w = .ok (.tuple #[v, u]) w := by
  have e1 : tmps[p]?.getD undef = .pointer (some a) := by rw [← ha]; simp [Array.getD_eq_getD_getElem?]
  have e2 : tmps[q]?.getD undef = .pointer (some b) := by rw [← hb]; simp [Array.getD_eq_getD_getElem?]
  simp only [results, h]
  simp [e1, e2, asAddr, hl, hm]
theorem results_cell3 {P : Program} {fn : Func} {p q r : Tmp} {ty : TypeId} {tmps : Array Value} {w : World} {a : Addr} {v u x : Value} (h : fn.results = #[.cell p ty, .tmp q, .tmp r]) (ha : tmps.getD p undef = .pointer (some a)) (hq : tmps.getD q undef = u) (hr : tmps.getD r undef = x) (hl : (loadVar ty a).run P w = .ok v w) :
    (results fn tmps).run P w = .ok (.tuple #[v, u, x]) w := by
  have e1 : tmps[p]?.getD undef = .pointer (some a) := by rw [← ha]; simp [Array.getD_eq_getD_getElem?]
  have e2 : tmps[q]?.getD undef = u := by rw [← hq]; simp [Array.getD_eq_getD_getElem?]
  have e3 : tmps[r]?.getD undef = x := by rw [← hr]; simp [Array.getD_eq_getD_getElem?]
  simp only [results, h]
  simp [e1, e2, e3, asAddr, hl]
end Go.Proofs.Ytdahogdfonhnfaa.Ou
