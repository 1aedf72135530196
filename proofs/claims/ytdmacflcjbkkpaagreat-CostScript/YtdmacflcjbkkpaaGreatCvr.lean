/- Whole variables of the program's structs: loaded and stored under names of their own. -/
import Derived.Test.YtdmacflcjbkkpaaGreatCsk
import Derived.Deep.RegionHeld3
namespace Go.Proofs.YtdmacflcjbkkpaaGreat.Co
open Go.ChangeShapes Go.WideShapes Go.ChangeAt Go.RowKit
open Go.Proofs.YtdmacflcjbkkpaaGreat.Tb (Blk Blk.newAt put_all Kp.setCells)
abbrev fv (n : Nat) : Value := .func (.func n) #[] #[]
abbrev fc (n : Nat) (c : Array Value) : Value := .func (.func n) #[] c
theorem all_one {l : List Value} (h : (l.all fun u => u.oneCell') = true) : ∀ u ∈ l, u.oneCell' = true := by simpa using h
def LDh (a : Addr) : Sem Value := loadVar 119 a
def SVh (a : Addr) (v : Value) : Sem Unit := storeVar 119 a v
@[go_sem ↓ high] theorem ldh (a : Addr) : loadVar 119 a = LDh a := rfl
@[go_sem ↓ high] theorem svh (a : Addr) (v : Value) : storeVar 119 a v = SVh a v := rfl
theorem infoh : (Tryz.prog.info? 119).map (·.size) = some 4 := by kernel_rfl
theorem LDh_run {W : World} {g : Nat} {a b c d : Int} (h : Blk W g [.int .i64 a, .int .i64 b, .int .u8 c, .int .i64 d] 119) : (LDh ⟨g, 0, none⟩).run Tryz.prog W = .ok (.agg #[.int .i64 a, .int .i64 b, .int .u8 c, .int .i64 d]) W :=
  run_loadVar_mid W g 0 _ [.int .i64 a, .int .i64 b, .int .u8 c, .int .i64 d] _ (h.range 0 _ (fun _ _ hv => by rw [Nat.zero_add]; exact hv)) Tryz.underlying119 rfl infoh
theorem SVh_run {W : World} {g : Nat} {cs : List Value} (a b c d : Int) (h : Blk W g cs 119) (hl : cs.length = 4) : ∃ W', (SVh ⟨g, 0, none⟩ (.agg #[.int .i64 a, .int .i64 b, .int .u8 c, .int .i64 d])).run Tryz.prog W = .ok () W' ∧ Blk W' g [.int .i64 a, .int .i64 b, .int .u8 c, .int .i64 d] 119 ∧ Kp (fun j => j = g) W W' := by
  refine ⟨W.setCells g 0 [.int .i64 a, .int .i64 b, .int .u8 c, .int .i64 d], run_storeVar_mid W g 0 _ #[.int .i64 a, .int .i64 b, .int .u8 c, .int .i64 d] (h.there 0 _ (by simp [hl])) infoh (all_oneCell_toArray (all_one rfl)), ?_, Kp.setCells g 0 _⟩
  have := h.put 0 [.int .i64 a, .int .i64 b, .int .u8 c, .int .i64 d]
  rw [put_all cs [.int .i64 a, .int .i64 b, .int .u8 c, .int .i64 d] (by rw [hl]; rfl)] at this
  exact this
def LDg (a : Addr) : Sem Value := loadVar 82 a
def SVg (a : Addr) (v : Value) : Sem Unit := storeVar 82 a v
@[go_sem ↓ high] theorem ldg (a : Addr) : loadVar 82 a = LDg a := rfl
@[go_sem ↓ high] theorem svg (a : Addr) (v : Value) : storeVar 82 a v = SVg a v := rfl
theorem infog : (Tryz.prog.info? 82).map (·.size) = some 5 := by kernel_rfl
theorem LDg_run {W : World} {g : Nat} {a b c d e : Int} (h : Blk W g [.int .u8 a, .int .i64 b, .int .i64 c, .int .i64 d, .int .i64 e] 82) : (LDg ⟨g, 0, none⟩).run Tryz.prog W = .ok (.agg #[.int .u8 a, .int .i64 b, .int .i64 c, .int .i64 d, .int .i64 e]) W :=
  run_loadVar_mid W g 0 _ [.int .u8 a, .int .i64 b, .int .i64 c, .int .i64 d, .int .i64 e] _ (h.range 0 _ (fun _ _ hv => by rw [Nat.zero_add]; exact hv)) Tryz.underlying82 rfl infog
theorem SVg_run {W : World} {g : Nat} {cs : List Value} (a b c d e : Int) (h : Blk W g cs 82) (hl : cs.length = 5) : ∃ W', (SVg ⟨g, 0, none⟩ (.agg #[.int .u8 a, .int .i64 b, .int .i64 c, .int .i64 d, .int .i64 e])).run Tryz.prog W = .ok () W' ∧ Blk W' g [.int .u8 a, .int .i64 b, .int .i64 c, .int .i64 d, .int .i64 e] 82 ∧ Kp (fun j => j = g) W W' := by
  refine ⟨W.setCells g 0 [.int .u8 a, .int .i64 b, .int .i64 c, .int .i64 d, .int .i64 e], run_storeVar_mid W g 0 _ #[.int .u8 a, .int .i64 b, .int .i64 c, .int .i64 d, .int .i64 e] (h.there 0 _ (by simp [hl])) infog (all_oneCell_toArray (all_one rfl)), ?_, Kp.setCells g 0 _⟩
  have := h.put 0 [.int .u8 a, .int .i64 b, .int .i64 c, .int .i64 d, .int .i64 e]
  rw [put_all cs [.int .u8 a, .int .i64 b, .int .i64 c, .int .i64 d, .int .i64 e] (by rw [hl]; rfl)] at this
  exact this
def LDe (a : Addr) : Sem Value := loadVar 84 a
def SVe (a : Addr) (v : Value) : Sem Unit := storeVar 84 a v
@[go_sem ↓ high] theorem lde (a : Addr) : loadVar 84 a = LDe a := rfl
@[go_sem ↓ high] theorem sve (a : Addr) (v : Value) : storeVar 84 a v = SVe a v := rfl
theorem infoe : (Tryz.prog.info? 84).map (·.size) = some 2 := by kernel_rfl
theorem LDe_run {W : World} {g : Nat} {a b : Int} (h : Blk W g [.int .u8 a, .int .i64 b] 84) : (LDe ⟨g, 0, none⟩).run Tryz.prog W = .ok (.agg #[.int .u8 a, .int .i64 b]) W :=
  run_loadVar_mid W g 0 _ [.int .u8 a, .int .i64 b] _ (h.range 0 _ (fun _ _ hv => by rw [Nat.zero_add]; exact hv)) Tryz.underlying84 rfl infoe
theorem SVe_run {W : World} {g : Nat} {cs : List Value} (a b : Int) (h : Blk W g cs 84) (hl : cs.length = 2) : ∃ W', (SVe ⟨g, 0, none⟩ (.agg #[.int .u8 a, .int .i64 b])).run Tryz.prog W = .ok () W' ∧ Blk W' g [.int .u8 a, .int .i64 b] 84 ∧ Kp (fun j => j = g) W W' := by
  refine ⟨W.setCells g 0 [.int .u8 a, .int .i64 b], run_storeVar_mid W g 0 _ #[.int .u8 a, .int .i64 b] (h.there 0 _ (by simp [hl])) infoe (all_oneCell_toArray (all_one rfl)), ?_, Kp.setCells g 0 _⟩
  have := h.put 0 [.int .u8 a, .int .i64 b]
  rw [put_all cs [.int .u8 a, .int .i64 b] (by rw [hl]; rfl)] at this
  exact this
def LDn (a : Addr) : Sem Value := loadVar 93 a
def SVn (a : Addr) (v : Value) : Sem Unit := storeVar 93 a v
@[go_sem ↓ high] theorem ldn (a : Addr) : loadVar 93 a = LDn a := rfl
@[go_sem ↓ high] theorem svn (a : Addr) (v : Value) : storeVar 93 a v = SVn a v := rfl
theorem infon : (Tryz.prog.info? 93).map (·.size) = some 2 := by kernel_rfl
theorem LDn_run {W : World} {g : Nat} {r c : Nat} (h : Blk W g [fv r, fv c] 93) : (LDn ⟨g, 0, none⟩).run Tryz.prog W = .ok (.agg #[fv r, fv c]) W :=
  run_loadVar_mid W g 0 _ [fv r, fv c] _ (h.range 0 _ (fun _ _ hv => by rw [Nat.zero_add]; exact hv)) Tryz.underlying93 rfl infon
theorem SVn_run {W : World} {g : Nat} {cs : List Value} (r c : Nat) (h : Blk W g cs 93) (hl : cs.length = 2) : ∃ W', (SVn ⟨g, 0, none⟩ (.agg #[fv r, fv c])).run Tryz.prog W = .ok () W' ∧ Blk W' g [fv r, fv c] 93 ∧ Kp (fun j => j = g) W W' := by
  refine ⟨W.setCells g 0 [fv r, fv c], run_storeVar_mid W g 0 _ #[fv r, fv c] (h.there 0 _ (by simp [hl])) infon (all_oneCell_toArray (all_one rfl)), ?_, Kp.setCells g 0 _⟩
  have := h.put 0 [fv r, fv c]
  rw [put_all cs [fv r, fv c] (by rw [hl]; rfl)] at this
  exact this
def LDa (a : Addr) : Sem Value := loadVar 113 a
def SVa (a : Addr) (v : Value) : Sem Unit := storeVar 113 a v
@[go_sem ↓ high] theorem lda (a : Addr) : loadVar 113 a = LDa a := rfl
@[go_sem ↓ high] theorem sva (a : Addr) (v : Value) : storeVar 113 a v = SVa a v := rfl
theorem infoa : (Tryz.prog.info? 113).map (·.size) = some 6 := by kernel_rfl
theorem LDa_run {W : World} {g : Nat} {m : Int} {c : Bool} {k b w s : Nat} {ck cb cw cs0 : Array Value} (h : Blk W g [.int .i64 m, .bool c, fc k ck, fc b cb, fc w cw, fc s cs0] 113) : (LDa ⟨g, 0, none⟩).run Tryz.prog W = .ok (.agg #[.int .i64 m, .bool c, fc k ck, fc b cb, fc w cw, fc s cs0]) W :=
  run_loadVar_mid W g 0 _ [.int .i64 m, .bool c, fc k ck, fc b cb, fc w cw, fc s cs0] _ (h.range 0 _ (fun _ _ hv => by rw [Nat.zero_add]; exact hv)) Tryz.underlying113 rfl infoa
theorem SVa_run {W : World} {g : Nat} {cs : List Value} (m : Int) (c : Bool) (k b w s : Nat) (ck cb cw cs0 : Array Value) (h : Blk W g cs 113) (hl : cs.length = 6) : ∃ W', (SVa ⟨g, 0, none⟩ (.agg #[.int .i64 m, .bool c, fc k ck, fc b cb, fc w cw, fc s cs0])).run Tryz.prog W = .ok () W' ∧ Blk W' g [.int .i64 m, .bool c, fc k ck, fc b cb, fc w cw, fc s cs0] 113 ∧ Kp (fun j => j = g) W W' := by
  refine ⟨W.setCells g 0 [.int .i64 m, .bool c, fc k ck, fc b cb, fc w cw, fc s cs0], run_storeVar_mid W g 0 _ #[.int .i64 m, .bool c, fc k ck, fc b cb, fc w cw, fc s cs0] (h.there 0 _ (by simp [hl])) infoa (all_oneCell_toArray (all_one rfl)), ?_, Kp.setCells g 0 _⟩
  have := h.put 0 [.int .i64 m, .bool c, fc k ck, fc b cb, fc w cw, fc s cs0]
  rw [put_all cs [.int .i64 m, .bool c, fc k ck, fc b cb, fc w cw, fc s cs0] (by rw [hl]; rfl)] at this
  exact this
end Go.Proofs.YtdmacflcjbkkpaaGreat.Co
