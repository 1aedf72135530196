/- So many events of a block at once; no function of the program in it. A mac's cells; a mac in memory; no function of the program in it. A block of noughts, short; a block laid anew, and stored; no function of the program in it. A new variable that holds a block; no function of the program in it. -/
import Derived.Test.YtpohogpkfdebdaaGreatDoorWa
import Derived.Test.YtpohogpkfdebdaaGreatDoorYj
import Derived.Test.YtpohogpkfdebdaaGreatDoorYp
namespace Go.Proofs.YtpohogpkfdebdaaGreatDoor.Vm
open Go.ChangeShapes Go.WideShapes Go.ChangeAt Go.RowKit
open Go.Proofs.YtpohogpkfdebdaaGreatDoor.By Go.Proofs.YtpohogpkfdebdaaGreatDoor.Gf Go.Proofs.YtpohogpkfdebdaaGreatDoor.Ae
theorem putL_none (L : List Rn) (k s : Int) : putL L ⟨k, s, 0⟩ = L := if_pos (show (0 : Int) < 1 from by decide)
theorem put_nil (r : Rn) (h : 1 ≤ r.c) : putL [] r = [r] := by simp [putL]; omega
theorem putL_last (M : List Rn) (q r : Rn) (hr : 1 ≤ r.c) (hk : q.k = r.k ∧ q.s = r.s) : putL (M ++ [q]) r = M ++ [⟨q.k, q.s, sm q.c r.c⟩] := by
  unfold putL
  rw [if_neg (by omega), List.getLast?_append, List.getLast?_singleton]
  simp [hk]
theorem putL_other (M : List Rn) (q r : Rn) (hr : 1 ≤ r.c) (hk : ¬ (q.k = r.k ∧ q.s = r.s)) : putL (M ++ [q]) r = M ++ [q] ++ [r] := by
  unfold putL
  rw [if_neg (by omega), List.getLast?_append, List.getLast?_singleton]
  simp only [Option.some_or]
  rw [if_neg hk]
theorem tot_snoc (M : List Rn) (q : Rn) : tot (M ++ [q]) = tot M + q.c := by
  induction M with
  | nil => simp [tot]
  | cons x M ih => simp only [List.cons_append, tot]; rw [ih]; omega
theorem tot_nonneg {L : List Rn} (h : Pos L) : 0 ≤ tot L := by
  induction L with
  | nil => simp [tot]
  | cons x L ih =>
    have h1 := h x (by simp)
    have h2 := ih (fun q hq => h q (by simp [hq]))
    simp only [tot]; omega
theorem putL_two (L : List Rn) (hp : Pos L) (k s a b : Int) (ha : 0 ≤ a) (hb : 1 ≤ b) (ht : tot L + a + b ≤ 9000000000000000000) : putL (putL L ⟨k, s, a⟩) ⟨k, s, b⟩ = putL L ⟨k, s, a + b⟩ := by
  by_cases h0 : a = 0
  · subst h0; rw [putL_none, Int.zero_add]
  have ha : 1 ≤ a := by omega
  rcases List.eq_nil_or_concat L with rfl | ⟨M, q, hL⟩
  · rw [put_nil ⟨k, s, a⟩ ha, put_nil ⟨k, s, a + b⟩ (by show 1 ≤ a + b; omega)]
    have := putL_last [] ⟨k, s, a⟩ ⟨k, s, b⟩ hb ⟨rfl, rfl⟩
    rw [List.nil_append] at this
    rw [this]
    have e : sm a b = a + b := by unfold sm; rw [if_pos (by simp [tot] at ht; omega)]
    simp [e]
  · rw [List.concat_eq_append] at hL
    subst hL
    rw [tot_snoc] at ht
    have h0 := tot_nonneg (L := M) (fun x hx => hp x (by simp [hx]))
    have hq := hp q (by simp)
    by_cases hk : q.k = k ∧ q.s = s
    · rw [putL_last M q ⟨k, s, a⟩ ha hk, putL_last M ⟨q.k, q.s, sm q.c a⟩ ⟨k, s, b⟩ hb hk, putL_last M q ⟨k, s, a + b⟩ (by show 1 ≤ a + b; omega) hk]
      have e : sm (sm q.c a) b = sm q.c (a + b) := by unfold sm; rw [if_pos (by omega), if_pos (by omega), if_pos (by omega)]; omega
      simp only [e]
    · rw [putL_other M q ⟨k, s, a⟩ ha hk, putL_last (M ++ [q]) ⟨k, s, a⟩ ⟨k, s, b⟩ hb ⟨rfl, rfl⟩, putL_other M q ⟨k, s, a + b⟩ (by show 1 ≤ a + b; omega) hk]
      have e : sm a b = a + b := by unfold sm; rw [if_pos (by omega)]
      simp only [e]
/-- n events of a block more, under a key of k words. -/
def evb (k : Nat) (L : List Rn) (n : Nat) : List Rn := putL L ⟨5, ((4 * k : Nat) : Int), (n : Int)⟩
theorem evb_zero (k : Nat) (L : List Rn) : evb k L 0 = L := putL_none _ _ _
theorem evb_one (k : Nat) (L : List Rn) : evb k L 1 = putL L ⟨5, ((4 * k : Nat) : Int), 1⟩ := rfl
theorem evb_add {L : List Rn} (hp : Pos L) (k a b : Nat) (ht : tot L + a + b ≤ 9000000000000000000) : evb k (evb k L a) b = evb k L (a + b) := by
  by_cases h : b = 0
  · subst h; rw [evb_zero, Nat.add_zero]
  · unfold evb
    rw [putL_two L hp _ _ _ _ (by omega) (by omega) ht]
    congr 2
theorem evb_pos {L : List Rn} (hp : Pos L) (k n : Nat) : Pos (evb k L n) := putL_pos hp
theorem evb_tot {L : List Rn} (hp : Pos L) (k n : Nat) (ht : tot L + n ≤ 9000000000000000000) : tot (evb k L n) = tot L + n := by
  by_cases h : n = 0
  · subst h; rw [evb_zero]; omega
  · exact tot_put (r := ⟨5, ((4 * k : Nat) : Int), (n : Int)⟩) hp (by show (1 : Int) ≤ (n : Int); omega) (by show tot L + (n : Int) ≤ _; omega)
theorem evb_len (k : Nat) (L : List Rn) (n : Nat) : (evb k L n).length ≤ L.length + 1 := putL_len.1
end Go.Proofs.YtpohogpkfdebdaaGreatDoor.Vm
namespace Go.Proofs.YtpohogpkfdebdaaGreatDoor.Vm
open Go.ChangeShapes Go.WideShapes Go.ChangeAt Go.RowKit
open Go.Proofs.YtpohogpkfdebdaaGreatDoor.By Go.Proofs.YtpohogpkfdebdaaGreatDoor.Gf Go.Proofs.YtpohogpkfdebdaaGreatDoor.Ae
/-- Four blocks in a row. -/
def four (a b c d : Nat → Nat) (i : Nat) : Nat := if i < 16 then a i else if i < 32 then b (i - 16) else if i < 48 then c (i - 32) else d (i - 48)
/-- The cells of a mac. -/
def mcl (cv : Value) (a b c d : Nat → Nat) (n : Nat) : List Value := cv :: (bl 64 (cb (four a b c d)) ++ [.int .i64 (n : Int)])
section
variable (cv : Value) (a b c d : Nat → Nat) (n : Nat)
theorem mcl_len : (mcl cv a b c d n).length = 66 := by simp [mcl, bl_length]
theorem mcl_zero : (mcl cv a b c d n)[0]? = some cv := rfl
theorem mcl_at (i : Nat) (h : i < 64) : (mcl cv a b c d n)[1 + i]? = some (.int .u8 (four a b c d i : Nat)) := by
  unfold mcl
  rw [Nat.add_comm, List.getElem?_cons_succ, List.getElem?_append_left (by rw [bl_length]; omega), bl_get _ _ _ h]
theorem mcl_n : (mcl cv a b c d n)[65]? = some (.int .i64 (n : Int)) := by
  unfold mcl
  rw [List.getElem?_cons_succ, List.getElem?_append_right (by rw [bl_length]; omega), bl_length]; rfl
theorem mcl_set (m : Nat) : (mcl cv a b c d n).set 65 (.int .i64 (m : Int)) = mcl cv a b c d m := by
  unfold mcl
  rw [List.set_cons_succ, List.set_append_right _ _ (by rw [bl_length]; omega), bl_length]; rfl
theorem mcl_set0 (v : Value) : (mcl cv a b c d n).set 0 v = mcl v a b c d n := rfl
theorem mcl_one (h : cv.oneCell' = true) : ∀ u ∈ mcl cv a b c d n, u.oneCell' = true := fun u hu => by
  simp only [mcl, List.mem_cons, List.mem_append, List.not_mem_nil, or_false] at hu
  rcases hu with rfl | hu | rfl
  · exact h
  · exact bl_one _ _ u hu
  · rfl
end
theorem mcl_congr (cv : Value) {a b c d a' b' c' d' : Nat → Nat} (n : Nat) (h : ∀ i, i < 64 → four a b c d i = four a' b' c' d' i) : mcl cv a b c d n = mcl cv a' b' c' d' n := by
  unfold mcl
  rw [bl_congr 64 _ (cb (four a' b' c' d')) (fun i hi => congrArg Nat.cast (h i hi))]
theorem four_e {a b c d a' b' c' d' : Nat → Nat} (h1 : E16 a a') (h2 : E16 b b') (h3 : E16 c c') (h4 : E16 d d') (i : Nat) (hi : i < 64) : four a b c d i = four a' b' c' d' i := by
  unfold four
  split
  · exact h1 _ (by omega)
  split
  · exact h2 _ (by omega)
  split
  · exact h3 _ (by omega)
  · exact h4 _ (by omega)
theorem mcl_e (cv : Value) {a b c d a' b' c' d' : Nat → Nat} (n : Nat) (h1 : E16 a a') (h2 : E16 b b') (h3 : E16 c c') (h4 : E16 d d') : mcl cv a b c d n = mcl cv a' b' c' d' n := mcl_congr cv n (four_e h1 h2 h3 h4)
theorem mcl_put (cv : Value) {a b c d a' b' c' d' : Nat → Nat} (n o t : Nat) (f : Nat → Nat) (ho : o + t ≤ 64) (h : ∀ i, i < 64 → (if o ≤ i ∧ i < o + t then f (i - o) else four a b c d i) = four a' b' c' d' i) : put (mcl cv a b c d n) (1 + o) (bl t (cb f)) = mcl cv a' b' c' d' n := by
  apply List.ext_getElem?
  intro i
  rw [put_get _ _ _ _ (by rw [mcl_len, bl_length]; omega), bl_length]
  rcases (show i = 0 ∨ (1 ≤ i ∧ i < 65) ∨ i = 65 ∨ 66 ≤ i by omega) with rfl | ⟨h1, h2⟩ | rfl | h1
  · rw [if_neg (by omega)]; rfl
  · have e := h (i - 1) (by omega)
    have e1 := mcl_at cv a' b' c' d' n (i - 1) (by omega)
    have e2 := mcl_at cv a b c d n (i - 1) (by omega)
    rw [show 1 + (i - 1) = i from by omega] at e1 e2
    rw [e1]
    split
    · rw [if_pos (by omega)] at e
      rw [bl_get _ _ _ (by omega), ← e]
      show some (Value.int IntKind.u8 ((f (i - (1 + o)) : Nat) : Int)) = _
      rw [show i - (1 + o) = i - 1 - o from by omega]
    · rw [if_neg (by omega)] at e
      rw [e2, e]
  · rw [if_neg (by omega), mcl_n, mcl_n]
  · rw [if_neg (by omega), List.getElem?_eq_none (by rw [mcl_len]; omega), List.getElem?_eq_none (by rw [mcl_len]; omega)]
section
variable {w : World} {g : Nat} {cv : Value} {a b c d : Nat → Nat} {n : Nat}
theorem mcl_row (h : Blk w g (mcl cv a b c d n) 201) (q : Nat) (f : Nat → Nat) (hq : q < 4) (hf : ∀ i, i < 16 → four a b c d (16 * q + i) = f i) : w.rangeAt g (1 + 16 * q) (bl 16 (cb f)) :=
  h.range _ _ (fun j v hv => by
    obtain ⟨hj, rfl⟩ := bl_get_inv _ _ _ _ hv
    rw [show 1 + 16 * q + j = 1 + (16 * q + j) from by omega, mcl_at _ _ _ _ _ _ _ (by omega), hf j hj])
theorem mcl_a (h : Blk w g (mcl cv a b c d n) 201) : w.rangeAt g 1 (bl 16 (cb a)) := mcl_row h 0 a (by omega) (fun i hi => by unfold four; rw [if_pos (by omega)]; congr 1; omega)
theorem mcl_b (h : Blk w g (mcl cv a b c d n) 201) : w.rangeAt g 17 (bl 16 (cb b)) := mcl_row h 1 b (by omega) (fun i hi => by unfold four; rw [if_neg (by omega), if_pos (by omega)]; congr 1; omega)
theorem mcl_c (h : Blk w g (mcl cv a b c d n) 201) : w.rangeAt g 33 (bl 16 (cb c)) := mcl_row h 2 c (by omega) (fun i hi => by unfold four; rw [if_neg (by omega), if_neg (by omega), if_pos (by omega)]; congr 1; omega)
theorem mcl_d (h : Blk w g (mcl cv a b c d n) 201) : w.rangeAt g 49 (bl 16 (cb d)) := mcl_row h 3 d (by omega) (fun i hi => by unfold four; rw [if_neg (by omega), if_neg (by omega), if_neg (by omega)]; congr 1; omega)
end
theorem put_c (cv : Value) (a b c d c' : Nat → Nat) (n : Nat) : put (mcl cv a b c d n) 33 (bl 16 (cb c')) = mcl cv a b c' d n := mcl_put cv n 32 16 c' (by omega) (fun i hi => by
  by_cases hc : 32 ≤ i ∧ i < 32 + 16
  · rw [if_pos hc]
    unfold four
    rw [if_neg (show ¬ i < 16 by omega), if_neg (show ¬ i < 32 by omega), if_pos (show i < 48 by omega)]
  · rw [if_neg hc]
    unfold four
    split
    · rfl
    split
    · rfl
    simp only [if_neg (show ¬ i < 48 by omega)])
theorem put_d (cv : Value) (a b c d d' : Nat → Nat) (n o t : Nat) (f : Nat → Nat) (ho : o + t ≤ 16) (h : ∀ i, i < 16 → (if o ≤ i ∧ i < o + t then f (i - o) else d i) = d' i) : put (mcl cv a b c d n) (49 + o) (bl t (cb f)) = mcl cv a b c d' n := by
  rw [show 49 + o = 1 + (48 + o) from by omega]
  refine mcl_put cv n (48 + o) t f (by omega) (fun i hi => ?_)
  by_cases h48 : i < 48
  · rw [if_neg (by omega)]
    unfold four
    split
    · rfl
    split
    · rfl
    · rfl
  · have e := h (i - 48) (by omega)
    have f1 : ∀ d, four a b c d i = d (i - 48) := fun d => by unfold four; rw [if_neg (by omega), if_neg (by omega), if_neg h48]
    rw [f1, f1, ← e]
    by_cases hc : o ≤ i - 48 ∧ i - 48 < o + t
    · rw [if_pos (by omega), if_pos hc]; congr 1; omega
    · rw [if_neg (by omega), if_neg hc]
/-- The mac in block g: its cipher lies in block gc; it was told n bytes, m. -/
structure Mc (w : World) (g gc k : Nat) (ws : Nat → Nat) (n : Nat) (m : Nat → Nat) : Prop where
  here : Blk w g (mcl (.pointer (some ⟨gc, 0, none⟩)) (sk1 ws (k + 6)) (sk2 ws (k + 6)) (chn ws (k + 6) m (nbl n)) (wtn m n) (ctn n)) 201
  ci : Ci w gc k ws
  lt : ∀ i, m i < 256
/-- What is in block g is no mac. -/
def NoMc (w : World) (g : Nat) : Prop := ∃ cs, Blk w g (.pointer none :: cs) 201
section
variable {w w' : World} {g gc k n : Nat} {ws m : Nat → Nat}
theorem Mc.kt (h : Mc w g gc k ws n m) (hk : Kt w w') : Mc w' g gc k ws n m := ⟨hk.2 _ _ _ h.here (by decide) (by decide), ⟨hk.2 _ _ _ h.ci.here (by decide) (by decide), h.ci.kk, h.ci.lt⟩, h.lt⟩
theorem Mc.below (h : Mc w g gc k ws n m) (hb : Below w.heap.size w w') : Mc w' g gc k ws n m := h.kt (Kt.of_below hb)
theorem Mc.c0 (h : Mc w g gc k ws n m) : w.cell? ⟨g, 0, none⟩ = some (.pointer (some ⟨gc, 0, none⟩)) := h.here.cell 0 _ rfl
theorem Mc.cn (h : Mc w g gc k ws n m) : w.cell? ⟨g, 65, none⟩ = some (.int .i64 ((ctn n : Nat) : Int)) := h.here.cell 65 _ (mcl_n _ _ _ _ _ _)
theorem Mc.glt (h : Mc w g gc k ws n m) : g < w.heap.size := h.here.lt
theorem Mc.ne (h : Mc w g gc k ws n m) : gc ≠ g := h.ci.here.ne h.here (by decide)
theorem NoMc.kt (h : NoMc w g) (hk : Kt w w') : NoMc w' g := by obtain ⟨cs, hb⟩ := h; exact ⟨cs, hk.2 _ _ _ hb (by decide) (by decide)⟩
theorem NoMc.c0 (h : NoMc w g) : w.cell? ⟨g, 0, none⟩ = some (.pointer none) := by obtain ⟨cs, hb⟩ := h; exact hb.cell 0 _ rfl
end
def LDm (a : Addr) : Sem Value := loadVar 201 a
def SVm (a : Addr) (v : Value) : Sem Unit := storeVar 201 a v
@[go_sem ↓ high] theorem ldm (a : Addr) : loadVar 201 a = LDm a := rfl
@[go_sem ↓ high] theorem svm (a : Addr) (v : Value) : storeVar 201 a v = SVm a v := rfl
theorem infom : (Tryz.prog.info? 201).map (·.size) = some 66 := by kernel_rfl
theorem LDm_run {w : World} {g o : Nat} {cs : List Value} (h : w.rangeAt g o cs) (hl : cs.length = 66) : (LDm ⟨g, o, none⟩).run Tryz.prog w = .ok (.agg cs.toArray) w :=
  run_loadVar_mid w g o _ cs _ h Tryz.underlying201 rfl (by rw [hl]; exact infom)
theorem SVm_run {w : World} {g o : Nat} {cs : List Value} (h : w.there g o 66) (hl : cs.length = 66) (h1 : ∀ u ∈ cs, u.oneCell' = true) : (SVm ⟨g, o, none⟩ (.agg cs.toArray)).run Tryz.prog w = .ok () (w.setCells g o cs) :=
  run_storeVar_mid w g o _ cs.toArray (by simpa [hl] using h) (by simpa [hl] using infom) (all_oneCell_toArray h1)
theorem zero_mc : Tryz.zeroCells201 = (mcl (.pointer none) nought nought nought nought 0).toArray := by kernel_rfl
end Go.Proofs.YtpohogpkfdebdaaGreatDoor.Vm
namespace Go.Proofs.YtpohogpkfdebdaaGreatDoor.Vm
open Go.ChangeShapes Go.WideShapes Go.ChangeAt Go.RowKit
open Go.Proofs.YtpohogpkfdebdaaGreatDoor.By Go.Proofs.YtpohogpkfdebdaaGreatDoor.Gf Go.Proofs.YtpohogpkfdebdaaGreatDoor.Ae
def z16 : List Value := bl 16 (cb nought)
theorem z16_len : z16.length = 16 := bl_length _ _
@[go_sem high] theorem zlit : #[Value.int IntKind.u8 0, Value.int IntKind.u8 0, Value.int IntKind.u8 0, Value.int IntKind.u8 0, Value.int IntKind.u8 0, Value.int IntKind.u8 0, Value.int IntKind.u8 0, Value.int IntKind.u8 0, Value.int IntKind.u8 0, Value.int IntKind.u8 0, Value.int IntKind.u8 0, Value.int IntKind.u8 0, Value.int IntKind.u8 0, Value.int IntKind.u8 0, Value.int IntKind.u8 0, Value.int IntKind.u8 0] = z16.toArray := by kernel_rfl
/-- A new block. -/
theorem z_new (w : World) : Blk (w.alloc (.cells z16.toArray 175)) w.heap.size z16 175 := Blk.new _ _ _
/-- Stored whole. -/
theorem z_st {W : World} {q : Nat} {cs : List Value} {f : Nat → Nat} (h : Blk W q cs 175) (hl : cs.length = 16) :
    (SVb ⟨q, 0, none⟩ (.agg (bl 16 (cb f)).toArray)).run Tryz.prog W = .ok () (W.setCells q 0 (bl 16 (cb f))) ∧ Blk (W.setCells q 0 (bl 16 (cb f))) q (bl 16 (cb f)) 175 := by
  refine ⟨SVb_run (h.there 0 16 (by omega)) (bl_length _ _) (bl_one _ _), ?_⟩
  have b := h.put 0 (bl 16 (cb f))
  rwa [put_all _ _ (by rw [bl_length]; omega)] at b
theorem z_ld {W : World} {q : Nat} {f : Nat → Nat} (h : Blk W q (bl 16 (cb f)) 175) : (LDb ⟨q, 0, none⟩).run Tryz.prog W = .ok (.agg (bl 16 (cb f)).toArray) W := LDb_run (range0 h) (bl_length _ _)
end Go.Proofs.YtpohogpkfdebdaaGreatDoor.Vm
namespace Go.Proofs.YtpohogpkfdebdaaGreatDoor.Vm
open Go.ChangeShapes Go.WideShapes Go.ChangeAt Go.RowKit
open Go.Proofs.YtpohogpkfdebdaaGreatDoor.By Go.Proofs.YtpohogpkfdebdaaGreatDoor.Gf Go.Proofs.YtpohogpkfdebdaaGreatDoor.Ae
/-- A new variable that holds a block. -/
theorem z_var (w : World) (f : Nat → Nat) : ∃ W, (SVb ⟨w.heap.size, 0, none⟩ (.agg (bl 16 (cb f)).toArray)).run Tryz.prog (w.alloc (.cells z16.toArray 175)) = .ok () W ∧ Blk W w.heap.size (bl 16 (cb f)) 175 ∧ Below w.heap.size w W := by
  obtain ⟨s, b⟩ := z_st (f := f) (z_new w) z16_len
  exact ⟨_, s, b, (below_alloc w (.cells z16.toArray 175)).trans ((Kp.setCells w.heap.size 0 (bl 16 (cb f))).below (by simp) (fun j hj e => by omega))⟩
end Go.Proofs.YtpohogpkfdebdaaGreatDoor.Vm
