/- A state of the program: what it holds of a message, and what New, isNone, Len, Clone, Reset answer. -/
import Derived.Test.YtojldjckpjokcaaGreatDoorHword
import Derived.Test.YtojldjckpjokcaaGreatDoorRreads
namespace Go.Proofs.YtojldjckpjokcaaGreatDoor.Sh
open Go.ChangeShapes Go.WideShapes Go.ChangeAt Go.RowKit
open Go.Proofs.YtojldjckpjokcaaGreatDoor.By Go.Proofs.YtojldjckpjokcaaGreatDoor.Wd

/-- h0 to h7 behind j blocks of a message. -/
def hw (f : Nat → Int) : Nat → Nat → Int
  | 0 => bg
  | j + 1 => comp (hw f j) (fun i => f (64 * j + i))
theorem hw_w (f : Nat → Int) (j i : Nat) : W32 (hw f j i) := by
  cases j with
  | zero => exact bg_w i
  | succ j => exact comp_w _ _ _
theorem hw_congr (f g : Nat → Int) (j : Nat) (h : ∀ i, i < 64 * j → f i = g i) : hw f j = hw g j := by
  induction j with
  | zero => rfl
  | succ j ih =>
    have e : comp (hw f j) (fun i => f (64 * j + i)) = comp (hw g j) (fun i => g (64 * j + i)) := by
      rw [ih (fun i hi => h i (by omega))]
      have et : ∀ t, t ≤ 64 → tab (fun i => f (64 * j + i)) t = tab (fun i => g (64 * j + i)) t := by
        intro t
        induction t with
        | zero => intro _; rfl
        | succ t iht =>
          intro ht
          funext i
          unfold tab
          rw [iht (by omega)]
          split
          · unfold nxt
            split
            · exact BE_congr _ _ 4 (fun i hi => h _ (by omega))
            · rfl
          · rfl
      funext i
      unfold comp
      rw [et 64 (by omega)]
    exact e
/-- The bytes that wait. -/
def wt (m : Nat) (f : Nat → Int) (i : Nat) : Int := if i < m % 64 then f (m / 64 * 64 + i) else 0
theorem wt_bound (m : Nat) (f : Nat → Int) (hf : ∀ i, 0 ≤ f i ∧ f i < 256) (i : Nat) : 0 ≤ wt m f i ∧ wt m f i < 256 := by
  unfold wt; split
  · exact hf _
  · decide
/-- A state's cells, out of its parts; of a message. -/
def sc (h : Nat → Int) (m : Int) (q : Nat → Int) : List Value := .bool true :: (wl 8 h ++ .int .u64 m :: bl 64 q)
def stc (m : Nat) (f : Nat → Int) : List Value := sc (hw f (m / 64)) m (wt m f)
theorem sc_length (h : Nat → Int) (m : Int) (q : Nat → Int) : (sc h m q).length = 74 := by simp [sc, wl_length, bl_length]
theorem sc_0 (h : Nat → Int) (m : Int) (q : Nat → Int) : (sc h m q)[0]? = some (.bool true) := rfl
theorem sc_h (h : Nat → Int) (m : Int) (q : Nat → Int) (i : Nat) (v : Value) (hv : (wl 8 h)[i]? = some v) : (sc h m q)[1 + i]? = some v := by
  have hi : i < 8 := by have := (List.getElem?_eq_some_iff.1 hv).1; rwa [wl_length] at this
  show (.bool true :: (wl 8 h ++ .int .u64 m :: bl 64 q))[1 + i]? = some v
  rw [Nat.add_comm, List.getElem?_cons_succ, List.getElem?_append_left (by rw [wl_length]; exact hi)]; exact hv
theorem sc_9 (h : Nat → Int) (m : Int) (q : Nat → Int) : (sc h m q)[9]? = some (.int .u64 m) := rfl
theorem sc_b (h : Nat → Int) (m : Int) (q : Nat → Int) (i : Nat) (v : Value) (hv : (bl 64 q)[i]? = some v) : (sc h m q)[10 + i]? = some v := by
  show (.bool true :: (wl 8 h ++ .int .u64 m :: bl 64 q))[10 + i]? = some v
  rw [show 10 + i = (9 + i) + 1 from by omega, List.getElem?_cons_succ, List.getElem?_append_right (by rw [wl_length]; omega), wl_length,
    show 9 + i - 8 = i + 1 from by omega, List.getElem?_cons_succ]; exact hv
theorem sc_one (h : Nat → Int) (m : Int) (q : Nat → Int) : ∀ u ∈ sc h m q, u.oneCell' = true := by
  intro u hu
  simp only [sc, List.mem_cons, List.mem_append] at hu
  rcases hu with rfl | hu | rfl | hu
  · rfl
  · exact wl_one _ _ u hu
  · rfl
  · exact bl_one _ _ u hu
theorem sc_set9 (h : Nat → Int) (m m' : Int) (q : Nat → Int) : (sc h m q).set 9 (.int .u64 m') = sc h m' q := rfl
theorem sc_puth (h h' : Nat → Int) (m : Int) (q : Nat → Int) : put (sc h m q) 1 (wl 8 h') = sc h' m q := rfl
theorem sc_putb (h : Nat → Int) (m : Int) (q : Nat → Int) (o n : Nat) (g : Nat → Int) (hn : o + n ≤ 64) : put (sc h m q) (10 + o) (bl n g) = sc h m (fun i => if o ≤ i ∧ i < o + n then g (i - o) else q i) := by
  apply List.ext_getElem?
  intro i
  rw [put_get _ _ _ _ (by rw [sc_length, bl_length]; omega), bl_length]
  by_cases h74 : i < 74
  · by_cases hi : 10 ≤ i
    · have e2 : (sc h m (fun i => if o ≤ i ∧ i < o + n then g (i - o) else q i))[i]? = some (.int .u8 (if o ≤ i - 10 ∧ i - 10 < o + n then g (i - 10 - o) else q (i - 10))) := by
        have := sc_b h m (fun i => if o ≤ i ∧ i < o + n then g (i - o) else q i) (i - 10) _ (bl_get 64 _ (i - 10) (by omega))
        rwa [show 10 + (i - 10) = i from by omega] at this
      have e3 : (sc h m q)[i]? = some (.int .u8 (q (i - 10))) := by
        have := sc_b h m q (i - 10) _ (bl_get 64 _ (i - 10) (by omega))
        rwa [show 10 + (i - 10) = i from by omega] at this
      rw [e2, e3]
      by_cases hr : o ≤ i - 10 ∧ i - 10 < o + n
      · rw [if_pos hr, if_pos (by omega), bl_get _ _ _ (by omega)]
        congr 3
        omega
      · rw [if_neg hr, if_neg (by omega)]
    · rw [if_neg (by omega)]
      have key : ∀ q' : Nat → Int, (sc h m q')[i]? = (.bool true :: (wl 8 h ++ [.int .u64 m]))[i]? := by
        intro q'
        have e : sc h m q' = (.bool true :: (wl 8 h ++ [.int .u64 m])) ++ bl 64 q' := by simp [sc]
        rw [e, List.getElem?_append_left (by simp [wl_length]; omega)]
      rw [key, key]
  · rw [if_neg (by omega), List.getElem?_eq_none (by rw [sc_length]; omega), List.getElem?_eq_none (by rw [sc_length]; omega)]

/-- The state in block b has the message of m bytes f. -/
structure St (w : World) (b m : Nat) (f : Nat → Int) : Prop where
  here : Blk w b (stc m f) 120
  byte : ∀ i, 0 ≤ f i ∧ f i < 256
  few : m ≤ 140737488355328
/-- The state in block b is none (wiped, or nobody made it). -/
def NoSt (w : World) (b : Nat) : Prop := ∃ cs, Blk w b (.bool false :: cs) 120 ∧ cs.length = 73
theorem St.below {w w' : World} {b m : Nat} {f : Nat → Int} (h : St w b m f) (hb : Below w.heap.size w w') : St w' b m f := ⟨h.here.below hb, h.byte, h.few⟩
theorem St.kept {w w' : World} {b m : Nat} {f : Nat → Int} {S : Nat → Prop} (h : St w b m f) (hk : Kp S w w') (hn : ¬ S b) : St w' b m f := ⟨h.here.kept hk hn, h.byte, h.few⟩
theorem St.c0 {w : World} {b m : Nat} {f : Nat → Int} (h : St w b m f) : w.cell? ⟨b, 0, none⟩ = some (.bool true) := h.here.cell 0 _ rfl
theorem St.c9 {w : World} {b m : Nat} {f : Nat → Int} (h : St w b m f) : w.cell? ⟨b, 9, none⟩ = some (.int .u64 m) := h.here.cell 9 _ rfl
theorem NoSt.c0 {w : World} {b : Nat} (h : NoSt w b) : w.cell? ⟨b, 0, none⟩ = some (.bool false) := by
  obtain ⟨cs, h, _⟩ := h; exact h.cell 0 _ rfl
theorem stc_congr (m : Nat) (f g : Nat → Int) (h : ∀ i, i < m → f i = g i) : stc m f = stc m g := by
  have e1 : hw f (m / 64) = hw g (m / 64) := hw_congr f g _ (fun i hi => h i (by omega))
  have e2 : bl 64 (wt m f) = bl 64 (wt m g) := bl_congr _ _ _ (fun i _ => by
    unfold wt; split
    · exact h _ (by omega)
    · rfl)
  unfold stc sc
  rw [e1, e2]
theorem St.congr {w : World} {b m : Nat} {f g : Nat → Int} (h : St w b m f) (hg : ∀ i, 0 ≤ g i ∧ g i < 256) (e : ∀ i, i < m → f i = g i) : St w b m g :=
  ⟨by rw [← stc_congr m f g e]; exact h.here, hg, h.few⟩

theorem isNone_st (b : Nat) (w : World) (x : Bool) (h : w.cell? ⟨b, 0, none⟩ = some (.bool x)) : Calls Tryz.prog 76 #[.pointer (some ⟨b, 0, none⟩)] w fun e w' => e = .returned (.bool (!x)) ∧ w' = w := by
  go_enter Tryz.func76, Tryz.ntmps76
  go_wp2
  go_ret
  exact ⟨rfl, rfl⟩
theorem isNone_nil (w : World) : Calls Tryz.prog 76 #[.pointer none] w fun e w' => e = .returned (.bool true) ∧ w' = w := by
  go_enter Tryz.func76, Tryz.ntmps76
  go_wp2
  go_ret
  exact ⟨rfl, rfl⟩
def newA : Array Value := (stc 0 (fun _ => 0)).toArray
set_option maxRecDepth 4000 in
theorem new12 (w : World) : Calls Tryz.prog 55 #[] w fun e w' => e = .returned (.pointer (some ⟨w.heap.size, 0, none⟩)) ∧ St w' w.heap.size 0 (fun _ => 0) ∧ Below w.heap.size w w' := by
  go_enter Tryz.func55, Tryz.ntmps55
  go_wp2
  go_ret
  refine ⟨rfl, ⟨Blk.newAt _ _ _ _ _ rfl (by kernel_rfl), fun _ => by decide, by omega⟩, below_alloc _ _⟩
end Go.Proofs.YtojldjckpjokcaaGreatDoor.Sh
