/- What the walks of the laws have in common: ledgers, lists that lie apart. -/
import Derived.Test.YtojldjckpjokcaaGreatDoorHsum
import Derived.Test.YtojldjckpjokcaaGreatDoorRref
import Derived.Test.YtojldjckpjokcaaGreatDoorBapart
namespace Go.Proofs.YtojldjckpjokcaaGreatDoor.Sh
open Go.ChangeShapes Go.WideShapes Go.ChangeAt Go.RowKit
open Go.Proofs.YtojldjckpjokcaaGreatDoor.By Go.Proofs.YtojldjckpjokcaaGreatDoor.Wd

theorem own8_type {w : World} {base n : Nat} {v : Value} {f : Nat → Int} (h : By.Own w base v n f) {g : Nat} (hg : v.ownBlock = some g) : ∃ cs, w.heap[g]? = some (.cells cs 5 (0, 0)) := by
  obtain ⟨_, _, h | ⟨g', cap, cur, rfl, _, hc, _⟩⟩ := h
  · obtain ⟨rfl, _⟩ := h; simp [Value.ownBlock] at hg
  · simp [Value.ownBlock] at hg; subst hg; exact ⟨cur, hc⟩
theorem own_led {w w' : World} {base n lb : Nat} {v rv : Value} {f : Nat → Int} {L : List Rn} {S : Nat → Prop} (h : By.Own w base v n f) (hl : Led w lb rv L) (hk : Kp S w w') (hs : ∀ j, j < w.heap.size → S j → j = lb ∨ rv.ownBlock = some j) : By.Own w' base v n f :=
  own_kept h hk (fun g hg e => by
    obtain ⟨cs, hc⟩ := own8_type h hg
    have := hs g (Array.getElem?_eq_some_iff.1 hc).1 e
    exact led_apart hl (cs := cs.toList) (t := 5) (by show w.heap[g]? = _; rw [hc]) (by decide) (by decide) this)
/-- A ledger's own blocks. -/
def SL (lb : Nat) (rv : Value) (j : Nat) : Prop := j = lb ∨ rv.ownBlock = some j
theorem lg_led {w : World} {lb : Nat} {rv : Value} {L : List Rn} (h : Led w lb rv L) : LG (SL lb rv) w w (some lb) L := ⟨.inl rfl, rv, h, fun _ hg _ => .inr hg⟩
theorem lg_nil (S : Nat → Prop) (w : World) : LG S w w none [] := trivial
theorem pos_nil' : Pos [] := fun q hq => by simp at hq
theorem rb_marked (w : World) (n : Nat) (f : Nat → Int) (fr : Nat × Nat) (hf : ∀ i, 0 ≤ f i ∧ f i < 256) (hn : n ≤ maxLen) : By.RB (w.alloc (.cells (bl n f).toArray 5 fr)) (.slice (some ⟨w.heap.size, 0, none⟩) n n) n f :=
  ⟨hf, _, _, rfl, Nat.le_refl _, hn, .inr ⟨_, 0, rfl, fun i hi => by
    rw [cell_of_row _ w.heap.size (0 + i) _ 5 fr (heap_alloc_last w _), Nat.zero_add]
    simpa using bl_get n f i hi⟩⟩
theorem below_kp {w w' : World} (h : Kp (fun _ => False) w w') : Below w.heap.size w w' := h.below (Nat.le_refl _) (fun _ _ e => e)
theorem put_nil (r : Rn) (h : 1 ≤ r.c) : putL [] r = [r] := by simp [putL]; omega
def blocks (m : Nat) : Nat := (m + (1 + zs m + 8)) / 64
theorem blocks_pos (m : Nat) : 1 ≤ blocks m := by unfold blocks zs; omega
theorem blocks_last (m : Nat) : m / 64 + last m = blocks m := by unfold blocks last; omega
theorem evs_one (n : Nat) (h : n ≤ 4000000000000000000) : evs256 [] (n + 1) = [⟨1, 64, ((n + 1 : Nat) : Int)⟩] := by
  induction n with
  | zero => rfl
  | succ n ih =>
    rw [evs256, ih (by omega)]
    have e : sm ((n + 1 : Nat) : Int) 1 = ((n + 1 + 1 : Nat) : Int) := by unfold sm; rw [if_pos (by omega)]; omega
    show putL [⟨1, 64, ((n + 1 : Nat) : Int)⟩] ⟨1, 64, 1⟩ = _
    rw [← e]
    rfl
theorem dig_congr (m : Nat) (f g : Nat → Int) (h : ∀ i, i < m → f i = g i) : dig m f = dig m g := by
  have e : cat m f (endf m) = cat m g (endf m) := by
    funext i
    unfold cat
    split
    · exact h i (by assumption)
    · rfl
  unfold dig
  rw [e]
theorem SL_kp2 {w w' : World} {lb : Nat} {rv : Value} {B : Nat} (hk : Kp (SL lb rv) w w') (hB : B ≤ w.heap.size) (h1 : B ≤ lb) (h2 : ∀ g, rv.ownBlock = some g → B ≤ g) : Below B w w' :=
  hk.below hB (fun k hk e => by rcases e with e | e; omega; have := h2 k e; omega)
theorem own_rled {w w' : World} {base n db : Nat} {v rv : Value} {f : Nat → Int} {L : List Rn} (h : By.Own w base v n f) (hl : RLed w db rv L) (hk : Kp (fun j => j = db) w w') : By.Own w' base v n f :=
  own_kept h hk (fun g hg e => by
    obtain ⟨cs, hc⟩ := own8_type h hg
    have e' : g = db := e
    subst e'
    have := Option.some.inj (hc.symm.trans hl.here)
    simp at this)
theorem led_rled {w w' : World} {lb db : Nat} {rv rv' : Value} {L M : List Rn} (h : Led w lb rv L) (hl : RLed w db rv' M) (hk : Kp (fun j => j = db) w w') : Led w' lb rv L := by
  refine h.kept hk (fun e => ?_) (fun g hg e => ?_)
  · have e' : lb = db := e
    subst e'
    have := Option.some.inj (h.here.symm.trans hl.here)
    simp at this
  · have e' : g = db := e
    subst e'
    obtain ⟨cs, hc⟩ := own_type h.own hg
    have := Option.some.inj (hc.symm.trans hl.here)
    simp at this
theorem rled_led {w w' : World} {lb db : Nat} {rv : Value} {L : List Rn} (h : RLed w db (.slice none 0 0) []) (hl : Led w lb rv L) (hk : Kp (SL lb rv) w w') : RLed w' db (.slice none 0 0) [] := by
  refine h.kept hk (fun e => ?_) (fun g hg => by simp [Value.ownBlock] at hg)
  rcases e with e | e
  · subst e
    have := Option.some.inj (h.here.symm.trans hl.here)
    simp at this
  · obtain ⟨cs, hc⟩ := own_type hl.own e
    have := Option.some.inj (hc.symm.trans h.here)
    simp at this
theorem lent_dig (n : Nat) (f : Nat → Int) : dig n (lent n f) = dig n f := dig_congr n _ _ (fun i hi => by unfold lent; rw [if_pos hi])
theorem rb_kept {w w' : World} {S : Nat → Prop} {g o n cap : Nat} {f : Nat → Int} (h : By.RB w (.slice (some ⟨g, o, none⟩) n cap) n f) (hk : Kp S w w') (hn : ¬ S g) : By.RB w' (.slice (some ⟨g, o, none⟩) n cap) n f := by
  obtain ⟨hf, a, c, e, h1, h2, hc⟩ := h
  simp only [Value.slice.injEq, true_and] at e
  obtain ⟨rfl, rfl⟩ := e
  refine ⟨hf, _, _, rfl, h1, h2, ?_⟩
  rcases hc with hc | ⟨b, off, e, hc⟩
  · exact .inl hc
  · refine .inr ⟨b, off, e, fun i hi => ?_⟩
    simp only [Option.some.injEq, Addr.mk.injEq, and_true] at e
    obtain ⟨rfl, rfl⟩ := e
    have h1 := hc i hi
    rw [← h1]
    have hl := block_lt_of_cell h1
    simp [World.cell?, hk.block g hl hn]
theorem putL_last (M : List Rn) (q r : Rn) (hr : 1 ≤ r.c) (hk : q.k = r.k ∧ q.s = r.s) : putL (M ++ [q]) r = M ++ [⟨q.k, q.s, sm q.c r.c⟩] := by
  unfold putL
  rw [if_neg (by omega), List.getLast?_append, List.getLast?_singleton]
  simp [hk]
theorem putL_other (M : List Rn) (q r : Rn) (hr : 1 ≤ r.c) (hk : ¬ (q.k = r.k ∧ q.s = r.s)) : putL (M ++ [q]) r = M ++ [q] ++ [r] := by
  unfold putL
  rw [if_neg (by omega), List.getLast?_append, List.getLast?_singleton]
  simp only [Option.some_or]
  rw [if_neg hk]
theorem tot_snoc (M : List Rn) (q : Rn) : tot (M ++ [q]) = tot M + q.c := by
  induction M with
  | nil => simp [tot]
  | cons x M ih => simp only [List.cons_append, tot]; rw [ih]; omega
theorem tot_nonneg {L : List Rn} (h : Pos L) : 0 ≤ tot L := by
  induction L with
  | nil => simp [tot]
  | cons x L ih =>
    have h1 := h x (by simp)
    have h2 := ih (fun q hq => h q (by simp [hq]))
    simp only [tot]; omega
theorem putL_two (L : List Rn) (hp : Pos L) (k s a b : Int) (ha : 1 ≤ a) (hb : 1 ≤ b) (ht : tot L + a + b ≤ 9000000000000000000) : putL (putL L ⟨k, s, a⟩) ⟨k, s, b⟩ = putL L ⟨k, s, a + b⟩ := by
  rcases List.eq_nil_or_concat L with rfl | ⟨M, q, hL⟩
  · rw [put_nil ⟨k, s, a⟩ ha, put_nil ⟨k, s, a + b⟩ (by show 1 ≤ a + b; omega)]
    have := putL_last [] ⟨k, s, a⟩ ⟨k, s, b⟩ hb ⟨rfl, rfl⟩
    rw [List.nil_append] at this
    rw [this]
    have e : sm a b = a + b := by unfold sm; rw [if_pos (by simp [tot] at ht; omega)]
    simp [e]
  · rw [List.concat_eq_append] at hL
    subst hL
    rw [tot_snoc] at ht
    have h0 := tot_nonneg (L := M) (fun x hx => hp x (by simp [hx]))
    have hq := hp q (by simp)
    by_cases hk : q.k = k ∧ q.s = s
    · rw [putL_last M q ⟨k, s, a⟩ ha hk, putL_last M ⟨q.k, q.s, sm q.c a⟩ ⟨k, s, b⟩ hb hk, putL_last M q ⟨k, s, a + b⟩ (by show 1 ≤ a + b; omega) hk]
      have e : sm (sm q.c a) b = sm q.c (a + b) := by unfold sm; rw [if_pos (by omega), if_pos (by omega), if_pos (by omega)]; omega
      simp only [e]
    · rw [putL_other M q ⟨k, s, a⟩ ha hk, putL_last (M ++ [q]) ⟨k, s, a⟩ ⟨k, s, b⟩ hb ⟨rfl, rfl⟩, putL_other M q ⟨k, s, a + b⟩ (by show 1 ≤ a + b; omega) hk]
      have e : sm a b = a + b := by unfold sm; rw [if_pos (by omega)]
      simp only [e]
/-- So many events, told at once. -/
theorem putL_many (L : List Rn) (hp : Pos L) (n : Nat) (hb : tot L + n + 1 ≤ 9000000000000000000) : putL L ⟨1, 64, ((n + 1 : Nat) : Int)⟩ = evs256 L (n + 1) := by
  induction n with
  | zero => rfl
  | succ n ih =>
    rw [evs256, ← ih (by omega), putL_two L hp 1 64 _ 1 (by omega) (by omega) (by omega)]
    congr 2
end Go.Proofs.YtojldjckpjokcaaGreatDoor.Sh
