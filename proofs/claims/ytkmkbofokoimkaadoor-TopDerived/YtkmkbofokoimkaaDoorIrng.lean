/- A range over a function whose iterator keeps state of its own in cells, and is stopped by the body: the law for the caller. No function of the program in it. -/
import Derived.RangeFuncNested
import Derived.RangeFuncBound
import Derived.RangeFuncCalls
import Derived.RangeFuncLeaves
import Derived.Shelf.Abstract
import Derived.Shelf.RegionOpen
import Derived.OwnWalkIn
import Derived.TacticsInMore
import Derived.LoopNIn
import Derived.LoopIn
import Derived.WalkKit
namespace Go.Proofs.YtkmkbofokoimkaaDoor
open Go.RowKit Go.Shelf
/-- The loop's two blocks: its record r at l, its list of deferred calls, which stays empty, at d. -/
def Lp (l d : Nat) (r : Loop) (W : World) : Prop := W.heap[l]? = some (.loop r) ∧ W.heap[d]? = some (.deferred (some []))
theorem Lp.keep {l d B : Nat} {r : Loop} {A A' : World} (h : Lp l d r A) (hl : B ≤ l) (hd : B ≤ d) (hk : KeepsFrom B A A') : Lp l d r A' := ⟨hk.same l _ hl h.1 rfl, hk.same d _ hd h.2 rfl⟩
theorem Lp.turn {l d : Nat} {r : Loop} {A : World} (h : Lp l d r A) (hn : d ≠ l) (r' : Loop) : Lp l d r' (A.putObj l (.loop r')) :=
  ⟨World.putObj_heap_same (Array.getElem?_eq_some_iff.1 h.1).1, (World.putObj_heap_other hn).trans h.2⟩
/-- How a round's body may be left: it goes on (Z), or it leaves by a jump (X). -/
def postS (B : Nat) (Z : World → Prop) (X : Code → World → Prop) (W : World) : Exit → Act → World → Prop
  | .normal, _, W' => KeepsFrom B W W' ∧ Z W'
  | .ret, _, W' => KeepsFrom B W W' ∧ X .ret W'
  | .exit id, _, W' => KeepsFrom B W W' ∧ X (.exit id) W'
  | .goto t, _, W' => KeepsFrom B W W' ∧ X (.goto t) W'
  | .panic _, _, _ => False
  | .outgrown, _, _ => False
/-- What is kept where a block at or above B that holds no cells is turned. -/
def Abd (B : Nat) (p : World → Prop) : Prop := ∀ (A : World) (l : Nat) (o o' : Obj), p A → B ≤ l → A.heap[l]? = some o → o.isCells = false → p (A.putObj l o')
variable {F : Fence} {n : Nat} {P : Program}
/-- One round: the record is ready ahead of it, and again behind it, or done with a jump. -/
theorem round_on {l d B : Nat} {r : Loop} {x : Value} {W : World} {Y Z : World → Prop} {X : Code → World → Prop} {a₁ : Act} (hne : d ≠ l) (hBl : B ≤ l) (hBd : B ≤ d) (hst : r.state = .ready) (hps : r.params.size = 1) (hfn : F.fn r.fn)
    (hY : Abd B Y) (hZ : Abd B Z) (hX : ∀ c, Abd B (X c)) (hL : Lp l d r W) (hy : Y W)
    (hassign : ∀ K : Act → World → Prop, K a₁ W → r.assign.wpIn (F.inRound l) n P (Exit.then K (fun _ _ _ => False)) { tmps := (r.params.zip #[x]).foldl (fun t (p, v) => t.setIfInBounds p v) r.tmps, defers := [] } W)
    (hbody : ∀ V, Y V → r.body.wpIn (F.inRound l) n P (postS B Z X V) a₁ V) :
    YieldAt F n P l #[x] W fun e W' => (e = .returned (.bool true) ∧ Z W' ∧ Lp l d { r with state := .ready, pending := none } W') ∨ (e = .returned (.bool false) ∧ ∃ c, X c W' ∧ Lp l d { r with state := .done, pending := some c } W') := by
  refine ⟨r.fn, _, r.assign, r.body, run_yield (P := P) hL.1 hps.symm, roundIn_of_wpIn hfn (hassign _ ⟨_, run_beginRound hL.1 hst, ?_⟩)⟩
  have hB := hL.turn hne { r with state := .busy }
  refine wpIn_mono (hbody _ (hY W l _ _ hy hBl hL.1 rfl)) fun e a V hp => ?_
  cases e <;> first
    | exact hp.elim
    | (obtain ⟨hk, hz⟩ := hp
       have hv := hB.keep hBl hBd hk
       first
         | exact ⟨_, _, run_endRound (P := P) none hv.1, .inl ⟨rfl, hZ V l _ _ hz hBl hv.1 rfl, hv.turn hne _⟩⟩
         | exact ⟨_, _, run_endRound (P := P) (some _) hv.1, .inr ⟨rfl, _, hX _ V l _ _ hz hBl hv.1 rfl, hv.turn hne _⟩⟩)
theorem range_on {g : Operand} {ps : Array Tmp} {assign body : Code} {Q : Exit → Act → World → Prop} {a : Act} {w : World}
    (hro : F.round = none) (h1 : 1 ≤ n) {gf : Nat} {lb : Array Value} (hg : a.eval g = .func (.func gf) #[] lb) (hFg : F.fn gf) (eg : ∀ args w, (callFunc gf args).run P w = .ok (.enter gf args) w)
    (hps : ps.size = 1) (St : World → Prop) (Y Z : Nat → Value → World → Prop) (X : Code → World → Prop) (N : Nat)
    (hSt : ∀ A o, St A → St (A.alloc o)) (hY : ∀ k x, Abd w.heap.size (Y k x)) (hZ : ∀ k x, Abd w.heap.size (Z k x)) (hX : ∀ c, Abd w.heap.size (X c)) (h0 : St w)
    (hseq : ∀ (l : Nat) (R : World → Prop) (Rx : Code → World → Prop), (∀ A B, R A → KeepsFrom w.heap.size A B → R B) →
      (∀ k x W1, k < N → Y k x W1 → R W1 → YieldAt F (n - 1 - 1) P l #[x] W1 fun e W' => (e = .returned (.bool true) ∧ Z k x W' ∧ R W') ∨ (e = .returned (.bool false) ∧ ∃ c, X c W' ∧ Rx c W')) →
      ∀ W, St W → R W → CallsIn F (n - 1) P gf (#[.func (.yield l) #[] #[]] ++ lb) W fun e W' => (∃ v, e = .returned v) ∧ ∃ c, X c W' ∧ Rx c W')
    (a₁ : Value → Act)
    (hassign : ∀ (l : Nat) (k : Nat) (x : Value) (W : World) (K : Act → World → Prop), Y k x W → K (a₁ x) W →
      assign.wpIn (F.inRound l) (n - 1 - 1) P (Exit.then K (fun _ _ _ => False)) { tmps := (ps.zip #[x]).foldl (fun t (p, v) => t.setIfInBounds p v) a.tmps, defers := [] } W)
    (hbody : ∀ (l : Nat) (k : Nat) (x : Value) (W : World), k < N → Y k x W → body.wpIn (F.inRound l) (n - 1 - 1) P (postS w.heap.size (Z k x) X W) (a₁ x) W)
    (hstop : ∀ (D : Nat) (c : Code) (W : World), w.heap.size ≤ D → X c W → W.heap[D]? = some (.deferred (some [])) → c.wpIn F n P Q { a with defers := { target := .collected D, args := #[] } :: a.defers } W) :
    (Code.rangeFunc g ps assign body).wpIn F n P Q a w := by
  refine wpIn_rangeFunc fun fn hfn => ?_
  have e1 : w.heap.size ≤ w.heap.size + 1 := Nat.le_succ _
  have e2 : w.heap.size ≠ w.heap.size + 1 := Nat.ne_of_lt (Nat.lt_succ_self _)
  -- the record as the loop begins; the world that holds both blocks
  obtain ⟨r, hr⟩ : ∃ r : Loop, r = { state := .ready, pending := none, fn, tmps := a.tmps, params := ps, assign, body, defers := w.heap.size } := ⟨_, rfl⟩
  obtain ⟨V, hV⟩ : ∃ V, (w.alloc (.deferred (some []))).alloc (.loop r) = V := ⟨_, rfl⟩
  have hb : Lp (w.heap.size + 1) w.heap.size r V := by
    rw [← hV]
    constructor
    · have h := World.alloc_heap_new (w.alloc (.deferred (some []))) (.loop r)
      rwa [World.size_alloc] at h
    · exact (Below.heap_alloc _ _ _ (by simp)).trans (World.alloc_heap_new w _)
  have hs : St V := hV ▸ hSt _ _ (hSt _ _ h0)
  have hin : (Instr.enterLoop fn a.tmps ps assign body none).run P w = .ok (w.heap.size + 1, [{ target := .collected w.heap.size, args := #[] }]) V := by
    rw [← hV, hr]; exact run_enterLoop_outer _ _ _ _ _
  rw [hro]
  refine ⟨w.heap.size + 1, _, V, { target := .fn (.func gf) lb, args := #[.func (.yield (w.heap.size + 1)) #[] #[]] }, V, gf, #[.func (.yield (w.heap.size + 1)) #[] #[]] ++ lb, V, hin, ?_, fun f hf => ?_, ?_, fun _ => h1, ?_⟩
  · simp only [resolve, hg]; simp [go_sem]
  · simp [Target.leads] at hf; exact hf ▸ hFg
  · simp [invoke, go_sem, eg]
  refine (hseq (w.heap.size + 1) (Lp (w.heap.size + 1) w.heap.size r) (fun c => Lp (w.heap.size + 1) w.heap.size { r with state := .done, pending := some c }) (fun A B hA hk => hA.keep e1 (Nat.le_refl _) hk)
    (fun k x W hk hy hL => ?_) V hs hb).mono ?_
  · subst hr
    exact round_on (Y := Y k x) e2 e1 (Nat.le_refl _) rfl hps hfn (hY k x) (hZ k x) hX hL hy (fun K hK => hassign _ k x W K hy hK) (fun V hV => hbody _ k x V hk hV)
  rintro e W ⟨⟨v, rfl⟩, c, hx, hL⟩
  exact ⟨some c, _, run_endLoop (P := P) hL.1 (by simp), hstop _ c _ (Nat.le_refl _) (hX c W _ _ _ hx e1 hL.1 rfl) (hL.turn e2 _).2⟩
/-- Within a round of a loop a region that defers nothing goes as everywhere. -/
theorem lift_ops {l n : Nat} {P : Program} {ops : Array Oper} {Q : Exit → Act → World → Prop} (hnd : ∀ (i : Nat) (o : Oper), ops[i]? = some o → ∀ c, o.op ≠ .defer c) (hq : ¬ LetsOut Q) :
    ∀ (is : List Nat) (a : Act) (w : World), wpOps P ops Q is a w → wpOpsIn (Fence.wide.inRound l) n P ops Q is a w := by
  intro is
  induction is with
  | nil => exact fun a w h => h
  | cons i rest ih =>
    intro a w h
    simp only [wpOps, wpOpsIn] at h ⊢
    cases ho : ops[i]? with
    | none => simp only [ho] at h ⊢; exact ih _ _ h
    | some o =>
      simp only [ho] at h ⊢
      by_cases hw : Region.wanted o (yielded ops a.tmps) = true
      · simp only [hw, if_true] at h ⊢
        rcases h with h | ⟨_, h⟩
        · refine ⟨fun _ _ => trivial, ?_⟩
          rw [Oper.semAt_eq _ _ _ (hnd i o ho)]
          unfold Oper.wp at h
          generalize (execOp a.eval o).run P w = r at *
          cases r with
          | ok x w' =>
            cases x <;> simp only [Oper.upon, Oper.uponIn] at h ⊢
            case value => exact ih _ _ h
            case skip => exact ih _ _ h
            case defer => exact ih _ _ h
            case enter => exact ⟨fun e => (by cases e), CallsIn.inRound l (callsIn_wide.2 (Calls.mono h (fun e w'' he => by cases e <;> first | exact ih _ _ he | exact he)))⟩
            case row => exact ⟨fun e => (by cases e), fun c cs _ => let ⟨v, w', r, s⟩ := h c cs; ⟨v, w', ih _ _ r, stepsIn_wide.2 s⟩⟩
          | halt x w' => cases x <;> simp only [Oper.upon, Oper.uponIn] at h ⊢ <;> exact h
        · exact absurd h hq
      · simp only [hw, if_false, Bool.false_eq_true] at h ⊢
        exact ⟨fun _ _ => trivial, ih _ _ h⟩
def noDef (ops : Array Oper) : Bool := ops.all (fun o => match o.op with | .defer _ => false | _ => true)
theorem noDef_spec {ops : Array Oper} (h : noDef ops = true) (i : Nat) (o : Oper) (ho : ops[i]? = some o) : ∀ c, o.op ≠ .defer c := fun c e => by
  unfold noDef at h
  rw [Array.all_eq_true] at h
  obtain ⟨hi, rfl⟩ := Array.getElem?_eq_some_iff.1 ho
  have := h i hi
  rw [e] at this
  cases this
theorem region_lift {l n id : Nat} {P : Program} {ops : Array Oper} {Q : Exit → Act → World → Prop} {a : Act} {w : World} (hm : P.follows .mixedOrders = true) (hnd : ∀ (i : Nat) (o : Oper), ops[i]? = some o → ∀ c, o.op ≠ .defer c) (hq : ¬ LetsOut Q) (N : Nat) (fl : Array Bool) (hN : ops.size = N) (hf : Array.replicate N false = fl)
    (h : wpAny P .any ops Q N fl a w.drew) : (Code.region id ops true).wpIn (Fence.wide.inRound l) n P Q a w :=
  wpIn_region_draw fun t => lift_ops hnd hq _ _ _ (by
    subst hN
    subst hf
    simp only [Region.schedule, hm, Bool.true_or, if_true]
    exact wpAny_sound ops.size t _ a _ h)
end Go.Proofs.YtkmkbofokoimkaaDoor
