/- Rows are a ledger's (pure): no two neighbours alike, every count 1 or more; lists of operations. -/
import Derived.Test.YtdmacflcjbkkpaaCrb
namespace Go.Proofs.Ytdmacflcjbkkpaa.Co
open Go.Proofs.Ytdmacflcjbkkpaa.Ou (Sk cn cn_b bd bd_96)
/-- Two runs of unlike events. -/
def Ul (r q : Ru) : Prop := ¬ (r.k = q.k ∧ r.s = q.s)
/-- No two neighbours alike. -/
def Nb : List Ru → Prop
  | [] => True
  | [_] => True
  | r :: q :: l => Ul r q ∧ Nb (q :: l)
/-- All counts are 1 or more. -/
def Po (l : List Ru) : Prop := ∀ r ∈ l, 1 ≤ r.c
/-- Kinds go up: no two of them are alike. -/
def Up : List Ru → Prop
  | [] => True
  | [_] => True
  | r :: q :: l => r.k < q.k ∧ Up (q :: l)
theorem up_nb : ∀ l : List Ru, Up l → Nb l
  | [], _ => trivial
  | [_], _ => trivial
  | r :: q :: l, h => ⟨fun e => by have := h.1; omega, up_nb (q :: l) h.2⟩
theorem flt_po (l : List Ru) : Po (flt l) := fun r hr => by
  unfold flt at hr
  have := (List.mem_filter.1 hr).2
  simpa using this
/-- All kinds are between two. -/
def Bt (a b : Int) (l : List Ru) : Prop := ∀ r ∈ l, a ≤ r.k ∧ r.k ≤ b
theorem up_all {l : List Ru} : Up l ↔ l.Pairwise (fun r q => r.k < q.k) := by
  induction l with
  | nil => simp [Up]
  | cons r l ih =>
    cases l with
    | nil => simp [Up]
    | cons q l =>
      simp only [Up]
      rw [ih]
      constructor
      · intro h
        refine List.pairwise_cons.2 ⟨fun x hx => ?_, h.2⟩
        rcases List.mem_cons.1 hx with rfl | hx
        · exact h.1
        · have := (List.pairwise_cons.1 h.2).1 x hx
          have := h.1
          omega
      · intro h
        exact ⟨(List.pairwise_cons.1 h).1 q (by simp), (List.pairwise_cons.1 h).2⟩
theorem flt_up {l : List Ru} (h : Up l) : Up (flt l) := up_all.2 ((up_all.1 h).filter _)
theorem flt_bt {a b : Int} {l : List Ru} (h : Bt a b l) : Bt a b (flt l) := fun r hr => h r (List.mem_filter.1 hr).1
theorem ek_b (a : Int) : 1 ≤ ek a ∧ ek a ≤ 2 := by unfold ek; split <;> omega
theorem bgE_up (h : He) : Up (bgE h) ∧ Bt 1 5 (bgE h) := by
  have e := ek_b h.alg
  unfold bgE
  split
  · exact ⟨trivial, fun r hr => by simp only [List.mem_singleton] at hr; subst hr; show 1 ≤ ek h.alg ∧ ek h.alg ≤ 5; omega⟩
  · split
    · refine ⟨⟨by show (4 : Int) < 5; decide, trivial⟩, fun r hr => ?_⟩
      simp only [List.mem_cons, List.not_mem_nil, or_false] at hr
      rcases hr with rfl | rfl
      · show (1 : Int) ≤ 4 ∧ (4 : Int) ≤ 5; decide
      · show (1 : Int) ≤ 5 ∧ (5 : Int) ≤ 5; decide
    · exact ⟨trivial, fun r hr => by simp only [List.mem_singleton] at hr; subst hr; show (1 : Int) ≤ 3 ∧ (3 : Int) ≤ 5; decide⟩
theorem tlE_up (h : He) (n : Int) : Up (tlE h n) ∧ Bt 1 5 (tlE h n) := by
  have e := ek_b h.alg
  unfold tlE
  split
  · exact ⟨trivial, fun r hr => by simp only [List.mem_singleton] at hr; subst hr; show 1 ≤ ek h.alg ∧ ek h.alg ≤ 5; omega⟩
  · split
    · exact ⟨trivial, fun r hr => by simp only [List.mem_singleton] at hr; subst hr; show (1 : Int) ≤ 5 ∧ (5 : Int) ≤ 5; decide⟩
    · exact ⟨trivial, fun r hr => by simp only [List.mem_singleton] at hr; subst hr; show (1 : Int) ≤ 3 ∧ (3 : Int) ≤ 5; decide⟩
theorem smE_one (h : He) : ∃ r : Ru, smE h = [r] ∧ 1 ≤ r.k ∧ r.k ≤ 5 := by
  have e := ek_b h.alg
  unfold smE
  split
  · exact ⟨_, rfl, by show 1 ≤ ek h.alg; omega, by show ek h.alg ≤ 5; omega⟩
  · split
    · exact ⟨_, rfl, by show (1 : Int) ≤ 5; decide, by show (5 : Int) ≤ 5; decide⟩
    · exact ⟨_, rfl, by show (1 : Int) ≤ 3; decide, by show (3 : Int) ≤ 5; decide⟩
/-- What lies between EvOp and EvCode: kinds go up, none of them is EvOp or EvCode. -/
theorem mid_up (s : Sk) (h : He) : Up (mid s h) ∧ Bt 1 8 (mid s h) := by
  have wid : ∀ l : List Ru, Bt 1 5 l → Bt 1 8 l := fun l b r hr => by have := b r hr; omega
  have e := ek_b s.a
  obtain ⟨r, er, r0, r1⟩ := smE_one h
  unfold mid
  split
  · have b := bgE_up ⟨h.key, s.a, s.o, s.d, 0⟩
    exact ⟨b.1, wid _ b.2⟩
  split
  · have b := tlE_up h s.d
    exact ⟨b.1, wid _ b.2⟩
  split
  · rw [er]
    refine ⟨⟨by show r.k < 8; omega, trivial⟩, fun x hx => ?_⟩
    simp only [List.cons_append, List.nil_append, List.mem_cons, List.not_mem_nil, or_false] at hx
    rcases hx with rfl | rfl
    · omega
    · show (1 : Int) ≤ 8 ∧ (8 : Int) ≤ 8; decide
  split
  · rw [er]
    refine ⟨⟨by show r.k < 6; omega, by show (6 : Int) < 8; decide, trivial⟩, fun x hx => ?_⟩
    simp only [List.cons_append, List.nil_append, List.mem_cons, List.not_mem_nil, or_false] at hx
    rcases hx with rfl | rfl | rfl
    · omega
    · show (1 : Int) ≤ 6 ∧ (6 : Int) ≤ 8; decide
    · show (1 : Int) ≤ 8 ∧ (8 : Int) ≤ 8; decide
  split
  · exact ⟨trivial, fun x hx => by simp only [List.mem_singleton] at hx; subst hx; show 1 ≤ ek s.a ∧ ek s.a ≤ 8; omega⟩
  split
  · exact ⟨trivial, fun x hx => by simp only [List.mem_singleton] at hx; subst hx; show 1 ≤ ek s.a ∧ ek s.a ≤ 8; omega⟩
  split
  · exact ⟨trivial, fun x hx => by simp only [List.mem_singleton] at hx; subst hx; show (1 : Int) ≤ 8 ∧ (8 : Int) ≤ 8; decide⟩
  · exact ⟨trivial, fun x hx => by cases hx⟩
theorem nb_frame {a z : Ru} {l : List Ru} (ha : a.k = 11) (hz : z.k = 12) (u : Nb l) (b : Bt 1 8 l) : Nb (a :: l ++ [z]) := by
  have tail : ∀ l : List Ru, Nb l → Bt 1 8 l → Nb (l ++ [z]) := by
    intro l
    induction l with
    | nil => intro _ _; trivial
    | cons r l ih =>
      intro u b
      cases l with
      | nil => exact ⟨fun e => by have := b r (by simp); omega, trivial⟩
      | cons q l => exact ⟨u.1, ih u.2 (fun x hx => b x (by simp [hx]))⟩
  cases l with
  | nil => exact ⟨fun e => by omega, trivial⟩
  | cons r l => exact ⟨fun e => by have := b r (by simp); omega, tail (r :: l) u b⟩
/-- A row is what a ledger could tell. -/
theorem row_ok (P : St) (s : Sk) : Nb (row P s) ∧ Po (row P s) := by
  have m := mid_up (clp s) ((hat P s.h).getD h0)
  have q := flt_po (mid (clp s) ((hat P s.h).getD h0))
  have f : ∀ l : List Ru, Po l → Po (⟨11, s.k, 1⟩ :: l ++ [⟨12, cod P (clp s), 1⟩]) := fun l h r hr => by
    simp only [List.cons_append, List.mem_cons, List.mem_append, List.not_mem_nil, or_false] at hr
    rcases hr with rfl | hr | rfl
    · show (1 : Int) ≤ 1; decide
    · exact h r hr
    · show (1 : Int) ≤ 1; decide
  unfold row
  split
  · exact ⟨nb_frame rfl rfl (up_nb _ (flt_up m.1)) (flt_bt m.2), f _ q⟩
  · exact ⟨nb_frame rfl rfl trivial (fun x hx => by cases hx), f _ (fun x hx => by cases hx)⟩
/-- The state behind a list of operations. -/
def aft (P : St) : List Sk → St
  | [] => P
  | s :: l => aft (stp P s) l
/-- Each operation's row, from a state on. -/
def rws (P : St) : List Sk → List (List Ru)
  | [] => []
  | s :: l => row P s :: rws (stp P s) l
/-- Each operation's code, from a state on. -/
def cds (P : St) : List Sk → List Int
  | [] => []
  | s :: l => cod P (clp s) :: cds (stp P s) l
theorem rws_len (l : List Sk) : ∀ P : St, (rws P l).length = l.length := by
  induction l with
  | nil => intro P; rfl
  | cons s l ih => intro P; simp only [rws, List.length_cons, ih]
theorem cds_len (l : List Sk) : ∀ P : St, (cds P l).length = l.length := by
  induction l with
  | nil => intro P; rfl
  | cons s l ih => intro P; simp only [cds, List.length_cons, ih]
theorem aft_snoc (l : List Sk) : ∀ (P : St) (s : Sk), aft P (l ++ [s]) = stp (aft P l) s := by
  induction l with
  | nil => intro P s; rfl
  | cons t l ih => intro P s; exact ih _ _
theorem rws_snoc (l : List Sk) : ∀ (P : St) (s : Sk), rws P (l ++ [s]) = rws P l ++ [row (aft P l) s] := by
  induction l with
  | nil => intro P s; rfl
  | cons t l ih => intro P s; simp only [List.cons_append, rws, aft, ih]
theorem cds_snoc (l : List Sk) : ∀ (P : St) (s : Sk), cds P (l ++ [s]) = cds P l ++ [cod (aft P l) (clp s)] := by
  induction l with
  | nil => intro P s; rfl
  | cons t l ih => intro P s; simp only [List.cons_append, cds, aft, ih]
theorem rws_take (l : List Sk) : ∀ (P : St) (n : Nat), rws P (l.take n) = (rws P l).take n ∧ cds P (l.take n) = (cds P l).take n := by
  induction l with
  | nil => intro P n; simp [rws, cds]
  | cons t l ih =>
    intro P n
    cases n with
    | zero => exact ⟨rfl, rfl⟩
    | succ n =>
      have := ih (stp P t) n
      simp only [List.take_succ_cons, rws, cds, this, and_self]
theorem aft_ok {P : St} (h : P.Ok) (l : List Sk) : (aft P l).Ok := by
  induction l generalizing P with
  | nil => exact h
  | cons s l ih => exact ih (stp_ok h s)
/-- Each message has at most so many bytes. -/
def Mg (b : Int) (P : St) : Prop := ∀ i h, P i = some h → h.msg ≤ b
theorem mg_up {b : Int} {P : St} (h : Mg b P) (i : Nat) {x : Option He} (hx : ∀ h, x = some h → h.msg ≤ b) : Mg b (upS P i x) := by
  intro j h' e
  unfold upS at e
  split at e
  · exact hx h' e
  · exact h j h' e
theorem mg_hat {b : Int} {P : St} (h : Mg b P) {i : Int} {x : He} (e : hat P i = some x) : x.msg ≤ b := by
  unfold hat at e
  split at e
  · exact h _ _ e
  · cases e
theorem mg_stp {b : Int} {P : St} (hb : 0 ≤ b) (h : Mg b P) (s : Sk) : Mg (b + 65536) (stp P s) := by
  have w : Mg (b + 65536) P := fun i x e => by have := h i x e; omega
  unfold stp
  split
  · rename_i e0
    have F := fine_of e0
    have g0 : ((hat P (clp s).h).getD h0).msg ≤ b := by
      cases hh : hat P (clp s).h with
      | none => exact hb
      | some x => exact mg_hat h hh
    unfold nxt
    simp only
    split
    · rename_i k3
      cases F with
      | put k d f => omega
      | on x ex k c f =>
        have b3 := fit_three k3 c
        refine mg_up w _ (fun g eg => ?_)
        simp only [Option.some.injEq] at eg
        subst eg
        show ((hat P (clp s).h).getD h0).msg + (clp s).d ≤ b + 65536
        omega
    split
    · exact mg_up w _ (fun g eg => by cases eg)
    split
    · refine mg_up w _ (fun g eg => ?_)
      simp only [Option.some.injEq] at eg
      subst eg
      unfold hel
      split
      · show (0 : Int) ≤ b + 65536; omega
      split
      · show (0 : Int) ≤ b + 65536; omega
      split
      · omega
      · show (0 : Int) ≤ b + 65536; omega
    · exact w
  · exact w
theorem mg_aft {P : St} (l : List Sk) {b : Int} (hb : 0 ≤ b) (h : Mg b P) : Mg (b + 65536 * l.length) (aft P l) := by
  induction l generalizing P b with
  | nil => simpa [aft] using h
  | cons s l ih =>
    have := ih (b := b + 65536) (by omega) (mg_stp hb h s)
    have e : b + 65536 * ((s :: l).length : Int) = b + 65536 + 65536 * (l.length : Int) := by rw [List.length_cons]; omega
    rw [e]
    exact this
end Go.Proofs.Ytdmacflcjbkkpaa.Co
