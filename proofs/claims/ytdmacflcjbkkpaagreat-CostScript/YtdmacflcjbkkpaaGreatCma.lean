/- The map of what is held, in memory; a ledger or none. -/
import Derived.Test.YtdmacflcjbkkpaaGreatCmp
import Derived.Test.YtdmacflcjbkkpaaGreatCvr
import Derived.Test.YtdmacflcjbkkpaaGreatJr
namespace Go.Proofs.YtdmacflcjbkkpaaGreat.Co
open Go.ChangeShapes Go.WideShapes Go.ChangeAt Go.RowKit Go.Maps
open Go.Proofs.YtdmacflcjbkkpaaGreat.Tb (Blk Blk.newAt put_all Kp.setCells)
theorem kint : Keyed Tryz.prog 3 := int_keyed Tryz.underlying3
theorem key_of {x : Int} (h : -9223372036854775808 ≤ x ∧ x ≤ 9223372036854775807) : keyOf Tryz.prog 3 (.int .i64 x) = some (kl x) :=
  keyOf_int_mk Tryz.underlying3 (WalkArith.wf_i64 h)
/-- The map in block g says what is held. -/
def MP (W : World) (g : Nat) (P : St) : Prop := ∃ D, W.ownsMap Tryz.prog 3 rdH g 64 D ∧ Says D P
theorem MP.lt {W : World} {g : Nat} {P : St} (h : MP W g P) : g < W.heap.size := by obtain ⟨D, ho, _⟩ := h; exact ho.lt
theorem MP.kept {W W' : World} {g : Nat} {P : St} {S : Nat → Prop} (h : MP W g P) (hk : Kp S W W') (hn : ¬ S g) : MP W' g P := by
  obtain ⟨D, ⟨es, clock, hb, F⟩, hs⟩ := h
  exact ⟨D, ⟨es, clock, (hk.block g (Array.getElem?_eq_some_iff.1 hb).1 hn).trans hb, F⟩, hs⟩
theorem MP.below {W W' : World} {g : Nat} {P : St} (h : MP W g P) (hb : Below W.heap.size W W') : MP W' g P := h.kept (Kp.of_below (fun _ => False) hb) id
theorem MP.ne {W : World} {g b : Nat} {P : St} {cs : List Value} {t : TypeId} (h : MP W g P) (hb : Blk W b cs t) : g ≠ b := by
  obtain ⟨D, ⟨es, clock, hg, _⟩, _⟩ := h
  intro e; subst e
  rw [show W.heap[g]? = _ from hb] at hg
  cases hg
theorem MP.new (W : World) : MP (W.alloc (.map #[] 0)) W.heap.size (fun _ => none) := ⟨_, (World.ownsMap_made W Tryz.prog 3 rdH).mono (Nat.zero_le _), Says.empty⟩
theorem Says.size {D : DataW Unit} {P : St} {W : World} {g n : Nat} (S : Says D P) (ho : W.ownsMap Tryz.prog 3 rdH g n D) : Maps.size D = cnt P := by
  obtain ⟨es, hD, hpw⟩ := S.tidy
  obtain ⟨es', hD', hko⟩ := ho.keysOf
  obtain rfl : es = es' := by rw [hD] at hD'; simpa using hD'
  have hp : ((hN P).map Int.ofNat).Perm (intKeys (.map es)) := by
    refine perm_intKeys hpw (fun p hp => by obtain ⟨v, hv⟩ := hko p hp; obtain ⟨x, _, hx, _⟩ := Maps.keyOf_i64 Tryz.underlying3 hv; exact ⟨x, hx⟩) (List.pairwise_map.2 ((hN_nodup P).imp (fun {a b} hne e => hne (Int.ofNat.inj e)))) (fun x => ?_)
    rw [← hD, S.has, List.mem_map]
    constructor
    · rintro ⟨i, hi, rfl⟩
      have := (hN_mem P i).1 hi
      rw [show (Int.ofNat i) = ((i : Nat) : Int) from rfl, hat_nat P this.1]
      exact this.2
    · intro h
      cases e : hat P x with
      | none => rw [e] at h; cases h
      | some y =>
        have := hat_of e
        exact ⟨x.toNat, (hN_mem P _).2 ⟨by omega, by rw [this.2.2]; rfl⟩, by show ((x.toNat : Nat) : Int) = x; omega⟩
  have := hp.length_eq
  rw [List.length_map] at this
  rw [hD]
  show es.length = (hN P).length
  rw [this]
  simp [intKeys]
theorem ownsMap_size {D : DataW Unit} {P : St} {W : World} {g n : Nat} (S : Says D P) (ho : W.ownsMap Tryz.prog 3 rdH g n D) : W.ownsMap Tryz.prog 3 rdH g 64 D := by
  have e := S.size ho
  have c := cnt_le P
  obtain ⟨es, clock, hb, F, hs, hD⟩ := ho
  refine ⟨es, clock, hb, F, ?_, hD⟩
  have e1 : Maps.size D = es.size := by rw [hD]; simp [Maps.size, length_sorted]
  omega
theorem hold0 (W : World) : (zeroValue 82).run Tryz.prog W = .ok (hv ⟨0, 0, 0, 0, 0⟩) W := by kernel_rfl
section
variable {W : World} {g : Nat} {P : St}
/-- What 'p.held[x]' gives. -/
theorem MP.look (h : MP W g P) {x : Int} (hx : -9223372036854775808 ≤ x ∧ x ≤ 9223372036854775807) (c : Bool) : (Instr.lookup 57 (.map (some g)) (.int .i64 x) c).run Tryz.prog W = .ok (if c then .tuple #[hv ((hat P x).getD h0), .bool (hat P x).isSome] else hv ((hat P x).getD h0)) W := by
  obtain ⟨D, ho, S⟩ := h
  have val : ∀ v ps, rdH v = some (D.atKey (kl x) (hD ⟨0, 0, 0, 0, 0⟩), ps) → v = hv ((hat P x).getD h0) := fun v ps e => by
    obtain ⟨y, rfl, ez⟩ := rdH_inv e
    have e1 := congrArg Prod.fst ez
    simp only at e1
    cases hh : hat P x with
    | none =>
      have : Maps.has D (kl x) = false := by rw [S.has, hh]; rfl
      rw [atKey_of_not_has this] at e1
      rw [hD_inj e1.symm]; rfl
    | some z =>
      rw [S.at_ x z _ hh] at e1
      rw [hD_inj e1.symm]; rfl
  cases c with
  | false =>
    obtain ⟨v, ps, hr, hv'⟩ := ho.lookup kint Tryz.underlying57 (hold0 W) (rdH_mk ⟨0, 0, 0, 0, 0⟩) (key_of hx)
    rw [val v ps hv'] at hr
    exact hr
  | true =>
    obtain ⟨v, ps, hr, hv'⟩ := ho.look_ok kint Tryz.underlying57 (hold0 W) (rdH_mk ⟨0, 0, 0, 0, 0⟩) (key_of hx)
    rw [val v ps hv', S.has] at hr
    exact hr
theorem MP.put (h : MP W g P) {i : Nat} (hi : i < 64) (y : He) : ∃ W', (Instr.mapUpdate 57 (.map (some g)) (.int .i64 i) (hv y)).run Tryz.prog W = .ok () W' ∧ MP W' g (upS P i (some y)) ∧ Kp (fun j => j = g) W W' := by
  obtain ⟨D, ho, S⟩ := h
  obtain ⟨W', hr, ho', hg⟩ := ho.update kint Tryz.underlying57 (by decide) (key_of (x := i) (by omega)) (rdH_mk y)
  exact ⟨W', hr, ⟨_, ownsMap_size (S.put hi y) ho', S.put hi y⟩, (Kp.of_grown hg).mono (fun k _ e => by cases e; rfl)⟩
theorem MP.drop (h : MP W g P) {i : Nat} (hi : i < 64) (ty : TypeId) : ∃ W', (Builtin.delete_ #[57, 3] ty #[.map (some g), .int .i64 i]).run Tryz.prog W = .ok (.tuple #[]) W' ∧ MP W' g (upS P i none) ∧ Kp (fun j => j = g) W W' := by
  obtain ⟨D, ho, S⟩ := h
  obtain ⟨W', hr, ho', hg⟩ := ho.drop kint Tryz.underlying57 (key_of (x := i) (by omega)) ty
  exact ⟨W', hr, ⟨_, ownsMap_size (S.del hi) ho', S.del hi⟩, (Kp.of_grown hg.grown).mono (fun k _ e => by cases e; rfl)⟩
theorem MP.len (h : MP W g P) (ty : TypeId) : (Builtin.len_ #[57] ty #[.map (some g)]).run Tryz.prog W = .ok (.int .i64 (cnt P)) W := by
  obtain ⟨D, ho, S⟩ := h
  rw [← S.size ho]
  exact ho.len Tryz.underlying57 ty
end
end Go.Proofs.YtdmacflcjbkkpaaGreat.Co
