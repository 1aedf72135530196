/- Held: the handles that are held, rising. -/
import Derived.Test.YtdmacflcjbkkpabGreatChl
import Derived.Test.YtdmacflcjbkkpabGreatCnw
namespace Go.Proofs.YtdmacflcjbkkpabGreat.Co
open Go.ChangeShapes Go.WideShapes Go.ChangeAt Go.RowKit Go.Maps Go.Sort Go.Shelf
open Go.Proofs.YtdmacflcjbkkpabGreat.Tb (Blk)
theorem sortsA (m : Nat) : AnyZI.SortsIn Tryz.prog sortedA_ren Fence.wide m :=
  ⟨fun blk off cap ss W hH hblk hsz => callsIn_wide.2 (AnyM.slices_Sort_int sortA blk off cap ss W hH hblk hsz),
   fun p cap W => callsIn_wide.2 (AnyM.slices_Sort_int_none sortA p cap W)⟩
theorem Says.keys {D : DataW Unit} {P : St} {W : World} {g n : Nat} (S : Says D P) (ho : W.ownsMap Tryz.prog 3 rdH g n D) : ((hN P).map Int.ofNat).Perm (intKeys D) := by
  obtain ⟨es, hD, hpw⟩ := S.tidy
  obtain ⟨es', hD', hko⟩ := ho.keysOf
  obtain rfl : es = es' := by rw [hD] at hD'; simpa using hD'
  rw [hD]
  refine perm_intKeys hpw (fun p hp => by obtain ⟨v, hv⟩ := hko p hp; obtain ⟨x, _, hx, _⟩ := Maps.keyOf_i64 Tryz.underlying3 hv; exact ⟨x, hx⟩) (List.pairwise_map.2 ((hN_nodup P).imp (fun {a b} hne e => hne (Int.ofNat.inj e)))) (fun x => ?_)
  rw [← hD, S.has, List.mem_map]
  constructor
  · rintro ⟨i, hi, rfl⟩
    have := (hN_mem P i).1 hi
    rw [show (Int.ofNat i) = ((i : Nat) : Int) from rfl, hat_nat P this.1]
    exact this.2
  · intro h
    cases e : hat P x with
    | none => rw [e] at h; cases h
    | some y =>
      have := hat_of e
      exact ⟨x.toNat, (hN_mem P _).2 ⟨by omega, by rw [this.2.2]; rfl⟩, by show ((x.toNat : Nat) : Int) = x; omega⟩
theorem hN_rise (P : St) : ((hN P).map Int.ofNat).mergeSort leI = (hN P).map Int.ofNat := by
  refine List.mergeSort_of_pairwise (List.pairwise_map.2 ?_)
  have h : (hN P).Pairwise (· < ·) := List.pairwise_lt_range.filter _
  exact h.imp (fun {a b} hab => by simp only [leI, decide_eq_true_eq]; exact Int.ofNat_le.2 (Nat.le_of_lt hab))
theorem keys_c (mb : Option Nat) (W : World) : Calls Tryz.prog 20 #[.map mb] W fun e w' => e = .returned (.func (.func 46) #[] #[.pointer (some ⟨W.heap.size, 0, none⟩)]) ∧ w' = W.alloc (.cells #[.map mb] 42) :=
  (callsIn_wide (n := 5)).1 (AnyZI.keys_in keysA Fence.wide 5 trivial rfl mb W)
theorem sorted_c {P : St} (g : Nat) (w : World) (hm : MP w g P) : Calls Tryz.prog 19 #[.func (.func 46) #[] #[.pointer (some ⟨w.heap.size, 0, none⟩)]] (w.alloc (.cells #[.map (some g)] 42)) fun e w' => ∃ v, e = .returned v ∧ w'.ownsRow w.heap.size 3 1 v (cnt P) ((hN P).map (fun (i : Nat) => .int .i64 (i : Int))) ∧ Below w.heap.size w w' := by
  obtain ⟨D, hown, hs⟩ := hm
  have hbl := hown.lt
  have hsz := hs.size hown
  have hc := cnt_le P
  have hseq : SeqGives Fence.wide 2 Tryz.prog 46 #[.pointer (some ⟨w.heap.size, 0, none⟩)] encZ (fun ss => ss.Perm (intKeys D)) (Maps.size D) (w.alloc (.cells #[.map (some g)] 42)) :=
    AnyZI.keys_gives (ρ := keysA_ren) { keysA with } Fence.wide _ trivial rfl (by omega) w.heap.size g 64 D _ (by simp) (by simp) (by
      obtain ⟨es, clock, hb, Ft, hs, hD⟩ := hown
      exact ⟨es, clock, (Below.heap_alloc _ _ g hbl).trans hb, Ft, hs, hD⟩)
  have cS := AnyZI.sorted_in sortedA Fence.wide 5 trivial trivial trivial trivial rfl (by omega) (sortsA _) (enters_of Tryz.func45 (by kernel_rfl) rfl) 46 #[.pointer (some ⟨w.heap.size, 0, none⟩)] trivial (enters_of Tryz.func46 (by kernel_rfl) rfl) _ _ (by rw [hsz]; unfold maxLen; omega) (by rw [hsz]; omega) _ hseq
  change CallsIn _ _ Tryz.prog 19 _ _ _ at cS
  refine ((callsIn_wide (n := 5)).1 cS).mono ?_
  rintro e w' ⟨v, ss, rfl, hS, hrow, hnil, hb⟩
  have e1 : ss.mergeSort leI = (hN P).map Int.ofNat := by rw [mergeSort_of_perm_i (hS.trans (hs.keys hown).symm), hN_rise]
  have e2 : ss.length = cnt P := by rw [← List.length_mergeSort (le := leI), e1, List.length_map]; rfl
  have e1' : (ss.mergeSort fun x y => decide (x ≤ y)) = (hN P).map Int.ofNat := e1
  rw [e1', e2, List.map_map] at hrow
  refine ⟨v, rfl, ownsRow_base_a hrow (show w.heap.size ≤ (w.alloc (.cells #[.map (some g)] 42)).heap.size by simp), ((Below.refl _ w).alloc (Nat.le_refl _) _).trans (hb.mono (show w.heap.size ≤ (w.alloc (.cells #[.map (some g)] 42)).heap.size by simp))⟩
set_option maxRecDepth 8000 in
set_option maxHeartbeats 1600000 in
theorem held_ok (p gm gk : Nat) (P : St) (w : World) (hp : PU w p gm gk P) : Calls Tryz.prog 10 #[.pointer (some ⟨p, 0, none⟩)] w fun e w' => ∃ v, e = .returned v ∧ w'.ownsRow w.heap.size 3 1 v (cnt P) ((hN P).map (fun (i : Nat) => .int .i64 (i : Int))) ∧ Below w.heap.size w w' := by
  have x0 := hp.c0
  have HN := hid (isNone_no p gm gk P w hp)
  have HS := hid (sorted_c gm w hp.map)
  clear hp
  go_enter Tryz.func10, Tryz.ntmps10
  go_wp2_with fail
  refine HN.out.mono ?_
  rintro e w' ⟨rfl, rfl⟩
  go_wp2_with fail
  refine (keys_c _ _).mono ?_
  rintro e w2 ⟨rfl, rfl⟩
  go_wp2_with fail
  refine HS.out.mono ?_
  rintro e w3 ⟨v, rfl, hr, hb⟩
  have HR := hid hr
  have HB := hid hb
  clear hr hb
  go_wp2
  go_ret
  exact ⟨v, rfl, HR.out, HB.out⟩
end Go.Proofs.YtdmacflcjbkkpabGreat.Co
