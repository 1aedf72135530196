/- A region that draws its order and whose calls write: all answers are known ahead, the world goes by which operations are done. -/
import Derived.Test.YtpcnkiapbkmjbaaXgr
namespace Go.Proofs.Ytpcnkiapbkmjbaa.Xr
open Go.ChangeShapes Go.WideShapes Go.ChangeAt Go.RowKit
/-- What holds while some operations are done. -/
structure RJ (ops : Array Oper) (vals : Nat → Value) (Inv : Array Bool → World → Prop) (a0 : Act) (listed : Array Bool) (a : Act) (w : World) : Prop where
  inv : Inv listed w
  cl : ∀ (i : Nat) (o : Oper), ops[i]? = some o → listed.getD i false = true → ∀ e ∈ o.after, Region.binds .any e = true → listed.getD e.on false = true
  dfr : a.defers = a0.defers
  size : a.tmps.size = a0.tmps.size
  keep : ∀ t, (∀ i, dstOf ops i ≠ some t) → a.tmps[t]? = a0.tmps[t]?
  done : ∀ i d, listed.getD i false = true → dstOf ops i = some d → a.tmps[d]? = some (vals i)
  llen : listed.size = ops.size
section
variable {P : Program} {ops : Array Oper} {Q : Exit → Act → World → Prop} {vals : Nat → Value} {Inv : Array Bool → World → Prop} {w0 : World} {a0 : Act}
/-- The same without the world. -/
theorem RJ.ri {listed : Array Bool} {a : Act} {w : World} (h : RJ ops vals Inv a0 listed a w) : RI ops (fun i v _ => v = vals i) w a0 listed a w :=
  ⟨Below.refl _ _, h.dfr, h.size, h.keep, fun i d h1 h2 => ⟨_, h.done i d h1 h2, rfl⟩, h.llen⟩
theorem getD_same {listed : Array Bool} {i : Nat} (h : i < listed.size) : (listed.setIfInBounds i true).getD i false = true := by simp [h]
theorem getD_mono {listed : Array Bool} {i j : Nat} (h : listed.getD j false = true) : (listed.setIfInBounds i true).getD j false = true := by
  by_cases e : i = j
  · subst e
    refine getD_same ?_
    by_cases hl : i < listed.size
    · exact hl
    · simp [hl] at h
  · rw [getD_set_ne false e]; exact h
theorem RJ.step {listed : Array Bool} {a : Act} {w w' : World} {i : Nat} {o : Oper} {v : Value} (h : RJ ops vals Inv a0 listed a w) (hi : ops[i]? = some o) (hb : Inv (listed.setIfInBounds i true) w') (hv : ∀ d, o.dst = some d → v = vals i)
    (hdep : ∀ e ∈ o.after, Region.binds .any e = true → listed.getD e.on false = true)
    (hnd : ∀ i j d, dstOf ops i = some d → dstOf ops j = some d → i = j) (hsz : ∀ i d, dstOf ops i = some d → d < a0.tmps.size) :
    RJ ops vals Inv a0 (listed.setIfInBounds i true) (a.put o.dst v) w' := by
  have hd : dstOf ops i = o.dst := by unfold dstOf; rw [hi]; rfl
  refine ⟨hb, fun j p hj hl e he hbi => ?_, by rw [put_defers]; exact h.dfr, by rw [put_size]; exact h.size, fun t ht => ?_, fun j d hj hjd => ?_, by rw [Array.size_setIfInBounds]; exact h.llen⟩
  · by_cases e2 : j = i
    · subst e2
      rw [hi] at hj
      cases hj
      exact getD_mono (hdep e he hbi)
    · exact getD_mono (h.cl j p hj (getD_new hl e2) e he hbi)
  · rw [put_get a o.dst v t (by rw [← hd]; exact ht i)]
    exact h.keep t ht
  · by_cases e : j = i
    · subst e
      have e2 : o.dst = some d := hd.symm.trans hjd
      rw [e2, hv d e2]
      exact put_same a d (vals j) (by rw [h.size]; exact hsz j d hjd)
    · rw [put_get a o.dst v d (fun x => e (hnd j i d hjd (hd.trans x)))]
      exact h.done j d (getD_new hj e) hjd
theorem any_relJ (hnd : ∀ i j d, dstOf ops i = some d → dstOf ops j = some d → i = j) (hsz : ∀ i d, dstOf ops i = some d → d < a0.tmps.size)
    (hord : ∀ (i : Nat) (o : Oper), ops[i]? = some o → ∀ e ∈ o.after, e.on < i)
    (hstep : ∀ (i : Nat) (o : Oper), ops[i]? = some o → ∀ listed a w, RJ ops vals Inv a0 listed a w → listed.getD i false = false → (∀ e ∈ o.after, Region.binds .any e = true → listed.getD e.on false = true) → ∀ K : Act → World → Prop, (∀ v w', Inv (listed.setIfInBounds i true) w' → (∀ d, o.dst = some d → v = vals i) → K (a.put o.dst v) w') → if Region.wanted o (yielded ops a.tmps) = true then o.wp P a w K Q else K (a.put o.dst undef) w)
    (hend : ∀ listed a w, RJ ops vals Inv a0 listed a w → (∀ i, i < ops.size → listed.getD i false = true) → Q .normal a w) :
    ∀ (fuel : Nat) (listed : Array Bool) (a : Act) (w : World), left ops.size listed ≤ fuel → RJ ops vals Inv a0 listed a w → wpAny P .any ops Q fuel listed a w
  | 0, listed, a, w, hf, h => by
    have hr : Region.ready .any ops listed = [] := by
      cases e : Region.ready .any ops listed with
      | nil => rfl
      | cons x xs =>
        have hx : x ∈ Region.ready .any ops listed := by rw [e]; simp
        obtain ⟨h0, o, ho, _⟩ := mem_ready.1 hx
        have hlt : x < ops.size := (Array.getElem?_eq_some_iff.1 ho).1
        have := left_step hlt h.llen h0
        omega
    exact ⟨hr, hend listed a w h (all_done h.llen hord hr)⟩
  | fuel + 1, listed, a, w, hf, h => by
    refine ⟨fun hr => hend listed a w h (all_done h.llen hord hr), fun i hi => ?_⟩
    obtain ⟨h0, o, ho, hdep⟩ := mem_ready.1 hi
    have hlt : i < ops.size := (Array.getElem?_eq_some_iff.1 ho).1
    have hl := left_step hlt h.llen h0
    have hf0 : listed.getD i false = false := by
      have hll : i < listed.size := by rw [h.llen]; exact hlt
      simp [hll] at h0 ⊢
      exact h0
    refine wpOp_step ho (fun K' hK => hstep i o ho listed a w h hf0 hdep _ (fun v w' hb hv => hK _ _ (any_relJ hnd hsz hord hstep hend fuel _ _ _ (by omega) (h.step ho hb hv hdep hnd hsz))))
theorem region_okJ {id : Nat} (hm : P.follows .mixedOrders = true) (hok : okG ops a0.tmps.size = true) (h0 : Inv (Array.replicate ops.size false) (w0.drewN 1))
    (hstep : ∀ (i : Nat) (o : Oper), ops[i]? = some o → ∀ listed a w, RJ ops vals Inv a0 listed a w → listed.getD i false = false → (∀ e ∈ o.after, Region.binds .any e = true → listed.getD e.on false = true) → ∀ K : Act → World → Prop, (∀ v w', Inv (listed.setIfInBounds i true) w' → (∀ d, o.dst = some d → v = vals i) → K (a.put o.dst v) w') → if Region.wanted o (yielded ops a.tmps) = true then o.wp P a w K Q else K (a.put o.dst undef) w)
    (hend : ∀ listed a w, RJ ops vals Inv a0 listed a w → (∀ i, i < ops.size → listed.getD i false = true) → Q .normal a w) : (Code.region id ops true).wp P Q a0 w0 :=
  wp_region_any hm (any_relJ (vals := vals) (Inv := Inv) (a0 := a0) (fun i j d hi hj => by
    obtain ⟨o, ho, hd⟩ := dst_inv hi
    exact ((okG_spec hok ho).2 d hd).2 j hj) (fun i d hi => by
    obtain ⟨o, ho, hd⟩ := dst_inv hi
    exact ((okG_spec hok ho).2 d hd).1) (fun i o ho => (okG_spec hok ho).1) hstep hend ops.size _ a0 _ (by
    unfold left
    have := List.length_filter_le (fun i => !(Array.replicate ops.size false).getD i true) (List.range ops.size)
    rwa [List.length_range] at this) ⟨h0, fun i o _ h _ _ _ => by
      exfalso
      by_cases hi : i < ops.size
      · simp [hi] at h
      · simp [hi] at h, rfl, rfl, fun _ _ => rfl, fun i d h _ => by
      exfalso
      by_cases hi : i < ops.size
      · simp [hi] at h
      · simp [hi] at h, by simp⟩)
end
end Go.Proofs.Ytpcnkiapbkmjbaa.Xr
