/- Two beginnings whose lists are of the same lengths are alike; the statements' helper other. -/
import Derived.Test.YtpohogpkfdebdaaGreatDoorOd
import Derived.Test.YtpohogpkfdebdaaGreatDoorOa
import Derived.Test.YtpohogpkfdebdaaGreatDoorOe
namespace Go.Proofs.YtpohogpkfdebdaaGreatDoor.Oc
open Go.ChangeShapes Go.WideShapes Go.ChangeAt Go.RowKit
open Go.Proofs.YtpohogpkfdebdaaGreatDoor.By
theorem bz_like (r a c : Nat) (f h h' : Nat → Int) (hr : 0 < r) : (Kc.bz r a f c h).p = (Kc.bz r a f c h').p ∧ (Kc.bz r a f c h).c = (Kc.bz r a f c h').c ∧ (Kc.bz r a f c h).p < r := by
  unfold Kc.bz
  split
  · exact ⟨rfl, rfl, hr⟩
  · have e := Kc.ins_count (r := r) (z := Kc.zz) hr
    exact ⟨by rw [(e _ _).2, (e _ _).2], by rw [(e _ _).1, (e _ _).1], by rw [(e _ _).2]; exact Nat.mod_lt _ hr⟩
theorem kz_like (r a c : Nat) (f f' h h' : Nat → Int) (hr : 0 < r) : (Kc.kz r a f c h).p = (Kc.kz r a f' c h').p ∧ (Kc.kz r a f c h).c = (Kc.kz r a f' c h').c := by
  unfold Kc.kz
  obtain ⟨h1, h2, h3⟩ := bz_like r 4 c Kc.kmc h h' hr
  have h3' := (bz_like r 4 c Kc.kmc h' h hr).2.2
  exact ⟨by rw [(Kc.ins_count h3 _ _).2, (Kc.ins_count h3' _ _).2, h1], by rw [(Kc.ins_count h3 _ _).1, (Kc.ins_count h3' _ _).1, h1, h2]⟩
theorem eB_like (a n : Nat) (g g' : Nat → Int) (c : Nat) (h h' : Nat → Int) (L : List Rn) : eB a n g c h L = eB a n g' c h' L := by
  unfold eB
  rw [(kz_like 168 n c g g' h h' (by decide)).2, (kz_like 136 n c g g' h h' (by decide)).2]
theorem px0_like (a n : Nat) (g g' : Nat → Int) (c : Nat) (h h' : Nat → Int) (q : Nat) : PX.Alike (px0 a n g c h q) (px0 a n g' c h' q) := by
  have e1 := (kz_like 168 n c g g' h h' (by decide)).1
  have e2 := (kz_like 136 n c g g' h h' (by decide)).1
  unfold px0
  split
  · exact ⟨rfl, rfl⟩
  split
  · exact ⟨rfl, rfl⟩
  split
  · exact ⟨rfl, rfl⟩
  split
  · exact ⟨rfl, e1, rfl, rfl⟩
  split
  · exact ⟨rfl, e2, rfl, rfl⟩
  split
  · exact ⟨rfl, e1, rfl, rfl⟩
  · exact ⟨rfl, e2, rfl, rfl⟩
theorem px0_ml1 (a n : Nat) (g : Nat → Int) (c : Nat) (h : Nat → Int) (q : Nat) : (px0 a n g c h q).ml = 0 := by
  unfold px0
  split
  · rfl
  split
  · rfl
  split
  · rfl
  split
  · rfl
  split
  · rfl
  split <;> rfl
theorem like_ml {p p' : PX} (h : PX.Alike p p') : p.ml = p'.ml := by
  cases p <;> cases p' <;> try exact h.elim
  · exact h.2
  · exact h.2
  · rfl
/-- A list that a call made is a thing. -/
theorem gx_own {w0 W W' : World} {B n : Nat} {t : Nat → Th} {v : Value} {g : Nat → Int} (hG : GX w0 B t W) (m : Nat) (ho : By.Own W' W.heap.size v n g) (hb : Below W.heap.size W W') : ∃ t', GX w0 B t' W' ∧ t' m = tB v n g ∧ ∀ j, j ≠ m → j ≠ m → t' j = t j :=
  ⟨_, hG.one m (tB v n g) (Kp.of_below (fun _ => False) hb) (fun _ e => e.elim) (Sh.own_mono ho (Nat.zero_le _)) (fun j hj => .inr (own_row ho j hj)), up_at _ _ _, fun _ h1 _ => up_ne _ _ h1⟩
theorem below_push1 {w w' w1 : World} {B : Nat} {v : Value} {n : Nat} {f : Nat → Int} {o : Obj} (hb : Below B w w') (hB : B ≤ w'.heap.size) (ho : By.Own w' B v n f) (hg : (w'.alloc o).grownBy w1 v.ownBlock) : Below B w w1 :=
  (hb.alloc hB o).grown hg (by simp; omega) (By.own_row ho)
set_option maxRecDepth 20000 in
set_option maxHeartbeats 1200000 in
theorem other1 (l : Value) (n : Nat) (f : Nat → Int) (by' : Int) (w : World) (hr : By.RB w l n f) (hn : n ≤ 1048576) :
    Calls Tryz.prog 36 #[l, .int .u8 by'] w fun e w' => ∃ v g, e = .returned v ∧ By.Own w' w.heap.size v n g ∧ Below w.heap.size w w' := by
  obtain ⟨i0, hi, hz0, hz1, hz2⟩ := info_parts By.info5
  obtain ⟨a, c, rfl⟩ := By.RB.isSlice hr
  have HR := hid hr
  clear hr
  go_enter Tryz.func36, Tryz.ntmps36
  go_wp2
  go_loopw [5, 6] (fun v i wr => ∃ (k : Nat) (g : Nat → Int), k ≤ n ∧ i = .int .i64 k ∧ By.Own wr w.heap.size v k g ∧ Below w.heap.size w wr) (fun _ i _ => n - (intOf i).toNat)
  case atStart => exact ⟨0, fun _ => 0, Nat.zero_le _, rfl, By.own_nil _ _ _ (fun _ => by show (0 : Int) ≤ 0 ∧ (0 : Int) < 256; decide), Below.refl _ _⟩
  case round =>
    obtain ⟨k, g, hk, rfl, hown, hbel⟩ := hrel
    have hsz : Hid (w.heap.size ≤ wr.heap.size) := hbel.size
    have HO := hid hown
    have HB := hid hbel
    by_cases hlt : k < n
    · obtain ⟨b1, o1, ea, c1⟩ := By.RB.cellsAt (HR.out.below hbel) hlt
      cases ea
      have l0 : (0 : Int) ≤ k := by omega
      have l1 : (k : Int) < n := by omega
      have HK := hid hlt
      clear hown hbel
      go_wp2_with (at_builtin; go_must (refine wpList_append_own _ rfl _ _ 23 rfl w.heap.size 5 i0 (.int .u8 0) 1 1 Tryz.underlying23 hi hz0 hz1 hz2 rfl (by decide) _ _ _ rfl (HO.out.2.alloc _) ⟨_, 0, none⟩ 1 1 [.int .u8 (bits .xor .u8 (bits .xor .u8 (f k) by') ((k : Int) % 256))] rfl rfl (cell_one_new _ _ _) ?c2 ?c3 ?c4 ?c5 ?_))
      case c2 => intro u hu; simp at hu; subst hu; rfl
      case c3 => simp [maxLen]; omega
      case c4 => have h9 := hsz.out; omega
      case c5 => have h9 := hsz.out; simp; omega
      intro v' w1 hown hgrow _
      obtain ⟨xv, hxv⟩ : ∃ z, bits .xor .u8 (bits .xor .u8 (f k) by') ((k : Int) % 256) = z := ⟨_, rfl⟩
      have xb : 0 ≤ xv ∧ xv < 256 := by rw [← hxv]; exact Dg.bx_b _ _
      rw [hxv] at hown hgrow
      have HR2 : Hid (∃ g, By.Own w1 w.heap.size v' (k + 1) g ∧ Below w.heap.size w w1) := by
        refine ⟨fun i => if i < k then g i else xv, ⟨fun i => ?_, ?_⟩, below_push1 HB.out hsz.out HO.out hgrow⟩
        · show 0 ≤ (if i < k then g i else xv) ∧ (if i < k then g i else xv) < 256
          split
          · exact HO.out.1 i
          · exact xb
        · rw [By.bl_singleton, By.bl_append] at hown
          exact hown
      clear hown hgrow HO HB hxv xb
      go_wp2
      go_roundw
      case rel => obtain ⟨g', h1, h2⟩ := HR2.out; exact ⟨k + 1, g', by omega, by go_num, h1, h2⟩
      case measure => simp [intOf]; omega
    · clear hown hbel
      obtain rfl : k = n := by omega
      go_wp2
      go_ret
      exact ⟨_, g, rfl, HO.out, HB.out⟩
end Go.Proofs.YtpohogpkfdebdaaGreatDoor.Oc
