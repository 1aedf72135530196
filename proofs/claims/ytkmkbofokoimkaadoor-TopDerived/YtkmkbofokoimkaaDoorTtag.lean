/- Texts out of bytes; twin; tagged. -/
import Derived.Test.YtkmkbofokoimkaaDoorTeval
import Derived.Test.YtkmkbofokoimkaaDoorImac
import Derived.Test.YtkmkbofokoimkaaDoorZmt
import Derived.Lib.SlBytesConst
import Derived.Laws.BytesArg
import Derived.Deep.RegionHeld3
namespace Go.Proofs.YtkmkbofokoimkaaDoor.Dg
open Go.ChangeShapes Go.WideShapes Go.ChangeAt Go.RowKit
open Go.Proofs.YtkmkbofokoimkaaDoor.By
open Go.Proofs.YtkmkbofokoimkaaDoor.Sh (Blk size_alloc)
def sof (n : Nat) (f : Nat → Int) : ByteArray := strOfNums ((List.range n).map f)
theorem sof_congr (n : Nat) (f g : Nat → Int) (h : ∀ i, i < n → f i = g i) : sof n f = sof n g := by
  unfold sof
  congr 1
  exact List.map_congr_left (fun i hi => h i (List.mem_range.1 hi))
theorem cvs {w : World} {a : Option Addr} {n cap : Nat} {f : Nat → Int} (hr : By.RB w (.slice a n cap) n f) (h0 : 0 < n) : (convert 22 9 (.slice a n cap)).run Tryd.prog w = .ok (.string (sof n f)) w := by
  obtain ⟨hf, a', cap', he, h1, h2, hc⟩ := hr
  simp only [Value.slice.injEq] at he
  obtain ⟨rfl, _, rfl⟩ := he
  rcases hc with ⟨e, _⟩ | ⟨b, off, rfl, hcell⟩
  · omega
  · exact run_convert_bytes_arg w 22 5 Tryd.underlying22 Tryd.underlying5 b off n cap ((List.range n).map f) (by simp) (fun i hi => by rw [hcell i hi]; simp [hi]) 9 Tryd.underlying9
theorem twin1 (l : Value) (n : Nat) (f : Nat → Int) (w : World) (hr : By.RB w l n f) (hn : n ≤ 140737488355328) : Calls Tryd.prog 8 #[l] w fun e w' => ∃ v, e = .returned v ∧ By.Own w' w.heap.size v n f ∧ Below w.heap.size w w' := by
  have HR := hid hr
  obtain ⟨-, xa, xc, rfl, -⟩ := hr
  go_enter Tryd.func8, Tryd.ntmps8
  go_wp2_with (at_builtin; go_must (refine Sg.wpList_cat rfl _ _ rfl w.heap.size 0 n _ _ nof f rfl (own_nil _ _ _ nof_b) rfl HR.out (by omega) (Nat.le_refl _) ?_))
  intro v w1 ho hg
  rw [show Sg.cat 0 nof f = f from Sg.cat0 _ _] at ho
  have O := hid ho
  have B := hid (Below.of_grown hg)
  clear ho hg
  go_wp2
  go_ret
  exact ⟨_, rfl, O.out, B.out⟩
theorem ttag0 (a : Bool) (n np : Nat) (v v2 : Value) (g f : Nat → Int) (w : World) (hk : KT w) (hr : By.RB w v n g) (hr2 : By.RB w v2 np f) (hn : n ≤ 140737488352328) (hnp : np ≤ 140737488352328) :
    Calls Tryd.prog 7 #[.pointer none, .int .u8 (an a), v, v2] w fun e w' => ∃ u, e = .returned (.tuple #[u, .int .i64 0]) ∧ By.Own w' w.heap.size u (sz a) (hm a (kb a n g) np f) ∧ Below w.heap.size w w' := by
  refine (tagM a n np v v2 g f none [] (fun _ => False) w hk id id trivial Sg.pos_nil' (fun w' hk' => hr.below (Sg.below_kp hk')) (fun w' hk' => hr2.below (Sg.below_kp hk')) hn hnp (by decide)).mono ?_
  rintro e w' ⟨u, rfl, g1, -, g3⟩
  exact ⟨u, rfl, g1, Sg.below_kp g3⟩
theorem tg_str : sof 32 ktg = ⟨#[91, 220, 193, 70, 191, 96, 117, 78, 106, 4, 36, 38, 8, 149, 117, 199, 90, 0, 63, 8, 157, 39, 57, 131, 157, 236, 88, 185, 100, 236, 56, 67]⟩ := by decide +kernel
set_option maxRecDepth 8000 in
theorem tagged1 (w : World) (hk : KT w) : Calls Tryd.prog 4 #[] w fun e w' => e = .returned (.bool true) ∧ Below w.heap.size w w' := by
  have HK := hid hk
  have c1 := Lib.run_convert_bytes_const (P := Tryd.prog) w 22 5 #[Value.int IntKind.u8 74, Value.int IntKind.u8 101, Value.int IntKind.u8 102, Value.int IntKind.u8 101] 4 4 Tryd.underlying22 Tryd.underlying5
  have c2 := Lib.run_convert_bytes_const (P := Tryd.prog) (w.alloc (.cells #[Value.int IntKind.u8 74, Value.int IntKind.u8 101, Value.int IntKind.u8 102, Value.int IntKind.u8 101] 5 (4, 5))) 22 5 #[Value.int IntKind.u8 119, Value.int IntKind.u8 104, Value.int IntKind.u8 97, Value.int IntKind.u8 116, Value.int IntKind.u8 32, Value.int IntKind.u8 100, Value.int IntKind.u8 111, Value.int IntKind.u8 32, Value.int IntKind.u8 121, Value.int IntKind.u8 97, Value.int IntKind.u8 32, Value.int IntKind.u8 119, Value.int IntKind.u8 97, Value.int IntKind.u8 110, Value.int IntKind.u8 116, Value.int IntKind.u8 32, Value.int IntKind.u8 102, Value.int IntKind.u8 111, Value.int IntKind.u8 114, Value.int IntKind.u8 32, Value.int IntKind.u8 110, Value.int IntKind.u8 111, Value.int IntKind.u8 116, Value.int IntKind.u8 104, Value.int IntKind.u8 105, Value.int IntKind.u8 110, Value.int IntKind.u8 103, Value.int IntKind.u8 63] 28 28 Tryd.underlying22 Tryd.underlying5
  simp only [List.size_toArray, List.length_cons, List.length_nil, Nat.reduceAdd, size_alloc] at c1 c2
  clear hk
  go_enter Tryd.func4, Tryd.ntmps4
  go_wp2_with fail
  clear c1 c2
  have b1 := below_alloc w (.cells #[Value.int IntKind.u8 74, Value.int IntKind.u8 101, Value.int IntKind.u8 102, Value.int IntKind.u8 101] 5 (4, 5))
  have b2 := below_alloc (w.alloc (.cells #[Value.int IntKind.u8 74, Value.int IntKind.u8 101, Value.int IntKind.u8 102, Value.int IntKind.u8 101] 5 (4, 5))) (.cells #[Value.int IntKind.u8 119, Value.int IntKind.u8 104, Value.int IntKind.u8 97, Value.int IntKind.u8 116, Value.int IntKind.u8 32, Value.int IntKind.u8 100, Value.int IntKind.u8 111, Value.int IntKind.u8 32, Value.int IntKind.u8 121, Value.int IntKind.u8 97, Value.int IntKind.u8 32, Value.int IntKind.u8 119, Value.int IntKind.u8 97, Value.int IntKind.u8 110, Value.int IntKind.u8 116, Value.int IntKind.u8 32, Value.int IntKind.u8 102, Value.int IntKind.u8 111, Value.int IntKind.u8 114, Value.int IntKind.u8 32, Value.int IntKind.u8 110, Value.int IntKind.u8 111, Value.int IntKind.u8 116, Value.int IntKind.u8 104, Value.int IntKind.u8 105, Value.int IntKind.u8 110, Value.int IntKind.u8 103, Value.int IntKind.u8 63] 5 (28, 29))
  have R1 := hid ((show By.RB (w.alloc (.cells #[Value.int IntKind.u8 74, Value.int IntKind.u8 101, Value.int IntKind.u8 102, Value.int IntKind.u8 101] 5 (4, 5))) (.slice (some ⟨w.heap.size, 0, none⟩) 4 4) 4 kje from Sg.rb_marked w 4 kje (4, 5) kje_b (by decide)).below b2)
  have R2' := show By.RB ((w.alloc (.cells #[Value.int IntKind.u8 74, Value.int IntKind.u8 101, Value.int IntKind.u8 102, Value.int IntKind.u8 101] 5 (4, 5))).alloc (.cells #[Value.int IntKind.u8 119, Value.int IntKind.u8 104, Value.int IntKind.u8 97, Value.int IntKind.u8 116, Value.int IntKind.u8 32, Value.int IntKind.u8 100, Value.int IntKind.u8 111, Value.int IntKind.u8 32, Value.int IntKind.u8 121, Value.int IntKind.u8 97, Value.int IntKind.u8 32, Value.int IntKind.u8 119, Value.int IntKind.u8 97, Value.int IntKind.u8 110, Value.int IntKind.u8 116, Value.int IntKind.u8 32, Value.int IntKind.u8 102, Value.int IntKind.u8 111, Value.int IntKind.u8 114, Value.int IntKind.u8 32, Value.int IntKind.u8 110, Value.int IntKind.u8 111, Value.int IntKind.u8 116, Value.int IntKind.u8 104, Value.int IntKind.u8 105, Value.int IntKind.u8 110, Value.int IntKind.u8 103, Value.int IntKind.u8 63] 5 (28, 29))) (.slice (some ⟨(w.alloc (.cells #[Value.int IntKind.u8 74, Value.int IntKind.u8 101, Value.int IntKind.u8 102, Value.int IntKind.u8 101] 5 (4, 5))).heap.size, 0, none⟩) 28 28) 28 kmg from Sg.rb_marked _ 28 kmg (28, 29) kmg_b (by decide)
  rw [size_alloc] at R2'
  have R2 := hid R2'
  have B2 := hid (below_next b1 b2)
  obtain ⟨w2, hw2⟩ : ∃ y, (w.alloc (.cells #[Value.int IntKind.u8 74, Value.int IntKind.u8 101, Value.int IntKind.u8 102, Value.int IntKind.u8 101] 5 (4, 5))).alloc (.cells #[Value.int IntKind.u8 119, Value.int IntKind.u8 104, Value.int IntKind.u8 97, Value.int IntKind.u8 116, Value.int IntKind.u8 32, Value.int IntKind.u8 100, Value.int IntKind.u8 111, Value.int IntKind.u8 32, Value.int IntKind.u8 121, Value.int IntKind.u8 97, Value.int IntKind.u8 32, Value.int IntKind.u8 119, Value.int IntKind.u8 97, Value.int IntKind.u8 110, Value.int IntKind.u8 116, Value.int IntKind.u8 32, Value.int IntKind.u8 102, Value.int IntKind.u8 111, Value.int IntKind.u8 114, Value.int IntKind.u8 32, Value.int IntKind.u8 110, Value.int IntKind.u8 111, Value.int IntKind.u8 116, Value.int IntKind.u8 104, Value.int IntKind.u8 105, Value.int IntKind.u8 110, Value.int IntKind.u8 103, Value.int IntKind.u8 63] 5 (28, 29)) = y := ⟨_, rfl⟩
  rw [hw2] at R1 R2 B2 ⊢
  clear b1 b2 R2' hw2
  refine (ttag0 false 4 28 _ _ kje kmg _ (HK.out.below B2.out) R1.out R2.out (by omega) (by omega)).mono ?_
  rintro e w3 ⟨u, rfl, hu, hb⟩
  have hu' : By.Own w3 w2.heap.size u 32 ktg := own_congr hu (lst_bound _ (by decide)) tg_jf
  have B3 := hid (below_next B2.out hb)
  obtain ⟨ua, uc, rfl⟩ := own_sl hu'
  have hcv := cvs hu'.reads (by omega)
  rw [tg_str] at hcv
  clear hu hu' hb R1 R2 B2
  go_wp2
  go_ret
  exact ⟨rfl, B3.out⟩
end Go.Proofs.YtkmkbofokoimkaaDoor.Dg
