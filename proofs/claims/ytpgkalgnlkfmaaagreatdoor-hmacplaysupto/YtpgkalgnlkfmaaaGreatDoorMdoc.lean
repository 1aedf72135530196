/- The document's macs: what they are, and what their calls answer. -/
import Derived.Test.YtpgkalgnlkfmaaaGreatDoorZmf
import Derived.Test.YtpgkalgnlkfmaaaGreatDoorMfrm
import Derived.Test.YtpgkalgnlkfmaaaGreatDoorMcall
namespace Go.Proofs.YtpgkalgnlkfmaaaGreatDoor.Dg
open Go.ChangeShapes Go.WideShapes Go.ChangeAt Go.RowKit
open Go.Proofs.YtpgkalgnlkfmaaaGreatDoor.By
open Go.Proofs.YtpgkalgnlkfmaaaGreatDoor.Sh (Blk size_alloc)
/-- A mac, in the document's words: its algorithm, key and message. -/
structure DK where
  a : Bool
  nk : Nat
  kf : Nat → Int
  m : Nat
  f : Nat → Int
structure IsQk (W : World) (c : Nat) (y : DK) (kv mv : Value) : Prop where
  here : Blk W c [.int .u8 (an y.a), kv, mv, .bool true] 43
  k : By.Own W 0 kv y.nk y.kf
  m : By.Own W 0 mv y.m y.f
def IsQ (W : World) (c : Nat) : Option DK → Prop
  | none => ∃ u k v, Blk W c [u, k, v, .bool false] 43
  | some y => ∃ kv mv, IsQk W c y kv mv
theorem IsQ.blk {W : World} {c : Nat} {k : Option DK} (h : IsQ W c k) : ∃ cs, Blk W c cs 43 := by
  match k, h with
  | none, ⟨u, k, v, h⟩ => exact ⟨_, h⟩
  | some y, ⟨kv, mv, h⟩ => exact ⟨_, h.here⟩
theorem IsQ.kept {W W' : World} {c : Nat} {k : Option DK} {S : Nat → Prop} (h : IsQ W c k) (hk : Kp S W W') (h1 : ¬ S c) (h2 : ∀ g cs, Blk W g cs 5 → ¬ S g) : IsQ W' c k := by
  have ko : ∀ {v : Value} {n : Nat} {f : Nat → Int}, By.Own W 0 v n f → By.Own W' 0 v n f := fun ho => Sg.own_kept ho hk (fun g hg => by
    obtain ⟨cc, hc⟩ := Sg.own8_type ho hg
    exact h2 g cc.toList (by show W.heap[g]? = _; rw [hc]))
  match k, h with
  | none, ⟨u, k, v, h⟩ => exact ⟨u, k, v, h.kept hk h1⟩
  | some y, ⟨kv, mv, h⟩ => exact ⟨kv, mv, h.here.kept hk h1, ko h.k, ko h.m⟩
theorem IsQ.ko {W W' : World} {c : Nat} {k : Option DK} (h : IsQ W c k) (hk : Ko W W') : IsQ W' c k := by
  match k, h with
  | none, ⟨u, k, v, h⟩ => exact ⟨u, k, v, hk _ _ _ h (by decide)⟩
  | some y, ⟨kv, mv, h⟩ => exact ⟨kv, mv, hk _ _ _ h.here (by decide), hk.own h.k, hk.own h.m⟩
theorem madeZ (w : World) : Calls Tryz.prog 38 #[.pointer none] w fun e w' => e = .returned (.bool false) ∧ w' = w := by
  go_enter Tryz.func38, Tryz.ntmps38
  go_wp2
  go_ret
  exact ⟨rfl, rfl⟩
theorem madeN (c : Nat) (w : World) (h : IsQ w c none) : Calls Tryz.prog 38 #[.pointer (some ⟨c, 0, none⟩)] w fun e w' => e = .returned (.bool false) ∧ w' = w := by
  obtain ⟨u, k, v, h⟩ := h
  have c3 := h.cell 3 _ rfl
  clear h
  go_enter Tryz.func38, Tryz.ntmps38
  go_wp2
  go_ret
  exact ⟨rfl, rfl⟩
theorem madeS (c : Nat) (y : DK) (kv mv : Value) (w : World) (h : IsQk w c y kv mv) : Calls Tryz.prog 38 #[.pointer (some ⟨c, 0, none⟩)] w fun e w' => e = .returned (.bool true) ∧ w' = w := by
  have c3 := h.here.cell 3 _ rfl
  clear h
  go_enter Tryz.func38, Tryz.ntmps38
  go_wp2
  go_ret
  exact ⟨rfl, rfl⟩
theorem qWriteZ (lp v : Value) (w : World) : Calls Tryz.prog 23 #[.pointer none, lp, v] w fun e w' => e = .returned (.int .i64 1) ∧ w' = w := by
  go_enter Tryz.func23, Tryz.ntmps23
  go_wp2_with (go_at_call 38; refine (madeZ _).mono ?_; rintro e w1 ⟨rfl, rfl⟩)
  go_ret
  exact ⟨rfl, rfl⟩
theorem qWriteN (c : Nat) (lp v : Value) (w : World) (h : IsQ w c none) : Calls Tryz.prog 23 #[.pointer (some ⟨c, 0, none⟩), lp, v] w fun e w' => e = .returned (.int .i64 1) ∧ w' = w := by
  go_enter Tryz.func23, Tryz.ntmps23
  go_wp2_with (go_at_call 38; refine (madeN c _ h).mono ?_; rintro e w1 ⟨rfl, rfl⟩)
  go_ret
  exact ⟨rfl, rfl⟩
theorem qSumZ (lp : Value) (w : World) : Calls Tryz.prog 25 #[.pointer none, lp] w fun e w' => e = .returned (.tuple #[.slice none 0 0, .int .i64 1]) ∧ w' = w := by
  go_enter Tryz.func25, Tryz.ntmps25
  go_wp2_with (go_at_call 38; refine (madeZ _).mono ?_; rintro e w1 ⟨rfl, rfl⟩)
  go_ret2
  exact ⟨rfl, rfl⟩
theorem qSumN (c : Nat) (lp : Value) (w : World) (h : IsQ w c none) : Calls Tryz.prog 25 #[.pointer (some ⟨c, 0, none⟩), lp] w fun e w' => e = .returned (.tuple #[.slice none 0 0, .int .i64 1]) ∧ w' = w := by
  go_enter Tryz.func25, Tryz.ntmps25
  go_wp2_with (go_at_call 38; refine (madeN c _ h).mono ?_; rintro e w1 ⟨rfl, rfl⟩)
  go_ret2
  exact ⟨rfl, rfl⟩
theorem qResetZ (w : World) : Calls Tryz.prog 27 #[.pointer none] w fun e w' => e = .returned (.int .i64 1) ∧ w' = w := by
  go_enter Tryz.func27, Tryz.ntmps27
  go_wp2_with (go_at_call 38; refine (madeZ _).mono ?_; rintro e w1 ⟨rfl, rfl⟩)
  go_ret
  exact ⟨rfl, rfl⟩
theorem qResetN (c : Nat) (w : World) (h : IsQ w c none) : Calls Tryz.prog 27 #[.pointer (some ⟨c, 0, none⟩)] w fun e w' => e = .returned (.int .i64 1) ∧ w' = w := by
  go_enter Tryz.func27, Tryz.ntmps27
  go_wp2_with (go_at_call 38; refine (madeN c _ h).mono ?_; rintro e w1 ⟨rfl, rfl⟩)
  go_ret
  exact ⟨rfl, rfl⟩
theorem qCloneZ (w : World) : Calls Tryz.prog 29 #[.pointer none] w fun e w' => e = .returned (.tuple #[.pointer none, .int .i64 1]) ∧ w' = w := by
  go_enter Tryz.func29, Tryz.ntmps29
  go_wp2_with (go_at_call 38; refine (madeZ _).mono ?_; rintro e w1 ⟨rfl, rfl⟩)
  go_ret2
  exact ⟨rfl, rfl⟩
theorem qCloneN (c : Nat) (w : World) (h : IsQ w c none) : Calls Tryz.prog 29 #[.pointer (some ⟨c, 0, none⟩)] w fun e w' => e = .returned (.tuple #[.pointer none, .int .i64 1]) ∧ w' = w := by
  go_enter Tryz.func29, Tryz.ntmps29
  go_wp2_with (go_at_call 38; refine (madeN c _ h).mono ?_; rintro e w1 ⟨rfl, rfl⟩)
  go_ret2
  exact ⟨rfl, rfl⟩
theorem qFormZ (w : World) : Calls Tryz.prog 13 #[.pointer none] w fun e w' => e = .returned (.slice none 0 0) ∧ w' = w := by
  go_enter Tryz.func13, Tryz.ntmps13
  go_wp2_with (go_at_call 38; refine (madeZ _).mono ?_; rintro e w1 ⟨rfl, rfl⟩)
  go_ret
  exact ⟨rfl, rfl⟩
theorem qFormN (c : Nat) (w : World) (h : IsQ w c none) : Calls Tryz.prog 13 #[.pointer (some ⟨c, 0, none⟩)] w fun e w' => e = .returned (.slice none 0 0) ∧ w' = w := by
  go_enter Tryz.func13, Tryz.ntmps13
  go_wp2_with (go_at_call 38; refine (madeN c _ h).mono ?_; rintro e w1 ⟨rfl, rfl⟩)
  go_ret
  exact ⟨rfl, rfl⟩
theorem qSizeZ (w : World) : Calls Tryz.prog 33 #[.pointer none] w fun e w' => e = .returned (.int .i64 0) ∧ w' = w := by
  go_enter Tryz.func33, Tryz.ntmps33
  go_wp2_with (go_at_call 38; refine (madeZ _).mono ?_; rintro e w1 ⟨rfl, rfl⟩)
  go_ret
  exact ⟨rfl, rfl⟩
theorem qSizeN (c : Nat) (w : World) (h : IsQ w c none) : Calls Tryz.prog 33 #[.pointer (some ⟨c, 0, none⟩)] w fun e w' => e = .returned (.int .i64 0) ∧ w' = w := by
  go_enter Tryz.func33, Tryz.ntmps33
  go_wp2_with (go_at_call 38; refine (madeN c _ h).mono ?_; rintro e w1 ⟨rfl, rfl⟩)
  go_ret
  exact ⟨rfl, rfl⟩
theorem qWipeZ (lp : Value) (w : World) : Calls Tryz.prog 31 #[.pointer none, lp] w fun e w' => e = .returned (.int .i64 1) ∧ w' = w := by
  go_enter Tryz.func31, Tryz.ntmps31
  go_wp2_with (go_at_call 38; refine (madeZ _).mono ?_; rintro e w1 ⟨rfl, rfl⟩)
  go_ret
  exact ⟨rfl, rfl⟩
theorem qWipeN (c : Nat) (lp : Value) (w : World) (h : IsQ w c none) : Calls Tryz.prog 31 #[.pointer (some ⟨c, 0, none⟩), lp] w fun e w' => e = .returned (.int .i64 1) ∧ w' = w := by
  go_enter Tryz.func31, Tryz.ntmps31
  go_wp2_with (go_at_call 38; refine (madeN c _ h).mono ?_; rintro e w1 ⟨rfl, rfl⟩)
  go_ret
  exact ⟨rfl, rfl⟩
theorem rnewNo (a : Int) (lp v : Value) (w : World) (h1 : ¬ a = 1) (h2 : ¬ a = 2) : Calls Tryz.prog 20 #[lp, .int .u8 a, v] w fun e w' => e = .returned (.tuple #[.pointer none, .int .i64 4]) ∧ w' = w := by
  go_enter Tryz.func20, Tryz.ntmps20
  go_wp2_with fail
  refine (rblockNo a _ h1 h2).mono ?_
  rintro e w1 ⟨rfl, hw1⟩
  subst w1
  go_wp2
  go_ret2
  exact ⟨rfl, rfl⟩
theorem rformOf256 (n : Nat) (v : Value) (f : Nat → Int) (w : World) (hr : By.RB w v n f) (hn : n ≤ 140737488353328) :
    Calls Tryz.prog 52 #[.int .u8 1, v] w fun e w' => ∃ u, e = .returned u ∧ By.Own w' w.heap.size u 104 (formf false n f) ∧ Below w.heap.size w w' := by
  have HR := hid hr
  clear hr
  go_enter Tryz.func52, Tryz.ntmps52
  go_wp2_with fail
  refine (Sh.rnew11 _).mono ?_
  rintro e w1 ⟨rfl, h1, hb1⟩
  have H1 := hid h1
  have B1 := hid hb1
  clear h1 hb1
  have HC := hid (Sh.rwrite35 w.heap.size 0 n none (fun _ => 0) f v [] w1 H1.out trivial (fun w' hb => (HR.out.below B1.out).below hb) (by omega))
  go_wp2_with fail
  refine HC.out.mono ?_
  rintro e w2 ⟨rfl, h2, -, hk2, -⟩
  have H2 := hid (show Sh.IsR w2 w.heap.size (some (n, f)) from by rw [Nat.zero_add, show Sh.cat 0 (fun _ => 0) f = f from Sh.cat0 _ _] at h2; exact h2)
  have B2 := hid (show Below w.heap.size w w2 from B1.out.trans (hk2.below B1.out.size (fun k hk e => by rcases e with e | e; omega; exact e)))
  clear h2 hk2 HC H1
  have HC := hid (Sh.rform18 w.heap.size n f w2 H2.out)
  go_wp2_with fail
  refine HC.out.mono ?_
  rintro e w3 ⟨u, rfl, h3, hb3⟩
  have R := hid (Sg.own_mono h3 B2.out.size)
  have B3 := hid (below_next B2.out hb3)
  clear h3 hb3
  go_wp2
  go_ret
  exact ⟨u, rfl, R.out, B3.out⟩
theorem rformOf512 (n : Nat) (v : Value) (f : Nat → Int) (w : World) (hr : By.RB w v n f) (hn : n ≤ 140737488353328) :
    Calls Tryz.prog 52 #[.int .u8 2, v] w fun e w' => ∃ u, e = .returned u ∧ By.Own w' w.heap.size u 200 (formf true n f) ∧ Below w.heap.size w w' := by
  have HC := hid (Sg.form46 n v f w hr (by omega))
  clear hr
  go_enter Tryz.func52, Tryz.ntmps52
  go_wp2_with fail
  refine HC.out.mono ?_
  rintro e w1 ⟨u, rfl, h1, h2⟩
  go_wp2
  go_ret
  exact ⟨u, rfl, h1, h2⟩
set_option maxRecDepth 4000 in
set_option maxHeartbeats 2000000 in
theorem rFormOf256 (n m : Nat) (v v2 : Value) (g f : Nat → Int) (w : World) (hr : By.RB w v n g) (hr2 : By.RB w v2 m f) (hn : n ≤ 140737488353328) (hmm : m ≤ 140737488352328) :
    Calls Tryz.prog 39 #[.int .u8 1, v, v2] w fun e w' => ∃ u, e = .returned u ∧ By.Own w' w.heap.size u 312 (mfm false (kb false n g) m f) ∧ Below w.heap.size w w' := by
  have HR := hid hr
  have HC := hid (rinner256 n m v v2 g f w hr hr2 hn (by omega))
  clear hr hr2
  go_enter Tryz.func39, Tryz.ntmps39
  go_wp2_with fail
  refine HC.out.mono ?_
  rintro e w1 ⟨u1, rfl, hu, hb⟩
  have U1 := hid hu.reads
  have B1 := hid hb
  clear hu hb HC
  have HC := hid (rformOf256 (64 + m) u1 _ w1 U1.out (by omega))
  go_wp2_with fail
  refine HC.out.mono ?_
  rintro e w2 ⟨u2, rfl, hu, hb⟩
  have U2 := hid (Sg.own_mono hu B1.out.size)
  have B2 := hid (below_next B1.out hb)
  clear hu hb HC U1 B1
  have HC := hid (rkeyed256 n v g 92 w2 (HR.out.below B2.out) hn)
  go_wp2_with fail
  refine HC.out.mono ?_
  rintro e w3 ⟨u3, rfl, hu, hb⟩
  have U3 := hid hu.reads
  have V3 := hid (own_below U2.out hb)
  have B3 := hid (below_next B2.out hb)
  clear hu hb HC U2 B2
  have HC := hid (rformOf256 64 u3 _ w3 U3.out (by omega))
  go_wp2_with fail
  refine HC.out.mono ?_
  rintro e w4 ⟨u4, rfl, hu, hb⟩
  have U4 := hid hu.reads
  have V4 := hid (own_below V3.out hb)
  have B4 := hid (below_next B3.out hb)
  clear hu hb HC U3 V3 B3
  go_wp2_with (at_builtin; go_must (refine Sg.wpList_cat rfl _ _ rfl w.heap.size 104 104 _ _ (formf false (64 + m) (inr false (kb false n g) f)) (formf false 64 (msk 92 (kb false n g))) rfl V4.out rfl U4.out (by omega) B4.out.size ?_))
  intro u5 w5 h5 hg5
  have V5 := hid h5
  have B5 := hid (Sh.below_grow B4.out B4.out.size V4.out hg5)
  clear h5 hg5 U4 V4 B4
  have HC := hid (rkeyed256 n v g 54 w5 (HR.out.below B5.out) hn)
  go_wp2_with fail
  refine HC.out.mono ?_
  rintro e w6 ⟨u6, rfl, hu, hb⟩
  have U6 := hid hu.reads
  have V6 := hid (own_below V5.out hb)
  have B6 := hid (below_next B5.out hb)
  clear hu hb HC V5 B5
  have HC := hid (rformOf256 64 u6 _ w6 U6.out (by omega))
  go_wp2_with fail
  refine HC.out.mono ?_
  rintro e w7 ⟨u7, rfl, hu, hb⟩
  have U7 := hid hu.reads
  have V7 := hid (own_below V6.out hb)
  have B7 := hid (below_next B6.out hb)
  clear hu hb HC U6 V6 B6
  go_wp2_with (at_builtin; go_must (refine Sg.wpList_cat rfl _ _ rfl w.heap.size (104 + 104) 104 _ _ (cat 104 (formf false (64 + m) (inr false (kb false n g) f)) (formf false 64 (msk 92 (kb false n g)))) (formf false 64 (msk 54 (kb false n g))) rfl V7.out rfl U7.out (by omega) B7.out.size ?_))
  intro u8 w8 h8 hg8
  have V8 := hid h8
  have B8 := hid (Sh.below_grow B7.out B7.out.size V7.out hg8)
  clear h8 hg8
  go_wp2
  go_ret
  exact ⟨_, rfl, V8.out, B8.out⟩
set_option maxRecDepth 4000 in
set_option maxHeartbeats 2000000 in
theorem qform256 (c : Nat) (nk m : Nat) (kf f : Nat → Int) (kv mv : Value) (w : World) (h : IsQk w c ⟨false, nk, kf, m, f⟩ kv mv) (hn : nk ≤ 140737488353328) (hmm : m ≤ 140737488352328) :
    Calls Tryz.prog 13 #[.pointer (some ⟨c, 0, none⟩)] w fun e w' => ∃ u, e = .returned u ∧ By.Own w' w.heap.size u 312 (mfm false (kb false nk kf) m f) ∧ Below w.heap.size w w' := by
  have H := hid h
  have c0 : w.cell? ⟨c, 0, none⟩ = some (.int .u8 1) := h.here.cell 0 _ rfl
  have c1 := h.here.cell 1 _ rfl
  have c2 := h.here.cell 2 _ rfl
  have HC := hid (show Calls Tryz.prog 39 #[.int .u8 1, kv, mv] w.drew (fun e w' => ∃ u, e = .returned u ∧ By.Own w' w.heap.size u 312 (mfm false (kb false nk kf) m f) ∧ Below w.heap.size w w') from by
    refine (rFormOf256 nk m kv mv kf f w.drew (h.k.reads.drewN 1) (h.m.reads.drewN 1) hn hmm).mono ?_
    rintro e w' ⟨u, rfl, hu, hb⟩
    exact ⟨u, rfl, hu, below_next (below_drewN w 1) hb⟩)
  have hlt := h.here.lt
  clear h
  go_enter Tryz.func13, Tryz.ntmps13
  go_wp2_with fail
  refine (madeS c _ kv mv _ H.out).mono ?_
  rintro e w1 ⟨rfl, hw1⟩
  subst w1
  go_upto_region 4 with fail
  go_region_held3 (fun W => W.cell? ⟨c, 0, none⟩ = some (.int .u8 1) ∧ W.cell? ⟨c, 1, none⟩ = some kv ∧ W.cell? ⟨c, 2, none⟩ = some mv) (go_keep) (first
    | (go_at_call 39; go_must (refine HC.out.mono ?_; rintro e w1 ⟨u, rfl, hu, hb⟩; have U := hid hu; have BB := hid hb; have y0 : w1.cell? ⟨c, 0, none⟩ = some (.int .u8 1) := (H.out.here.below hb).cell 0 _ rfl; have y1 := (H.out.here.below hb).cell 1 _ rfl; have y2 := (H.out.here.below hb).cell 2 _ rfl; clear hu hb)))
  clear y0 y1 y2
  go_wp2
  go_ret
  exact ⟨u, rfl, U.out, BB.out⟩
theorem qsize256 (c : Nat) (nk m : Nat) (kf f : Nat → Int) (kv mv : Value) (w : World) (h : IsQk w c ⟨false, nk, kf, m, f⟩ kv mv) :
    Calls Tryz.prog 33 #[.pointer (some ⟨c, 0, none⟩)] w fun e w' => e = .returned (.int .i64 32) ∧ w' = w := by
  have H := hid h
  have c0 : w.cell? ⟨c, 0, none⟩ = some (.int .u8 1) := h.here.cell 0 _ rfl
  clear h
  go_enter Tryz.func33, Tryz.ntmps33
  go_wp2_with fail
  refine (madeS c _ kv mv _ H.out).mono ?_
  rintro e w1 ⟨rfl, hw1⟩
  subst w1
  go_wp2_with fail
  refine (rblock256 _).mono ?_
  rintro e w1 ⟨rfl, hw1⟩
  subst w1
  go_wp2
  go_ret
  exact ⟨rfl, rfl⟩
set_option maxRecDepth 4000 in
set_option maxHeartbeats 2000000 in
theorem rFormOf512 (n m : Nat) (v v2 : Value) (g f : Nat → Int) (w : World) (hr : By.RB w v n g) (hr2 : By.RB w v2 m f) (hn : n ≤ 140737488353328) (hmm : m ≤ 140737488352328) :
    Calls Tryz.prog 39 #[.int .u8 2, v, v2] w fun e w' => ∃ u, e = .returned u ∧ By.Own w' w.heap.size u 600 (mfm true (kb true n g) m f) ∧ Below w.heap.size w w' := by
  have HR := hid hr
  have HC := hid (rinner512 n m v v2 g f w hr hr2 hn (by omega))
  clear hr hr2
  go_enter Tryz.func39, Tryz.ntmps39
  go_wp2_with fail
  refine HC.out.mono ?_
  rintro e w1 ⟨u1, rfl, hu, hb⟩
  have U1 := hid hu.reads
  have B1 := hid hb
  clear hu hb HC
  have HC := hid (rformOf512 (128 + m) u1 _ w1 U1.out (by omega))
  go_wp2_with fail
  refine HC.out.mono ?_
  rintro e w2 ⟨u2, rfl, hu, hb⟩
  have U2 := hid (Sg.own_mono hu B1.out.size)
  have B2 := hid (below_next B1.out hb)
  clear hu hb HC U1 B1
  have HC := hid (rkeyed512 n v g 92 w2 (HR.out.below B2.out) hn)
  go_wp2_with fail
  refine HC.out.mono ?_
  rintro e w3 ⟨u3, rfl, hu, hb⟩
  have U3 := hid hu.reads
  have V3 := hid (own_below U2.out hb)
  have B3 := hid (below_next B2.out hb)
  clear hu hb HC U2 B2
  have HC := hid (rformOf512 128 u3 _ w3 U3.out (by omega))
  go_wp2_with fail
  refine HC.out.mono ?_
  rintro e w4 ⟨u4, rfl, hu, hb⟩
  have U4 := hid hu.reads
  have V4 := hid (own_below V3.out hb)
  have B4 := hid (below_next B3.out hb)
  clear hu hb HC U3 V3 B3
  go_wp2_with (at_builtin; go_must (refine Sg.wpList_cat rfl _ _ rfl w.heap.size 200 200 _ _ (formf true (128 + m) (inr true (kb true n g) f)) (formf true 128 (msk 92 (kb true n g))) rfl V4.out rfl U4.out (by omega) B4.out.size ?_))
  intro u5 w5 h5 hg5
  have V5 := hid h5
  have B5 := hid (Sh.below_grow B4.out B4.out.size V4.out hg5)
  clear h5 hg5 U4 V4 B4
  have HC := hid (rkeyed512 n v g 54 w5 (HR.out.below B5.out) hn)
  go_wp2_with fail
  refine HC.out.mono ?_
  rintro e w6 ⟨u6, rfl, hu, hb⟩
  have U6 := hid hu.reads
  have V6 := hid (own_below V5.out hb)
  have B6 := hid (below_next B5.out hb)
  clear hu hb HC V5 B5
  have HC := hid (rformOf512 128 u6 _ w6 U6.out (by omega))
  go_wp2_with fail
  refine HC.out.mono ?_
  rintro e w7 ⟨u7, rfl, hu, hb⟩
  have U7 := hid hu.reads
  have V7 := hid (own_below V6.out hb)
  have B7 := hid (below_next B6.out hb)
  clear hu hb HC U6 V6 B6
  go_wp2_with (at_builtin; go_must (refine Sg.wpList_cat rfl _ _ rfl w.heap.size (200 + 200) 200 _ _ (cat 200 (formf true (128 + m) (inr true (kb true n g) f)) (formf true 128 (msk 92 (kb true n g)))) (formf true 128 (msk 54 (kb true n g))) rfl V7.out rfl U7.out (by omega) B7.out.size ?_))
  intro u8 w8 h8 hg8
  have V8 := hid h8
  have B8 := hid (Sh.below_grow B7.out B7.out.size V7.out hg8)
  clear h8 hg8
  go_wp2
  go_ret
  exact ⟨_, rfl, V8.out, B8.out⟩
set_option maxRecDepth 4000 in
set_option maxHeartbeats 2000000 in
theorem qform512 (c : Nat) (nk m : Nat) (kf f : Nat → Int) (kv mv : Value) (w : World) (h : IsQk w c ⟨true, nk, kf, m, f⟩ kv mv) (hn : nk ≤ 140737488353328) (hmm : m ≤ 140737488352328) :
    Calls Tryz.prog 13 #[.pointer (some ⟨c, 0, none⟩)] w fun e w' => ∃ u, e = .returned u ∧ By.Own w' w.heap.size u 600 (mfm true (kb true nk kf) m f) ∧ Below w.heap.size w w' := by
  have H := hid h
  have c0 : w.cell? ⟨c, 0, none⟩ = some (.int .u8 2) := h.here.cell 0 _ rfl
  have c1 := h.here.cell 1 _ rfl
  have c2 := h.here.cell 2 _ rfl
  have HC := hid (show Calls Tryz.prog 39 #[.int .u8 2, kv, mv] w.drew (fun e w' => ∃ u, e = .returned u ∧ By.Own w' w.heap.size u 600 (mfm true (kb true nk kf) m f) ∧ Below w.heap.size w w') from by
    refine (rFormOf512 nk m kv mv kf f w.drew (h.k.reads.drewN 1) (h.m.reads.drewN 1) hn hmm).mono ?_
    rintro e w' ⟨u, rfl, hu, hb⟩
    exact ⟨u, rfl, hu, below_next (below_drewN w 1) hb⟩)
  have hlt := h.here.lt
  clear h
  go_enter Tryz.func13, Tryz.ntmps13
  go_wp2_with fail
  refine (madeS c _ kv mv _ H.out).mono ?_
  rintro e w1 ⟨rfl, hw1⟩
  subst w1
  go_upto_region 4 with fail
  go_region_held3 (fun W => W.cell? ⟨c, 0, none⟩ = some (.int .u8 2) ∧ W.cell? ⟨c, 1, none⟩ = some kv ∧ W.cell? ⟨c, 2, none⟩ = some mv) (go_keep) (first
    | (go_at_call 39; go_must (refine HC.out.mono ?_; rintro e w1 ⟨u, rfl, hu, hb⟩; have U := hid hu; have BB := hid hb; have y0 : w1.cell? ⟨c, 0, none⟩ = some (.int .u8 2) := (H.out.here.below hb).cell 0 _ rfl; have y1 := (H.out.here.below hb).cell 1 _ rfl; have y2 := (H.out.here.below hb).cell 2 _ rfl; clear hu hb)))
  clear y0 y1 y2
  go_wp2
  go_ret
  exact ⟨u, rfl, U.out, BB.out⟩
theorem qsize512 (c : Nat) (nk m : Nat) (kf f : Nat → Int) (kv mv : Value) (w : World) (h : IsQk w c ⟨true, nk, kf, m, f⟩ kv mv) :
    Calls Tryz.prog 33 #[.pointer (some ⟨c, 0, none⟩)] w fun e w' => e = .returned (.int .i64 64) ∧ w' = w := by
  have H := hid h
  have c0 : w.cell? ⟨c, 0, none⟩ = some (.int .u8 2) := h.here.cell 0 _ rfl
  clear h
  go_enter Tryz.func33, Tryz.ntmps33
  go_wp2_with fail
  refine (madeS c _ kv mv _ H.out).mono ?_
  rintro e w1 ⟨rfl, hw1⟩
  subst w1
  go_wp2_with fail
  refine (rblock512 _).mono ?_
  rintro e w1 ⟨rfl, hw1⟩
  subst w1
  go_wp2
  go_ret
  exact ⟨rfl, rfl⟩
end Go.Proofs.YtpgkalgnlkfmaaaGreatDoor.Dg
