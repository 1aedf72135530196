/- What is done of any operation, kind by kind (4). -/
import Derived.Test.YtdmacflcjbkkpabGreatCre
namespace Go.Proofs.YtdmacflcjbkkpabGreat.Co
open Go.ChangeShapes Go.WideShapes Go.ChangeAt Go.RowKit
open Go.Proofs.YtdmacflcjbkkpabGreat (putL)
open Go.Proofs.YtdmacflcjbkkpabGreat.Ou (Sk sv sL LDk SVk LDk_run SVk_run)
open Go.Proofs.YtdmacflcjbkkpabGreat.Tb (Blk Blk.newAt put_all Kp.setCells results_cell1 results_cell2)
set_option maxRecDepth 8000 in
set_option maxHeartbeats 1600000 in
theorem record_9 (p gm gk : Nat) (P : St) (s : Sk) (lo : Lo) (L : List Rn) (w : World) (hp : PU w p gm gk P) (hl : LdO w lo L) (ha : Apo lo p gm gk) (hk : s.k = 9) (kb : 0 ≤ s.k ∧ s.k ≤ 255) (hm : Rm L 8) (hmb : cod P (clp s) = 0 → ∀ r ∈ mid (clp s) ((hat P (clp s).h).getD h0), r.c ≤ 1125899906842624) (R : Rf p gm gk P (clp s) 39) (D : Dd p gm gk P (clp s) 22) :
    Calls Tryz.prog 14 #[.pointer (some ⟨p, 0, none⟩), lpo lo, sv s] w fun e w' => e = .returned (.int .i64 (cod P (clp s))) ∧ ∃ lo', CT w w' p gm gk (stp P s) lo lo' ((row P s).foldl putL L) := by
  obtain ⟨sk, sh, sa, sc, so, sd, sm⟩ := s
  obtain rfl : sk = 9 := hk
  have kb : 0 ≤ (9 : Int) ∧ (9 : Int) ≤ 255 := kb
  have HR : Hid (∀ V, PU V p gm gk P → Calls Tryz.prog 39 #[.pointer (some ⟨p, 0, none⟩), .agg #[.int .u8 9, .int .i64 sh, .int .u8 sa, .int .i64 sc, .int .i64 so, .int .i64 (max sd 0), .int .i64 (max sm 0)]] V fun e w' => e = .returned (.int .i64 (cod P ⟨9, sh, sa, sc, so, max sd 0, max sm 0⟩)) ∧ Below V.heap.size V w') := hid R
  have HD : Hid (cod P ⟨9, sh, sa, sc, so, max sd 0, max sm 0⟩ = 0 → ∀ V lo L, PU V p gm gk P → LdO V lo L → Apo lo p gm gk → Rm L 4 → Calls Tryz.prog 22 #[.pointer (some ⟨p, 0, none⟩), lpo lo, .agg #[.int .u8 9, .int .i64 sh, .int .u8 sa, .int .i64 sc, .int .i64 so, .int .i64 (max sd 0), .int .i64 (max sm 0)]] V fun e w' => e = .returned (.tuple #[]) ∧ ∃ lo', CT V w' p gm gk (nxt P ⟨9, sh, sa, sc, so, max sd 0, max sm 0⟩) lo lo' ((mid ⟨9, sh, sa, sc, so, max sd 0, max sm 0⟩ ((hat P sh).getD h0)).foldl putL L)) := hid D
  have HB : Hid (cod P ⟨9, sh, sa, sc, so, max sd 0, max sm 0⟩ = 0 → ∀ r ∈ mid ⟨9, sh, sa, sc, so, max sd 0, max sm 0⟩ ((hat P sh).getD h0), r.c ≤ 1125899906842624) := hid hmb
  have HC : Hid (cod P ⟨9, sh, sa, sc, so, max sd 0, max sm 0⟩ ≠ 0 → stp P ⟨9, sh, sa, sc, so, sd, sm⟩ = P ∧ ∀ A, (row P ⟨9, sh, sa, sc, so, sd, sm⟩).foldl putL A = putL (putL A ⟨11, 9, 1⟩) ⟨12, cod P ⟨9, sh, sa, sc, so, max sd 0, max sm 0⟩, 1⟩) := hid (fun h => ⟨by
    show (if cod P ⟨9, sh, sa, sc, so, max sd 0, max sm 0⟩ = 0 then nxt P ⟨9, sh, sa, sc, so, max sd 0, max sm 0⟩ else P) = P
    rw [if_neg h], fun A => by
    have e : row P ⟨9, sh, sa, sc, so, sd, sm⟩ = ⟨11, 9, 1⟩ :: (if cod P ⟨9, sh, sa, sc, so, max sd 0, max sm 0⟩ = 0 then flt (mid ⟨9, sh, sa, sc, so, max sd 0, max sm 0⟩ ((hat P sh).getD h0)) else []) ++ [⟨12, cod P ⟨9, sh, sa, sc, so, max sd 0, max sm 0⟩, 1⟩] := rfl
    rw [e, if_neg h]; rfl⟩)
  have HE : Hid (cod P ⟨9, sh, sa, sc, so, max sd 0, max sm 0⟩ = 0 → stp P ⟨9, sh, sa, sc, so, sd, sm⟩ = nxt P ⟨9, sh, sa, sc, so, max sd 0, max sm 0⟩ ∧ ∀ A, (row P ⟨9, sh, sa, sc, so, sd, sm⟩).foldl putL A = putL ((mid ⟨9, sh, sa, sc, so, max sd 0, max sm 0⟩ ((hat P sh).getD h0)).foldl putL (putL A ⟨11, 9, 1⟩)) ⟨12, 0, 1⟩) := hid (fun h => ⟨by
    show (if cod P ⟨9, sh, sa, sc, so, max sd 0, max sm 0⟩ = 0 then nxt P ⟨9, sh, sa, sc, so, max sd 0, max sm 0⟩ else P) = _
    rw [if_pos h], fun A => by
    have e : row P ⟨9, sh, sa, sc, so, sd, sm⟩ = ⟨11, 9, 1⟩ :: (if cod P ⟨9, sh, sa, sc, so, max sd 0, max sm 0⟩ = 0 then flt (mid ⟨9, sh, sa, sc, so, max sd 0, max sm 0⟩ ((hat P sh).getD h0)) else []) ++ [⟨12, cod P ⟨9, sh, sa, sc, so, max sd 0, max sm 0⟩, 1⟩] := rfl
    rw [e, if_pos h, h, List.cons_append, List.foldl_cons, List.foldl_append, foldl_flt]; rfl⟩)
  have cb := cod_b P ⟨9, sh, sa, sc, so, max sd 0, max sm 0⟩
  show Calls _ _ _ _ fun e w' => e = .returned (.int .i64 (cod P ⟨9, sh, sa, sc, so, max sd 0, max sm 0⟩)) ∧ ∃ lo', CT w w' p gm gk (stp P ⟨9, sh, sa, sc, so, sd, sm⟩) lo lo' ((row P ⟨9, sh, sa, sc, so, sd, sm⟩).foldl putL L)
  obtain ⟨c, hc⟩ : ∃ c, cod P ⟨9, sh, sa, sc, so, max sd 0, max sm 0⟩ = c := ⟨_, rfl⟩
  rw [hc] at HR HD HC HE HB cb ⊢
  clear hc hmb R D
  obtain ⟨Wa, hWa⟩ : ∃ W, w.alloc (.cells #[.int .u8 9, .int .i64 sh, .int .u8 sa, .int .i64 sc, .int .i64 so, .int .i64 sd, .int .i64 sm] 31) = W := ⟨_, rfl⟩
  have ba : Below w.heap.size w Wa := by rw [← hWa]; exact below_alloc _ _
  have ka : Blk Wa w.heap.size [.int .u8 9, .int .i64 sh, .int .u8 sa, .int .i64 sc, .int .i64 so, .int .i64 sd, .int .i64 sm] 31 := by rw [← hWa]; exact Blk.newAt w _ _ _ w.heap.size rfl rfl
  have a5 := ka.cell 5 _ rfl
  have a6 := ka.cell 6 _ rfl
  have fa5 := ka.frozen 5
  have fa6 := ka.frozen 6
  obtain ⟨W, hW⟩ : ∃ W', (Wa.setCell ⟨w.heap.size, 5, none⟩ (.int .i64 (max sd 0))).setCell ⟨w.heap.size, 6, none⟩ (.int .i64 (max sm 0)) = W' := ⟨_, rfl⟩
  have BW : Hid (Below w.heap.size w W) := by rw [← hW]; exact Tb.below_set (Tb.below_set ba _ _ _ (Nat.le_refl _) ba.size) _ _ _ (Nat.le_refl _) (by simp [World.setCell]; exact ba.size)
  have KB : Hid (Blk W w.heap.size [.int .u8 9, .int .i64 sh, .int .u8 sa, .int .i64 sc, .int .i64 so, .int .i64 (max sd 0), .int .i64 (max sm 0)] 31) := by rw [← hW]; exact (ka.set 5 _).set 6 _
  have HP := hid (hp.below BW.out)
  have HL := hid (hl.below BW.out)
  have HA := hid ha
  have GL := hid hp.lt
  have HM := hid hm
  have HPW := hid hp
  have LL : Hid (∀ j, blo lo j → j < w.heap.size) := hl.lt
  obtain ⟨U, hU⟩ : ∃ U, W.alloc (.cells #[.nilFunc, .nilFunc] 67) = U := ⟨_, rfl⟩
  have NU : Hid (Below W.heap.size W U) := by rw [← hU]; exact below_alloc _ _
  have ku : Blk U W.heap.size [.nilFunc, .nilFunc] 67 := by rw [← hU]; exact Blk.newAt W _ _ _ W.heap.size rfl rfl
  obtain ⟨V, s1, k1, hk1⟩ := SVn_run 21 22 ku rfl
  have NV : Hid (Below W.heap.size W V) := hid (NU.out.trans (hk1.below NU.out.size (fun k h e => by omega)))
  have s1 : (SVn ⟨W.heap.size, 0, none⟩ (.agg #[.func (.func 21) #[] #[], .func (.func 22) #[] #[]])).run Tryz.prog U = .ok () V := s1
  have x1 := HP.out.c1
  have l0 : (LDn ⟨gk, 0, none⟩).run Tryz.prog W = .ok (.agg #[.func (.func 21) #[] #[], .func (.func 22) #[] #[]]) W := run_loadVar_mid W gk 0 _ [.func (.func 21) #[] #[], .func (.func 22) #[] #[]] _ (HP.out.kt.range 0 _ (fun j v hj => by
    match j, hj with
    | 0, hj => exact hj
    | 1, hj => exact hj
    | j + 2, hj => simp at hj)) Tryz.underlying67 rfl infon
  have D1 : Hid (Below W.heap.size W V.drew) := hid (below_next NV.out (below_drewN V 1))
  have pv := HP.out.below D1.out
  have kv := KB.out.below D1.out
  have y1 := pv.c1
  have y2 := kv.cell 0 _ rfl
  have D2 : Hid (Below W.heap.size W V.drew.drew) := hid (below_next D1.out (below_drewN V.drew 1))
  have DK : Blk V.drew.drew W.heap.size [.func (.func 21) #[] #[], .func (.func 22) #[] #[]] 67 := k1.below (below_drewN V 2)
  have pv2 := HP.out.below D2.out
  have kv2 := KB.out.below D2.out
  have z1 := pv2.c1
  have z2 := kv2.cell 0 _ rfl
  have z3 : (LDn ⟨gk, 18, none⟩).run Tryz.prog V.drew.drew = .ok (.agg #[.func (.func 39) #[] #[], .func (.func 22) #[] #[]]) V.drew.drew := run_loadVar_mid V.drew.drew gk 18 _ [.func (.func 39) #[] #[], .func (.func 22) #[] #[]] _ (pv2.kt.range 18 _ (fun j v hj => by
    match j, hj with
    | 0, hj => exact hj
    | 1, hj => exact hj
    | j + 2, hj => simp at hj)) Tryz.underlying67 rfl infon
  obtain ⟨X, s2, k2, hk2⟩ := SVn_run 39 22 DK rfl
  have s2 : (SVn ⟨W.heap.size, 0, none⟩ (.agg #[.func (.func 39) #[] #[], .func (.func 22) #[] #[]])).run Tryz.prog V.drew.drew = .ok () X := s2
  have NX : Hid (Below W.heap.size W X) := hid (D2.out.trans (hk2.below D2.out.size (fun k h e => by omega)))
  have KX : Hid (Blk X W.heap.size [.func (.func 39) #[] #[], .func (.func 22) #[] #[]] 67) := hid k2
  have pz := HP.out.below NX.out
  have kz := KB.out.below NX.out
  have u1 := pz.c1
  have u2 := kz.cell 0 _ rfl
  have u3 : (LDn ⟨gk, 18, none⟩).run Tryz.prog X = .ok (.agg #[.func (.func 39) #[] #[], .func (.func 22) #[] #[]]) X := run_loadVar_mid X gk 18 _ [.func (.func 39) #[] #[], .func (.func 22) #[] #[]] _ (pz.kt.range 18 _ (fun j v hj => by
    match j, hj with
    | 0, hj => exact hj
    | 1, hj => exact hj
    | j + 2, hj => simp at hj)) Tryz.underlying67 rfl infon
  have KBX := hid (KB.out.below NX.out)
  have HPX := hid (HP.out.below NX.out)
  have HLX := hid (HL.out.below NX.out)
  have BX : Hid (Below w.heap.size w X) := hid (below_next BW.out NX.out)
  have v0 := KX.out.cell 0 _ rfl
  have v1 := LDk_run (s := ⟨9, sh, sa, sc, so, max sd 0, max sm 0⟩) KBX.out
  have v1 : (LDk ⟨w.heap.size, 0, none⟩).run Tryz.prog X = .ok (.agg #[.int .u8 9, .int .i64 sh, .int .u8 sa, .int .i64 sc, .int .i64 so, .int .i64 (max sd 0), .int .i64 (max sm 0)]) X := v1
  clear hp hl ha hm ka ba k1 hk1 ku pv kv pv2 kv2 pz kz k2 hk2 DK
  go_enter Tryz.func14, Tryz.ntmps14
  go_wp2_with fail
  clear hWa hW
  go_region_held3 (fun V => V.cell? ⟨p, 1, none⟩ = some (.slice (some ⟨gk, 0, none⟩) 11 11) ∧ V.cell? ⟨w.heap.size, 0, none⟩ = some (.int .u8 9)) (go_keep) (fail)
  go_wp2_with fail
  go_region_held3 (fun V => V.cell? ⟨p, 1, none⟩ = some (.slice (some ⟨gk, 0, none⟩) 11 11) ∧ V.cell? ⟨w.heap.size, 0, none⟩ = some (.int .u8 9) ∧ (LDn ⟨gk, 18, none⟩).run Tryz.prog V = .ok (.agg #[.func (.func 39) #[] #[], .func (.func 22) #[] #[]]) V) (go_keep) (fail)
  go_wp2_with fail
  refine (HR.out _ HPX.out).mono ?_
  rintro e W1 ⟨rfl, hb⟩
  have N1 : Hid (Below X.heap.size X W1) := hid hb
  have KB1 := hid (KBX.out.below hb)
  have KX1 := hid (KX.out.below hb)
  have q0 := KB1.out.cell 0 _ rfl
  have C0 := hid (CT.after (below_next BX.out N1.out) (CT.refl (HPX.out.below hb) (HLX.out.below hb)))
  have n1 := hid (note_o lo L 11 9 W1 (HLX.out.below hb) (by omega) (HM.out.less (k := 1) (by decide)))
  clear hb
  have wk : IntKind.i64.wrap 9 = 9 := by rw [IntKind.wrap_i64]; omega
  go_wp2_with fail
  refine n1.out.mono ?_
  rintro e W2 ⟨rfl, l2, t2⟩
  have P2 := hid t2.ptr
  have C2 := hid (C0.out.trans (CT.note C0.out.pu (C0.out.apo HPW.out HA.out) t2))
  have RM2 : Hid (Rm (putL L ⟨11, 9, 1⟩) 7) := hid (Rm.put (m := 7) HM.out (by show (1 : Int) ≤ 1125899906842624; decide))
  have nlo : ∀ g, X.heap.size ≤ g ∨ g = w.heap.size ∨ g = W.heap.size → ¬ blo lo g := fun g hg e => by have := LL.out _ e; have := BX.out.size; have := BW.out.size; omega
  have KB2 := hid (KB1.out.kept t2.kp (nlo _ (.inr (.inl rfl))))
  have KX2 := hid (KX1.out.kept t2.kp (nlo _ (.inr (.inr rfl))))
  clear t2 nlo
  by_cases c0 : c = 0
  · subst c0
    obtain ⟨hE1, hE2⟩ := HE.out rfl
    have HE1 := hid hE1
    have HE2 := hid hE2
    clear hE1 hE2
    have HB2 := hid (HB.out rfl)
    have g1 := KX2.out.cell 1 _ rfl
    have g2 := LDk_run (s := ⟨9, sh, sa, sc, so, max sd 0, max sm 0⟩) KB2.out
    have g2 : (LDk ⟨w.heap.size, 0, none⟩).run Tryz.prog W2 = .ok (.agg #[.int .u8 9, .int .i64 sh, .int .u8 sa, .int .i64 sc, .int .i64 so, .int .i64 (max sd 0), .int .i64 (max sm 0)]) W2 := g2
    have d2 := HD.out rfl W2 l2 _ C2.out.pu C2.out.led (C2.out.apo HPW.out HA.out) (RM2.out.less (k := 4) (by decide))
    rw [P2.out] at d2
    have D2 := hid d2
    clear d2
    go_wp2_with fail
    refine D2.out.mono ?_
    rintro e W3 ⟨rfl, l3, c3⟩
    have P3 := hid c3.ptr
    have C3 := hid (C2.out.trans c3)
    clear c3
    have rm3 : Rm ((mid ⟨9, sh, sa, sc, so, max sd 0, max sm 0⟩ ((hat P sh).getD h0)).foldl putL (putL L ⟨11, 9, 1⟩)) 4 := Rm.fold (m := 4) (RM2.out.less (by have := mid_three ⟨9, sh, sa, sc, so, max sd 0, max sm 0⟩ ((hat P sh).getD h0); omega)) HB2.out
    have n3 := note_o l3 _ 12 0 W3 C3.out.led (by omega) (rm3.less (k := 1) (by decide))
    rw [P3.out, P2.out] at n3
    have N3 := hid n3
    clear n3 rm3
    go_wp2_with fail
    refine N3.out.mono ?_
    rintro e W4 ⟨rfl, l4, t4⟩
    have C4 := hid (C3.out.trans (CT.note C3.out.pu (C3.out.apo HPW.out HA.out) t4))
    clear t4
    go_wp2
    go_ret
    exact ⟨rfl, l4, by rw [HE1.out, HE2.out]; exact C4.out⟩
  · have n3 := note_o l2 _ 12 c W2 C2.out.led (by omega) (RM2.out.less (k := 1) (by decide))
    rw [P2.out] at n3
    have N3 := hid n3
    have c1 : (c == 0) = false := by simpa using c0
    clear n3
    go_wp2_with fail
    refine N3.out.mono ?_
    rintro e W4 ⟨rfl, l4, t4⟩
    have C4 := hid (C2.out.trans (CT.note C2.out.pu (C2.out.apo HPW.out HA.out) t4))
    clear t4
    go_wp2
    go_ret
    exact ⟨rfl, l4, by rw [(HC.out c0).1, (HC.out c0).2]; exact C4.out⟩
set_option maxRecDepth 8000 in
set_option maxHeartbeats 1600000 in
theorem record_10 (p gm gk : Nat) (P : St) (s : Sk) (lo : Lo) (L : List Rn) (w : World) (hp : PU w p gm gk P) (hl : LdO w lo L) (ha : Apo lo p gm gk) (hk : s.k = 10) (kb : 0 ≤ s.k ∧ s.k ≤ 255) (hm : Rm L 8) (hmb : cod P (clp s) = 0 → ∀ r ∈ mid (clp s) ((hat P (clp s).h).getD h0), r.c ≤ 1125899906842624) (R : Rf p gm gk P (clp s) 40) (D : Dd p gm gk P (clp s) 41) :
    Calls Tryz.prog 14 #[.pointer (some ⟨p, 0, none⟩), lpo lo, sv s] w fun e w' => e = .returned (.int .i64 (cod P (clp s))) ∧ ∃ lo', CT w w' p gm gk (stp P s) lo lo' ((row P s).foldl putL L) := by
  obtain ⟨sk, sh, sa, sc, so, sd, sm⟩ := s
  obtain rfl : sk = 10 := hk
  have kb : 0 ≤ (10 : Int) ∧ (10 : Int) ≤ 255 := kb
  have HR : Hid (∀ V, PU V p gm gk P → Calls Tryz.prog 40 #[.pointer (some ⟨p, 0, none⟩), .agg #[.int .u8 10, .int .i64 sh, .int .u8 sa, .int .i64 sc, .int .i64 so, .int .i64 (max sd 0), .int .i64 (max sm 0)]] V fun e w' => e = .returned (.int .i64 (cod P ⟨10, sh, sa, sc, so, max sd 0, max sm 0⟩)) ∧ Below V.heap.size V w') := hid R
  have HD : Hid (cod P ⟨10, sh, sa, sc, so, max sd 0, max sm 0⟩ = 0 → ∀ V lo L, PU V p gm gk P → LdO V lo L → Apo lo p gm gk → Rm L 4 → Calls Tryz.prog 41 #[.pointer (some ⟨p, 0, none⟩), lpo lo, .agg #[.int .u8 10, .int .i64 sh, .int .u8 sa, .int .i64 sc, .int .i64 so, .int .i64 (max sd 0), .int .i64 (max sm 0)]] V fun e w' => e = .returned (.tuple #[]) ∧ ∃ lo', CT V w' p gm gk (nxt P ⟨10, sh, sa, sc, so, max sd 0, max sm 0⟩) lo lo' ((mid ⟨10, sh, sa, sc, so, max sd 0, max sm 0⟩ ((hat P sh).getD h0)).foldl putL L)) := hid D
  have HB : Hid (cod P ⟨10, sh, sa, sc, so, max sd 0, max sm 0⟩ = 0 → ∀ r ∈ mid ⟨10, sh, sa, sc, so, max sd 0, max sm 0⟩ ((hat P sh).getD h0), r.c ≤ 1125899906842624) := hid hmb
  have HC : Hid (cod P ⟨10, sh, sa, sc, so, max sd 0, max sm 0⟩ ≠ 0 → stp P ⟨10, sh, sa, sc, so, sd, sm⟩ = P ∧ ∀ A, (row P ⟨10, sh, sa, sc, so, sd, sm⟩).foldl putL A = putL (putL A ⟨11, 10, 1⟩) ⟨12, cod P ⟨10, sh, sa, sc, so, max sd 0, max sm 0⟩, 1⟩) := hid (fun h => ⟨by
    show (if cod P ⟨10, sh, sa, sc, so, max sd 0, max sm 0⟩ = 0 then nxt P ⟨10, sh, sa, sc, so, max sd 0, max sm 0⟩ else P) = P
    rw [if_neg h], fun A => by
    have e : row P ⟨10, sh, sa, sc, so, sd, sm⟩ = ⟨11, 10, 1⟩ :: (if cod P ⟨10, sh, sa, sc, so, max sd 0, max sm 0⟩ = 0 then flt (mid ⟨10, sh, sa, sc, so, max sd 0, max sm 0⟩ ((hat P sh).getD h0)) else []) ++ [⟨12, cod P ⟨10, sh, sa, sc, so, max sd 0, max sm 0⟩, 1⟩] := rfl
    rw [e, if_neg h]; rfl⟩)
  have HE : Hid (cod P ⟨10, sh, sa, sc, so, max sd 0, max sm 0⟩ = 0 → stp P ⟨10, sh, sa, sc, so, sd, sm⟩ = nxt P ⟨10, sh, sa, sc, so, max sd 0, max sm 0⟩ ∧ ∀ A, (row P ⟨10, sh, sa, sc, so, sd, sm⟩).foldl putL A = putL ((mid ⟨10, sh, sa, sc, so, max sd 0, max sm 0⟩ ((hat P sh).getD h0)).foldl putL (putL A ⟨11, 10, 1⟩)) ⟨12, 0, 1⟩) := hid (fun h => ⟨by
    show (if cod P ⟨10, sh, sa, sc, so, max sd 0, max sm 0⟩ = 0 then nxt P ⟨10, sh, sa, sc, so, max sd 0, max sm 0⟩ else P) = _
    rw [if_pos h], fun A => by
    have e : row P ⟨10, sh, sa, sc, so, sd, sm⟩ = ⟨11, 10, 1⟩ :: (if cod P ⟨10, sh, sa, sc, so, max sd 0, max sm 0⟩ = 0 then flt (mid ⟨10, sh, sa, sc, so, max sd 0, max sm 0⟩ ((hat P sh).getD h0)) else []) ++ [⟨12, cod P ⟨10, sh, sa, sc, so, max sd 0, max sm 0⟩, 1⟩] := rfl
    rw [e, if_pos h, h, List.cons_append, List.foldl_cons, List.foldl_append, foldl_flt]; rfl⟩)
  have cb := cod_b P ⟨10, sh, sa, sc, so, max sd 0, max sm 0⟩
  show Calls _ _ _ _ fun e w' => e = .returned (.int .i64 (cod P ⟨10, sh, sa, sc, so, max sd 0, max sm 0⟩)) ∧ ∃ lo', CT w w' p gm gk (stp P ⟨10, sh, sa, sc, so, sd, sm⟩) lo lo' ((row P ⟨10, sh, sa, sc, so, sd, sm⟩).foldl putL L)
  obtain ⟨c, hc⟩ : ∃ c, cod P ⟨10, sh, sa, sc, so, max sd 0, max sm 0⟩ = c := ⟨_, rfl⟩
  rw [hc] at HR HD HC HE HB cb ⊢
  clear hc hmb R D
  obtain ⟨Wa, hWa⟩ : ∃ W, w.alloc (.cells #[.int .u8 10, .int .i64 sh, .int .u8 sa, .int .i64 sc, .int .i64 so, .int .i64 sd, .int .i64 sm] 31) = W := ⟨_, rfl⟩
  have ba : Below w.heap.size w Wa := by rw [← hWa]; exact below_alloc _ _
  have ka : Blk Wa w.heap.size [.int .u8 10, .int .i64 sh, .int .u8 sa, .int .i64 sc, .int .i64 so, .int .i64 sd, .int .i64 sm] 31 := by rw [← hWa]; exact Blk.newAt w _ _ _ w.heap.size rfl rfl
  have a5 := ka.cell 5 _ rfl
  have a6 := ka.cell 6 _ rfl
  have fa5 := ka.frozen 5
  have fa6 := ka.frozen 6
  obtain ⟨W, hW⟩ : ∃ W', (Wa.setCell ⟨w.heap.size, 5, none⟩ (.int .i64 (max sd 0))).setCell ⟨w.heap.size, 6, none⟩ (.int .i64 (max sm 0)) = W' := ⟨_, rfl⟩
  have BW : Hid (Below w.heap.size w W) := by rw [← hW]; exact Tb.below_set (Tb.below_set ba _ _ _ (Nat.le_refl _) ba.size) _ _ _ (Nat.le_refl _) (by simp [World.setCell]; exact ba.size)
  have KB : Hid (Blk W w.heap.size [.int .u8 10, .int .i64 sh, .int .u8 sa, .int .i64 sc, .int .i64 so, .int .i64 (max sd 0), .int .i64 (max sm 0)] 31) := by rw [← hW]; exact (ka.set 5 _).set 6 _
  have HP := hid (hp.below BW.out)
  have HL := hid (hl.below BW.out)
  have HA := hid ha
  have GL := hid hp.lt
  have HM := hid hm
  have HPW := hid hp
  have LL : Hid (∀ j, blo lo j → j < w.heap.size) := hl.lt
  obtain ⟨U, hU⟩ : ∃ U, W.alloc (.cells #[.nilFunc, .nilFunc] 67) = U := ⟨_, rfl⟩
  have NU : Hid (Below W.heap.size W U) := by rw [← hU]; exact below_alloc _ _
  have ku : Blk U W.heap.size [.nilFunc, .nilFunc] 67 := by rw [← hU]; exact Blk.newAt W _ _ _ W.heap.size rfl rfl
  obtain ⟨V, s1, k1, hk1⟩ := SVn_run 21 22 ku rfl
  have NV : Hid (Below W.heap.size W V) := hid (NU.out.trans (hk1.below NU.out.size (fun k h e => by omega)))
  have s1 : (SVn ⟨W.heap.size, 0, none⟩ (.agg #[.func (.func 21) #[] #[], .func (.func 22) #[] #[]])).run Tryz.prog U = .ok () V := s1
  have x1 := HP.out.c1
  have l0 : (LDn ⟨gk, 0, none⟩).run Tryz.prog W = .ok (.agg #[.func (.func 21) #[] #[], .func (.func 22) #[] #[]]) W := run_loadVar_mid W gk 0 _ [.func (.func 21) #[] #[], .func (.func 22) #[] #[]] _ (HP.out.kt.range 0 _ (fun j v hj => by
    match j, hj with
    | 0, hj => exact hj
    | 1, hj => exact hj
    | j + 2, hj => simp at hj)) Tryz.underlying67 rfl infon
  have D1 : Hid (Below W.heap.size W V.drew) := hid (below_next NV.out (below_drewN V 1))
  have pv := HP.out.below D1.out
  have kv := KB.out.below D1.out
  have y1 := pv.c1
  have y2 := kv.cell 0 _ rfl
  have D2 : Hid (Below W.heap.size W V.drew.drew) := hid (below_next D1.out (below_drewN V.drew 1))
  have DK : Blk V.drew.drew W.heap.size [.func (.func 21) #[] #[], .func (.func 22) #[] #[]] 67 := k1.below (below_drewN V 2)
  have pv2 := HP.out.below D2.out
  have kv2 := KB.out.below D2.out
  have z1 := pv2.c1
  have z2 := kv2.cell 0 _ rfl
  have z3 : (LDn ⟨gk, 20, none⟩).run Tryz.prog V.drew.drew = .ok (.agg #[.func (.func 40) #[] #[], .func (.func 41) #[] #[]]) V.drew.drew := run_loadVar_mid V.drew.drew gk 20 _ [.func (.func 40) #[] #[], .func (.func 41) #[] #[]] _ (pv2.kt.range 20 _ (fun j v hj => by
    match j, hj with
    | 0, hj => exact hj
    | 1, hj => exact hj
    | j + 2, hj => simp at hj)) Tryz.underlying67 rfl infon
  obtain ⟨X, s2, k2, hk2⟩ := SVn_run 40 41 DK rfl
  have s2 : (SVn ⟨W.heap.size, 0, none⟩ (.agg #[.func (.func 40) #[] #[], .func (.func 41) #[] #[]])).run Tryz.prog V.drew.drew = .ok () X := s2
  have NX : Hid (Below W.heap.size W X) := hid (D2.out.trans (hk2.below D2.out.size (fun k h e => by omega)))
  have KX : Hid (Blk X W.heap.size [.func (.func 40) #[] #[], .func (.func 41) #[] #[]] 67) := hid k2
  have pz := HP.out.below NX.out
  have kz := KB.out.below NX.out
  have u1 := pz.c1
  have u2 := kz.cell 0 _ rfl
  have u3 : (LDn ⟨gk, 20, none⟩).run Tryz.prog X = .ok (.agg #[.func (.func 40) #[] #[], .func (.func 41) #[] #[]]) X := run_loadVar_mid X gk 20 _ [.func (.func 40) #[] #[], .func (.func 41) #[] #[]] _ (pz.kt.range 20 _ (fun j v hj => by
    match j, hj with
    | 0, hj => exact hj
    | 1, hj => exact hj
    | j + 2, hj => simp at hj)) Tryz.underlying67 rfl infon
  have KBX := hid (KB.out.below NX.out)
  have HPX := hid (HP.out.below NX.out)
  have HLX := hid (HL.out.below NX.out)
  have BX : Hid (Below w.heap.size w X) := hid (below_next BW.out NX.out)
  have v0 := KX.out.cell 0 _ rfl
  have v1 := LDk_run (s := ⟨10, sh, sa, sc, so, max sd 0, max sm 0⟩) KBX.out
  have v1 : (LDk ⟨w.heap.size, 0, none⟩).run Tryz.prog X = .ok (.agg #[.int .u8 10, .int .i64 sh, .int .u8 sa, .int .i64 sc, .int .i64 so, .int .i64 (max sd 0), .int .i64 (max sm 0)]) X := v1
  clear hp hl ha hm ka ba k1 hk1 ku pv kv pv2 kv2 pz kz k2 hk2 DK
  go_enter Tryz.func14, Tryz.ntmps14
  go_wp2_with fail
  clear hWa hW
  go_region_held3 (fun V => V.cell? ⟨p, 1, none⟩ = some (.slice (some ⟨gk, 0, none⟩) 11 11) ∧ V.cell? ⟨w.heap.size, 0, none⟩ = some (.int .u8 10)) (go_keep) (fail)
  go_wp2_with fail
  go_region_held3 (fun V => V.cell? ⟨p, 1, none⟩ = some (.slice (some ⟨gk, 0, none⟩) 11 11) ∧ V.cell? ⟨w.heap.size, 0, none⟩ = some (.int .u8 10) ∧ (LDn ⟨gk, 20, none⟩).run Tryz.prog V = .ok (.agg #[.func (.func 40) #[] #[], .func (.func 41) #[] #[]]) V) (go_keep) (fail)
  go_wp2_with fail
  refine (HR.out _ HPX.out).mono ?_
  rintro e W1 ⟨rfl, hb⟩
  have N1 : Hid (Below X.heap.size X W1) := hid hb
  have KB1 := hid (KBX.out.below hb)
  have KX1 := hid (KX.out.below hb)
  have q0 := KB1.out.cell 0 _ rfl
  have C0 := hid (CT.after (below_next BX.out N1.out) (CT.refl (HPX.out.below hb) (HLX.out.below hb)))
  have n1 := hid (note_o lo L 11 10 W1 (HLX.out.below hb) (by omega) (HM.out.less (k := 1) (by decide)))
  clear hb
  have wk : IntKind.i64.wrap 10 = 10 := by rw [IntKind.wrap_i64]; omega
  go_wp2_with fail
  refine n1.out.mono ?_
  rintro e W2 ⟨rfl, l2, t2⟩
  have P2 := hid t2.ptr
  have C2 := hid (C0.out.trans (CT.note C0.out.pu (C0.out.apo HPW.out HA.out) t2))
  have RM2 : Hid (Rm (putL L ⟨11, 10, 1⟩) 7) := hid (Rm.put (m := 7) HM.out (by show (1 : Int) ≤ 1125899906842624; decide))
  have nlo : ∀ g, X.heap.size ≤ g ∨ g = w.heap.size ∨ g = W.heap.size → ¬ blo lo g := fun g hg e => by have := LL.out _ e; have := BX.out.size; have := BW.out.size; omega
  have KB2 := hid (KB1.out.kept t2.kp (nlo _ (.inr (.inl rfl))))
  have KX2 := hid (KX1.out.kept t2.kp (nlo _ (.inr (.inr rfl))))
  clear t2 nlo
  by_cases c0 : c = 0
  · subst c0
    obtain ⟨hE1, hE2⟩ := HE.out rfl
    have HE1 := hid hE1
    have HE2 := hid hE2
    clear hE1 hE2
    have HB2 := hid (HB.out rfl)
    have g1 := KX2.out.cell 1 _ rfl
    have g2 := LDk_run (s := ⟨10, sh, sa, sc, so, max sd 0, max sm 0⟩) KB2.out
    have g2 : (LDk ⟨w.heap.size, 0, none⟩).run Tryz.prog W2 = .ok (.agg #[.int .u8 10, .int .i64 sh, .int .u8 sa, .int .i64 sc, .int .i64 so, .int .i64 (max sd 0), .int .i64 (max sm 0)]) W2 := g2
    have d2 := HD.out rfl W2 l2 _ C2.out.pu C2.out.led (C2.out.apo HPW.out HA.out) (RM2.out.less (k := 4) (by decide))
    rw [P2.out] at d2
    have D2 := hid d2
    clear d2
    go_wp2_with fail
    refine D2.out.mono ?_
    rintro e W3 ⟨rfl, l3, c3⟩
    have P3 := hid c3.ptr
    have C3 := hid (C2.out.trans c3)
    clear c3
    have rm3 : Rm ((mid ⟨10, sh, sa, sc, so, max sd 0, max sm 0⟩ ((hat P sh).getD h0)).foldl putL (putL L ⟨11, 10, 1⟩)) 4 := Rm.fold (m := 4) (RM2.out.less (by have := mid_three ⟨10, sh, sa, sc, so, max sd 0, max sm 0⟩ ((hat P sh).getD h0); omega)) HB2.out
    have n3 := note_o l3 _ 12 0 W3 C3.out.led (by omega) (rm3.less (k := 1) (by decide))
    rw [P3.out, P2.out] at n3
    have N3 := hid n3
    clear n3 rm3
    go_wp2_with fail
    refine N3.out.mono ?_
    rintro e W4 ⟨rfl, l4, t4⟩
    have C4 := hid (C3.out.trans (CT.note C3.out.pu (C3.out.apo HPW.out HA.out) t4))
    clear t4
    go_wp2
    go_ret
    exact ⟨rfl, l4, by rw [HE1.out, HE2.out]; exact C4.out⟩
  · have n3 := note_o l2 _ 12 c W2 C2.out.led (by omega) (RM2.out.less (k := 1) (by decide))
    rw [P2.out] at n3
    have N3 := hid n3
    have c1 : (c == 0) = false := by simpa using c0
    clear n3
    go_wp2_with fail
    refine N3.out.mono ?_
    rintro e W4 ⟨rfl, l4, t4⟩
    have C4 := hid (C2.out.trans (CT.note C2.out.pu (C2.out.apo HPW.out HA.out) t4))
    clear t4
    go_wp2
    go_ret
    exact ⟨rfl, l4, by rw [(HC.out c0).1, (HC.out c0).2]; exact C4.out⟩
set_option maxRecDepth 8000 in
set_option maxHeartbeats 1600000 in
theorem record_no (p gm gk : Nat) (P : St) (s : Sk) (lo : Lo) (L : List Rn) (w : World) (hp : PU w p gm gk P) (hl : LdO w lo L) (ha : Apo lo p gm gk) (hk : 10 < s.k) (kb : 0 ≤ s.k ∧ s.k ≤ 255) (hm : Rm L 8) (hmb : cod P (clp s) = 0 → ∀ r ∈ mid (clp s) ((hat P (clp s).h).getD h0), r.c ≤ 1125899906842624) (R : Rf p gm gk P (clp s) 21) (D : Dd p gm gk P (clp s) 22) :
    Calls Tryz.prog 14 #[.pointer (some ⟨p, 0, none⟩), lpo lo, sv s] w fun e w' => e = .returned (.int .i64 (cod P (clp s))) ∧ ∃ lo', CT w w' p gm gk (stp P s) lo lo' ((row P s).foldl putL L) := by
  obtain ⟨sk, sh, sa, sc, so, sd, sm⟩ := s
  have hk : 10 < sk := hk
  have kb : 0 ≤ (sk : Int) ∧ (sk : Int) ≤ 255 := kb
  have HR : Hid (∀ V, PU V p gm gk P → Calls Tryz.prog 21 #[.pointer (some ⟨p, 0, none⟩), .agg #[.int .u8 sk, .int .i64 sh, .int .u8 sa, .int .i64 sc, .int .i64 so, .int .i64 (max sd 0), .int .i64 (max sm 0)]] V fun e w' => e = .returned (.int .i64 (cod P ⟨sk, sh, sa, sc, so, max sd 0, max sm 0⟩)) ∧ Below V.heap.size V w') := hid R
  have HD : Hid (cod P ⟨sk, sh, sa, sc, so, max sd 0, max sm 0⟩ = 0 → ∀ V lo L, PU V p gm gk P → LdO V lo L → Apo lo p gm gk → Rm L 4 → Calls Tryz.prog 22 #[.pointer (some ⟨p, 0, none⟩), lpo lo, .agg #[.int .u8 sk, .int .i64 sh, .int .u8 sa, .int .i64 sc, .int .i64 so, .int .i64 (max sd 0), .int .i64 (max sm 0)]] V fun e w' => e = .returned (.tuple #[]) ∧ ∃ lo', CT V w' p gm gk (nxt P ⟨sk, sh, sa, sc, so, max sd 0, max sm 0⟩) lo lo' ((mid ⟨sk, sh, sa, sc, so, max sd 0, max sm 0⟩ ((hat P sh).getD h0)).foldl putL L)) := hid D
  have HB : Hid (cod P ⟨sk, sh, sa, sc, so, max sd 0, max sm 0⟩ = 0 → ∀ r ∈ mid ⟨sk, sh, sa, sc, so, max sd 0, max sm 0⟩ ((hat P sh).getD h0), r.c ≤ 1125899906842624) := hid hmb
  have HC : Hid (cod P ⟨sk, sh, sa, sc, so, max sd 0, max sm 0⟩ ≠ 0 → stp P ⟨sk, sh, sa, sc, so, sd, sm⟩ = P ∧ ∀ A, (row P ⟨sk, sh, sa, sc, so, sd, sm⟩).foldl putL A = putL (putL A ⟨11, sk, 1⟩) ⟨12, cod P ⟨sk, sh, sa, sc, so, max sd 0, max sm 0⟩, 1⟩) := hid (fun h => ⟨by
    show (if cod P ⟨sk, sh, sa, sc, so, max sd 0, max sm 0⟩ = 0 then nxt P ⟨sk, sh, sa, sc, so, max sd 0, max sm 0⟩ else P) = P
    rw [if_neg h], fun A => by
    have e : row P ⟨sk, sh, sa, sc, so, sd, sm⟩ = ⟨11, sk, 1⟩ :: (if cod P ⟨sk, sh, sa, sc, so, max sd 0, max sm 0⟩ = 0 then flt (mid ⟨sk, sh, sa, sc, so, max sd 0, max sm 0⟩ ((hat P sh).getD h0)) else []) ++ [⟨12, cod P ⟨sk, sh, sa, sc, so, max sd 0, max sm 0⟩, 1⟩] := rfl
    rw [e, if_neg h]; rfl⟩)
  have HE : Hid (cod P ⟨sk, sh, sa, sc, so, max sd 0, max sm 0⟩ = 0 → stp P ⟨sk, sh, sa, sc, so, sd, sm⟩ = nxt P ⟨sk, sh, sa, sc, so, max sd 0, max sm 0⟩ ∧ ∀ A, (row P ⟨sk, sh, sa, sc, so, sd, sm⟩).foldl putL A = putL ((mid ⟨sk, sh, sa, sc, so, max sd 0, max sm 0⟩ ((hat P sh).getD h0)).foldl putL (putL A ⟨11, sk, 1⟩)) ⟨12, 0, 1⟩) := hid (fun h => ⟨by
    show (if cod P ⟨sk, sh, sa, sc, so, max sd 0, max sm 0⟩ = 0 then nxt P ⟨sk, sh, sa, sc, so, max sd 0, max sm 0⟩ else P) = _
    rw [if_pos h], fun A => by
    have e : row P ⟨sk, sh, sa, sc, so, sd, sm⟩ = ⟨11, sk, 1⟩ :: (if cod P ⟨sk, sh, sa, sc, so, max sd 0, max sm 0⟩ = 0 then flt (mid ⟨sk, sh, sa, sc, so, max sd 0, max sm 0⟩ ((hat P sh).getD h0)) else []) ++ [⟨12, cod P ⟨sk, sh, sa, sc, so, max sd 0, max sm 0⟩, 1⟩] := rfl
    rw [e, if_pos h, h, List.cons_append, List.foldl_cons, List.foldl_append, foldl_flt]; rfl⟩)
  have cb := cod_b P ⟨sk, sh, sa, sc, so, max sd 0, max sm 0⟩
  show Calls _ _ _ _ fun e w' => e = .returned (.int .i64 (cod P ⟨sk, sh, sa, sc, so, max sd 0, max sm 0⟩)) ∧ ∃ lo', CT w w' p gm gk (stp P ⟨sk, sh, sa, sc, so, sd, sm⟩) lo lo' ((row P ⟨sk, sh, sa, sc, so, sd, sm⟩).foldl putL L)
  obtain ⟨c, hc⟩ : ∃ c, cod P ⟨sk, sh, sa, sc, so, max sd 0, max sm 0⟩ = c := ⟨_, rfl⟩
  rw [hc] at HR HD HC HE HB cb ⊢
  clear hc hmb R D
  obtain ⟨Wa, hWa⟩ : ∃ W, w.alloc (.cells #[.int .u8 sk, .int .i64 sh, .int .u8 sa, .int .i64 sc, .int .i64 so, .int .i64 sd, .int .i64 sm] 31) = W := ⟨_, rfl⟩
  have ba : Below w.heap.size w Wa := by rw [← hWa]; exact below_alloc _ _
  have ka : Blk Wa w.heap.size [.int .u8 sk, .int .i64 sh, .int .u8 sa, .int .i64 sc, .int .i64 so, .int .i64 sd, .int .i64 sm] 31 := by rw [← hWa]; exact Blk.newAt w _ _ _ w.heap.size rfl rfl
  have a5 := ka.cell 5 _ rfl
  have a6 := ka.cell 6 _ rfl
  have fa5 := ka.frozen 5
  have fa6 := ka.frozen 6
  obtain ⟨W, hW⟩ : ∃ W', (Wa.setCell ⟨w.heap.size, 5, none⟩ (.int .i64 (max sd 0))).setCell ⟨w.heap.size, 6, none⟩ (.int .i64 (max sm 0)) = W' := ⟨_, rfl⟩
  have BW : Hid (Below w.heap.size w W) := by rw [← hW]; exact Tb.below_set (Tb.below_set ba _ _ _ (Nat.le_refl _) ba.size) _ _ _ (Nat.le_refl _) (by simp [World.setCell]; exact ba.size)
  have KB : Hid (Blk W w.heap.size [.int .u8 sk, .int .i64 sh, .int .u8 sa, .int .i64 sc, .int .i64 so, .int .i64 (max sd 0), .int .i64 (max sm 0)] 31) := by rw [← hW]; exact (ka.set 5 _).set 6 _
  have HP := hid (hp.below BW.out)
  have HL := hid (hl.below BW.out)
  have HA := hid ha
  have GL := hid hp.lt
  have HM := hid hm
  have HPW := hid hp
  have LL : Hid (∀ j, blo lo j → j < w.heap.size) := hl.lt
  obtain ⟨U, hU⟩ : ∃ U, W.alloc (.cells #[.nilFunc, .nilFunc] 67) = U := ⟨_, rfl⟩
  have NU : Hid (Below W.heap.size W U) := by rw [← hU]; exact below_alloc _ _
  have ku : Blk U W.heap.size [.nilFunc, .nilFunc] 67 := by rw [← hU]; exact Blk.newAt W _ _ _ W.heap.size rfl rfl
  obtain ⟨V, s1, k1, hk1⟩ := SVn_run 21 22 ku rfl
  have NV : Hid (Below W.heap.size W V) := hid (NU.out.trans (hk1.below NU.out.size (fun k h e => by omega)))
  have s1 : (SVn ⟨W.heap.size, 0, none⟩ (.agg #[.func (.func 21) #[] #[], .func (.func 22) #[] #[]])).run Tryz.prog U = .ok () V := s1
  have x1 := HP.out.c1
  have l0 : (LDn ⟨gk, 0, none⟩).run Tryz.prog W = .ok (.agg #[.func (.func 21) #[] #[], .func (.func 22) #[] #[]]) W := run_loadVar_mid W gk 0 _ [.func (.func 21) #[] #[], .func (.func 22) #[] #[]] _ (HP.out.kt.range 0 _ (fun j v hj => by
    match j, hj with
    | 0, hj => exact hj
    | 1, hj => exact hj
    | j + 2, hj => simp at hj)) Tryz.underlying67 rfl infon
  have D1 : Hid (Below W.heap.size W V.drew) := hid (below_next NV.out (below_drewN V 1))
  have pv := HP.out.below D1.out
  have kv := KB.out.below D1.out
  have y1 := pv.c1
  have y2 := kv.cell 0 _ rfl
  obtain ⟨X, hX⟩ : ∃ X, V.drew = X := ⟨_, rfl⟩
  have NX : Hid (Below W.heap.size W X) := by rw [← hX]; exact D1.out
  have KX : Hid (Blk X W.heap.size [.func (.func 21) #[] #[], .func (.func 22) #[] #[]] 67) := by rw [← hX]; exact k1.below (below_drewN V 1)
  rw [hX] at y1 y2
  have nk : ¬ sk < 11 := by omega
  have wk0 : IntKind.i64.wrap sk = sk := by rw [IntKind.wrap_i64]; omega
  have nk2 : decide (sk < 11) = false := by simpa using nk
  have KBX := hid (KB.out.below NX.out)
  have HPX := hid (HP.out.below NX.out)
  have HLX := hid (HL.out.below NX.out)
  have BX : Hid (Below w.heap.size w X) := hid (below_next BW.out NX.out)
  have v0 := KX.out.cell 0 _ rfl
  have v1 := LDk_run (s := ⟨sk, sh, sa, sc, so, max sd 0, max sm 0⟩) KBX.out
  have v1 : (LDk ⟨w.heap.size, 0, none⟩).run Tryz.prog X = .ok (.agg #[.int .u8 sk, .int .i64 sh, .int .u8 sa, .int .i64 sc, .int .i64 so, .int .i64 (max sd 0), .int .i64 (max sm 0)]) X := v1
  clear hp hl ha hm ka ba k1 hk1 ku pv kv 
  go_enter Tryz.func14, Tryz.ntmps14
  go_wp2_with fail
  clear hWa hW
  go_region_held3 (fun V => V.cell? ⟨p, 1, none⟩ = some (.slice (some ⟨gk, 0, none⟩) 11 11) ∧ V.cell? ⟨w.heap.size, 0, none⟩ = some (.int .u8 sk)) (go_keep) (fail)
  go_wp2_with fail
  go_wp2_with fail
  refine (HR.out _ HPX.out).mono ?_
  rintro e W1 ⟨rfl, hb⟩
  have N1 : Hid (Below X.heap.size X W1) := hid hb
  have KB1 := hid (KBX.out.below hb)
  have KX1 := hid (KX.out.below hb)
  have q0 := KB1.out.cell 0 _ rfl
  have C0 := hid (CT.after (below_next BX.out N1.out) (CT.refl (HPX.out.below hb) (HLX.out.below hb)))
  have n1 := hid (note_o lo L 11 sk W1 (HLX.out.below hb) (by omega) (HM.out.less (k := 1) (by decide)))
  clear hb
  have wk : IntKind.i64.wrap sk = sk := by rw [IntKind.wrap_i64]; omega
  go_wp2_with fail
  refine n1.out.mono ?_
  rintro e W2 ⟨rfl, l2, t2⟩
  have P2 := hid t2.ptr
  have C2 := hid (C0.out.trans (CT.note C0.out.pu (C0.out.apo HPW.out HA.out) t2))
  have RM2 : Hid (Rm (putL L ⟨11, sk, 1⟩) 7) := hid (Rm.put (m := 7) HM.out (by show (1 : Int) ≤ 1125899906842624; decide))
  have nlo : ∀ g, X.heap.size ≤ g ∨ g = w.heap.size ∨ g = W.heap.size → ¬ blo lo g := fun g hg e => by have := LL.out _ e; have := BX.out.size; have := BW.out.size; omega
  have KB2 := hid (KB1.out.kept t2.kp (nlo _ (.inr (.inl rfl))))
  have KX2 := hid (KX1.out.kept t2.kp (nlo _ (.inr (.inr rfl))))
  clear t2 nlo
  by_cases c0 : c = 0
  · subst c0
    obtain ⟨hE1, hE2⟩ := HE.out rfl
    have HE1 := hid hE1
    have HE2 := hid hE2
    clear hE1 hE2
    have HB2 := hid (HB.out rfl)
    have g1 := KX2.out.cell 1 _ rfl
    have g2 := LDk_run (s := ⟨sk, sh, sa, sc, so, max sd 0, max sm 0⟩) KB2.out
    have g2 : (LDk ⟨w.heap.size, 0, none⟩).run Tryz.prog W2 = .ok (.agg #[.int .u8 sk, .int .i64 sh, .int .u8 sa, .int .i64 sc, .int .i64 so, .int .i64 (max sd 0), .int .i64 (max sm 0)]) W2 := g2
    have d2 := HD.out rfl W2 l2 _ C2.out.pu C2.out.led (C2.out.apo HPW.out HA.out) (RM2.out.less (k := 4) (by decide))
    rw [P2.out] at d2
    have D2 := hid d2
    clear d2
    go_wp2_with fail
    refine D2.out.mono ?_
    rintro e W3 ⟨rfl, l3, c3⟩
    have P3 := hid c3.ptr
    have C3 := hid (C2.out.trans c3)
    clear c3
    have rm3 : Rm ((mid ⟨sk, sh, sa, sc, so, max sd 0, max sm 0⟩ ((hat P sh).getD h0)).foldl putL (putL L ⟨11, sk, 1⟩)) 4 := Rm.fold (m := 4) (RM2.out.less (by have := mid_three ⟨sk, sh, sa, sc, so, max sd 0, max sm 0⟩ ((hat P sh).getD h0); omega)) HB2.out
    have n3 := note_o l3 _ 12 0 W3 C3.out.led (by omega) (rm3.less (k := 1) (by decide))
    rw [P3.out, P2.out] at n3
    have N3 := hid n3
    clear n3 rm3
    go_wp2_with fail
    refine N3.out.mono ?_
    rintro e W4 ⟨rfl, l4, t4⟩
    have C4 := hid (C3.out.trans (CT.note C3.out.pu (C3.out.apo HPW.out HA.out) t4))
    clear t4
    go_wp2
    go_ret
    exact ⟨rfl, l4, by rw [HE1.out, HE2.out]; exact C4.out⟩
  · have n3 := note_o l2 _ 12 c W2 C2.out.led (by omega) (RM2.out.less (k := 1) (by decide))
    rw [P2.out] at n3
    have N3 := hid n3
    have c1 : (c == 0) = false := by simpa using c0
    clear n3
    go_wp2_with fail
    refine N3.out.mono ?_
    rintro e W4 ⟨rfl, l4, t4⟩
    have C4 := hid (C2.out.trans (CT.note C2.out.pu (C2.out.apo HPW.out HA.out) t4))
    clear t4
    go_wp2
    go_ret
    exact ⟨rfl, l4, by rw [(HC.out c0).1, (HC.out c0).2]; exact C4.out⟩
end Go.Proofs.YtdmacflcjbkkpabGreat.Co
