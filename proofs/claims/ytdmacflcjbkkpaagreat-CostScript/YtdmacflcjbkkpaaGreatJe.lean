/- What is done of any operation, kind by kind (1). What is done of any operation, kind by kind (2). What is done of any operation, kind by kind (3). What is done of any operation, kind by kind (4). -/
import Derived.Test.YtdmacflcjbkkpaaGreatCre
namespace Go.Proofs.YtdmacflcjbkkpaaGreat.Co
open Go.ChangeShapes Go.WideShapes Go.ChangeAt Go.RowKit
open Go.Proofs.YtdmacflcjbkkpaaGreat (putL)
open Go.Proofs.YtdmacflcjbkkpaaGreat.Ou (Sk sv sL LDk SVk LDk_run SVk_run)
open Go.Proofs.YtdmacflcjbkkpaaGreat.Tb (Blk Blk.newAt put_all Kp.setCells results_cell1 results_cell2)
set_option maxRecDepth 8000 in
set_option maxHeartbeats 1600000 in
theorem record_0 (p gm gk : Nat) (P : St) (s : Sk) (lo : Lo) (L : List Rn) (w : World) (hp : PU w p gm gk P) (hl : LdO w lo L) (ha : Apo lo p gm gk) (hk : s.k = 0) (kb : 0 ≤ s.k ∧ s.k ≤ 255) (hm : Rm L 8) (hmb : cod P (clp s) = 0 → ∀ r ∈ mid (clp s) ((hat P (clp s).h).getD h0), r.c ≤ 1125899906842624) (R : Rf p gm gk P (clp s) 42) (D : Dd p gm gk P (clp s) 43) :
    Calls Tryz.prog 29 #[.pointer (some ⟨p, 0, none⟩), lpo lo, sv s] w fun e w' => e = .returned (.int .i64 (cod P (clp s))) ∧ ∃ lo', CT w w' p gm gk (stp P s) lo lo' ((row P s).foldl putL L) := by
  obtain ⟨sk, sh, sa, sc, so, sd, sm⟩ := s
  obtain rfl : sk = 0 := hk
  have kb : 0 ≤ (0 : Int) ∧ (0 : Int) ≤ 255 := kb
  have HR : Hid (∀ V, PU V p gm gk P → Calls Tryz.prog 42 #[.pointer (some ⟨p, 0, none⟩), .agg #[.int .u8 0, .int .i64 sh, .int .u8 sa, .int .i64 sc, .int .i64 so, .int .i64 (max sd 0), .int .i64 (max sm 0)]] V fun e w' => e = .returned (.int .i64 (cod P ⟨0, sh, sa, sc, so, max sd 0, max sm 0⟩)) ∧ Below V.heap.size V w') := hid R
  have HD : Hid (cod P ⟨0, sh, sa, sc, so, max sd 0, max sm 0⟩ = 0 → ∀ V lo L, PU V p gm gk P → LdO V lo L → Apo lo p gm gk → Rm L 4 → Calls Tryz.prog 43 #[.pointer (some ⟨p, 0, none⟩), lpo lo, .agg #[.int .u8 0, .int .i64 sh, .int .u8 sa, .int .i64 sc, .int .i64 so, .int .i64 (max sd 0), .int .i64 (max sm 0)]] V fun e w' => e = .returned (.tuple #[]) ∧ ∃ lo', CT V w' p gm gk (nxt P ⟨0, sh, sa, sc, so, max sd 0, max sm 0⟩) lo lo' ((mid ⟨0, sh, sa, sc, so, max sd 0, max sm 0⟩ ((hat P sh).getD h0)).foldl putL L)) := hid D
  have HB : Hid (cod P ⟨0, sh, sa, sc, so, max sd 0, max sm 0⟩ = 0 → ∀ r ∈ mid ⟨0, sh, sa, sc, so, max sd 0, max sm 0⟩ ((hat P sh).getD h0), r.c ≤ 1125899906842624) := hid hmb
  have HC : Hid (cod P ⟨0, sh, sa, sc, so, max sd 0, max sm 0⟩ ≠ 0 → stp P ⟨0, sh, sa, sc, so, sd, sm⟩ = P ∧ ∀ A, (row P ⟨0, sh, sa, sc, so, sd, sm⟩).foldl putL A = putL (putL A ⟨11, 0, 1⟩) ⟨12, cod P ⟨0, sh, sa, sc, so, max sd 0, max sm 0⟩, 1⟩) := hid (fun h => ⟨by
    show (if cod P ⟨0, sh, sa, sc, so, max sd 0, max sm 0⟩ = 0 then nxt P ⟨0, sh, sa, sc, so, max sd 0, max sm 0⟩ else P) = P
    rw [if_neg h], fun A => by
    have e : row P ⟨0, sh, sa, sc, so, sd, sm⟩ = ⟨11, 0, 1⟩ :: (if cod P ⟨0, sh, sa, sc, so, max sd 0, max sm 0⟩ = 0 then flt (mid ⟨0, sh, sa, sc, so, max sd 0, max sm 0⟩ ((hat P sh).getD h0)) else []) ++ [⟨12, cod P ⟨0, sh, sa, sc, so, max sd 0, max sm 0⟩, 1⟩] := rfl
    rw [e, if_neg h]; rfl⟩)
  have HE : Hid (cod P ⟨0, sh, sa, sc, so, max sd 0, max sm 0⟩ = 0 → stp P ⟨0, sh, sa, sc, so, sd, sm⟩ = nxt P ⟨0, sh, sa, sc, so, max sd 0, max sm 0⟩ ∧ ∀ A, (row P ⟨0, sh, sa, sc, so, sd, sm⟩).foldl putL A = putL ((mid ⟨0, sh, sa, sc, so, max sd 0, max sm 0⟩ ((hat P sh).getD h0)).foldl putL (putL A ⟨11, 0, 1⟩)) ⟨12, 0, 1⟩) := hid (fun h => ⟨by
    show (if cod P ⟨0, sh, sa, sc, so, max sd 0, max sm 0⟩ = 0 then nxt P ⟨0, sh, sa, sc, so, max sd 0, max sm 0⟩ else P) = _
    rw [if_pos h], fun A => by
    have e : row P ⟨0, sh, sa, sc, so, sd, sm⟩ = ⟨11, 0, 1⟩ :: (if cod P ⟨0, sh, sa, sc, so, max sd 0, max sm 0⟩ = 0 then flt (mid ⟨0, sh, sa, sc, so, max sd 0, max sm 0⟩ ((hat P sh).getD h0)) else []) ++ [⟨12, cod P ⟨0, sh, sa, sc, so, max sd 0, max sm 0⟩, 1⟩] := rfl
    rw [e, if_pos h, h, List.cons_append, List.foldl_cons, List.foldl_append, foldl_flt]; rfl⟩)
  have cb := cod_b P ⟨0, sh, sa, sc, so, max sd 0, max sm 0⟩
  show Calls _ _ _ _ fun e w' => e = .returned (.int .i64 (cod P ⟨0, sh, sa, sc, so, max sd 0, max sm 0⟩)) ∧ ∃ lo', CT w w' p gm gk (stp P ⟨0, sh, sa, sc, so, sd, sm⟩) lo lo' ((row P ⟨0, sh, sa, sc, so, sd, sm⟩).foldl putL L)
  obtain ⟨c, hc⟩ : ∃ c, cod P ⟨0, sh, sa, sc, so, max sd 0, max sm 0⟩ = c := ⟨_, rfl⟩
  rw [hc] at HR HD HC HE HB cb ⊢
  clear hc hmb R D
  obtain ⟨Wa, hWa⟩ : ∃ W, w.alloc (.cells #[.int .u8 0, .int .i64 sh, .int .u8 sa, .int .i64 sc, .int .i64 so, .int .i64 sd, .int .i64 sm] 40) = W := ⟨_, rfl⟩
  have ba : Below w.heap.size w Wa := by rw [← hWa]; exact below_alloc _ _
  have ka : Blk Wa w.heap.size [.int .u8 0, .int .i64 sh, .int .u8 sa, .int .i64 sc, .int .i64 so, .int .i64 sd, .int .i64 sm] 40 := by rw [← hWa]; exact Blk.newAt w _ _ _ w.heap.size rfl rfl
  have a5 := ka.cell 5 _ rfl
  have a6 := ka.cell 6 _ rfl
  have fa5 := ka.frozen 5
  have fa6 := ka.frozen 6
  obtain ⟨W, hW⟩ : ∃ W', (Wa.setCell ⟨w.heap.size, 5, none⟩ (.int .i64 (max sd 0))).setCell ⟨w.heap.size, 6, none⟩ (.int .i64 (max sm 0)) = W' := ⟨_, rfl⟩
  have BW : Hid (Below w.heap.size w W) := by rw [← hW]; exact Tb.below_set (Tb.below_set ba _ _ _ (Nat.le_refl _) ba.size) _ _ _ (Nat.le_refl _) (by simp [World.setCell]; exact ba.size)
  have KB : Hid (Blk W w.heap.size [.int .u8 0, .int .i64 sh, .int .u8 sa, .int .i64 sc, .int .i64 so, .int .i64 (max sd 0), .int .i64 (max sm 0)] 40) := by rw [← hW]; exact (ka.set 5 _).set 6 _
  have HP := hid (hp.below BW.out)
  have HL := hid (hl.below BW.out)
  have HA := hid ha
  have GL := hid hp.lt
  have HM := hid hm
  have HPW := hid hp
  have LL : Hid (∀ j, blo lo j → j < w.heap.size) := hl.lt
  obtain ⟨U, hU⟩ : ∃ U, W.alloc (.cells #[.nilFunc, .nilFunc] 93) = U := ⟨_, rfl⟩
  have NU : Hid (Below W.heap.size W U) := by rw [← hU]; exact below_alloc _ _
  have ku : Blk U W.heap.size [.nilFunc, .nilFunc] 93 := by rw [← hU]; exact Blk.newAt W _ _ _ W.heap.size rfl rfl
  obtain ⟨V, s1, k1, hk1⟩ := SVn_run 42 43 ku rfl
  have NV : Hid (Below W.heap.size W V) := hid (NU.out.trans (hk1.below NU.out.size (fun k h e => by omega)))
  have s1 : (SVn ⟨W.heap.size, 0, none⟩ (.agg #[.func (.func 42) #[] #[], .func (.func 43) #[] #[]])).run Tryz.prog U = .ok () V := s1
  have x1 := HP.out.c1
  have l0 : (LDn ⟨gk, 0, none⟩).run Tryz.prog W = .ok (.agg #[.func (.func 42) #[] #[], .func (.func 43) #[] #[]]) W := run_loadVar_mid W gk 0 _ [.func (.func 42) #[] #[], .func (.func 43) #[] #[]] _ (HP.out.kt.range 0 _ (fun j v hj => by
    match j, hj with
    | 0, hj => exact hj
    | 1, hj => exact hj
    | j + 2, hj => simp at hj)) Tryz.underlying93 rfl infon
  have D1 : Hid (Below W.heap.size W V.drew) := hid (below_next NV.out (below_drewN V 1))
  have pv := HP.out.below D1.out
  have kv := KB.out.below D1.out
  have y1 := pv.c1
  have y2 := kv.cell 0 _ rfl
  have D2 : Hid (Below W.heap.size W V.drew.drew) := hid (below_next D1.out (below_drewN V.drew 1))
  have DK : Blk V.drew.drew W.heap.size [.func (.func 42) #[] #[], .func (.func 43) #[] #[]] 93 := k1.below (below_drewN V 2)
  have pv2 := HP.out.below D2.out
  have kv2 := KB.out.below D2.out
  have z1 := pv2.c1
  have z2 := kv2.cell 0 _ rfl
  have z3 : (LDn ⟨gk, 0, none⟩).run Tryz.prog V.drew.drew = .ok (.agg #[.func (.func 42) #[] #[], .func (.func 43) #[] #[]]) V.drew.drew := run_loadVar_mid V.drew.drew gk 0 _ [.func (.func 42) #[] #[], .func (.func 43) #[] #[]] _ (pv2.kt.range 0 _ (fun j v hj => by
    match j, hj with
    | 0, hj => exact hj
    | 1, hj => exact hj
    | j + 2, hj => simp at hj)) Tryz.underlying93 rfl infon
  obtain ⟨X, s2, k2, hk2⟩ := SVn_run 42 43 DK rfl
  have s2 : (SVn ⟨W.heap.size, 0, none⟩ (.agg #[.func (.func 42) #[] #[], .func (.func 43) #[] #[]])).run Tryz.prog V.drew.drew = .ok () X := s2
  have NX : Hid (Below W.heap.size W X) := hid (D2.out.trans (hk2.below D2.out.size (fun k h e => by omega)))
  have KX : Hid (Blk X W.heap.size [.func (.func 42) #[] #[], .func (.func 43) #[] #[]] 93) := hid k2
  have pz := HP.out.below NX.out
  have kz := KB.out.below NX.out
  have u1 := pz.c1
  have u2 := kz.cell 0 _ rfl
  have u3 : (LDn ⟨gk, 0, none⟩).run Tryz.prog X = .ok (.agg #[.func (.func 42) #[] #[], .func (.func 43) #[] #[]]) X := run_loadVar_mid X gk 0 _ [.func (.func 42) #[] #[], .func (.func 43) #[] #[]] _ (pz.kt.range 0 _ (fun j v hj => by
    match j, hj with
    | 0, hj => exact hj
    | 1, hj => exact hj
    | j + 2, hj => simp at hj)) Tryz.underlying93 rfl infon
  have KBX := hid (KB.out.below NX.out)
  have HPX := hid (HP.out.below NX.out)
  have HLX := hid (HL.out.below NX.out)
  have BX : Hid (Below w.heap.size w X) := hid (below_next BW.out NX.out)
  have v0 := KX.out.cell 0 _ rfl
  have v1 := LDk_run (s := ⟨0, sh, sa, sc, so, max sd 0, max sm 0⟩) KBX.out
  have v1 : (LDk ⟨w.heap.size, 0, none⟩).run Tryz.prog X = .ok (.agg #[.int .u8 0, .int .i64 sh, .int .u8 sa, .int .i64 sc, .int .i64 so, .int .i64 (max sd 0), .int .i64 (max sm 0)]) X := v1
  clear hp hl ha hm ka ba k1 hk1 ku pv kv pv2 kv2 pz kz k2 hk2 DK
  go_enter Tryz.func29, Tryz.ntmps29
  go_wp2_with fail
  clear hWa hW
  go_region_held3 (fun V => V.cell? ⟨p, 1, none⟩ = some (.slice (some ⟨gk, 0, none⟩) 11 11) ∧ V.cell? ⟨w.heap.size, 0, none⟩ = some (.int .u8 0)) (go_keep) (fail)
  go_wp2_with fail
  go_region_held3 (fun V => V.cell? ⟨p, 1, none⟩ = some (.slice (some ⟨gk, 0, none⟩) 11 11) ∧ V.cell? ⟨w.heap.size, 0, none⟩ = some (.int .u8 0) ∧ (LDn ⟨gk, 0, none⟩).run Tryz.prog V = .ok (.agg #[.func (.func 42) #[] #[], .func (.func 43) #[] #[]]) V) (go_keep) (fail)
  go_wp2_with fail
  refine (HR.out _ HPX.out).mono ?_
  rintro e W1 ⟨rfl, hb⟩
  have N1 : Hid (Below X.heap.size X W1) := hid hb
  have KB1 := hid (KBX.out.below hb)
  have KX1 := hid (KX.out.below hb)
  have q0 := KB1.out.cell 0 _ rfl
  have C0 := hid (CT.after (below_next BX.out N1.out) (CT.refl (HPX.out.below hb) (HLX.out.below hb)))
  have n1 := hid (note_o lo L 11 0 W1 (HLX.out.below hb) (by omega) (HM.out.less (k := 1) (by decide)))
  clear hb
  have wk : IntKind.i64.wrap 0 = 0 := by rw [IntKind.wrap_i64]; omega
  go_wp2_with fail
  refine n1.out.mono ?_
  rintro e W2 ⟨rfl, l2, t2⟩
  have P2 := hid t2.ptr
  have C2 := hid (C0.out.trans (CT.note C0.out.pu (C0.out.apo HPW.out HA.out) t2))
  have RM2 : Hid (Rm (putL L ⟨11, 0, 1⟩) 7) := hid (Rm.put (m := 7) HM.out (by show (1 : Int) ≤ 1125899906842624; decide))
  have nlo : ∀ g, X.heap.size ≤ g ∨ g = w.heap.size ∨ g = W.heap.size → ¬ blo lo g := fun g hg e => by have := LL.out _ e; have := BX.out.size; have := BW.out.size; omega
  have KB2 := hid (KB1.out.kept t2.kp (nlo _ (.inr (.inl rfl))))
  have KX2 := hid (KX1.out.kept t2.kp (nlo _ (.inr (.inr rfl))))
  clear t2 nlo
  by_cases c0 : c = 0
  · subst c0
    obtain ⟨hE1, hE2⟩ := HE.out rfl
    have HE1 := hid hE1
    have HE2 := hid hE2
    clear hE1 hE2
    have HB2 := hid (HB.out rfl)
    have g1 := KX2.out.cell 1 _ rfl
    have g2 := LDk_run (s := ⟨0, sh, sa, sc, so, max sd 0, max sm 0⟩) KB2.out
    have g2 : (LDk ⟨w.heap.size, 0, none⟩).run Tryz.prog W2 = .ok (.agg #[.int .u8 0, .int .i64 sh, .int .u8 sa, .int .i64 sc, .int .i64 so, .int .i64 (max sd 0), .int .i64 (max sm 0)]) W2 := g2
    have d2 := HD.out rfl W2 l2 _ C2.out.pu C2.out.led (C2.out.apo HPW.out HA.out) (RM2.out.less (k := 4) (by decide))
    rw [P2.out] at d2
    have D2 := hid d2
    clear d2
    go_wp2_with fail
    refine D2.out.mono ?_
    rintro e W3 ⟨rfl, l3, c3⟩
    have P3 := hid c3.ptr
    have C3 := hid (C2.out.trans c3)
    clear c3
    have rm3 : Rm ((mid ⟨0, sh, sa, sc, so, max sd 0, max sm 0⟩ ((hat P sh).getD h0)).foldl putL (putL L ⟨11, 0, 1⟩)) 4 := Rm.fold (m := 4) (RM2.out.less (by have := mid_three ⟨0, sh, sa, sc, so, max sd 0, max sm 0⟩ ((hat P sh).getD h0); omega)) HB2.out
    have n3 := note_o l3 _ 12 0 W3 C3.out.led (by omega) (rm3.less (k := 1) (by decide))
    rw [P3.out, P2.out] at n3
    have N3 := hid n3
    clear n3 rm3
    go_wp2_with fail
    refine N3.out.mono ?_
    rintro e W4 ⟨rfl, l4, t4⟩
    have C4 := hid (C3.out.trans (CT.note C3.out.pu (C3.out.apo HPW.out HA.out) t4))
    clear t4
    go_wp2
    go_ret
    exact ⟨rfl, l4, by rw [HE1.out, HE2.out]; exact C4.out⟩
  · have n3 := note_o l2 _ 12 c W2 C2.out.led (by omega) (RM2.out.less (k := 1) (by decide))
    rw [P2.out] at n3
    have N3 := hid n3
    have c1 : (c == 0) = false := by simpa using c0
    clear n3
    go_wp2_with fail
    refine N3.out.mono ?_
    rintro e W4 ⟨rfl, l4, t4⟩
    have C4 := hid (C2.out.trans (CT.note C2.out.pu (C2.out.apo HPW.out HA.out) t4))
    clear t4
    go_wp2
    go_ret
    exact ⟨rfl, l4, by rw [(HC.out c0).1, (HC.out c0).2]; exact C4.out⟩
set_option maxRecDepth 8000 in
set_option maxHeartbeats 1600000 in
theorem record_1 (p gm gk : Nat) (P : St) (s : Sk) (lo : Lo) (L : List Rn) (w : World) (hp : PU w p gm gk P) (hl : LdO w lo L) (ha : Apo lo p gm gk) (hk : s.k = 1) (kb : 0 ≤ s.k ∧ s.k ≤ 255) (hm : Rm L 8) (hmb : cod P (clp s) = 0 → ∀ r ∈ mid (clp s) ((hat P (clp s).h).getD h0), r.c ≤ 1125899906842624) (R : Rf p gm gk P (clp s) 44) (D : Dd p gm gk P (clp s) 45) :
    Calls Tryz.prog 29 #[.pointer (some ⟨p, 0, none⟩), lpo lo, sv s] w fun e w' => e = .returned (.int .i64 (cod P (clp s))) ∧ ∃ lo', CT w w' p gm gk (stp P s) lo lo' ((row P s).foldl putL L) := by
  obtain ⟨sk, sh, sa, sc, so, sd, sm⟩ := s
  obtain rfl : sk = 1 := hk
  have kb : 0 ≤ (1 : Int) ∧ (1 : Int) ≤ 255 := kb
  have HR : Hid (∀ V, PU V p gm gk P → Calls Tryz.prog 44 #[.pointer (some ⟨p, 0, none⟩), .agg #[.int .u8 1, .int .i64 sh, .int .u8 sa, .int .i64 sc, .int .i64 so, .int .i64 (max sd 0), .int .i64 (max sm 0)]] V fun e w' => e = .returned (.int .i64 (cod P ⟨1, sh, sa, sc, so, max sd 0, max sm 0⟩)) ∧ Below V.heap.size V w') := hid R
  have HD : Hid (cod P ⟨1, sh, sa, sc, so, max sd 0, max sm 0⟩ = 0 → ∀ V lo L, PU V p gm gk P → LdO V lo L → Apo lo p gm gk → Rm L 4 → Calls Tryz.prog 45 #[.pointer (some ⟨p, 0, none⟩), lpo lo, .agg #[.int .u8 1, .int .i64 sh, .int .u8 sa, .int .i64 sc, .int .i64 so, .int .i64 (max sd 0), .int .i64 (max sm 0)]] V fun e w' => e = .returned (.tuple #[]) ∧ ∃ lo', CT V w' p gm gk (nxt P ⟨1, sh, sa, sc, so, max sd 0, max sm 0⟩) lo lo' ((mid ⟨1, sh, sa, sc, so, max sd 0, max sm 0⟩ ((hat P sh).getD h0)).foldl putL L)) := hid D
  have HB : Hid (cod P ⟨1, sh, sa, sc, so, max sd 0, max sm 0⟩ = 0 → ∀ r ∈ mid ⟨1, sh, sa, sc, so, max sd 0, max sm 0⟩ ((hat P sh).getD h0), r.c ≤ 1125899906842624) := hid hmb
  have HC : Hid (cod P ⟨1, sh, sa, sc, so, max sd 0, max sm 0⟩ ≠ 0 → stp P ⟨1, sh, sa, sc, so, sd, sm⟩ = P ∧ ∀ A, (row P ⟨1, sh, sa, sc, so, sd, sm⟩).foldl putL A = putL (putL A ⟨11, 1, 1⟩) ⟨12, cod P ⟨1, sh, sa, sc, so, max sd 0, max sm 0⟩, 1⟩) := hid (fun h => ⟨by
    show (if cod P ⟨1, sh, sa, sc, so, max sd 0, max sm 0⟩ = 0 then nxt P ⟨1, sh, sa, sc, so, max sd 0, max sm 0⟩ else P) = P
    rw [if_neg h], fun A => by
    have e : row P ⟨1, sh, sa, sc, so, sd, sm⟩ = ⟨11, 1, 1⟩ :: (if cod P ⟨1, sh, sa, sc, so, max sd 0, max sm 0⟩ = 0 then flt (mid ⟨1, sh, sa, sc, so, max sd 0, max sm 0⟩ ((hat P sh).getD h0)) else []) ++ [⟨12, cod P ⟨1, sh, sa, sc, so, max sd 0, max sm 0⟩, 1⟩] := rfl
    rw [e, if_neg h]; rfl⟩)
  have HE : Hid (cod P ⟨1, sh, sa, sc, so, max sd 0, max sm 0⟩ = 0 → stp P ⟨1, sh, sa, sc, so, sd, sm⟩ = nxt P ⟨1, sh, sa, sc, so, max sd 0, max sm 0⟩ ∧ ∀ A, (row P ⟨1, sh, sa, sc, so, sd, sm⟩).foldl putL A = putL ((mid ⟨1, sh, sa, sc, so, max sd 0, max sm 0⟩ ((hat P sh).getD h0)).foldl putL (putL A ⟨11, 1, 1⟩)) ⟨12, 0, 1⟩) := hid (fun h => ⟨by
    show (if cod P ⟨1, sh, sa, sc, so, max sd 0, max sm 0⟩ = 0 then nxt P ⟨1, sh, sa, sc, so, max sd 0, max sm 0⟩ else P) = _
    rw [if_pos h], fun A => by
    have e : row P ⟨1, sh, sa, sc, so, sd, sm⟩ = ⟨11, 1, 1⟩ :: (if cod P ⟨1, sh, sa, sc, so, max sd 0, max sm 0⟩ = 0 then flt (mid ⟨1, sh, sa, sc, so, max sd 0, max sm 0⟩ ((hat P sh).getD h0)) else []) ++ [⟨12, cod P ⟨1, sh, sa, sc, so, max sd 0, max sm 0⟩, 1⟩] := rfl
    rw [e, if_pos h, h, List.cons_append, List.foldl_cons, List.foldl_append, foldl_flt]; rfl⟩)
  have cb := cod_b P ⟨1, sh, sa, sc, so, max sd 0, max sm 0⟩
  show Calls _ _ _ _ fun e w' => e = .returned (.int .i64 (cod P ⟨1, sh, sa, sc, so, max sd 0, max sm 0⟩)) ∧ ∃ lo', CT w w' p gm gk (stp P ⟨1, sh, sa, sc, so, sd, sm⟩) lo lo' ((row P ⟨1, sh, sa, sc, so, sd, sm⟩).foldl putL L)
  obtain ⟨c, hc⟩ : ∃ c, cod P ⟨1, sh, sa, sc, so, max sd 0, max sm 0⟩ = c := ⟨_, rfl⟩
  rw [hc] at HR HD HC HE HB cb ⊢
  clear hc hmb R D
  obtain ⟨Wa, hWa⟩ : ∃ W, w.alloc (.cells #[.int .u8 1, .int .i64 sh, .int .u8 sa, .int .i64 sc, .int .i64 so, .int .i64 sd, .int .i64 sm] 40) = W := ⟨_, rfl⟩
  have ba : Below w.heap.size w Wa := by rw [← hWa]; exact below_alloc _ _
  have ka : Blk Wa w.heap.size [.int .u8 1, .int .i64 sh, .int .u8 sa, .int .i64 sc, .int .i64 so, .int .i64 sd, .int .i64 sm] 40 := by rw [← hWa]; exact Blk.newAt w _ _ _ w.heap.size rfl rfl
  have a5 := ka.cell 5 _ rfl
  have a6 := ka.cell 6 _ rfl
  have fa5 := ka.frozen 5
  have fa6 := ka.frozen 6
  obtain ⟨W, hW⟩ : ∃ W', (Wa.setCell ⟨w.heap.size, 5, none⟩ (.int .i64 (max sd 0))).setCell ⟨w.heap.size, 6, none⟩ (.int .i64 (max sm 0)) = W' := ⟨_, rfl⟩
  have BW : Hid (Below w.heap.size w W) := by rw [← hW]; exact Tb.below_set (Tb.below_set ba _ _ _ (Nat.le_refl _) ba.size) _ _ _ (Nat.le_refl _) (by simp [World.setCell]; exact ba.size)
  have KB : Hid (Blk W w.heap.size [.int .u8 1, .int .i64 sh, .int .u8 sa, .int .i64 sc, .int .i64 so, .int .i64 (max sd 0), .int .i64 (max sm 0)] 40) := by rw [← hW]; exact (ka.set 5 _).set 6 _
  have HP := hid (hp.below BW.out)
  have HL := hid (hl.below BW.out)
  have HA := hid ha
  have GL := hid hp.lt
  have HM := hid hm
  have HPW := hid hp
  have LL : Hid (∀ j, blo lo j → j < w.heap.size) := hl.lt
  obtain ⟨U, hU⟩ : ∃ U, W.alloc (.cells #[.nilFunc, .nilFunc] 93) = U := ⟨_, rfl⟩
  have NU : Hid (Below W.heap.size W U) := by rw [← hU]; exact below_alloc _ _
  have ku : Blk U W.heap.size [.nilFunc, .nilFunc] 93 := by rw [← hU]; exact Blk.newAt W _ _ _ W.heap.size rfl rfl
  obtain ⟨V, s1, k1, hk1⟩ := SVn_run 42 43 ku rfl
  have NV : Hid (Below W.heap.size W V) := hid (NU.out.trans (hk1.below NU.out.size (fun k h e => by omega)))
  have s1 : (SVn ⟨W.heap.size, 0, none⟩ (.agg #[.func (.func 42) #[] #[], .func (.func 43) #[] #[]])).run Tryz.prog U = .ok () V := s1
  have x1 := HP.out.c1
  have l0 : (LDn ⟨gk, 0, none⟩).run Tryz.prog W = .ok (.agg #[.func (.func 42) #[] #[], .func (.func 43) #[] #[]]) W := run_loadVar_mid W gk 0 _ [.func (.func 42) #[] #[], .func (.func 43) #[] #[]] _ (HP.out.kt.range 0 _ (fun j v hj => by
    match j, hj with
    | 0, hj => exact hj
    | 1, hj => exact hj
    | j + 2, hj => simp at hj)) Tryz.underlying93 rfl infon
  have D1 : Hid (Below W.heap.size W V.drew) := hid (below_next NV.out (below_drewN V 1))
  have pv := HP.out.below D1.out
  have kv := KB.out.below D1.out
  have y1 := pv.c1
  have y2 := kv.cell 0 _ rfl
  have D2 : Hid (Below W.heap.size W V.drew.drew) := hid (below_next D1.out (below_drewN V.drew 1))
  have DK : Blk V.drew.drew W.heap.size [.func (.func 42) #[] #[], .func (.func 43) #[] #[]] 93 := k1.below (below_drewN V 2)
  have pv2 := HP.out.below D2.out
  have kv2 := KB.out.below D2.out
  have z1 := pv2.c1
  have z2 := kv2.cell 0 _ rfl
  have z3 : (LDn ⟨gk, 2, none⟩).run Tryz.prog V.drew.drew = .ok (.agg #[.func (.func 44) #[] #[], .func (.func 45) #[] #[]]) V.drew.drew := run_loadVar_mid V.drew.drew gk 2 _ [.func (.func 44) #[] #[], .func (.func 45) #[] #[]] _ (pv2.kt.range 2 _ (fun j v hj => by
    match j, hj with
    | 0, hj => exact hj
    | 1, hj => exact hj
    | j + 2, hj => simp at hj)) Tryz.underlying93 rfl infon
  obtain ⟨X, s2, k2, hk2⟩ := SVn_run 44 45 DK rfl
  have s2 : (SVn ⟨W.heap.size, 0, none⟩ (.agg #[.func (.func 44) #[] #[], .func (.func 45) #[] #[]])).run Tryz.prog V.drew.drew = .ok () X := s2
  have NX : Hid (Below W.heap.size W X) := hid (D2.out.trans (hk2.below D2.out.size (fun k h e => by omega)))
  have KX : Hid (Blk X W.heap.size [.func (.func 44) #[] #[], .func (.func 45) #[] #[]] 93) := hid k2
  have pz := HP.out.below NX.out
  have kz := KB.out.below NX.out
  have u1 := pz.c1
  have u2 := kz.cell 0 _ rfl
  have u3 : (LDn ⟨gk, 2, none⟩).run Tryz.prog X = .ok (.agg #[.func (.func 44) #[] #[], .func (.func 45) #[] #[]]) X := run_loadVar_mid X gk 2 _ [.func (.func 44) #[] #[], .func (.func 45) #[] #[]] _ (pz.kt.range 2 _ (fun j v hj => by
    match j, hj with
    | 0, hj => exact hj
    | 1, hj => exact hj
    | j + 2, hj => simp at hj)) Tryz.underlying93 rfl infon
  have KBX := hid (KB.out.below NX.out)
  have HPX := hid (HP.out.below NX.out)
  have HLX := hid (HL.out.below NX.out)
  have BX : Hid (Below w.heap.size w X) := hid (below_next BW.out NX.out)
  have v0 := KX.out.cell 0 _ rfl
  have v1 := LDk_run (s := ⟨1, sh, sa, sc, so, max sd 0, max sm 0⟩) KBX.out
  have v1 : (LDk ⟨w.heap.size, 0, none⟩).run Tryz.prog X = .ok (.agg #[.int .u8 1, .int .i64 sh, .int .u8 sa, .int .i64 sc, .int .i64 so, .int .i64 (max sd 0), .int .i64 (max sm 0)]) X := v1
  clear hp hl ha hm ka ba k1 hk1 ku pv kv pv2 kv2 pz kz k2 hk2 DK
  go_enter Tryz.func29, Tryz.ntmps29
  go_wp2_with fail
  clear hWa hW
  go_region_held3 (fun V => V.cell? ⟨p, 1, none⟩ = some (.slice (some ⟨gk, 0, none⟩) 11 11) ∧ V.cell? ⟨w.heap.size, 0, none⟩ = some (.int .u8 1)) (go_keep) (fail)
  go_wp2_with fail
  go_region_held3 (fun V => V.cell? ⟨p, 1, none⟩ = some (.slice (some ⟨gk, 0, none⟩) 11 11) ∧ V.cell? ⟨w.heap.size, 0, none⟩ = some (.int .u8 1) ∧ (LDn ⟨gk, 2, none⟩).run Tryz.prog V = .ok (.agg #[.func (.func 44) #[] #[], .func (.func 45) #[] #[]]) V) (go_keep) (fail)
  go_wp2_with fail
  refine (HR.out _ HPX.out).mono ?_
  rintro e W1 ⟨rfl, hb⟩
  have N1 : Hid (Below X.heap.size X W1) := hid hb
  have KB1 := hid (KBX.out.below hb)
  have KX1 := hid (KX.out.below hb)
  have q0 := KB1.out.cell 0 _ rfl
  have C0 := hid (CT.after (below_next BX.out N1.out) (CT.refl (HPX.out.below hb) (HLX.out.below hb)))
  have n1 := hid (note_o lo L 11 1 W1 (HLX.out.below hb) (by omega) (HM.out.less (k := 1) (by decide)))
  clear hb
  have wk : IntKind.i64.wrap 1 = 1 := by rw [IntKind.wrap_i64]; omega
  go_wp2_with fail
  refine n1.out.mono ?_
  rintro e W2 ⟨rfl, l2, t2⟩
  have P2 := hid t2.ptr
  have C2 := hid (C0.out.trans (CT.note C0.out.pu (C0.out.apo HPW.out HA.out) t2))
  have RM2 : Hid (Rm (putL L ⟨11, 1, 1⟩) 7) := hid (Rm.put (m := 7) HM.out (by show (1 : Int) ≤ 1125899906842624; decide))
  have nlo : ∀ g, X.heap.size ≤ g ∨ g = w.heap.size ∨ g = W.heap.size → ¬ blo lo g := fun g hg e => by have := LL.out _ e; have := BX.out.size; have := BW.out.size; omega
  have KB2 := hid (KB1.out.kept t2.kp (nlo _ (.inr (.inl rfl))))
  have KX2 := hid (KX1.out.kept t2.kp (nlo _ (.inr (.inr rfl))))
  clear t2 nlo
  by_cases c0 : c = 0
  · subst c0
    obtain ⟨hE1, hE2⟩ := HE.out rfl
    have HE1 := hid hE1
    have HE2 := hid hE2
    clear hE1 hE2
    have HB2 := hid (HB.out rfl)
    have g1 := KX2.out.cell 1 _ rfl
    have g2 := LDk_run (s := ⟨1, sh, sa, sc, so, max sd 0, max sm 0⟩) KB2.out
    have g2 : (LDk ⟨w.heap.size, 0, none⟩).run Tryz.prog W2 = .ok (.agg #[.int .u8 1, .int .i64 sh, .int .u8 sa, .int .i64 sc, .int .i64 so, .int .i64 (max sd 0), .int .i64 (max sm 0)]) W2 := g2
    have d2 := HD.out rfl W2 l2 _ C2.out.pu C2.out.led (C2.out.apo HPW.out HA.out) (RM2.out.less (k := 4) (by decide))
    rw [P2.out] at d2
    have D2 := hid d2
    clear d2
    go_wp2_with fail
    refine D2.out.mono ?_
    rintro e W3 ⟨rfl, l3, c3⟩
    have P3 := hid c3.ptr
    have C3 := hid (C2.out.trans c3)
    clear c3
    have rm3 : Rm ((mid ⟨1, sh, sa, sc, so, max sd 0, max sm 0⟩ ((hat P sh).getD h0)).foldl putL (putL L ⟨11, 1, 1⟩)) 4 := Rm.fold (m := 4) (RM2.out.less (by have := mid_three ⟨1, sh, sa, sc, so, max sd 0, max sm 0⟩ ((hat P sh).getD h0); omega)) HB2.out
    have n3 := note_o l3 _ 12 0 W3 C3.out.led (by omega) (rm3.less (k := 1) (by decide))
    rw [P3.out, P2.out] at n3
    have N3 := hid n3
    clear n3 rm3
    go_wp2_with fail
    refine N3.out.mono ?_
    rintro e W4 ⟨rfl, l4, t4⟩
    have C4 := hid (C3.out.trans (CT.note C3.out.pu (C3.out.apo HPW.out HA.out) t4))
    clear t4
    go_wp2
    go_ret
    exact ⟨rfl, l4, by rw [HE1.out, HE2.out]; exact C4.out⟩
  · have n3 := note_o l2 _ 12 c W2 C2.out.led (by omega) (RM2.out.less (k := 1) (by decide))
    rw [P2.out] at n3
    have N3 := hid n3
    have c1 : (c == 0) = false := by simpa using c0
    clear n3
    go_wp2_with fail
    refine N3.out.mono ?_
    rintro e W4 ⟨rfl, l4, t4⟩
    have C4 := hid (C2.out.trans (CT.note C2.out.pu (C2.out.apo HPW.out HA.out) t4))
    clear t4
    go_wp2
    go_ret
    exact ⟨rfl, l4, by rw [(HC.out c0).1, (HC.out c0).2]; exact C4.out⟩
set_option maxRecDepth 8000 in
set_option maxHeartbeats 1600000 in
theorem record_2 (p gm gk : Nat) (P : St) (s : Sk) (lo : Lo) (L : List Rn) (w : World) (hp : PU w p gm gk P) (hl : LdO w lo L) (ha : Apo lo p gm gk) (hk : s.k = 2) (kb : 0 ≤ s.k ∧ s.k ≤ 255) (hm : Rm L 8) (hmb : cod P (clp s) = 0 → ∀ r ∈ mid (clp s) ((hat P (clp s).h).getD h0), r.c ≤ 1125899906842624) (R : Rf p gm gk P (clp s) 46) (D : Dd p gm gk P (clp s) 47) :
    Calls Tryz.prog 29 #[.pointer (some ⟨p, 0, none⟩), lpo lo, sv s] w fun e w' => e = .returned (.int .i64 (cod P (clp s))) ∧ ∃ lo', CT w w' p gm gk (stp P s) lo lo' ((row P s).foldl putL L) := by
  obtain ⟨sk, sh, sa, sc, so, sd, sm⟩ := s
  obtain rfl : sk = 2 := hk
  have kb : 0 ≤ (2 : Int) ∧ (2 : Int) ≤ 255 := kb
  have HR : Hid (∀ V, PU V p gm gk P → Calls Tryz.prog 46 #[.pointer (some ⟨p, 0, none⟩), .agg #[.int .u8 2, .int .i64 sh, .int .u8 sa, .int .i64 sc, .int .i64 so, .int .i64 (max sd 0), .int .i64 (max sm 0)]] V fun e w' => e = .returned (.int .i64 (cod P ⟨2, sh, sa, sc, so, max sd 0, max sm 0⟩)) ∧ Below V.heap.size V w') := hid R
  have HD : Hid (cod P ⟨2, sh, sa, sc, so, max sd 0, max sm 0⟩ = 0 → ∀ V lo L, PU V p gm gk P → LdO V lo L → Apo lo p gm gk → Rm L 4 → Calls Tryz.prog 47 #[.pointer (some ⟨p, 0, none⟩), lpo lo, .agg #[.int .u8 2, .int .i64 sh, .int .u8 sa, .int .i64 sc, .int .i64 so, .int .i64 (max sd 0), .int .i64 (max sm 0)]] V fun e w' => e = .returned (.tuple #[]) ∧ ∃ lo', CT V w' p gm gk (nxt P ⟨2, sh, sa, sc, so, max sd 0, max sm 0⟩) lo lo' ((mid ⟨2, sh, sa, sc, so, max sd 0, max sm 0⟩ ((hat P sh).getD h0)).foldl putL L)) := hid D
  have HB : Hid (cod P ⟨2, sh, sa, sc, so, max sd 0, max sm 0⟩ = 0 → ∀ r ∈ mid ⟨2, sh, sa, sc, so, max sd 0, max sm 0⟩ ((hat P sh).getD h0), r.c ≤ 1125899906842624) := hid hmb
  have HC : Hid (cod P ⟨2, sh, sa, sc, so, max sd 0, max sm 0⟩ ≠ 0 → stp P ⟨2, sh, sa, sc, so, sd, sm⟩ = P ∧ ∀ A, (row P ⟨2, sh, sa, sc, so, sd, sm⟩).foldl putL A = putL (putL A ⟨11, 2, 1⟩) ⟨12, cod P ⟨2, sh, sa, sc, so, max sd 0, max sm 0⟩, 1⟩) := hid (fun h => ⟨by
    show (if cod P ⟨2, sh, sa, sc, so, max sd 0, max sm 0⟩ = 0 then nxt P ⟨2, sh, sa, sc, so, max sd 0, max sm 0⟩ else P) = P
    rw [if_neg h], fun A => by
    have e : row P ⟨2, sh, sa, sc, so, sd, sm⟩ = ⟨11, 2, 1⟩ :: (if cod P ⟨2, sh, sa, sc, so, max sd 0, max sm 0⟩ = 0 then flt (mid ⟨2, sh, sa, sc, so, max sd 0, max sm 0⟩ ((hat P sh).getD h0)) else []) ++ [⟨12, cod P ⟨2, sh, sa, sc, so, max sd 0, max sm 0⟩, 1⟩] := rfl
    rw [e, if_neg h]; rfl⟩)
  have HE : Hid (cod P ⟨2, sh, sa, sc, so, max sd 0, max sm 0⟩ = 0 → stp P ⟨2, sh, sa, sc, so, sd, sm⟩ = nxt P ⟨2, sh, sa, sc, so, max sd 0, max sm 0⟩ ∧ ∀ A, (row P ⟨2, sh, sa, sc, so, sd, sm⟩).foldl putL A = putL ((mid ⟨2, sh, sa, sc, so, max sd 0, max sm 0⟩ ((hat P sh).getD h0)).foldl putL (putL A ⟨11, 2, 1⟩)) ⟨12, 0, 1⟩) := hid (fun h => ⟨by
    show (if cod P ⟨2, sh, sa, sc, so, max sd 0, max sm 0⟩ = 0 then nxt P ⟨2, sh, sa, sc, so, max sd 0, max sm 0⟩ else P) = _
    rw [if_pos h], fun A => by
    have e : row P ⟨2, sh, sa, sc, so, sd, sm⟩ = ⟨11, 2, 1⟩ :: (if cod P ⟨2, sh, sa, sc, so, max sd 0, max sm 0⟩ = 0 then flt (mid ⟨2, sh, sa, sc, so, max sd 0, max sm 0⟩ ((hat P sh).getD h0)) else []) ++ [⟨12, cod P ⟨2, sh, sa, sc, so, max sd 0, max sm 0⟩, 1⟩] := rfl
    rw [e, if_pos h, h, List.cons_append, List.foldl_cons, List.foldl_append, foldl_flt]; rfl⟩)
  have cb := cod_b P ⟨2, sh, sa, sc, so, max sd 0, max sm 0⟩
  show Calls _ _ _ _ fun e w' => e = .returned (.int .i64 (cod P ⟨2, sh, sa, sc, so, max sd 0, max sm 0⟩)) ∧ ∃ lo', CT w w' p gm gk (stp P ⟨2, sh, sa, sc, so, sd, sm⟩) lo lo' ((row P ⟨2, sh, sa, sc, so, sd, sm⟩).foldl putL L)
  obtain ⟨c, hc⟩ : ∃ c, cod P ⟨2, sh, sa, sc, so, max sd 0, max sm 0⟩ = c := ⟨_, rfl⟩
  rw [hc] at HR HD HC HE HB cb ⊢
  clear hc hmb R D
  obtain ⟨Wa, hWa⟩ : ∃ W, w.alloc (.cells #[.int .u8 2, .int .i64 sh, .int .u8 sa, .int .i64 sc, .int .i64 so, .int .i64 sd, .int .i64 sm] 40) = W := ⟨_, rfl⟩
  have ba : Below w.heap.size w Wa := by rw [← hWa]; exact below_alloc _ _
  have ka : Blk Wa w.heap.size [.int .u8 2, .int .i64 sh, .int .u8 sa, .int .i64 sc, .int .i64 so, .int .i64 sd, .int .i64 sm] 40 := by rw [← hWa]; exact Blk.newAt w _ _ _ w.heap.size rfl rfl
  have a5 := ka.cell 5 _ rfl
  have a6 := ka.cell 6 _ rfl
  have fa5 := ka.frozen 5
  have fa6 := ka.frozen 6
  obtain ⟨W, hW⟩ : ∃ W', (Wa.setCell ⟨w.heap.size, 5, none⟩ (.int .i64 (max sd 0))).setCell ⟨w.heap.size, 6, none⟩ (.int .i64 (max sm 0)) = W' := ⟨_, rfl⟩
  have BW : Hid (Below w.heap.size w W) := by rw [← hW]; exact Tb.below_set (Tb.below_set ba _ _ _ (Nat.le_refl _) ba.size) _ _ _ (Nat.le_refl _) (by simp [World.setCell]; exact ba.size)
  have KB : Hid (Blk W w.heap.size [.int .u8 2, .int .i64 sh, .int .u8 sa, .int .i64 sc, .int .i64 so, .int .i64 (max sd 0), .int .i64 (max sm 0)] 40) := by rw [← hW]; exact (ka.set 5 _).set 6 _
  have HP := hid (hp.below BW.out)
  have HL := hid (hl.below BW.out)
  have HA := hid ha
  have GL := hid hp.lt
  have HM := hid hm
  have HPW := hid hp
  have LL : Hid (∀ j, blo lo j → j < w.heap.size) := hl.lt
  obtain ⟨U, hU⟩ : ∃ U, W.alloc (.cells #[.nilFunc, .nilFunc] 93) = U := ⟨_, rfl⟩
  have NU : Hid (Below W.heap.size W U) := by rw [← hU]; exact below_alloc _ _
  have ku : Blk U W.heap.size [.nilFunc, .nilFunc] 93 := by rw [← hU]; exact Blk.newAt W _ _ _ W.heap.size rfl rfl
  obtain ⟨V, s1, k1, hk1⟩ := SVn_run 42 43 ku rfl
  have NV : Hid (Below W.heap.size W V) := hid (NU.out.trans (hk1.below NU.out.size (fun k h e => by omega)))
  have s1 : (SVn ⟨W.heap.size, 0, none⟩ (.agg #[.func (.func 42) #[] #[], .func (.func 43) #[] #[]])).run Tryz.prog U = .ok () V := s1
  have x1 := HP.out.c1
  have l0 : (LDn ⟨gk, 0, none⟩).run Tryz.prog W = .ok (.agg #[.func (.func 42) #[] #[], .func (.func 43) #[] #[]]) W := run_loadVar_mid W gk 0 _ [.func (.func 42) #[] #[], .func (.func 43) #[] #[]] _ (HP.out.kt.range 0 _ (fun j v hj => by
    match j, hj with
    | 0, hj => exact hj
    | 1, hj => exact hj
    | j + 2, hj => simp at hj)) Tryz.underlying93 rfl infon
  have D1 : Hid (Below W.heap.size W V.drew) := hid (below_next NV.out (below_drewN V 1))
  have pv := HP.out.below D1.out
  have kv := KB.out.below D1.out
  have y1 := pv.c1
  have y2 := kv.cell 0 _ rfl
  have D2 : Hid (Below W.heap.size W V.drew.drew) := hid (below_next D1.out (below_drewN V.drew 1))
  have DK : Blk V.drew.drew W.heap.size [.func (.func 42) #[] #[], .func (.func 43) #[] #[]] 93 := k1.below (below_drewN V 2)
  have pv2 := HP.out.below D2.out
  have kv2 := KB.out.below D2.out
  have z1 := pv2.c1
  have z2 := kv2.cell 0 _ rfl
  have z3 : (LDn ⟨gk, 4, none⟩).run Tryz.prog V.drew.drew = .ok (.agg #[.func (.func 46) #[] #[], .func (.func 47) #[] #[]]) V.drew.drew := run_loadVar_mid V.drew.drew gk 4 _ [.func (.func 46) #[] #[], .func (.func 47) #[] #[]] _ (pv2.kt.range 4 _ (fun j v hj => by
    match j, hj with
    | 0, hj => exact hj
    | 1, hj => exact hj
    | j + 2, hj => simp at hj)) Tryz.underlying93 rfl infon
  obtain ⟨X, s2, k2, hk2⟩ := SVn_run 46 47 DK rfl
  have s2 : (SVn ⟨W.heap.size, 0, none⟩ (.agg #[.func (.func 46) #[] #[], .func (.func 47) #[] #[]])).run Tryz.prog V.drew.drew = .ok () X := s2
  have NX : Hid (Below W.heap.size W X) := hid (D2.out.trans (hk2.below D2.out.size (fun k h e => by omega)))
  have KX : Hid (Blk X W.heap.size [.func (.func 46) #[] #[], .func (.func 47) #[] #[]] 93) := hid k2
  have pz := HP.out.below NX.out
  have kz := KB.out.below NX.out
  have u1 := pz.c1
  have u2 := kz.cell 0 _ rfl
  have u3 : (LDn ⟨gk, 4, none⟩).run Tryz.prog X = .ok (.agg #[.func (.func 46) #[] #[], .func (.func 47) #[] #[]]) X := run_loadVar_mid X gk 4 _ [.func (.func 46) #[] #[], .func (.func 47) #[] #[]] _ (pz.kt.range 4 _ (fun j v hj => by
    match j, hj with
    | 0, hj => exact hj
    | 1, hj => exact hj
    | j + 2, hj => simp at hj)) Tryz.underlying93 rfl infon
  have KBX := hid (KB.out.below NX.out)
  have HPX := hid (HP.out.below NX.out)
  have HLX := hid (HL.out.below NX.out)
  have BX : Hid (Below w.heap.size w X) := hid (below_next BW.out NX.out)
  have v0 := KX.out.cell 0 _ rfl
  have v1 := LDk_run (s := ⟨2, sh, sa, sc, so, max sd 0, max sm 0⟩) KBX.out
  have v1 : (LDk ⟨w.heap.size, 0, none⟩).run Tryz.prog X = .ok (.agg #[.int .u8 2, .int .i64 sh, .int .u8 sa, .int .i64 sc, .int .i64 so, .int .i64 (max sd 0), .int .i64 (max sm 0)]) X := v1
  clear hp hl ha hm ka ba k1 hk1 ku pv kv pv2 kv2 pz kz k2 hk2 DK
  go_enter Tryz.func29, Tryz.ntmps29
  go_wp2_with fail
  clear hWa hW
  go_region_held3 (fun V => V.cell? ⟨p, 1, none⟩ = some (.slice (some ⟨gk, 0, none⟩) 11 11) ∧ V.cell? ⟨w.heap.size, 0, none⟩ = some (.int .u8 2)) (go_keep) (fail)
  go_wp2_with fail
  go_region_held3 (fun V => V.cell? ⟨p, 1, none⟩ = some (.slice (some ⟨gk, 0, none⟩) 11 11) ∧ V.cell? ⟨w.heap.size, 0, none⟩ = some (.int .u8 2) ∧ (LDn ⟨gk, 4, none⟩).run Tryz.prog V = .ok (.agg #[.func (.func 46) #[] #[], .func (.func 47) #[] #[]]) V) (go_keep) (fail)
  go_wp2_with fail
  refine (HR.out _ HPX.out).mono ?_
  rintro e W1 ⟨rfl, hb⟩
  have N1 : Hid (Below X.heap.size X W1) := hid hb
  have KB1 := hid (KBX.out.below hb)
  have KX1 := hid (KX.out.below hb)
  have q0 := KB1.out.cell 0 _ rfl
  have C0 := hid (CT.after (below_next BX.out N1.out) (CT.refl (HPX.out.below hb) (HLX.out.below hb)))
  have n1 := hid (note_o lo L 11 2 W1 (HLX.out.below hb) (by omega) (HM.out.less (k := 1) (by decide)))
  clear hb
  have wk : IntKind.i64.wrap 2 = 2 := by rw [IntKind.wrap_i64]; omega
  go_wp2_with fail
  refine n1.out.mono ?_
  rintro e W2 ⟨rfl, l2, t2⟩
  have P2 := hid t2.ptr
  have C2 := hid (C0.out.trans (CT.note C0.out.pu (C0.out.apo HPW.out HA.out) t2))
  have RM2 : Hid (Rm (putL L ⟨11, 2, 1⟩) 7) := hid (Rm.put (m := 7) HM.out (by show (1 : Int) ≤ 1125899906842624; decide))
  have nlo : ∀ g, X.heap.size ≤ g ∨ g = w.heap.size ∨ g = W.heap.size → ¬ blo lo g := fun g hg e => by have := LL.out _ e; have := BX.out.size; have := BW.out.size; omega
  have KB2 := hid (KB1.out.kept t2.kp (nlo _ (.inr (.inl rfl))))
  have KX2 := hid (KX1.out.kept t2.kp (nlo _ (.inr (.inr rfl))))
  clear t2 nlo
  by_cases c0 : c = 0
  · subst c0
    obtain ⟨hE1, hE2⟩ := HE.out rfl
    have HE1 := hid hE1
    have HE2 := hid hE2
    clear hE1 hE2
    have HB2 := hid (HB.out rfl)
    have g1 := KX2.out.cell 1 _ rfl
    have g2 := LDk_run (s := ⟨2, sh, sa, sc, so, max sd 0, max sm 0⟩) KB2.out
    have g2 : (LDk ⟨w.heap.size, 0, none⟩).run Tryz.prog W2 = .ok (.agg #[.int .u8 2, .int .i64 sh, .int .u8 sa, .int .i64 sc, .int .i64 so, .int .i64 (max sd 0), .int .i64 (max sm 0)]) W2 := g2
    have d2 := HD.out rfl W2 l2 _ C2.out.pu C2.out.led (C2.out.apo HPW.out HA.out) (RM2.out.less (k := 4) (by decide))
    rw [P2.out] at d2
    have D2 := hid d2
    clear d2
    go_wp2_with fail
    refine D2.out.mono ?_
    rintro e W3 ⟨rfl, l3, c3⟩
    have P3 := hid c3.ptr
    have C3 := hid (C2.out.trans c3)
    clear c3
    have rm3 : Rm ((mid ⟨2, sh, sa, sc, so, max sd 0, max sm 0⟩ ((hat P sh).getD h0)).foldl putL (putL L ⟨11, 2, 1⟩)) 4 := Rm.fold (m := 4) (RM2.out.less (by have := mid_three ⟨2, sh, sa, sc, so, max sd 0, max sm 0⟩ ((hat P sh).getD h0); omega)) HB2.out
    have n3 := note_o l3 _ 12 0 W3 C3.out.led (by omega) (rm3.less (k := 1) (by decide))
    rw [P3.out, P2.out] at n3
    have N3 := hid n3
    clear n3 rm3
    go_wp2_with fail
    refine N3.out.mono ?_
    rintro e W4 ⟨rfl, l4, t4⟩
    have C4 := hid (C3.out.trans (CT.note C3.out.pu (C3.out.apo HPW.out HA.out) t4))
    clear t4
    go_wp2
    go_ret
    exact ⟨rfl, l4, by rw [HE1.out, HE2.out]; exact C4.out⟩
  · have n3 := note_o l2 _ 12 c W2 C2.out.led (by omega) (RM2.out.less (k := 1) (by decide))
    rw [P2.out] at n3
    have N3 := hid n3
    have c1 : (c == 0) = false := by simpa using c0
    clear n3
    go_wp2_with fail
    refine N3.out.mono ?_
    rintro e W4 ⟨rfl, l4, t4⟩
    have C4 := hid (C2.out.trans (CT.note C2.out.pu (C2.out.apo HPW.out HA.out) t4))
    clear t4
    go_wp2
    go_ret
    exact ⟨rfl, l4, by rw [(HC.out c0).1, (HC.out c0).2]; exact C4.out⟩
end Go.Proofs.YtdmacflcjbkkpaaGreat.Co
namespace Go.Proofs.YtdmacflcjbkkpaaGreat.Co
open Go.ChangeShapes Go.WideShapes Go.ChangeAt Go.RowKit
open Go.Proofs.YtdmacflcjbkkpaaGreat (putL)
open Go.Proofs.YtdmacflcjbkkpaaGreat.Ou (Sk sv sL LDk SVk LDk_run SVk_run)
open Go.Proofs.YtdmacflcjbkkpaaGreat.Tb (Blk Blk.newAt put_all Kp.setCells results_cell1 results_cell2)
set_option maxRecDepth 8000 in
set_option maxHeartbeats 1600000 in
theorem record_3 (p gm gk : Nat) (P : St) (s : Sk) (lo : Lo) (L : List Rn) (w : World) (hp : PU w p gm gk P) (hl : LdO w lo L) (ha : Apo lo p gm gk) (hk : s.k = 3) (kb : 0 ≤ s.k ∧ s.k ≤ 255) (hm : Rm L 8) (hmb : cod P (clp s) = 0 → ∀ r ∈ mid (clp s) ((hat P (clp s).h).getD h0), r.c ≤ 1125899906842624) (R : Rf p gm gk P (clp s) 48) (D : Dd p gm gk P (clp s) 49) :
    Calls Tryz.prog 29 #[.pointer (some ⟨p, 0, none⟩), lpo lo, sv s] w fun e w' => e = .returned (.int .i64 (cod P (clp s))) ∧ ∃ lo', CT w w' p gm gk (stp P s) lo lo' ((row P s).foldl putL L) := by
  obtain ⟨sk, sh, sa, sc, so, sd, sm⟩ := s
  obtain rfl : sk = 3 := hk
  have kb : 0 ≤ (3 : Int) ∧ (3 : Int) ≤ 255 := kb
  have HR : Hid (∀ V, PU V p gm gk P → Calls Tryz.prog 48 #[.pointer (some ⟨p, 0, none⟩), .agg #[.int .u8 3, .int .i64 sh, .int .u8 sa, .int .i64 sc, .int .i64 so, .int .i64 (max sd 0), .int .i64 (max sm 0)]] V fun e w' => e = .returned (.int .i64 (cod P ⟨3, sh, sa, sc, so, max sd 0, max sm 0⟩)) ∧ Below V.heap.size V w') := hid R
  have HD : Hid (cod P ⟨3, sh, sa, sc, so, max sd 0, max sm 0⟩ = 0 → ∀ V lo L, PU V p gm gk P → LdO V lo L → Apo lo p gm gk → Rm L 4 → Calls Tryz.prog 49 #[.pointer (some ⟨p, 0, none⟩), lpo lo, .agg #[.int .u8 3, .int .i64 sh, .int .u8 sa, .int .i64 sc, .int .i64 so, .int .i64 (max sd 0), .int .i64 (max sm 0)]] V fun e w' => e = .returned (.tuple #[]) ∧ ∃ lo', CT V w' p gm gk (nxt P ⟨3, sh, sa, sc, so, max sd 0, max sm 0⟩) lo lo' ((mid ⟨3, sh, sa, sc, so, max sd 0, max sm 0⟩ ((hat P sh).getD h0)).foldl putL L)) := hid D
  have HB : Hid (cod P ⟨3, sh, sa, sc, so, max sd 0, max sm 0⟩ = 0 → ∀ r ∈ mid ⟨3, sh, sa, sc, so, max sd 0, max sm 0⟩ ((hat P sh).getD h0), r.c ≤ 1125899906842624) := hid hmb
  have HC : Hid (cod P ⟨3, sh, sa, sc, so, max sd 0, max sm 0⟩ ≠ 0 → stp P ⟨3, sh, sa, sc, so, sd, sm⟩ = P ∧ ∀ A, (row P ⟨3, sh, sa, sc, so, sd, sm⟩).foldl putL A = putL (putL A ⟨11, 3, 1⟩) ⟨12, cod P ⟨3, sh, sa, sc, so, max sd 0, max sm 0⟩, 1⟩) := hid (fun h => ⟨by
    show (if cod P ⟨3, sh, sa, sc, so, max sd 0, max sm 0⟩ = 0 then nxt P ⟨3, sh, sa, sc, so, max sd 0, max sm 0⟩ else P) = P
    rw [if_neg h], fun A => by
    have e : row P ⟨3, sh, sa, sc, so, sd, sm⟩ = ⟨11, 3, 1⟩ :: (if cod P ⟨3, sh, sa, sc, so, max sd 0, max sm 0⟩ = 0 then flt (mid ⟨3, sh, sa, sc, so, max sd 0, max sm 0⟩ ((hat P sh).getD h0)) else []) ++ [⟨12, cod P ⟨3, sh, sa, sc, so, max sd 0, max sm 0⟩, 1⟩] := rfl
    rw [e, if_neg h]; rfl⟩)
  have HE : Hid (cod P ⟨3, sh, sa, sc, so, max sd 0, max sm 0⟩ = 0 → stp P ⟨3, sh, sa, sc, so, sd, sm⟩ = nxt P ⟨3, sh, sa, sc, so, max sd 0, max sm 0⟩ ∧ ∀ A, (row P ⟨3, sh, sa, sc, so, sd, sm⟩).foldl putL A = putL ((mid ⟨3, sh, sa, sc, so, max sd 0, max sm 0⟩ ((hat P sh).getD h0)).foldl putL (putL A ⟨11, 3, 1⟩)) ⟨12, 0, 1⟩) := hid (fun h => ⟨by
    show (if cod P ⟨3, sh, sa, sc, so, max sd 0, max sm 0⟩ = 0 then nxt P ⟨3, sh, sa, sc, so, max sd 0, max sm 0⟩ else P) = _
    rw [if_pos h], fun A => by
    have e : row P ⟨3, sh, sa, sc, so, sd, sm⟩ = ⟨11, 3, 1⟩ :: (if cod P ⟨3, sh, sa, sc, so, max sd 0, max sm 0⟩ = 0 then flt (mid ⟨3, sh, sa, sc, so, max sd 0, max sm 0⟩ ((hat P sh).getD h0)) else []) ++ [⟨12, cod P ⟨3, sh, sa, sc, so, max sd 0, max sm 0⟩, 1⟩] := rfl
    rw [e, if_pos h, h, List.cons_append, List.foldl_cons, List.foldl_append, foldl_flt]; rfl⟩)
  have cb := cod_b P ⟨3, sh, sa, sc, so, max sd 0, max sm 0⟩
  show Calls _ _ _ _ fun e w' => e = .returned (.int .i64 (cod P ⟨3, sh, sa, sc, so, max sd 0, max sm 0⟩)) ∧ ∃ lo', CT w w' p gm gk (stp P ⟨3, sh, sa, sc, so, sd, sm⟩) lo lo' ((row P ⟨3, sh, sa, sc, so, sd, sm⟩).foldl putL L)
  obtain ⟨c, hc⟩ : ∃ c, cod P ⟨3, sh, sa, sc, so, max sd 0, max sm 0⟩ = c := ⟨_, rfl⟩
  rw [hc] at HR HD HC HE HB cb ⊢
  clear hc hmb R D
  obtain ⟨Wa, hWa⟩ : ∃ W, w.alloc (.cells #[.int .u8 3, .int .i64 sh, .int .u8 sa, .int .i64 sc, .int .i64 so, .int .i64 sd, .int .i64 sm] 40) = W := ⟨_, rfl⟩
  have ba : Below w.heap.size w Wa := by rw [← hWa]; exact below_alloc _ _
  have ka : Blk Wa w.heap.size [.int .u8 3, .int .i64 sh, .int .u8 sa, .int .i64 sc, .int .i64 so, .int .i64 sd, .int .i64 sm] 40 := by rw [← hWa]; exact Blk.newAt w _ _ _ w.heap.size rfl rfl
  have a5 := ka.cell 5 _ rfl
  have a6 := ka.cell 6 _ rfl
  have fa5 := ka.frozen 5
  have fa6 := ka.frozen 6
  obtain ⟨W, hW⟩ : ∃ W', (Wa.setCell ⟨w.heap.size, 5, none⟩ (.int .i64 (max sd 0))).setCell ⟨w.heap.size, 6, none⟩ (.int .i64 (max sm 0)) = W' := ⟨_, rfl⟩
  have BW : Hid (Below w.heap.size w W) := by rw [← hW]; exact Tb.below_set (Tb.below_set ba _ _ _ (Nat.le_refl _) ba.size) _ _ _ (Nat.le_refl _) (by simp [World.setCell]; exact ba.size)
  have KB : Hid (Blk W w.heap.size [.int .u8 3, .int .i64 sh, .int .u8 sa, .int .i64 sc, .int .i64 so, .int .i64 (max sd 0), .int .i64 (max sm 0)] 40) := by rw [← hW]; exact (ka.set 5 _).set 6 _
  have HP := hid (hp.below BW.out)
  have HL := hid (hl.below BW.out)
  have HA := hid ha
  have GL := hid hp.lt
  have HM := hid hm
  have HPW := hid hp
  have LL : Hid (∀ j, blo lo j → j < w.heap.size) := hl.lt
  obtain ⟨U, hU⟩ : ∃ U, W.alloc (.cells #[.nilFunc, .nilFunc] 93) = U := ⟨_, rfl⟩
  have NU : Hid (Below W.heap.size W U) := by rw [← hU]; exact below_alloc _ _
  have ku : Blk U W.heap.size [.nilFunc, .nilFunc] 93 := by rw [← hU]; exact Blk.newAt W _ _ _ W.heap.size rfl rfl
  obtain ⟨V, s1, k1, hk1⟩ := SVn_run 42 43 ku rfl
  have NV : Hid (Below W.heap.size W V) := hid (NU.out.trans (hk1.below NU.out.size (fun k h e => by omega)))
  have s1 : (SVn ⟨W.heap.size, 0, none⟩ (.agg #[.func (.func 42) #[] #[], .func (.func 43) #[] #[]])).run Tryz.prog U = .ok () V := s1
  have x1 := HP.out.c1
  have l0 : (LDn ⟨gk, 0, none⟩).run Tryz.prog W = .ok (.agg #[.func (.func 42) #[] #[], .func (.func 43) #[] #[]]) W := run_loadVar_mid W gk 0 _ [.func (.func 42) #[] #[], .func (.func 43) #[] #[]] _ (HP.out.kt.range 0 _ (fun j v hj => by
    match j, hj with
    | 0, hj => exact hj
    | 1, hj => exact hj
    | j + 2, hj => simp at hj)) Tryz.underlying93 rfl infon
  have D1 : Hid (Below W.heap.size W V.drew) := hid (below_next NV.out (below_drewN V 1))
  have pv := HP.out.below D1.out
  have kv := KB.out.below D1.out
  have y1 := pv.c1
  have y2 := kv.cell 0 _ rfl
  have D2 : Hid (Below W.heap.size W V.drew.drew) := hid (below_next D1.out (below_drewN V.drew 1))
  have DK : Blk V.drew.drew W.heap.size [.func (.func 42) #[] #[], .func (.func 43) #[] #[]] 93 := k1.below (below_drewN V 2)
  have pv2 := HP.out.below D2.out
  have kv2 := KB.out.below D2.out
  have z1 := pv2.c1
  have z2 := kv2.cell 0 _ rfl
  have z3 : (LDn ⟨gk, 6, none⟩).run Tryz.prog V.drew.drew = .ok (.agg #[.func (.func 48) #[] #[], .func (.func 49) #[] #[]]) V.drew.drew := run_loadVar_mid V.drew.drew gk 6 _ [.func (.func 48) #[] #[], .func (.func 49) #[] #[]] _ (pv2.kt.range 6 _ (fun j v hj => by
    match j, hj with
    | 0, hj => exact hj
    | 1, hj => exact hj
    | j + 2, hj => simp at hj)) Tryz.underlying93 rfl infon
  obtain ⟨X, s2, k2, hk2⟩ := SVn_run 48 49 DK rfl
  have s2 : (SVn ⟨W.heap.size, 0, none⟩ (.agg #[.func (.func 48) #[] #[], .func (.func 49) #[] #[]])).run Tryz.prog V.drew.drew = .ok () X := s2
  have NX : Hid (Below W.heap.size W X) := hid (D2.out.trans (hk2.below D2.out.size (fun k h e => by omega)))
  have KX : Hid (Blk X W.heap.size [.func (.func 48) #[] #[], .func (.func 49) #[] #[]] 93) := hid k2
  have pz := HP.out.below NX.out
  have kz := KB.out.below NX.out
  have u1 := pz.c1
  have u2 := kz.cell 0 _ rfl
  have u3 : (LDn ⟨gk, 6, none⟩).run Tryz.prog X = .ok (.agg #[.func (.func 48) #[] #[], .func (.func 49) #[] #[]]) X := run_loadVar_mid X gk 6 _ [.func (.func 48) #[] #[], .func (.func 49) #[] #[]] _ (pz.kt.range 6 _ (fun j v hj => by
    match j, hj with
    | 0, hj => exact hj
    | 1, hj => exact hj
    | j + 2, hj => simp at hj)) Tryz.underlying93 rfl infon
  have KBX := hid (KB.out.below NX.out)
  have HPX := hid (HP.out.below NX.out)
  have HLX := hid (HL.out.below NX.out)
  have BX : Hid (Below w.heap.size w X) := hid (below_next BW.out NX.out)
  have v0 := KX.out.cell 0 _ rfl
  have v1 := LDk_run (s := ⟨3, sh, sa, sc, so, max sd 0, max sm 0⟩) KBX.out
  have v1 : (LDk ⟨w.heap.size, 0, none⟩).run Tryz.prog X = .ok (.agg #[.int .u8 3, .int .i64 sh, .int .u8 sa, .int .i64 sc, .int .i64 so, .int .i64 (max sd 0), .int .i64 (max sm 0)]) X := v1
  clear hp hl ha hm ka ba k1 hk1 ku pv kv pv2 kv2 pz kz k2 hk2 DK
  go_enter Tryz.func29, Tryz.ntmps29
  go_wp2_with fail
  clear hWa hW
  go_region_held3 (fun V => V.cell? ⟨p, 1, none⟩ = some (.slice (some ⟨gk, 0, none⟩) 11 11) ∧ V.cell? ⟨w.heap.size, 0, none⟩ = some (.int .u8 3)) (go_keep) (fail)
  go_wp2_with fail
  go_region_held3 (fun V => V.cell? ⟨p, 1, none⟩ = some (.slice (some ⟨gk, 0, none⟩) 11 11) ∧ V.cell? ⟨w.heap.size, 0, none⟩ = some (.int .u8 3) ∧ (LDn ⟨gk, 6, none⟩).run Tryz.prog V = .ok (.agg #[.func (.func 48) #[] #[], .func (.func 49) #[] #[]]) V) (go_keep) (fail)
  go_wp2_with fail
  refine (HR.out _ HPX.out).mono ?_
  rintro e W1 ⟨rfl, hb⟩
  have N1 : Hid (Below X.heap.size X W1) := hid hb
  have KB1 := hid (KBX.out.below hb)
  have KX1 := hid (KX.out.below hb)
  have q0 := KB1.out.cell 0 _ rfl
  have C0 := hid (CT.after (below_next BX.out N1.out) (CT.refl (HPX.out.below hb) (HLX.out.below hb)))
  have n1 := hid (note_o lo L 11 3 W1 (HLX.out.below hb) (by omega) (HM.out.less (k := 1) (by decide)))
  clear hb
  have wk : IntKind.i64.wrap 3 = 3 := by rw [IntKind.wrap_i64]; omega
  go_wp2_with fail
  refine n1.out.mono ?_
  rintro e W2 ⟨rfl, l2, t2⟩
  have P2 := hid t2.ptr
  have C2 := hid (C0.out.trans (CT.note C0.out.pu (C0.out.apo HPW.out HA.out) t2))
  have RM2 : Hid (Rm (putL L ⟨11, 3, 1⟩) 7) := hid (Rm.put (m := 7) HM.out (by show (1 : Int) ≤ 1125899906842624; decide))
  have nlo : ∀ g, X.heap.size ≤ g ∨ g = w.heap.size ∨ g = W.heap.size → ¬ blo lo g := fun g hg e => by have := LL.out _ e; have := BX.out.size; have := BW.out.size; omega
  have KB2 := hid (KB1.out.kept t2.kp (nlo _ (.inr (.inl rfl))))
  have KX2 := hid (KX1.out.kept t2.kp (nlo _ (.inr (.inr rfl))))
  clear t2 nlo
  by_cases c0 : c = 0
  · subst c0
    obtain ⟨hE1, hE2⟩ := HE.out rfl
    have HE1 := hid hE1
    have HE2 := hid hE2
    clear hE1 hE2
    have HB2 := hid (HB.out rfl)
    have g1 := KX2.out.cell 1 _ rfl
    have g2 := LDk_run (s := ⟨3, sh, sa, sc, so, max sd 0, max sm 0⟩) KB2.out
    have g2 : (LDk ⟨w.heap.size, 0, none⟩).run Tryz.prog W2 = .ok (.agg #[.int .u8 3, .int .i64 sh, .int .u8 sa, .int .i64 sc, .int .i64 so, .int .i64 (max sd 0), .int .i64 (max sm 0)]) W2 := g2
    have d2 := HD.out rfl W2 l2 _ C2.out.pu C2.out.led (C2.out.apo HPW.out HA.out) (RM2.out.less (k := 4) (by decide))
    rw [P2.out] at d2
    have D2 := hid d2
    clear d2
    go_wp2_with fail
    refine D2.out.mono ?_
    rintro e W3 ⟨rfl, l3, c3⟩
    have P3 := hid c3.ptr
    have C3 := hid (C2.out.trans c3)
    clear c3
    have rm3 : Rm ((mid ⟨3, sh, sa, sc, so, max sd 0, max sm 0⟩ ((hat P sh).getD h0)).foldl putL (putL L ⟨11, 3, 1⟩)) 4 := Rm.fold (m := 4) (RM2.out.less (by have := mid_three ⟨3, sh, sa, sc, so, max sd 0, max sm 0⟩ ((hat P sh).getD h0); omega)) HB2.out
    have n3 := note_o l3 _ 12 0 W3 C3.out.led (by omega) (rm3.less (k := 1) (by decide))
    rw [P3.out, P2.out] at n3
    have N3 := hid n3
    clear n3 rm3
    go_wp2_with fail
    refine N3.out.mono ?_
    rintro e W4 ⟨rfl, l4, t4⟩
    have C4 := hid (C3.out.trans (CT.note C3.out.pu (C3.out.apo HPW.out HA.out) t4))
    clear t4
    go_wp2
    go_ret
    exact ⟨rfl, l4, by rw [HE1.out, HE2.out]; exact C4.out⟩
  · have n3 := note_o l2 _ 12 c W2 C2.out.led (by omega) (RM2.out.less (k := 1) (by decide))
    rw [P2.out] at n3
    have N3 := hid n3
    have c1 : (c == 0) = false := by simpa using c0
    clear n3
    go_wp2_with fail
    refine N3.out.mono ?_
    rintro e W4 ⟨rfl, l4, t4⟩
    have C4 := hid (C2.out.trans (CT.note C2.out.pu (C2.out.apo HPW.out HA.out) t4))
    clear t4
    go_wp2
    go_ret
    exact ⟨rfl, l4, by rw [(HC.out c0).1, (HC.out c0).2]; exact C4.out⟩
set_option maxRecDepth 8000 in
set_option maxHeartbeats 1600000 in
theorem record_4 (p gm gk : Nat) (P : St) (s : Sk) (lo : Lo) (L : List Rn) (w : World) (hp : PU w p gm gk P) (hl : LdO w lo L) (ha : Apo lo p gm gk) (hk : s.k = 4) (kb : 0 ≤ s.k ∧ s.k ≤ 255) (hm : Rm L 8) (hmb : cod P (clp s) = 0 → ∀ r ∈ mid (clp s) ((hat P (clp s).h).getD h0), r.c ≤ 1125899906842624) (R : Rf p gm gk P (clp s) 50) (D : Dd p gm gk P (clp s) 51) :
    Calls Tryz.prog 29 #[.pointer (some ⟨p, 0, none⟩), lpo lo, sv s] w fun e w' => e = .returned (.int .i64 (cod P (clp s))) ∧ ∃ lo', CT w w' p gm gk (stp P s) lo lo' ((row P s).foldl putL L) := by
  obtain ⟨sk, sh, sa, sc, so, sd, sm⟩ := s
  obtain rfl : sk = 4 := hk
  have kb : 0 ≤ (4 : Int) ∧ (4 : Int) ≤ 255 := kb
  have HR : Hid (∀ V, PU V p gm gk P → Calls Tryz.prog 50 #[.pointer (some ⟨p, 0, none⟩), .agg #[.int .u8 4, .int .i64 sh, .int .u8 sa, .int .i64 sc, .int .i64 so, .int .i64 (max sd 0), .int .i64 (max sm 0)]] V fun e w' => e = .returned (.int .i64 (cod P ⟨4, sh, sa, sc, so, max sd 0, max sm 0⟩)) ∧ Below V.heap.size V w') := hid R
  have HD : Hid (cod P ⟨4, sh, sa, sc, so, max sd 0, max sm 0⟩ = 0 → ∀ V lo L, PU V p gm gk P → LdO V lo L → Apo lo p gm gk → Rm L 4 → Calls Tryz.prog 51 #[.pointer (some ⟨p, 0, none⟩), lpo lo, .agg #[.int .u8 4, .int .i64 sh, .int .u8 sa, .int .i64 sc, .int .i64 so, .int .i64 (max sd 0), .int .i64 (max sm 0)]] V fun e w' => e = .returned (.tuple #[]) ∧ ∃ lo', CT V w' p gm gk (nxt P ⟨4, sh, sa, sc, so, max sd 0, max sm 0⟩) lo lo' ((mid ⟨4, sh, sa, sc, so, max sd 0, max sm 0⟩ ((hat P sh).getD h0)).foldl putL L)) := hid D
  have HB : Hid (cod P ⟨4, sh, sa, sc, so, max sd 0, max sm 0⟩ = 0 → ∀ r ∈ mid ⟨4, sh, sa, sc, so, max sd 0, max sm 0⟩ ((hat P sh).getD h0), r.c ≤ 1125899906842624) := hid hmb
  have HC : Hid (cod P ⟨4, sh, sa, sc, so, max sd 0, max sm 0⟩ ≠ 0 → stp P ⟨4, sh, sa, sc, so, sd, sm⟩ = P ∧ ∀ A, (row P ⟨4, sh, sa, sc, so, sd, sm⟩).foldl putL A = putL (putL A ⟨11, 4, 1⟩) ⟨12, cod P ⟨4, sh, sa, sc, so, max sd 0, max sm 0⟩, 1⟩) := hid (fun h => ⟨by
    show (if cod P ⟨4, sh, sa, sc, so, max sd 0, max sm 0⟩ = 0 then nxt P ⟨4, sh, sa, sc, so, max sd 0, max sm 0⟩ else P) = P
    rw [if_neg h], fun A => by
    have e : row P ⟨4, sh, sa, sc, so, sd, sm⟩ = ⟨11, 4, 1⟩ :: (if cod P ⟨4, sh, sa, sc, so, max sd 0, max sm 0⟩ = 0 then flt (mid ⟨4, sh, sa, sc, so, max sd 0, max sm 0⟩ ((hat P sh).getD h0)) else []) ++ [⟨12, cod P ⟨4, sh, sa, sc, so, max sd 0, max sm 0⟩, 1⟩] := rfl
    rw [e, if_neg h]; rfl⟩)
  have HE : Hid (cod P ⟨4, sh, sa, sc, so, max sd 0, max sm 0⟩ = 0 → stp P ⟨4, sh, sa, sc, so, sd, sm⟩ = nxt P ⟨4, sh, sa, sc, so, max sd 0, max sm 0⟩ ∧ ∀ A, (row P ⟨4, sh, sa, sc, so, sd, sm⟩).foldl putL A = putL ((mid ⟨4, sh, sa, sc, so, max sd 0, max sm 0⟩ ((hat P sh).getD h0)).foldl putL (putL A ⟨11, 4, 1⟩)) ⟨12, 0, 1⟩) := hid (fun h => ⟨by
    show (if cod P ⟨4, sh, sa, sc, so, max sd 0, max sm 0⟩ = 0 then nxt P ⟨4, sh, sa, sc, so, max sd 0, max sm 0⟩ else P) = _
    rw [if_pos h], fun A => by
    have e : row P ⟨4, sh, sa, sc, so, sd, sm⟩ = ⟨11, 4, 1⟩ :: (if cod P ⟨4, sh, sa, sc, so, max sd 0, max sm 0⟩ = 0 then flt (mid ⟨4, sh, sa, sc, so, max sd 0, max sm 0⟩ ((hat P sh).getD h0)) else []) ++ [⟨12, cod P ⟨4, sh, sa, sc, so, max sd 0, max sm 0⟩, 1⟩] := rfl
    rw [e, if_pos h, h, List.cons_append, List.foldl_cons, List.foldl_append, foldl_flt]; rfl⟩)
  have cb := cod_b P ⟨4, sh, sa, sc, so, max sd 0, max sm 0⟩
  show Calls _ _ _ _ fun e w' => e = .returned (.int .i64 (cod P ⟨4, sh, sa, sc, so, max sd 0, max sm 0⟩)) ∧ ∃ lo', CT w w' p gm gk (stp P ⟨4, sh, sa, sc, so, sd, sm⟩) lo lo' ((row P ⟨4, sh, sa, sc, so, sd, sm⟩).foldl putL L)
  obtain ⟨c, hc⟩ : ∃ c, cod P ⟨4, sh, sa, sc, so, max sd 0, max sm 0⟩ = c := ⟨_, rfl⟩
  rw [hc] at HR HD HC HE HB cb ⊢
  clear hc hmb R D
  obtain ⟨Wa, hWa⟩ : ∃ W, w.alloc (.cells #[.int .u8 4, .int .i64 sh, .int .u8 sa, .int .i64 sc, .int .i64 so, .int .i64 sd, .int .i64 sm] 40) = W := ⟨_, rfl⟩
  have ba : Below w.heap.size w Wa := by rw [← hWa]; exact below_alloc _ _
  have ka : Blk Wa w.heap.size [.int .u8 4, .int .i64 sh, .int .u8 sa, .int .i64 sc, .int .i64 so, .int .i64 sd, .int .i64 sm] 40 := by rw [← hWa]; exact Blk.newAt w _ _ _ w.heap.size rfl rfl
  have a5 := ka.cell 5 _ rfl
  have a6 := ka.cell 6 _ rfl
  have fa5 := ka.frozen 5
  have fa6 := ka.frozen 6
  obtain ⟨W, hW⟩ : ∃ W', (Wa.setCell ⟨w.heap.size, 5, none⟩ (.int .i64 (max sd 0))).setCell ⟨w.heap.size, 6, none⟩ (.int .i64 (max sm 0)) = W' := ⟨_, rfl⟩
  have BW : Hid (Below w.heap.size w W) := by rw [← hW]; exact Tb.below_set (Tb.below_set ba _ _ _ (Nat.le_refl _) ba.size) _ _ _ (Nat.le_refl _) (by simp [World.setCell]; exact ba.size)
  have KB : Hid (Blk W w.heap.size [.int .u8 4, .int .i64 sh, .int .u8 sa, .int .i64 sc, .int .i64 so, .int .i64 (max sd 0), .int .i64 (max sm 0)] 40) := by rw [← hW]; exact (ka.set 5 _).set 6 _
  have HP := hid (hp.below BW.out)
  have HL := hid (hl.below BW.out)
  have HA := hid ha
  have GL := hid hp.lt
  have HM := hid hm
  have HPW := hid hp
  have LL : Hid (∀ j, blo lo j → j < w.heap.size) := hl.lt
  obtain ⟨U, hU⟩ : ∃ U, W.alloc (.cells #[.nilFunc, .nilFunc] 93) = U := ⟨_, rfl⟩
  have NU : Hid (Below W.heap.size W U) := by rw [← hU]; exact below_alloc _ _
  have ku : Blk U W.heap.size [.nilFunc, .nilFunc] 93 := by rw [← hU]; exact Blk.newAt W _ _ _ W.heap.size rfl rfl
  obtain ⟨V, s1, k1, hk1⟩ := SVn_run 42 43 ku rfl
  have NV : Hid (Below W.heap.size W V) := hid (NU.out.trans (hk1.below NU.out.size (fun k h e => by omega)))
  have s1 : (SVn ⟨W.heap.size, 0, none⟩ (.agg #[.func (.func 42) #[] #[], .func (.func 43) #[] #[]])).run Tryz.prog U = .ok () V := s1
  have x1 := HP.out.c1
  have l0 : (LDn ⟨gk, 0, none⟩).run Tryz.prog W = .ok (.agg #[.func (.func 42) #[] #[], .func (.func 43) #[] #[]]) W := run_loadVar_mid W gk 0 _ [.func (.func 42) #[] #[], .func (.func 43) #[] #[]] _ (HP.out.kt.range 0 _ (fun j v hj => by
    match j, hj with
    | 0, hj => exact hj
    | 1, hj => exact hj
    | j + 2, hj => simp at hj)) Tryz.underlying93 rfl infon
  have D1 : Hid (Below W.heap.size W V.drew) := hid (below_next NV.out (below_drewN V 1))
  have pv := HP.out.below D1.out
  have kv := KB.out.below D1.out
  have y1 := pv.c1
  have y2 := kv.cell 0 _ rfl
  have D2 : Hid (Below W.heap.size W V.drew.drew) := hid (below_next D1.out (below_drewN V.drew 1))
  have DK : Blk V.drew.drew W.heap.size [.func (.func 42) #[] #[], .func (.func 43) #[] #[]] 93 := k1.below (below_drewN V 2)
  have pv2 := HP.out.below D2.out
  have kv2 := KB.out.below D2.out
  have z1 := pv2.c1
  have z2 := kv2.cell 0 _ rfl
  have z3 : (LDn ⟨gk, 8, none⟩).run Tryz.prog V.drew.drew = .ok (.agg #[.func (.func 50) #[] #[], .func (.func 51) #[] #[]]) V.drew.drew := run_loadVar_mid V.drew.drew gk 8 _ [.func (.func 50) #[] #[], .func (.func 51) #[] #[]] _ (pv2.kt.range 8 _ (fun j v hj => by
    match j, hj with
    | 0, hj => exact hj
    | 1, hj => exact hj
    | j + 2, hj => simp at hj)) Tryz.underlying93 rfl infon
  obtain ⟨X, s2, k2, hk2⟩ := SVn_run 50 51 DK rfl
  have s2 : (SVn ⟨W.heap.size, 0, none⟩ (.agg #[.func (.func 50) #[] #[], .func (.func 51) #[] #[]])).run Tryz.prog V.drew.drew = .ok () X := s2
  have NX : Hid (Below W.heap.size W X) := hid (D2.out.trans (hk2.below D2.out.size (fun k h e => by omega)))
  have KX : Hid (Blk X W.heap.size [.func (.func 50) #[] #[], .func (.func 51) #[] #[]] 93) := hid k2
  have pz := HP.out.below NX.out
  have kz := KB.out.below NX.out
  have u1 := pz.c1
  have u2 := kz.cell 0 _ rfl
  have u3 : (LDn ⟨gk, 8, none⟩).run Tryz.prog X = .ok (.agg #[.func (.func 50) #[] #[], .func (.func 51) #[] #[]]) X := run_loadVar_mid X gk 8 _ [.func (.func 50) #[] #[], .func (.func 51) #[] #[]] _ (pz.kt.range 8 _ (fun j v hj => by
    match j, hj with
    | 0, hj => exact hj
    | 1, hj => exact hj
    | j + 2, hj => simp at hj)) Tryz.underlying93 rfl infon
  have KBX := hid (KB.out.below NX.out)
  have HPX := hid (HP.out.below NX.out)
  have HLX := hid (HL.out.below NX.out)
  have BX : Hid (Below w.heap.size w X) := hid (below_next BW.out NX.out)
  have v0 := KX.out.cell 0 _ rfl
  have v1 := LDk_run (s := ⟨4, sh, sa, sc, so, max sd 0, max sm 0⟩) KBX.out
  have v1 : (LDk ⟨w.heap.size, 0, none⟩).run Tryz.prog X = .ok (.agg #[.int .u8 4, .int .i64 sh, .int .u8 sa, .int .i64 sc, .int .i64 so, .int .i64 (max sd 0), .int .i64 (max sm 0)]) X := v1
  clear hp hl ha hm ka ba k1 hk1 ku pv kv pv2 kv2 pz kz k2 hk2 DK
  go_enter Tryz.func29, Tryz.ntmps29
  go_wp2_with fail
  clear hWa hW
  go_region_held3 (fun V => V.cell? ⟨p, 1, none⟩ = some (.slice (some ⟨gk, 0, none⟩) 11 11) ∧ V.cell? ⟨w.heap.size, 0, none⟩ = some (.int .u8 4)) (go_keep) (fail)
  go_wp2_with fail
  go_region_held3 (fun V => V.cell? ⟨p, 1, none⟩ = some (.slice (some ⟨gk, 0, none⟩) 11 11) ∧ V.cell? ⟨w.heap.size, 0, none⟩ = some (.int .u8 4) ∧ (LDn ⟨gk, 8, none⟩).run Tryz.prog V = .ok (.agg #[.func (.func 50) #[] #[], .func (.func 51) #[] #[]]) V) (go_keep) (fail)
  go_wp2_with fail
  refine (HR.out _ HPX.out).mono ?_
  rintro e W1 ⟨rfl, hb⟩
  have N1 : Hid (Below X.heap.size X W1) := hid hb
  have KB1 := hid (KBX.out.below hb)
  have KX1 := hid (KX.out.below hb)
  have q0 := KB1.out.cell 0 _ rfl
  have C0 := hid (CT.after (below_next BX.out N1.out) (CT.refl (HPX.out.below hb) (HLX.out.below hb)))
  have n1 := hid (note_o lo L 11 4 W1 (HLX.out.below hb) (by omega) (HM.out.less (k := 1) (by decide)))
  clear hb
  have wk : IntKind.i64.wrap 4 = 4 := by rw [IntKind.wrap_i64]; omega
  go_wp2_with fail
  refine n1.out.mono ?_
  rintro e W2 ⟨rfl, l2, t2⟩
  have P2 := hid t2.ptr
  have C2 := hid (C0.out.trans (CT.note C0.out.pu (C0.out.apo HPW.out HA.out) t2))
  have RM2 : Hid (Rm (putL L ⟨11, 4, 1⟩) 7) := hid (Rm.put (m := 7) HM.out (by show (1 : Int) ≤ 1125899906842624; decide))
  have nlo : ∀ g, X.heap.size ≤ g ∨ g = w.heap.size ∨ g = W.heap.size → ¬ blo lo g := fun g hg e => by have := LL.out _ e; have := BX.out.size; have := BW.out.size; omega
  have KB2 := hid (KB1.out.kept t2.kp (nlo _ (.inr (.inl rfl))))
  have KX2 := hid (KX1.out.kept t2.kp (nlo _ (.inr (.inr rfl))))
  clear t2 nlo
  by_cases c0 : c = 0
  · subst c0
    obtain ⟨hE1, hE2⟩ := HE.out rfl
    have HE1 := hid hE1
    have HE2 := hid hE2
    clear hE1 hE2
    have HB2 := hid (HB.out rfl)
    have g1 := KX2.out.cell 1 _ rfl
    have g2 := LDk_run (s := ⟨4, sh, sa, sc, so, max sd 0, max sm 0⟩) KB2.out
    have g2 : (LDk ⟨w.heap.size, 0, none⟩).run Tryz.prog W2 = .ok (.agg #[.int .u8 4, .int .i64 sh, .int .u8 sa, .int .i64 sc, .int .i64 so, .int .i64 (max sd 0), .int .i64 (max sm 0)]) W2 := g2
    have d2 := HD.out rfl W2 l2 _ C2.out.pu C2.out.led (C2.out.apo HPW.out HA.out) (RM2.out.less (k := 4) (by decide))
    rw [P2.out] at d2
    have D2 := hid d2
    clear d2
    go_wp2_with fail
    refine D2.out.mono ?_
    rintro e W3 ⟨rfl, l3, c3⟩
    have P3 := hid c3.ptr
    have C3 := hid (C2.out.trans c3)
    clear c3
    have rm3 : Rm ((mid ⟨4, sh, sa, sc, so, max sd 0, max sm 0⟩ ((hat P sh).getD h0)).foldl putL (putL L ⟨11, 4, 1⟩)) 4 := Rm.fold (m := 4) (RM2.out.less (by have := mid_three ⟨4, sh, sa, sc, so, max sd 0, max sm 0⟩ ((hat P sh).getD h0); omega)) HB2.out
    have n3 := note_o l3 _ 12 0 W3 C3.out.led (by omega) (rm3.less (k := 1) (by decide))
    rw [P3.out, P2.out] at n3
    have N3 := hid n3
    clear n3 rm3
    go_wp2_with fail
    refine N3.out.mono ?_
    rintro e W4 ⟨rfl, l4, t4⟩
    have C4 := hid (C3.out.trans (CT.note C3.out.pu (C3.out.apo HPW.out HA.out) t4))
    clear t4
    go_wp2
    go_ret
    exact ⟨rfl, l4, by rw [HE1.out, HE2.out]; exact C4.out⟩
  · have n3 := note_o l2 _ 12 c W2 C2.out.led (by omega) (RM2.out.less (k := 1) (by decide))
    rw [P2.out] at n3
    have N3 := hid n3
    have c1 : (c == 0) = false := by simpa using c0
    clear n3
    go_wp2_with fail
    refine N3.out.mono ?_
    rintro e W4 ⟨rfl, l4, t4⟩
    have C4 := hid (C2.out.trans (CT.note C2.out.pu (C2.out.apo HPW.out HA.out) t4))
    clear t4
    go_wp2
    go_ret
    exact ⟨rfl, l4, by rw [(HC.out c0).1, (HC.out c0).2]; exact C4.out⟩
set_option maxRecDepth 8000 in
set_option maxHeartbeats 1600000 in
theorem record_5 (p gm gk : Nat) (P : St) (s : Sk) (lo : Lo) (L : List Rn) (w : World) (hp : PU w p gm gk P) (hl : LdO w lo L) (ha : Apo lo p gm gk) (hk : s.k = 5) (kb : 0 ≤ s.k ∧ s.k ≤ 255) (hm : Rm L 8) (hmb : cod P (clp s) = 0 → ∀ r ∈ mid (clp s) ((hat P (clp s).h).getD h0), r.c ≤ 1125899906842624) (R : Rf p gm gk P (clp s) 52) (D : Dd p gm gk P (clp s) 53) :
    Calls Tryz.prog 29 #[.pointer (some ⟨p, 0, none⟩), lpo lo, sv s] w fun e w' => e = .returned (.int .i64 (cod P (clp s))) ∧ ∃ lo', CT w w' p gm gk (stp P s) lo lo' ((row P s).foldl putL L) := by
  obtain ⟨sk, sh, sa, sc, so, sd, sm⟩ := s
  obtain rfl : sk = 5 := hk
  have kb : 0 ≤ (5 : Int) ∧ (5 : Int) ≤ 255 := kb
  have HR : Hid (∀ V, PU V p gm gk P → Calls Tryz.prog 52 #[.pointer (some ⟨p, 0, none⟩), .agg #[.int .u8 5, .int .i64 sh, .int .u8 sa, .int .i64 sc, .int .i64 so, .int .i64 (max sd 0), .int .i64 (max sm 0)]] V fun e w' => e = .returned (.int .i64 (cod P ⟨5, sh, sa, sc, so, max sd 0, max sm 0⟩)) ∧ Below V.heap.size V w') := hid R
  have HD : Hid (cod P ⟨5, sh, sa, sc, so, max sd 0, max sm 0⟩ = 0 → ∀ V lo L, PU V p gm gk P → LdO V lo L → Apo lo p gm gk → Rm L 4 → Calls Tryz.prog 53 #[.pointer (some ⟨p, 0, none⟩), lpo lo, .agg #[.int .u8 5, .int .i64 sh, .int .u8 sa, .int .i64 sc, .int .i64 so, .int .i64 (max sd 0), .int .i64 (max sm 0)]] V fun e w' => e = .returned (.tuple #[]) ∧ ∃ lo', CT V w' p gm gk (nxt P ⟨5, sh, sa, sc, so, max sd 0, max sm 0⟩) lo lo' ((mid ⟨5, sh, sa, sc, so, max sd 0, max sm 0⟩ ((hat P sh).getD h0)).foldl putL L)) := hid D
  have HB : Hid (cod P ⟨5, sh, sa, sc, so, max sd 0, max sm 0⟩ = 0 → ∀ r ∈ mid ⟨5, sh, sa, sc, so, max sd 0, max sm 0⟩ ((hat P sh).getD h0), r.c ≤ 1125899906842624) := hid hmb
  have HC : Hid (cod P ⟨5, sh, sa, sc, so, max sd 0, max sm 0⟩ ≠ 0 → stp P ⟨5, sh, sa, sc, so, sd, sm⟩ = P ∧ ∀ A, (row P ⟨5, sh, sa, sc, so, sd, sm⟩).foldl putL A = putL (putL A ⟨11, 5, 1⟩) ⟨12, cod P ⟨5, sh, sa, sc, so, max sd 0, max sm 0⟩, 1⟩) := hid (fun h => ⟨by
    show (if cod P ⟨5, sh, sa, sc, so, max sd 0, max sm 0⟩ = 0 then nxt P ⟨5, sh, sa, sc, so, max sd 0, max sm 0⟩ else P) = P
    rw [if_neg h], fun A => by
    have e : row P ⟨5, sh, sa, sc, so, sd, sm⟩ = ⟨11, 5, 1⟩ :: (if cod P ⟨5, sh, sa, sc, so, max sd 0, max sm 0⟩ = 0 then flt (mid ⟨5, sh, sa, sc, so, max sd 0, max sm 0⟩ ((hat P sh).getD h0)) else []) ++ [⟨12, cod P ⟨5, sh, sa, sc, so, max sd 0, max sm 0⟩, 1⟩] := rfl
    rw [e, if_neg h]; rfl⟩)
  have HE : Hid (cod P ⟨5, sh, sa, sc, so, max sd 0, max sm 0⟩ = 0 → stp P ⟨5, sh, sa, sc, so, sd, sm⟩ = nxt P ⟨5, sh, sa, sc, so, max sd 0, max sm 0⟩ ∧ ∀ A, (row P ⟨5, sh, sa, sc, so, sd, sm⟩).foldl putL A = putL ((mid ⟨5, sh, sa, sc, so, max sd 0, max sm 0⟩ ((hat P sh).getD h0)).foldl putL (putL A ⟨11, 5, 1⟩)) ⟨12, 0, 1⟩) := hid (fun h => ⟨by
    show (if cod P ⟨5, sh, sa, sc, so, max sd 0, max sm 0⟩ = 0 then nxt P ⟨5, sh, sa, sc, so, max sd 0, max sm 0⟩ else P) = _
    rw [if_pos h], fun A => by
    have e : row P ⟨5, sh, sa, sc, so, sd, sm⟩ = ⟨11, 5, 1⟩ :: (if cod P ⟨5, sh, sa, sc, so, max sd 0, max sm 0⟩ = 0 then flt (mid ⟨5, sh, sa, sc, so, max sd 0, max sm 0⟩ ((hat P sh).getD h0)) else []) ++ [⟨12, cod P ⟨5, sh, sa, sc, so, max sd 0, max sm 0⟩, 1⟩] := rfl
    rw [e, if_pos h, h, List.cons_append, List.foldl_cons, List.foldl_append, foldl_flt]; rfl⟩)
  have cb := cod_b P ⟨5, sh, sa, sc, so, max sd 0, max sm 0⟩
  show Calls _ _ _ _ fun e w' => e = .returned (.int .i64 (cod P ⟨5, sh, sa, sc, so, max sd 0, max sm 0⟩)) ∧ ∃ lo', CT w w' p gm gk (stp P ⟨5, sh, sa, sc, so, sd, sm⟩) lo lo' ((row P ⟨5, sh, sa, sc, so, sd, sm⟩).foldl putL L)
  obtain ⟨c, hc⟩ : ∃ c, cod P ⟨5, sh, sa, sc, so, max sd 0, max sm 0⟩ = c := ⟨_, rfl⟩
  rw [hc] at HR HD HC HE HB cb ⊢
  clear hc hmb R D
  obtain ⟨Wa, hWa⟩ : ∃ W, w.alloc (.cells #[.int .u8 5, .int .i64 sh, .int .u8 sa, .int .i64 sc, .int .i64 so, .int .i64 sd, .int .i64 sm] 40) = W := ⟨_, rfl⟩
  have ba : Below w.heap.size w Wa := by rw [← hWa]; exact below_alloc _ _
  have ka : Blk Wa w.heap.size [.int .u8 5, .int .i64 sh, .int .u8 sa, .int .i64 sc, .int .i64 so, .int .i64 sd, .int .i64 sm] 40 := by rw [← hWa]; exact Blk.newAt w _ _ _ w.heap.size rfl rfl
  have a5 := ka.cell 5 _ rfl
  have a6 := ka.cell 6 _ rfl
  have fa5 := ka.frozen 5
  have fa6 := ka.frozen 6
  obtain ⟨W, hW⟩ : ∃ W', (Wa.setCell ⟨w.heap.size, 5, none⟩ (.int .i64 (max sd 0))).setCell ⟨w.heap.size, 6, none⟩ (.int .i64 (max sm 0)) = W' := ⟨_, rfl⟩
  have BW : Hid (Below w.heap.size w W) := by rw [← hW]; exact Tb.below_set (Tb.below_set ba _ _ _ (Nat.le_refl _) ba.size) _ _ _ (Nat.le_refl _) (by simp [World.setCell]; exact ba.size)
  have KB : Hid (Blk W w.heap.size [.int .u8 5, .int .i64 sh, .int .u8 sa, .int .i64 sc, .int .i64 so, .int .i64 (max sd 0), .int .i64 (max sm 0)] 40) := by rw [← hW]; exact (ka.set 5 _).set 6 _
  have HP := hid (hp.below BW.out)
  have HL := hid (hl.below BW.out)
  have HA := hid ha
  have GL := hid hp.lt
  have HM := hid hm
  have HPW := hid hp
  have LL : Hid (∀ j, blo lo j → j < w.heap.size) := hl.lt
  obtain ⟨U, hU⟩ : ∃ U, W.alloc (.cells #[.nilFunc, .nilFunc] 93) = U := ⟨_, rfl⟩
  have NU : Hid (Below W.heap.size W U) := by rw [← hU]; exact below_alloc _ _
  have ku : Blk U W.heap.size [.nilFunc, .nilFunc] 93 := by rw [← hU]; exact Blk.newAt W _ _ _ W.heap.size rfl rfl
  obtain ⟨V, s1, k1, hk1⟩ := SVn_run 42 43 ku rfl
  have NV : Hid (Below W.heap.size W V) := hid (NU.out.trans (hk1.below NU.out.size (fun k h e => by omega)))
  have s1 : (SVn ⟨W.heap.size, 0, none⟩ (.agg #[.func (.func 42) #[] #[], .func (.func 43) #[] #[]])).run Tryz.prog U = .ok () V := s1
  have x1 := HP.out.c1
  have l0 : (LDn ⟨gk, 0, none⟩).run Tryz.prog W = .ok (.agg #[.func (.func 42) #[] #[], .func (.func 43) #[] #[]]) W := run_loadVar_mid W gk 0 _ [.func (.func 42) #[] #[], .func (.func 43) #[] #[]] _ (HP.out.kt.range 0 _ (fun j v hj => by
    match j, hj with
    | 0, hj => exact hj
    | 1, hj => exact hj
    | j + 2, hj => simp at hj)) Tryz.underlying93 rfl infon
  have D1 : Hid (Below W.heap.size W V.drew) := hid (below_next NV.out (below_drewN V 1))
  have pv := HP.out.below D1.out
  have kv := KB.out.below D1.out
  have y1 := pv.c1
  have y2 := kv.cell 0 _ rfl
  have D2 : Hid (Below W.heap.size W V.drew.drew) := hid (below_next D1.out (below_drewN V.drew 1))
  have DK : Blk V.drew.drew W.heap.size [.func (.func 42) #[] #[], .func (.func 43) #[] #[]] 93 := k1.below (below_drewN V 2)
  have pv2 := HP.out.below D2.out
  have kv2 := KB.out.below D2.out
  have z1 := pv2.c1
  have z2 := kv2.cell 0 _ rfl
  have z3 : (LDn ⟨gk, 10, none⟩).run Tryz.prog V.drew.drew = .ok (.agg #[.func (.func 52) #[] #[], .func (.func 53) #[] #[]]) V.drew.drew := run_loadVar_mid V.drew.drew gk 10 _ [.func (.func 52) #[] #[], .func (.func 53) #[] #[]] _ (pv2.kt.range 10 _ (fun j v hj => by
    match j, hj with
    | 0, hj => exact hj
    | 1, hj => exact hj
    | j + 2, hj => simp at hj)) Tryz.underlying93 rfl infon
  obtain ⟨X, s2, k2, hk2⟩ := SVn_run 52 53 DK rfl
  have s2 : (SVn ⟨W.heap.size, 0, none⟩ (.agg #[.func (.func 52) #[] #[], .func (.func 53) #[] #[]])).run Tryz.prog V.drew.drew = .ok () X := s2
  have NX : Hid (Below W.heap.size W X) := hid (D2.out.trans (hk2.below D2.out.size (fun k h e => by omega)))
  have KX : Hid (Blk X W.heap.size [.func (.func 52) #[] #[], .func (.func 53) #[] #[]] 93) := hid k2
  have pz := HP.out.below NX.out
  have kz := KB.out.below NX.out
  have u1 := pz.c1
  have u2 := kz.cell 0 _ rfl
  have u3 : (LDn ⟨gk, 10, none⟩).run Tryz.prog X = .ok (.agg #[.func (.func 52) #[] #[], .func (.func 53) #[] #[]]) X := run_loadVar_mid X gk 10 _ [.func (.func 52) #[] #[], .func (.func 53) #[] #[]] _ (pz.kt.range 10 _ (fun j v hj => by
    match j, hj with
    | 0, hj => exact hj
    | 1, hj => exact hj
    | j + 2, hj => simp at hj)) Tryz.underlying93 rfl infon
  have KBX := hid (KB.out.below NX.out)
  have HPX := hid (HP.out.below NX.out)
  have HLX := hid (HL.out.below NX.out)
  have BX : Hid (Below w.heap.size w X) := hid (below_next BW.out NX.out)
  have v0 := KX.out.cell 0 _ rfl
  have v1 := LDk_run (s := ⟨5, sh, sa, sc, so, max sd 0, max sm 0⟩) KBX.out
  have v1 : (LDk ⟨w.heap.size, 0, none⟩).run Tryz.prog X = .ok (.agg #[.int .u8 5, .int .i64 sh, .int .u8 sa, .int .i64 sc, .int .i64 so, .int .i64 (max sd 0), .int .i64 (max sm 0)]) X := v1
  clear hp hl ha hm ka ba k1 hk1 ku pv kv pv2 kv2 pz kz k2 hk2 DK
  go_enter Tryz.func29, Tryz.ntmps29
  go_wp2_with fail
  clear hWa hW
  go_region_held3 (fun V => V.cell? ⟨p, 1, none⟩ = some (.slice (some ⟨gk, 0, none⟩) 11 11) ∧ V.cell? ⟨w.heap.size, 0, none⟩ = some (.int .u8 5)) (go_keep) (fail)
  go_wp2_with fail
  go_region_held3 (fun V => V.cell? ⟨p, 1, none⟩ = some (.slice (some ⟨gk, 0, none⟩) 11 11) ∧ V.cell? ⟨w.heap.size, 0, none⟩ = some (.int .u8 5) ∧ (LDn ⟨gk, 10, none⟩).run Tryz.prog V = .ok (.agg #[.func (.func 52) #[] #[], .func (.func 53) #[] #[]]) V) (go_keep) (fail)
  go_wp2_with fail
  refine (HR.out _ HPX.out).mono ?_
  rintro e W1 ⟨rfl, hb⟩
  have N1 : Hid (Below X.heap.size X W1) := hid hb
  have KB1 := hid (KBX.out.below hb)
  have KX1 := hid (KX.out.below hb)
  have q0 := KB1.out.cell 0 _ rfl
  have C0 := hid (CT.after (below_next BX.out N1.out) (CT.refl (HPX.out.below hb) (HLX.out.below hb)))
  have n1 := hid (note_o lo L 11 5 W1 (HLX.out.below hb) (by omega) (HM.out.less (k := 1) (by decide)))
  clear hb
  have wk : IntKind.i64.wrap 5 = 5 := by rw [IntKind.wrap_i64]; omega
  go_wp2_with fail
  refine n1.out.mono ?_
  rintro e W2 ⟨rfl, l2, t2⟩
  have P2 := hid t2.ptr
  have C2 := hid (C0.out.trans (CT.note C0.out.pu (C0.out.apo HPW.out HA.out) t2))
  have RM2 : Hid (Rm (putL L ⟨11, 5, 1⟩) 7) := hid (Rm.put (m := 7) HM.out (by show (1 : Int) ≤ 1125899906842624; decide))
  have nlo : ∀ g, X.heap.size ≤ g ∨ g = w.heap.size ∨ g = W.heap.size → ¬ blo lo g := fun g hg e => by have := LL.out _ e; have := BX.out.size; have := BW.out.size; omega
  have KB2 := hid (KB1.out.kept t2.kp (nlo _ (.inr (.inl rfl))))
  have KX2 := hid (KX1.out.kept t2.kp (nlo _ (.inr (.inr rfl))))
  clear t2 nlo
  by_cases c0 : c = 0
  · subst c0
    obtain ⟨hE1, hE2⟩ := HE.out rfl
    have HE1 := hid hE1
    have HE2 := hid hE2
    clear hE1 hE2
    have HB2 := hid (HB.out rfl)
    have g1 := KX2.out.cell 1 _ rfl
    have g2 := LDk_run (s := ⟨5, sh, sa, sc, so, max sd 0, max sm 0⟩) KB2.out
    have g2 : (LDk ⟨w.heap.size, 0, none⟩).run Tryz.prog W2 = .ok (.agg #[.int .u8 5, .int .i64 sh, .int .u8 sa, .int .i64 sc, .int .i64 so, .int .i64 (max sd 0), .int .i64 (max sm 0)]) W2 := g2
    have d2 := HD.out rfl W2 l2 _ C2.out.pu C2.out.led (C2.out.apo HPW.out HA.out) (RM2.out.less (k := 4) (by decide))
    rw [P2.out] at d2
    have D2 := hid d2
    clear d2
    go_wp2_with fail
    refine D2.out.mono ?_
    rintro e W3 ⟨rfl, l3, c3⟩
    have P3 := hid c3.ptr
    have C3 := hid (C2.out.trans c3)
    clear c3
    have rm3 : Rm ((mid ⟨5, sh, sa, sc, so, max sd 0, max sm 0⟩ ((hat P sh).getD h0)).foldl putL (putL L ⟨11, 5, 1⟩)) 4 := Rm.fold (m := 4) (RM2.out.less (by have := mid_three ⟨5, sh, sa, sc, so, max sd 0, max sm 0⟩ ((hat P sh).getD h0); omega)) HB2.out
    have n3 := note_o l3 _ 12 0 W3 C3.out.led (by omega) (rm3.less (k := 1) (by decide))
    rw [P3.out, P2.out] at n3
    have N3 := hid n3
    clear n3 rm3
    go_wp2_with fail
    refine N3.out.mono ?_
    rintro e W4 ⟨rfl, l4, t4⟩
    have C4 := hid (C3.out.trans (CT.note C3.out.pu (C3.out.apo HPW.out HA.out) t4))
    clear t4
    go_wp2
    go_ret
    exact ⟨rfl, l4, by rw [HE1.out, HE2.out]; exact C4.out⟩
  · have n3 := note_o l2 _ 12 c W2 C2.out.led (by omega) (RM2.out.less (k := 1) (by decide))
    rw [P2.out] at n3
    have N3 := hid n3
    have c1 : (c == 0) = false := by simpa using c0
    clear n3
    go_wp2_with fail
    refine N3.out.mono ?_
    rintro e W4 ⟨rfl, l4, t4⟩
    have C4 := hid (C2.out.trans (CT.note C2.out.pu (C2.out.apo HPW.out HA.out) t4))
    clear t4
    go_wp2
    go_ret
    exact ⟨rfl, l4, by rw [(HC.out c0).1, (HC.out c0).2]; exact C4.out⟩
end Go.Proofs.YtdmacflcjbkkpaaGreat.Co
namespace Go.Proofs.YtdmacflcjbkkpaaGreat.Co
open Go.ChangeShapes Go.WideShapes Go.ChangeAt Go.RowKit
open Go.Proofs.YtdmacflcjbkkpaaGreat (putL)
open Go.Proofs.YtdmacflcjbkkpaaGreat.Ou (Sk sv sL LDk SVk LDk_run SVk_run)
open Go.Proofs.YtdmacflcjbkkpaaGreat.Tb (Blk Blk.newAt put_all Kp.setCells results_cell1 results_cell2)
set_option maxRecDepth 8000 in
set_option maxHeartbeats 1600000 in
theorem record_6 (p gm gk : Nat) (P : St) (s : Sk) (lo : Lo) (L : List Rn) (w : World) (hp : PU w p gm gk P) (hl : LdO w lo L) (ha : Apo lo p gm gk) (hk : s.k = 6) (kb : 0 ≤ s.k ∧ s.k ≤ 255) (hm : Rm L 8) (hmb : cod P (clp s) = 0 → ∀ r ∈ mid (clp s) ((hat P (clp s).h).getD h0), r.c ≤ 1125899906842624) (R : Rf p gm gk P (clp s) 54) (D : Dd p gm gk P (clp s) 55) :
    Calls Tryz.prog 29 #[.pointer (some ⟨p, 0, none⟩), lpo lo, sv s] w fun e w' => e = .returned (.int .i64 (cod P (clp s))) ∧ ∃ lo', CT w w' p gm gk (stp P s) lo lo' ((row P s).foldl putL L) := by
  obtain ⟨sk, sh, sa, sc, so, sd, sm⟩ := s
  obtain rfl : sk = 6 := hk
  have kb : 0 ≤ (6 : Int) ∧ (6 : Int) ≤ 255 := kb
  have HR : Hid (∀ V, PU V p gm gk P → Calls Tryz.prog 54 #[.pointer (some ⟨p, 0, none⟩), .agg #[.int .u8 6, .int .i64 sh, .int .u8 sa, .int .i64 sc, .int .i64 so, .int .i64 (max sd 0), .int .i64 (max sm 0)]] V fun e w' => e = .returned (.int .i64 (cod P ⟨6, sh, sa, sc, so, max sd 0, max sm 0⟩)) ∧ Below V.heap.size V w') := hid R
  have HD : Hid (cod P ⟨6, sh, sa, sc, so, max sd 0, max sm 0⟩ = 0 → ∀ V lo L, PU V p gm gk P → LdO V lo L → Apo lo p gm gk → Rm L 4 → Calls Tryz.prog 55 #[.pointer (some ⟨p, 0, none⟩), lpo lo, .agg #[.int .u8 6, .int .i64 sh, .int .u8 sa, .int .i64 sc, .int .i64 so, .int .i64 (max sd 0), .int .i64 (max sm 0)]] V fun e w' => e = .returned (.tuple #[]) ∧ ∃ lo', CT V w' p gm gk (nxt P ⟨6, sh, sa, sc, so, max sd 0, max sm 0⟩) lo lo' ((mid ⟨6, sh, sa, sc, so, max sd 0, max sm 0⟩ ((hat P sh).getD h0)).foldl putL L)) := hid D
  have HB : Hid (cod P ⟨6, sh, sa, sc, so, max sd 0, max sm 0⟩ = 0 → ∀ r ∈ mid ⟨6, sh, sa, sc, so, max sd 0, max sm 0⟩ ((hat P sh).getD h0), r.c ≤ 1125899906842624) := hid hmb
  have HC : Hid (cod P ⟨6, sh, sa, sc, so, max sd 0, max sm 0⟩ ≠ 0 → stp P ⟨6, sh, sa, sc, so, sd, sm⟩ = P ∧ ∀ A, (row P ⟨6, sh, sa, sc, so, sd, sm⟩).foldl putL A = putL (putL A ⟨11, 6, 1⟩) ⟨12, cod P ⟨6, sh, sa, sc, so, max sd 0, max sm 0⟩, 1⟩) := hid (fun h => ⟨by
    show (if cod P ⟨6, sh, sa, sc, so, max sd 0, max sm 0⟩ = 0 then nxt P ⟨6, sh, sa, sc, so, max sd 0, max sm 0⟩ else P) = P
    rw [if_neg h], fun A => by
    have e : row P ⟨6, sh, sa, sc, so, sd, sm⟩ = ⟨11, 6, 1⟩ :: (if cod P ⟨6, sh, sa, sc, so, max sd 0, max sm 0⟩ = 0 then flt (mid ⟨6, sh, sa, sc, so, max sd 0, max sm 0⟩ ((hat P sh).getD h0)) else []) ++ [⟨12, cod P ⟨6, sh, sa, sc, so, max sd 0, max sm 0⟩, 1⟩] := rfl
    rw [e, if_neg h]; rfl⟩)
  have HE : Hid (cod P ⟨6, sh, sa, sc, so, max sd 0, max sm 0⟩ = 0 → stp P ⟨6, sh, sa, sc, so, sd, sm⟩ = nxt P ⟨6, sh, sa, sc, so, max sd 0, max sm 0⟩ ∧ ∀ A, (row P ⟨6, sh, sa, sc, so, sd, sm⟩).foldl putL A = putL ((mid ⟨6, sh, sa, sc, so, max sd 0, max sm 0⟩ ((hat P sh).getD h0)).foldl putL (putL A ⟨11, 6, 1⟩)) ⟨12, 0, 1⟩) := hid (fun h => ⟨by
    show (if cod P ⟨6, sh, sa, sc, so, max sd 0, max sm 0⟩ = 0 then nxt P ⟨6, sh, sa, sc, so, max sd 0, max sm 0⟩ else P) = _
    rw [if_pos h], fun A => by
    have e : row P ⟨6, sh, sa, sc, so, sd, sm⟩ = ⟨11, 6, 1⟩ :: (if cod P ⟨6, sh, sa, sc, so, max sd 0, max sm 0⟩ = 0 then flt (mid ⟨6, sh, sa, sc, so, max sd 0, max sm 0⟩ ((hat P sh).getD h0)) else []) ++ [⟨12, cod P ⟨6, sh, sa, sc, so, max sd 0, max sm 0⟩, 1⟩] := rfl
    rw [e, if_pos h, h, List.cons_append, List.foldl_cons, List.foldl_append, foldl_flt]; rfl⟩)
  have cb := cod_b P ⟨6, sh, sa, sc, so, max sd 0, max sm 0⟩
  show Calls _ _ _ _ fun e w' => e = .returned (.int .i64 (cod P ⟨6, sh, sa, sc, so, max sd 0, max sm 0⟩)) ∧ ∃ lo', CT w w' p gm gk (stp P ⟨6, sh, sa, sc, so, sd, sm⟩) lo lo' ((row P ⟨6, sh, sa, sc, so, sd, sm⟩).foldl putL L)
  obtain ⟨c, hc⟩ : ∃ c, cod P ⟨6, sh, sa, sc, so, max sd 0, max sm 0⟩ = c := ⟨_, rfl⟩
  rw [hc] at HR HD HC HE HB cb ⊢
  clear hc hmb R D
  obtain ⟨Wa, hWa⟩ : ∃ W, w.alloc (.cells #[.int .u8 6, .int .i64 sh, .int .u8 sa, .int .i64 sc, .int .i64 so, .int .i64 sd, .int .i64 sm] 40) = W := ⟨_, rfl⟩
  have ba : Below w.heap.size w Wa := by rw [← hWa]; exact below_alloc _ _
  have ka : Blk Wa w.heap.size [.int .u8 6, .int .i64 sh, .int .u8 sa, .int .i64 sc, .int .i64 so, .int .i64 sd, .int .i64 sm] 40 := by rw [← hWa]; exact Blk.newAt w _ _ _ w.heap.size rfl rfl
  have a5 := ka.cell 5 _ rfl
  have a6 := ka.cell 6 _ rfl
  have fa5 := ka.frozen 5
  have fa6 := ka.frozen 6
  obtain ⟨W, hW⟩ : ∃ W', (Wa.setCell ⟨w.heap.size, 5, none⟩ (.int .i64 (max sd 0))).setCell ⟨w.heap.size, 6, none⟩ (.int .i64 (max sm 0)) = W' := ⟨_, rfl⟩
  have BW : Hid (Below w.heap.size w W) := by rw [← hW]; exact Tb.below_set (Tb.below_set ba _ _ _ (Nat.le_refl _) ba.size) _ _ _ (Nat.le_refl _) (by simp [World.setCell]; exact ba.size)
  have KB : Hid (Blk W w.heap.size [.int .u8 6, .int .i64 sh, .int .u8 sa, .int .i64 sc, .int .i64 so, .int .i64 (max sd 0), .int .i64 (max sm 0)] 40) := by rw [← hW]; exact (ka.set 5 _).set 6 _
  have HP := hid (hp.below BW.out)
  have HL := hid (hl.below BW.out)
  have HA := hid ha
  have GL := hid hp.lt
  have HM := hid hm
  have HPW := hid hp
  have LL : Hid (∀ j, blo lo j → j < w.heap.size) := hl.lt
  obtain ⟨U, hU⟩ : ∃ U, W.alloc (.cells #[.nilFunc, .nilFunc] 93) = U := ⟨_, rfl⟩
  have NU : Hid (Below W.heap.size W U) := by rw [← hU]; exact below_alloc _ _
  have ku : Blk U W.heap.size [.nilFunc, .nilFunc] 93 := by rw [← hU]; exact Blk.newAt W _ _ _ W.heap.size rfl rfl
  obtain ⟨V, s1, k1, hk1⟩ := SVn_run 42 43 ku rfl
  have NV : Hid (Below W.heap.size W V) := hid (NU.out.trans (hk1.below NU.out.size (fun k h e => by omega)))
  have s1 : (SVn ⟨W.heap.size, 0, none⟩ (.agg #[.func (.func 42) #[] #[], .func (.func 43) #[] #[]])).run Tryz.prog U = .ok () V := s1
  have x1 := HP.out.c1
  have l0 : (LDn ⟨gk, 0, none⟩).run Tryz.prog W = .ok (.agg #[.func (.func 42) #[] #[], .func (.func 43) #[] #[]]) W := run_loadVar_mid W gk 0 _ [.func (.func 42) #[] #[], .func (.func 43) #[] #[]] _ (HP.out.kt.range 0 _ (fun j v hj => by
    match j, hj with
    | 0, hj => exact hj
    | 1, hj => exact hj
    | j + 2, hj => simp at hj)) Tryz.underlying93 rfl infon
  have D1 : Hid (Below W.heap.size W V.drew) := hid (below_next NV.out (below_drewN V 1))
  have pv := HP.out.below D1.out
  have kv := KB.out.below D1.out
  have y1 := pv.c1
  have y2 := kv.cell 0 _ rfl
  have D2 : Hid (Below W.heap.size W V.drew.drew) := hid (below_next D1.out (below_drewN V.drew 1))
  have DK : Blk V.drew.drew W.heap.size [.func (.func 42) #[] #[], .func (.func 43) #[] #[]] 93 := k1.below (below_drewN V 2)
  have pv2 := HP.out.below D2.out
  have kv2 := KB.out.below D2.out
  have z1 := pv2.c1
  have z2 := kv2.cell 0 _ rfl
  have z3 : (LDn ⟨gk, 12, none⟩).run Tryz.prog V.drew.drew = .ok (.agg #[.func (.func 54) #[] #[], .func (.func 55) #[] #[]]) V.drew.drew := run_loadVar_mid V.drew.drew gk 12 _ [.func (.func 54) #[] #[], .func (.func 55) #[] #[]] _ (pv2.kt.range 12 _ (fun j v hj => by
    match j, hj with
    | 0, hj => exact hj
    | 1, hj => exact hj
    | j + 2, hj => simp at hj)) Tryz.underlying93 rfl infon
  obtain ⟨X, s2, k2, hk2⟩ := SVn_run 54 55 DK rfl
  have s2 : (SVn ⟨W.heap.size, 0, none⟩ (.agg #[.func (.func 54) #[] #[], .func (.func 55) #[] #[]])).run Tryz.prog V.drew.drew = .ok () X := s2
  have NX : Hid (Below W.heap.size W X) := hid (D2.out.trans (hk2.below D2.out.size (fun k h e => by omega)))
  have KX : Hid (Blk X W.heap.size [.func (.func 54) #[] #[], .func (.func 55) #[] #[]] 93) := hid k2
  have pz := HP.out.below NX.out
  have kz := KB.out.below NX.out
  have u1 := pz.c1
  have u2 := kz.cell 0 _ rfl
  have u3 : (LDn ⟨gk, 12, none⟩).run Tryz.prog X = .ok (.agg #[.func (.func 54) #[] #[], .func (.func 55) #[] #[]]) X := run_loadVar_mid X gk 12 _ [.func (.func 54) #[] #[], .func (.func 55) #[] #[]] _ (pz.kt.range 12 _ (fun j v hj => by
    match j, hj with
    | 0, hj => exact hj
    | 1, hj => exact hj
    | j + 2, hj => simp at hj)) Tryz.underlying93 rfl infon
  have KBX := hid (KB.out.below NX.out)
  have HPX := hid (HP.out.below NX.out)
  have HLX := hid (HL.out.below NX.out)
  have BX : Hid (Below w.heap.size w X) := hid (below_next BW.out NX.out)
  have v0 := KX.out.cell 0 _ rfl
  have v1 := LDk_run (s := ⟨6, sh, sa, sc, so, max sd 0, max sm 0⟩) KBX.out
  have v1 : (LDk ⟨w.heap.size, 0, none⟩).run Tryz.prog X = .ok (.agg #[.int .u8 6, .int .i64 sh, .int .u8 sa, .int .i64 sc, .int .i64 so, .int .i64 (max sd 0), .int .i64 (max sm 0)]) X := v1
  clear hp hl ha hm ka ba k1 hk1 ku pv kv pv2 kv2 pz kz k2 hk2 DK
  go_enter Tryz.func29, Tryz.ntmps29
  go_wp2_with fail
  clear hWa hW
  go_region_held3 (fun V => V.cell? ⟨p, 1, none⟩ = some (.slice (some ⟨gk, 0, none⟩) 11 11) ∧ V.cell? ⟨w.heap.size, 0, none⟩ = some (.int .u8 6)) (go_keep) (fail)
  go_wp2_with fail
  go_region_held3 (fun V => V.cell? ⟨p, 1, none⟩ = some (.slice (some ⟨gk, 0, none⟩) 11 11) ∧ V.cell? ⟨w.heap.size, 0, none⟩ = some (.int .u8 6) ∧ (LDn ⟨gk, 12, none⟩).run Tryz.prog V = .ok (.agg #[.func (.func 54) #[] #[], .func (.func 55) #[] #[]]) V) (go_keep) (fail)
  go_wp2_with fail
  refine (HR.out _ HPX.out).mono ?_
  rintro e W1 ⟨rfl, hb⟩
  have N1 : Hid (Below X.heap.size X W1) := hid hb
  have KB1 := hid (KBX.out.below hb)
  have KX1 := hid (KX.out.below hb)
  have q0 := KB1.out.cell 0 _ rfl
  have C0 := hid (CT.after (below_next BX.out N1.out) (CT.refl (HPX.out.below hb) (HLX.out.below hb)))
  have n1 := hid (note_o lo L 11 6 W1 (HLX.out.below hb) (by omega) (HM.out.less (k := 1) (by decide)))
  clear hb
  have wk : IntKind.i64.wrap 6 = 6 := by rw [IntKind.wrap_i64]; omega
  go_wp2_with fail
  refine n1.out.mono ?_
  rintro e W2 ⟨rfl, l2, t2⟩
  have P2 := hid t2.ptr
  have C2 := hid (C0.out.trans (CT.note C0.out.pu (C0.out.apo HPW.out HA.out) t2))
  have RM2 : Hid (Rm (putL L ⟨11, 6, 1⟩) 7) := hid (Rm.put (m := 7) HM.out (by show (1 : Int) ≤ 1125899906842624; decide))
  have nlo : ∀ g, X.heap.size ≤ g ∨ g = w.heap.size ∨ g = W.heap.size → ¬ blo lo g := fun g hg e => by have := LL.out _ e; have := BX.out.size; have := BW.out.size; omega
  have KB2 := hid (KB1.out.kept t2.kp (nlo _ (.inr (.inl rfl))))
  have KX2 := hid (KX1.out.kept t2.kp (nlo _ (.inr (.inr rfl))))
  clear t2 nlo
  by_cases c0 : c = 0
  · subst c0
    obtain ⟨hE1, hE2⟩ := HE.out rfl
    have HE1 := hid hE1
    have HE2 := hid hE2
    clear hE1 hE2
    have HB2 := hid (HB.out rfl)
    have g1 := KX2.out.cell 1 _ rfl
    have g2 := LDk_run (s := ⟨6, sh, sa, sc, so, max sd 0, max sm 0⟩) KB2.out
    have g2 : (LDk ⟨w.heap.size, 0, none⟩).run Tryz.prog W2 = .ok (.agg #[.int .u8 6, .int .i64 sh, .int .u8 sa, .int .i64 sc, .int .i64 so, .int .i64 (max sd 0), .int .i64 (max sm 0)]) W2 := g2
    have d2 := HD.out rfl W2 l2 _ C2.out.pu C2.out.led (C2.out.apo HPW.out HA.out) (RM2.out.less (k := 4) (by decide))
    rw [P2.out] at d2
    have D2 := hid d2
    clear d2
    go_wp2_with fail
    refine D2.out.mono ?_
    rintro e W3 ⟨rfl, l3, c3⟩
    have P3 := hid c3.ptr
    have C3 := hid (C2.out.trans c3)
    clear c3
    have rm3 : Rm ((mid ⟨6, sh, sa, sc, so, max sd 0, max sm 0⟩ ((hat P sh).getD h0)).foldl putL (putL L ⟨11, 6, 1⟩)) 4 := Rm.fold (m := 4) (RM2.out.less (by have := mid_three ⟨6, sh, sa, sc, so, max sd 0, max sm 0⟩ ((hat P sh).getD h0); omega)) HB2.out
    have n3 := note_o l3 _ 12 0 W3 C3.out.led (by omega) (rm3.less (k := 1) (by decide))
    rw [P3.out, P2.out] at n3
    have N3 := hid n3
    clear n3 rm3
    go_wp2_with fail
    refine N3.out.mono ?_
    rintro e W4 ⟨rfl, l4, t4⟩
    have C4 := hid (C3.out.trans (CT.note C3.out.pu (C3.out.apo HPW.out HA.out) t4))
    clear t4
    go_wp2
    go_ret
    exact ⟨rfl, l4, by rw [HE1.out, HE2.out]; exact C4.out⟩
  · have n3 := note_o l2 _ 12 c W2 C2.out.led (by omega) (RM2.out.less (k := 1) (by decide))
    rw [P2.out] at n3
    have N3 := hid n3
    have c1 : (c == 0) = false := by simpa using c0
    clear n3
    go_wp2_with fail
    refine N3.out.mono ?_
    rintro e W4 ⟨rfl, l4, t4⟩
    have C4 := hid (C2.out.trans (CT.note C2.out.pu (C2.out.apo HPW.out HA.out) t4))
    clear t4
    go_wp2
    go_ret
    exact ⟨rfl, l4, by rw [(HC.out c0).1, (HC.out c0).2]; exact C4.out⟩
set_option maxRecDepth 8000 in
set_option maxHeartbeats 1600000 in
theorem record_7 (p gm gk : Nat) (P : St) (s : Sk) (lo : Lo) (L : List Rn) (w : World) (hp : PU w p gm gk P) (hl : LdO w lo L) (ha : Apo lo p gm gk) (hk : s.k = 7) (kb : 0 ≤ s.k ∧ s.k ≤ 255) (hm : Rm L 8) (hmb : cod P (clp s) = 0 → ∀ r ∈ mid (clp s) ((hat P (clp s).h).getD h0), r.c ≤ 1125899906842624) (R : Rf p gm gk P (clp s) 56) (D : Dd p gm gk P (clp s) 57) :
    Calls Tryz.prog 29 #[.pointer (some ⟨p, 0, none⟩), lpo lo, sv s] w fun e w' => e = .returned (.int .i64 (cod P (clp s))) ∧ ∃ lo', CT w w' p gm gk (stp P s) lo lo' ((row P s).foldl putL L) := by
  obtain ⟨sk, sh, sa, sc, so, sd, sm⟩ := s
  obtain rfl : sk = 7 := hk
  have kb : 0 ≤ (7 : Int) ∧ (7 : Int) ≤ 255 := kb
  have HR : Hid (∀ V, PU V p gm gk P → Calls Tryz.prog 56 #[.pointer (some ⟨p, 0, none⟩), .agg #[.int .u8 7, .int .i64 sh, .int .u8 sa, .int .i64 sc, .int .i64 so, .int .i64 (max sd 0), .int .i64 (max sm 0)]] V fun e w' => e = .returned (.int .i64 (cod P ⟨7, sh, sa, sc, so, max sd 0, max sm 0⟩)) ∧ Below V.heap.size V w') := hid R
  have HD : Hid (cod P ⟨7, sh, sa, sc, so, max sd 0, max sm 0⟩ = 0 → ∀ V lo L, PU V p gm gk P → LdO V lo L → Apo lo p gm gk → Rm L 4 → Calls Tryz.prog 57 #[.pointer (some ⟨p, 0, none⟩), lpo lo, .agg #[.int .u8 7, .int .i64 sh, .int .u8 sa, .int .i64 sc, .int .i64 so, .int .i64 (max sd 0), .int .i64 (max sm 0)]] V fun e w' => e = .returned (.tuple #[]) ∧ ∃ lo', CT V w' p gm gk (nxt P ⟨7, sh, sa, sc, so, max sd 0, max sm 0⟩) lo lo' ((mid ⟨7, sh, sa, sc, so, max sd 0, max sm 0⟩ ((hat P sh).getD h0)).foldl putL L)) := hid D
  have HB : Hid (cod P ⟨7, sh, sa, sc, so, max sd 0, max sm 0⟩ = 0 → ∀ r ∈ mid ⟨7, sh, sa, sc, so, max sd 0, max sm 0⟩ ((hat P sh).getD h0), r.c ≤ 1125899906842624) := hid hmb
  have HC : Hid (cod P ⟨7, sh, sa, sc, so, max sd 0, max sm 0⟩ ≠ 0 → stp P ⟨7, sh, sa, sc, so, sd, sm⟩ = P ∧ ∀ A, (row P ⟨7, sh, sa, sc, so, sd, sm⟩).foldl putL A = putL (putL A ⟨11, 7, 1⟩) ⟨12, cod P ⟨7, sh, sa, sc, so, max sd 0, max sm 0⟩, 1⟩) := hid (fun h => ⟨by
    show (if cod P ⟨7, sh, sa, sc, so, max sd 0, max sm 0⟩ = 0 then nxt P ⟨7, sh, sa, sc, so, max sd 0, max sm 0⟩ else P) = P
    rw [if_neg h], fun A => by
    have e : row P ⟨7, sh, sa, sc, so, sd, sm⟩ = ⟨11, 7, 1⟩ :: (if cod P ⟨7, sh, sa, sc, so, max sd 0, max sm 0⟩ = 0 then flt (mid ⟨7, sh, sa, sc, so, max sd 0, max sm 0⟩ ((hat P sh).getD h0)) else []) ++ [⟨12, cod P ⟨7, sh, sa, sc, so, max sd 0, max sm 0⟩, 1⟩] := rfl
    rw [e, if_neg h]; rfl⟩)
  have HE : Hid (cod P ⟨7, sh, sa, sc, so, max sd 0, max sm 0⟩ = 0 → stp P ⟨7, sh, sa, sc, so, sd, sm⟩ = nxt P ⟨7, sh, sa, sc, so, max sd 0, max sm 0⟩ ∧ ∀ A, (row P ⟨7, sh, sa, sc, so, sd, sm⟩).foldl putL A = putL ((mid ⟨7, sh, sa, sc, so, max sd 0, max sm 0⟩ ((hat P sh).getD h0)).foldl putL (putL A ⟨11, 7, 1⟩)) ⟨12, 0, 1⟩) := hid (fun h => ⟨by
    show (if cod P ⟨7, sh, sa, sc, so, max sd 0, max sm 0⟩ = 0 then nxt P ⟨7, sh, sa, sc, so, max sd 0, max sm 0⟩ else P) = _
    rw [if_pos h], fun A => by
    have e : row P ⟨7, sh, sa, sc, so, sd, sm⟩ = ⟨11, 7, 1⟩ :: (if cod P ⟨7, sh, sa, sc, so, max sd 0, max sm 0⟩ = 0 then flt (mid ⟨7, sh, sa, sc, so, max sd 0, max sm 0⟩ ((hat P sh).getD h0)) else []) ++ [⟨12, cod P ⟨7, sh, sa, sc, so, max sd 0, max sm 0⟩, 1⟩] := rfl
    rw [e, if_pos h, h, List.cons_append, List.foldl_cons, List.foldl_append, foldl_flt]; rfl⟩)
  have cb := cod_b P ⟨7, sh, sa, sc, so, max sd 0, max sm 0⟩
  show Calls _ _ _ _ fun e w' => e = .returned (.int .i64 (cod P ⟨7, sh, sa, sc, so, max sd 0, max sm 0⟩)) ∧ ∃ lo', CT w w' p gm gk (stp P ⟨7, sh, sa, sc, so, sd, sm⟩) lo lo' ((row P ⟨7, sh, sa, sc, so, sd, sm⟩).foldl putL L)
  obtain ⟨c, hc⟩ : ∃ c, cod P ⟨7, sh, sa, sc, so, max sd 0, max sm 0⟩ = c := ⟨_, rfl⟩
  rw [hc] at HR HD HC HE HB cb ⊢
  clear hc hmb R D
  obtain ⟨Wa, hWa⟩ : ∃ W, w.alloc (.cells #[.int .u8 7, .int .i64 sh, .int .u8 sa, .int .i64 sc, .int .i64 so, .int .i64 sd, .int .i64 sm] 40) = W := ⟨_, rfl⟩
  have ba : Below w.heap.size w Wa := by rw [← hWa]; exact below_alloc _ _
  have ka : Blk Wa w.heap.size [.int .u8 7, .int .i64 sh, .int .u8 sa, .int .i64 sc, .int .i64 so, .int .i64 sd, .int .i64 sm] 40 := by rw [← hWa]; exact Blk.newAt w _ _ _ w.heap.size rfl rfl
  have a5 := ka.cell 5 _ rfl
  have a6 := ka.cell 6 _ rfl
  have fa5 := ka.frozen 5
  have fa6 := ka.frozen 6
  obtain ⟨W, hW⟩ : ∃ W', (Wa.setCell ⟨w.heap.size, 5, none⟩ (.int .i64 (max sd 0))).setCell ⟨w.heap.size, 6, none⟩ (.int .i64 (max sm 0)) = W' := ⟨_, rfl⟩
  have BW : Hid (Below w.heap.size w W) := by rw [← hW]; exact Tb.below_set (Tb.below_set ba _ _ _ (Nat.le_refl _) ba.size) _ _ _ (Nat.le_refl _) (by simp [World.setCell]; exact ba.size)
  have KB : Hid (Blk W w.heap.size [.int .u8 7, .int .i64 sh, .int .u8 sa, .int .i64 sc, .int .i64 so, .int .i64 (max sd 0), .int .i64 (max sm 0)] 40) := by rw [← hW]; exact (ka.set 5 _).set 6 _
  have HP := hid (hp.below BW.out)
  have HL := hid (hl.below BW.out)
  have HA := hid ha
  have GL := hid hp.lt
  have HM := hid hm
  have HPW := hid hp
  have LL : Hid (∀ j, blo lo j → j < w.heap.size) := hl.lt
  obtain ⟨U, hU⟩ : ∃ U, W.alloc (.cells #[.nilFunc, .nilFunc] 93) = U := ⟨_, rfl⟩
  have NU : Hid (Below W.heap.size W U) := by rw [← hU]; exact below_alloc _ _
  have ku : Blk U W.heap.size [.nilFunc, .nilFunc] 93 := by rw [← hU]; exact Blk.newAt W _ _ _ W.heap.size rfl rfl
  obtain ⟨V, s1, k1, hk1⟩ := SVn_run 42 43 ku rfl
  have NV : Hid (Below W.heap.size W V) := hid (NU.out.trans (hk1.below NU.out.size (fun k h e => by omega)))
  have s1 : (SVn ⟨W.heap.size, 0, none⟩ (.agg #[.func (.func 42) #[] #[], .func (.func 43) #[] #[]])).run Tryz.prog U = .ok () V := s1
  have x1 := HP.out.c1
  have l0 : (LDn ⟨gk, 0, none⟩).run Tryz.prog W = .ok (.agg #[.func (.func 42) #[] #[], .func (.func 43) #[] #[]]) W := run_loadVar_mid W gk 0 _ [.func (.func 42) #[] #[], .func (.func 43) #[] #[]] _ (HP.out.kt.range 0 _ (fun j v hj => by
    match j, hj with
    | 0, hj => exact hj
    | 1, hj => exact hj
    | j + 2, hj => simp at hj)) Tryz.underlying93 rfl infon
  have D1 : Hid (Below W.heap.size W V.drew) := hid (below_next NV.out (below_drewN V 1))
  have pv := HP.out.below D1.out
  have kv := KB.out.below D1.out
  have y1 := pv.c1
  have y2 := kv.cell 0 _ rfl
  have D2 : Hid (Below W.heap.size W V.drew.drew) := hid (below_next D1.out (below_drewN V.drew 1))
  have DK : Blk V.drew.drew W.heap.size [.func (.func 42) #[] #[], .func (.func 43) #[] #[]] 93 := k1.below (below_drewN V 2)
  have pv2 := HP.out.below D2.out
  have kv2 := KB.out.below D2.out
  have z1 := pv2.c1
  have z2 := kv2.cell 0 _ rfl
  have z3 : (LDn ⟨gk, 14, none⟩).run Tryz.prog V.drew.drew = .ok (.agg #[.func (.func 56) #[] #[], .func (.func 57) #[] #[]]) V.drew.drew := run_loadVar_mid V.drew.drew gk 14 _ [.func (.func 56) #[] #[], .func (.func 57) #[] #[]] _ (pv2.kt.range 14 _ (fun j v hj => by
    match j, hj with
    | 0, hj => exact hj
    | 1, hj => exact hj
    | j + 2, hj => simp at hj)) Tryz.underlying93 rfl infon
  obtain ⟨X, s2, k2, hk2⟩ := SVn_run 56 57 DK rfl
  have s2 : (SVn ⟨W.heap.size, 0, none⟩ (.agg #[.func (.func 56) #[] #[], .func (.func 57) #[] #[]])).run Tryz.prog V.drew.drew = .ok () X := s2
  have NX : Hid (Below W.heap.size W X) := hid (D2.out.trans (hk2.below D2.out.size (fun k h e => by omega)))
  have KX : Hid (Blk X W.heap.size [.func (.func 56) #[] #[], .func (.func 57) #[] #[]] 93) := hid k2
  have pz := HP.out.below NX.out
  have kz := KB.out.below NX.out
  have u1 := pz.c1
  have u2 := kz.cell 0 _ rfl
  have u3 : (LDn ⟨gk, 14, none⟩).run Tryz.prog X = .ok (.agg #[.func (.func 56) #[] #[], .func (.func 57) #[] #[]]) X := run_loadVar_mid X gk 14 _ [.func (.func 56) #[] #[], .func (.func 57) #[] #[]] _ (pz.kt.range 14 _ (fun j v hj => by
    match j, hj with
    | 0, hj => exact hj
    | 1, hj => exact hj
    | j + 2, hj => simp at hj)) Tryz.underlying93 rfl infon
  have KBX := hid (KB.out.below NX.out)
  have HPX := hid (HP.out.below NX.out)
  have HLX := hid (HL.out.below NX.out)
  have BX : Hid (Below w.heap.size w X) := hid (below_next BW.out NX.out)
  have v0 := KX.out.cell 0 _ rfl
  have v1 := LDk_run (s := ⟨7, sh, sa, sc, so, max sd 0, max sm 0⟩) KBX.out
  have v1 : (LDk ⟨w.heap.size, 0, none⟩).run Tryz.prog X = .ok (.agg #[.int .u8 7, .int .i64 sh, .int .u8 sa, .int .i64 sc, .int .i64 so, .int .i64 (max sd 0), .int .i64 (max sm 0)]) X := v1
  clear hp hl ha hm ka ba k1 hk1 ku pv kv pv2 kv2 pz kz k2 hk2 DK
  go_enter Tryz.func29, Tryz.ntmps29
  go_wp2_with fail
  clear hWa hW
  go_region_held3 (fun V => V.cell? ⟨p, 1, none⟩ = some (.slice (some ⟨gk, 0, none⟩) 11 11) ∧ V.cell? ⟨w.heap.size, 0, none⟩ = some (.int .u8 7)) (go_keep) (fail)
  go_wp2_with fail
  go_region_held3 (fun V => V.cell? ⟨p, 1, none⟩ = some (.slice (some ⟨gk, 0, none⟩) 11 11) ∧ V.cell? ⟨w.heap.size, 0, none⟩ = some (.int .u8 7) ∧ (LDn ⟨gk, 14, none⟩).run Tryz.prog V = .ok (.agg #[.func (.func 56) #[] #[], .func (.func 57) #[] #[]]) V) (go_keep) (fail)
  go_wp2_with fail
  refine (HR.out _ HPX.out).mono ?_
  rintro e W1 ⟨rfl, hb⟩
  have N1 : Hid (Below X.heap.size X W1) := hid hb
  have KB1 := hid (KBX.out.below hb)
  have KX1 := hid (KX.out.below hb)
  have q0 := KB1.out.cell 0 _ rfl
  have C0 := hid (CT.after (below_next BX.out N1.out) (CT.refl (HPX.out.below hb) (HLX.out.below hb)))
  have n1 := hid (note_o lo L 11 7 W1 (HLX.out.below hb) (by omega) (HM.out.less (k := 1) (by decide)))
  clear hb
  have wk : IntKind.i64.wrap 7 = 7 := by rw [IntKind.wrap_i64]; omega
  go_wp2_with fail
  refine n1.out.mono ?_
  rintro e W2 ⟨rfl, l2, t2⟩
  have P2 := hid t2.ptr
  have C2 := hid (C0.out.trans (CT.note C0.out.pu (C0.out.apo HPW.out HA.out) t2))
  have RM2 : Hid (Rm (putL L ⟨11, 7, 1⟩) 7) := hid (Rm.put (m := 7) HM.out (by show (1 : Int) ≤ 1125899906842624; decide))
  have nlo : ∀ g, X.heap.size ≤ g ∨ g = w.heap.size ∨ g = W.heap.size → ¬ blo lo g := fun g hg e => by have := LL.out _ e; have := BX.out.size; have := BW.out.size; omega
  have KB2 := hid (KB1.out.kept t2.kp (nlo _ (.inr (.inl rfl))))
  have KX2 := hid (KX1.out.kept t2.kp (nlo _ (.inr (.inr rfl))))
  clear t2 nlo
  by_cases c0 : c = 0
  · subst c0
    obtain ⟨hE1, hE2⟩ := HE.out rfl
    have HE1 := hid hE1
    have HE2 := hid hE2
    clear hE1 hE2
    have HB2 := hid (HB.out rfl)
    have g1 := KX2.out.cell 1 _ rfl
    have g2 := LDk_run (s := ⟨7, sh, sa, sc, so, max sd 0, max sm 0⟩) KB2.out
    have g2 : (LDk ⟨w.heap.size, 0, none⟩).run Tryz.prog W2 = .ok (.agg #[.int .u8 7, .int .i64 sh, .int .u8 sa, .int .i64 sc, .int .i64 so, .int .i64 (max sd 0), .int .i64 (max sm 0)]) W2 := g2
    have d2 := HD.out rfl W2 l2 _ C2.out.pu C2.out.led (C2.out.apo HPW.out HA.out) (RM2.out.less (k := 4) (by decide))
    rw [P2.out] at d2
    have D2 := hid d2
    clear d2
    go_wp2_with fail
    refine D2.out.mono ?_
    rintro e W3 ⟨rfl, l3, c3⟩
    have P3 := hid c3.ptr
    have C3 := hid (C2.out.trans c3)
    clear c3
    have rm3 : Rm ((mid ⟨7, sh, sa, sc, so, max sd 0, max sm 0⟩ ((hat P sh).getD h0)).foldl putL (putL L ⟨11, 7, 1⟩)) 4 := Rm.fold (m := 4) (RM2.out.less (by have := mid_three ⟨7, sh, sa, sc, so, max sd 0, max sm 0⟩ ((hat P sh).getD h0); omega)) HB2.out
    have n3 := note_o l3 _ 12 0 W3 C3.out.led (by omega) (rm3.less (k := 1) (by decide))
    rw [P3.out, P2.out] at n3
    have N3 := hid n3
    clear n3 rm3
    go_wp2_with fail
    refine N3.out.mono ?_
    rintro e W4 ⟨rfl, l4, t4⟩
    have C4 := hid (C3.out.trans (CT.note C3.out.pu (C3.out.apo HPW.out HA.out) t4))
    clear t4
    go_wp2
    go_ret
    exact ⟨rfl, l4, by rw [HE1.out, HE2.out]; exact C4.out⟩
  · have n3 := note_o l2 _ 12 c W2 C2.out.led (by omega) (RM2.out.less (k := 1) (by decide))
    rw [P2.out] at n3
    have N3 := hid n3
    have c1 : (c == 0) = false := by simpa using c0
    clear n3
    go_wp2_with fail
    refine N3.out.mono ?_
    rintro e W4 ⟨rfl, l4, t4⟩
    have C4 := hid (C2.out.trans (CT.note C2.out.pu (C2.out.apo HPW.out HA.out) t4))
    clear t4
    go_wp2
    go_ret
    exact ⟨rfl, l4, by rw [(HC.out c0).1, (HC.out c0).2]; exact C4.out⟩
set_option maxRecDepth 8000 in
set_option maxHeartbeats 1600000 in
theorem record_8 (p gm gk : Nat) (P : St) (s : Sk) (lo : Lo) (L : List Rn) (w : World) (hp : PU w p gm gk P) (hl : LdO w lo L) (ha : Apo lo p gm gk) (hk : s.k = 8) (kb : 0 ≤ s.k ∧ s.k ≤ 255) (hm : Rm L 8) (hmb : cod P (clp s) = 0 → ∀ r ∈ mid (clp s) ((hat P (clp s).h).getD h0), r.c ≤ 1125899906842624) (R : Rf p gm gk P (clp s) 58) (D : Dd p gm gk P (clp s) 59) :
    Calls Tryz.prog 29 #[.pointer (some ⟨p, 0, none⟩), lpo lo, sv s] w fun e w' => e = .returned (.int .i64 (cod P (clp s))) ∧ ∃ lo', CT w w' p gm gk (stp P s) lo lo' ((row P s).foldl putL L) := by
  obtain ⟨sk, sh, sa, sc, so, sd, sm⟩ := s
  obtain rfl : sk = 8 := hk
  have kb : 0 ≤ (8 : Int) ∧ (8 : Int) ≤ 255 := kb
  have HR : Hid (∀ V, PU V p gm gk P → Calls Tryz.prog 58 #[.pointer (some ⟨p, 0, none⟩), .agg #[.int .u8 8, .int .i64 sh, .int .u8 sa, .int .i64 sc, .int .i64 so, .int .i64 (max sd 0), .int .i64 (max sm 0)]] V fun e w' => e = .returned (.int .i64 (cod P ⟨8, sh, sa, sc, so, max sd 0, max sm 0⟩)) ∧ Below V.heap.size V w') := hid R
  have HD : Hid (cod P ⟨8, sh, sa, sc, so, max sd 0, max sm 0⟩ = 0 → ∀ V lo L, PU V p gm gk P → LdO V lo L → Apo lo p gm gk → Rm L 4 → Calls Tryz.prog 59 #[.pointer (some ⟨p, 0, none⟩), lpo lo, .agg #[.int .u8 8, .int .i64 sh, .int .u8 sa, .int .i64 sc, .int .i64 so, .int .i64 (max sd 0), .int .i64 (max sm 0)]] V fun e w' => e = .returned (.tuple #[]) ∧ ∃ lo', CT V w' p gm gk (nxt P ⟨8, sh, sa, sc, so, max sd 0, max sm 0⟩) lo lo' ((mid ⟨8, sh, sa, sc, so, max sd 0, max sm 0⟩ ((hat P sh).getD h0)).foldl putL L)) := hid D
  have HB : Hid (cod P ⟨8, sh, sa, sc, so, max sd 0, max sm 0⟩ = 0 → ∀ r ∈ mid ⟨8, sh, sa, sc, so, max sd 0, max sm 0⟩ ((hat P sh).getD h0), r.c ≤ 1125899906842624) := hid hmb
  have HC : Hid (cod P ⟨8, sh, sa, sc, so, max sd 0, max sm 0⟩ ≠ 0 → stp P ⟨8, sh, sa, sc, so, sd, sm⟩ = P ∧ ∀ A, (row P ⟨8, sh, sa, sc, so, sd, sm⟩).foldl putL A = putL (putL A ⟨11, 8, 1⟩) ⟨12, cod P ⟨8, sh, sa, sc, so, max sd 0, max sm 0⟩, 1⟩) := hid (fun h => ⟨by
    show (if cod P ⟨8, sh, sa, sc, so, max sd 0, max sm 0⟩ = 0 then nxt P ⟨8, sh, sa, sc, so, max sd 0, max sm 0⟩ else P) = P
    rw [if_neg h], fun A => by
    have e : row P ⟨8, sh, sa, sc, so, sd, sm⟩ = ⟨11, 8, 1⟩ :: (if cod P ⟨8, sh, sa, sc, so, max sd 0, max sm 0⟩ = 0 then flt (mid ⟨8, sh, sa, sc, so, max sd 0, max sm 0⟩ ((hat P sh).getD h0)) else []) ++ [⟨12, cod P ⟨8, sh, sa, sc, so, max sd 0, max sm 0⟩, 1⟩] := rfl
    rw [e, if_neg h]; rfl⟩)
  have HE : Hid (cod P ⟨8, sh, sa, sc, so, max sd 0, max sm 0⟩ = 0 → stp P ⟨8, sh, sa, sc, so, sd, sm⟩ = nxt P ⟨8, sh, sa, sc, so, max sd 0, max sm 0⟩ ∧ ∀ A, (row P ⟨8, sh, sa, sc, so, sd, sm⟩).foldl putL A = putL ((mid ⟨8, sh, sa, sc, so, max sd 0, max sm 0⟩ ((hat P sh).getD h0)).foldl putL (putL A ⟨11, 8, 1⟩)) ⟨12, 0, 1⟩) := hid (fun h => ⟨by
    show (if cod P ⟨8, sh, sa, sc, so, max sd 0, max sm 0⟩ = 0 then nxt P ⟨8, sh, sa, sc, so, max sd 0, max sm 0⟩ else P) = _
    rw [if_pos h], fun A => by
    have e : row P ⟨8, sh, sa, sc, so, sd, sm⟩ = ⟨11, 8, 1⟩ :: (if cod P ⟨8, sh, sa, sc, so, max sd 0, max sm 0⟩ = 0 then flt (mid ⟨8, sh, sa, sc, so, max sd 0, max sm 0⟩ ((hat P sh).getD h0)) else []) ++ [⟨12, cod P ⟨8, sh, sa, sc, so, max sd 0, max sm 0⟩, 1⟩] := rfl
    rw [e, if_pos h, h, List.cons_append, List.foldl_cons, List.foldl_append, foldl_flt]; rfl⟩)
  have cb := cod_b P ⟨8, sh, sa, sc, so, max sd 0, max sm 0⟩
  show Calls _ _ _ _ fun e w' => e = .returned (.int .i64 (cod P ⟨8, sh, sa, sc, so, max sd 0, max sm 0⟩)) ∧ ∃ lo', CT w w' p gm gk (stp P ⟨8, sh, sa, sc, so, sd, sm⟩) lo lo' ((row P ⟨8, sh, sa, sc, so, sd, sm⟩).foldl putL L)
  obtain ⟨c, hc⟩ : ∃ c, cod P ⟨8, sh, sa, sc, so, max sd 0, max sm 0⟩ = c := ⟨_, rfl⟩
  rw [hc] at HR HD HC HE HB cb ⊢
  clear hc hmb R D
  obtain ⟨Wa, hWa⟩ : ∃ W, w.alloc (.cells #[.int .u8 8, .int .i64 sh, .int .u8 sa, .int .i64 sc, .int .i64 so, .int .i64 sd, .int .i64 sm] 40) = W := ⟨_, rfl⟩
  have ba : Below w.heap.size w Wa := by rw [← hWa]; exact below_alloc _ _
  have ka : Blk Wa w.heap.size [.int .u8 8, .int .i64 sh, .int .u8 sa, .int .i64 sc, .int .i64 so, .int .i64 sd, .int .i64 sm] 40 := by rw [← hWa]; exact Blk.newAt w _ _ _ w.heap.size rfl rfl
  have a5 := ka.cell 5 _ rfl
  have a6 := ka.cell 6 _ rfl
  have fa5 := ka.frozen 5
  have fa6 := ka.frozen 6
  obtain ⟨W, hW⟩ : ∃ W', (Wa.setCell ⟨w.heap.size, 5, none⟩ (.int .i64 (max sd 0))).setCell ⟨w.heap.size, 6, none⟩ (.int .i64 (max sm 0)) = W' := ⟨_, rfl⟩
  have BW : Hid (Below w.heap.size w W) := by rw [← hW]; exact Tb.below_set (Tb.below_set ba _ _ _ (Nat.le_refl _) ba.size) _ _ _ (Nat.le_refl _) (by simp [World.setCell]; exact ba.size)
  have KB : Hid (Blk W w.heap.size [.int .u8 8, .int .i64 sh, .int .u8 sa, .int .i64 sc, .int .i64 so, .int .i64 (max sd 0), .int .i64 (max sm 0)] 40) := by rw [← hW]; exact (ka.set 5 _).set 6 _
  have HP := hid (hp.below BW.out)
  have HL := hid (hl.below BW.out)
  have HA := hid ha
  have GL := hid hp.lt
  have HM := hid hm
  have HPW := hid hp
  have LL : Hid (∀ j, blo lo j → j < w.heap.size) := hl.lt
  obtain ⟨U, hU⟩ : ∃ U, W.alloc (.cells #[.nilFunc, .nilFunc] 93) = U := ⟨_, rfl⟩
  have NU : Hid (Below W.heap.size W U) := by rw [← hU]; exact below_alloc _ _
  have ku : Blk U W.heap.size [.nilFunc, .nilFunc] 93 := by rw [← hU]; exact Blk.newAt W _ _ _ W.heap.size rfl rfl
  obtain ⟨V, s1, k1, hk1⟩ := SVn_run 42 43 ku rfl
  have NV : Hid (Below W.heap.size W V) := hid (NU.out.trans (hk1.below NU.out.size (fun k h e => by omega)))
  have s1 : (SVn ⟨W.heap.size, 0, none⟩ (.agg #[.func (.func 42) #[] #[], .func (.func 43) #[] #[]])).run Tryz.prog U = .ok () V := s1
  have x1 := HP.out.c1
  have l0 : (LDn ⟨gk, 0, none⟩).run Tryz.prog W = .ok (.agg #[.func (.func 42) #[] #[], .func (.func 43) #[] #[]]) W := run_loadVar_mid W gk 0 _ [.func (.func 42) #[] #[], .func (.func 43) #[] #[]] _ (HP.out.kt.range 0 _ (fun j v hj => by
    match j, hj with
    | 0, hj => exact hj
    | 1, hj => exact hj
    | j + 2, hj => simp at hj)) Tryz.underlying93 rfl infon
  have D1 : Hid (Below W.heap.size W V.drew) := hid (below_next NV.out (below_drewN V 1))
  have pv := HP.out.below D1.out
  have kv := KB.out.below D1.out
  have y1 := pv.c1
  have y2 := kv.cell 0 _ rfl
  have D2 : Hid (Below W.heap.size W V.drew.drew) := hid (below_next D1.out (below_drewN V.drew 1))
  have DK : Blk V.drew.drew W.heap.size [.func (.func 42) #[] #[], .func (.func 43) #[] #[]] 93 := k1.below (below_drewN V 2)
  have pv2 := HP.out.below D2.out
  have kv2 := KB.out.below D2.out
  have z1 := pv2.c1
  have z2 := kv2.cell 0 _ rfl
  have z3 : (LDn ⟨gk, 16, none⟩).run Tryz.prog V.drew.drew = .ok (.agg #[.func (.func 58) #[] #[], .func (.func 59) #[] #[]]) V.drew.drew := run_loadVar_mid V.drew.drew gk 16 _ [.func (.func 58) #[] #[], .func (.func 59) #[] #[]] _ (pv2.kt.range 16 _ (fun j v hj => by
    match j, hj with
    | 0, hj => exact hj
    | 1, hj => exact hj
    | j + 2, hj => simp at hj)) Tryz.underlying93 rfl infon
  obtain ⟨X, s2, k2, hk2⟩ := SVn_run 58 59 DK rfl
  have s2 : (SVn ⟨W.heap.size, 0, none⟩ (.agg #[.func (.func 58) #[] #[], .func (.func 59) #[] #[]])).run Tryz.prog V.drew.drew = .ok () X := s2
  have NX : Hid (Below W.heap.size W X) := hid (D2.out.trans (hk2.below D2.out.size (fun k h e => by omega)))
  have KX : Hid (Blk X W.heap.size [.func (.func 58) #[] #[], .func (.func 59) #[] #[]] 93) := hid k2
  have pz := HP.out.below NX.out
  have kz := KB.out.below NX.out
  have u1 := pz.c1
  have u2 := kz.cell 0 _ rfl
  have u3 : (LDn ⟨gk, 16, none⟩).run Tryz.prog X = .ok (.agg #[.func (.func 58) #[] #[], .func (.func 59) #[] #[]]) X := run_loadVar_mid X gk 16 _ [.func (.func 58) #[] #[], .func (.func 59) #[] #[]] _ (pz.kt.range 16 _ (fun j v hj => by
    match j, hj with
    | 0, hj => exact hj
    | 1, hj => exact hj
    | j + 2, hj => simp at hj)) Tryz.underlying93 rfl infon
  have KBX := hid (KB.out.below NX.out)
  have HPX := hid (HP.out.below NX.out)
  have HLX := hid (HL.out.below NX.out)
  have BX : Hid (Below w.heap.size w X) := hid (below_next BW.out NX.out)
  have v0 := KX.out.cell 0 _ rfl
  have v1 := LDk_run (s := ⟨8, sh, sa, sc, so, max sd 0, max sm 0⟩) KBX.out
  have v1 : (LDk ⟨w.heap.size, 0, none⟩).run Tryz.prog X = .ok (.agg #[.int .u8 8, .int .i64 sh, .int .u8 sa, .int .i64 sc, .int .i64 so, .int .i64 (max sd 0), .int .i64 (max sm 0)]) X := v1
  clear hp hl ha hm ka ba k1 hk1 ku pv kv pv2 kv2 pz kz k2 hk2 DK
  go_enter Tryz.func29, Tryz.ntmps29
  go_wp2_with fail
  clear hWa hW
  go_region_held3 (fun V => V.cell? ⟨p, 1, none⟩ = some (.slice (some ⟨gk, 0, none⟩) 11 11) ∧ V.cell? ⟨w.heap.size, 0, none⟩ = some (.int .u8 8)) (go_keep) (fail)
  go_wp2_with fail
  go_region_held3 (fun V => V.cell? ⟨p, 1, none⟩ = some (.slice (some ⟨gk, 0, none⟩) 11 11) ∧ V.cell? ⟨w.heap.size, 0, none⟩ = some (.int .u8 8) ∧ (LDn ⟨gk, 16, none⟩).run Tryz.prog V = .ok (.agg #[.func (.func 58) #[] #[], .func (.func 59) #[] #[]]) V) (go_keep) (fail)
  go_wp2_with fail
  refine (HR.out _ HPX.out).mono ?_
  rintro e W1 ⟨rfl, hb⟩
  have N1 : Hid (Below X.heap.size X W1) := hid hb
  have KB1 := hid (KBX.out.below hb)
  have KX1 := hid (KX.out.below hb)
  have q0 := KB1.out.cell 0 _ rfl
  have C0 := hid (CT.after (below_next BX.out N1.out) (CT.refl (HPX.out.below hb) (HLX.out.below hb)))
  have n1 := hid (note_o lo L 11 8 W1 (HLX.out.below hb) (by omega) (HM.out.less (k := 1) (by decide)))
  clear hb
  have wk : IntKind.i64.wrap 8 = 8 := by rw [IntKind.wrap_i64]; omega
  go_wp2_with fail
  refine n1.out.mono ?_
  rintro e W2 ⟨rfl, l2, t2⟩
  have P2 := hid t2.ptr
  have C2 := hid (C0.out.trans (CT.note C0.out.pu (C0.out.apo HPW.out HA.out) t2))
  have RM2 : Hid (Rm (putL L ⟨11, 8, 1⟩) 7) := hid (Rm.put (m := 7) HM.out (by show (1 : Int) ≤ 1125899906842624; decide))
  have nlo : ∀ g, X.heap.size ≤ g ∨ g = w.heap.size ∨ g = W.heap.size → ¬ blo lo g := fun g hg e => by have := LL.out _ e; have := BX.out.size; have := BW.out.size; omega
  have KB2 := hid (KB1.out.kept t2.kp (nlo _ (.inr (.inl rfl))))
  have KX2 := hid (KX1.out.kept t2.kp (nlo _ (.inr (.inr rfl))))
  clear t2 nlo
  by_cases c0 : c = 0
  · subst c0
    obtain ⟨hE1, hE2⟩ := HE.out rfl
    have HE1 := hid hE1
    have HE2 := hid hE2
    clear hE1 hE2
    have HB2 := hid (HB.out rfl)
    have g1 := KX2.out.cell 1 _ rfl
    have g2 := LDk_run (s := ⟨8, sh, sa, sc, so, max sd 0, max sm 0⟩) KB2.out
    have g2 : (LDk ⟨w.heap.size, 0, none⟩).run Tryz.prog W2 = .ok (.agg #[.int .u8 8, .int .i64 sh, .int .u8 sa, .int .i64 sc, .int .i64 so, .int .i64 (max sd 0), .int .i64 (max sm 0)]) W2 := g2
    have d2 := HD.out rfl W2 l2 _ C2.out.pu C2.out.led (C2.out.apo HPW.out HA.out) (RM2.out.less (k := 4) (by decide))
    rw [P2.out] at d2
    have D2 := hid d2
    clear d2
    go_wp2_with fail
    refine D2.out.mono ?_
    rintro e W3 ⟨rfl, l3, c3⟩
    have P3 := hid c3.ptr
    have C3 := hid (C2.out.trans c3)
    clear c3
    have rm3 : Rm ((mid ⟨8, sh, sa, sc, so, max sd 0, max sm 0⟩ ((hat P sh).getD h0)).foldl putL (putL L ⟨11, 8, 1⟩)) 4 := Rm.fold (m := 4) (RM2.out.less (by have := mid_three ⟨8, sh, sa, sc, so, max sd 0, max sm 0⟩ ((hat P sh).getD h0); omega)) HB2.out
    have n3 := note_o l3 _ 12 0 W3 C3.out.led (by omega) (rm3.less (k := 1) (by decide))
    rw [P3.out, P2.out] at n3
    have N3 := hid n3
    clear n3 rm3
    go_wp2_with fail
    refine N3.out.mono ?_
    rintro e W4 ⟨rfl, l4, t4⟩
    have C4 := hid (C3.out.trans (CT.note C3.out.pu (C3.out.apo HPW.out HA.out) t4))
    clear t4
    go_wp2
    go_ret
    exact ⟨rfl, l4, by rw [HE1.out, HE2.out]; exact C4.out⟩
  · have n3 := note_o l2 _ 12 c W2 C2.out.led (by omega) (RM2.out.less (k := 1) (by decide))
    rw [P2.out] at n3
    have N3 := hid n3
    have c1 : (c == 0) = false := by simpa using c0
    clear n3
    go_wp2_with fail
    refine N3.out.mono ?_
    rintro e W4 ⟨rfl, l4, t4⟩
    have C4 := hid (C2.out.trans (CT.note C2.out.pu (C2.out.apo HPW.out HA.out) t4))
    clear t4
    go_wp2
    go_ret
    exact ⟨rfl, l4, by rw [(HC.out c0).1, (HC.out c0).2]; exact C4.out⟩
end Go.Proofs.YtdmacflcjbkkpaaGreat.Co
namespace Go.Proofs.YtdmacflcjbkkpaaGreat.Co
open Go.ChangeShapes Go.WideShapes Go.ChangeAt Go.RowKit
open Go.Proofs.YtdmacflcjbkkpaaGreat (putL)
open Go.Proofs.YtdmacflcjbkkpaaGreat.Ou (Sk sv sL LDk SVk LDk_run SVk_run)
open Go.Proofs.YtdmacflcjbkkpaaGreat.Tb (Blk Blk.newAt put_all Kp.setCells results_cell1 results_cell2)
set_option maxRecDepth 8000 in
set_option maxHeartbeats 1600000 in
theorem record_9 (p gm gk : Nat) (P : St) (s : Sk) (lo : Lo) (L : List Rn) (w : World) (hp : PU w p gm gk P) (hl : LdO w lo L) (ha : Apo lo p gm gk) (hk : s.k = 9) (kb : 0 ≤ s.k ∧ s.k ≤ 255) (hm : Rm L 8) (hmb : cod P (clp s) = 0 → ∀ r ∈ mid (clp s) ((hat P (clp s).h).getD h0), r.c ≤ 1125899906842624) (R : Rf p gm gk P (clp s) 60) (D : Dd p gm gk P (clp s) 43) :
    Calls Tryz.prog 29 #[.pointer (some ⟨p, 0, none⟩), lpo lo, sv s] w fun e w' => e = .returned (.int .i64 (cod P (clp s))) ∧ ∃ lo', CT w w' p gm gk (stp P s) lo lo' ((row P s).foldl putL L) := by
  obtain ⟨sk, sh, sa, sc, so, sd, sm⟩ := s
  obtain rfl : sk = 9 := hk
  have kb : 0 ≤ (9 : Int) ∧ (9 : Int) ≤ 255 := kb
  have HR : Hid (∀ V, PU V p gm gk P → Calls Tryz.prog 60 #[.pointer (some ⟨p, 0, none⟩), .agg #[.int .u8 9, .int .i64 sh, .int .u8 sa, .int .i64 sc, .int .i64 so, .int .i64 (max sd 0), .int .i64 (max sm 0)]] V fun e w' => e = .returned (.int .i64 (cod P ⟨9, sh, sa, sc, so, max sd 0, max sm 0⟩)) ∧ Below V.heap.size V w') := hid R
  have HD : Hid (cod P ⟨9, sh, sa, sc, so, max sd 0, max sm 0⟩ = 0 → ∀ V lo L, PU V p gm gk P → LdO V lo L → Apo lo p gm gk → Rm L 4 → Calls Tryz.prog 43 #[.pointer (some ⟨p, 0, none⟩), lpo lo, .agg #[.int .u8 9, .int .i64 sh, .int .u8 sa, .int .i64 sc, .int .i64 so, .int .i64 (max sd 0), .int .i64 (max sm 0)]] V fun e w' => e = .returned (.tuple #[]) ∧ ∃ lo', CT V w' p gm gk (nxt P ⟨9, sh, sa, sc, so, max sd 0, max sm 0⟩) lo lo' ((mid ⟨9, sh, sa, sc, so, max sd 0, max sm 0⟩ ((hat P sh).getD h0)).foldl putL L)) := hid D
  have HB : Hid (cod P ⟨9, sh, sa, sc, so, max sd 0, max sm 0⟩ = 0 → ∀ r ∈ mid ⟨9, sh, sa, sc, so, max sd 0, max sm 0⟩ ((hat P sh).getD h0), r.c ≤ 1125899906842624) := hid hmb
  have HC : Hid (cod P ⟨9, sh, sa, sc, so, max sd 0, max sm 0⟩ ≠ 0 → stp P ⟨9, sh, sa, sc, so, sd, sm⟩ = P ∧ ∀ A, (row P ⟨9, sh, sa, sc, so, sd, sm⟩).foldl putL A = putL (putL A ⟨11, 9, 1⟩) ⟨12, cod P ⟨9, sh, sa, sc, so, max sd 0, max sm 0⟩, 1⟩) := hid (fun h => ⟨by
    show (if cod P ⟨9, sh, sa, sc, so, max sd 0, max sm 0⟩ = 0 then nxt P ⟨9, sh, sa, sc, so, max sd 0, max sm 0⟩ else P) = P
    rw [if_neg h], fun A => by
    have e : row P ⟨9, sh, sa, sc, so, sd, sm⟩ = ⟨11, 9, 1⟩ :: (if cod P ⟨9, sh, sa, sc, so, max sd 0, max sm 0⟩ = 0 then flt (mid ⟨9, sh, sa, sc, so, max sd 0, max sm 0⟩ ((hat P sh).getD h0)) else []) ++ [⟨12, cod P ⟨9, sh, sa, sc, so, max sd 0, max sm 0⟩, 1⟩] := rfl
    rw [e, if_neg h]; rfl⟩)
  have HE : Hid (cod P ⟨9, sh, sa, sc, so, max sd 0, max sm 0⟩ = 0 → stp P ⟨9, sh, sa, sc, so, sd, sm⟩ = nxt P ⟨9, sh, sa, sc, so, max sd 0, max sm 0⟩ ∧ ∀ A, (row P ⟨9, sh, sa, sc, so, sd, sm⟩).foldl putL A = putL ((mid ⟨9, sh, sa, sc, so, max sd 0, max sm 0⟩ ((hat P sh).getD h0)).foldl putL (putL A ⟨11, 9, 1⟩)) ⟨12, 0, 1⟩) := hid (fun h => ⟨by
    show (if cod P ⟨9, sh, sa, sc, so, max sd 0, max sm 0⟩ = 0 then nxt P ⟨9, sh, sa, sc, so, max sd 0, max sm 0⟩ else P) = _
    rw [if_pos h], fun A => by
    have e : row P ⟨9, sh, sa, sc, so, sd, sm⟩ = ⟨11, 9, 1⟩ :: (if cod P ⟨9, sh, sa, sc, so, max sd 0, max sm 0⟩ = 0 then flt (mid ⟨9, sh, sa, sc, so, max sd 0, max sm 0⟩ ((hat P sh).getD h0)) else []) ++ [⟨12, cod P ⟨9, sh, sa, sc, so, max sd 0, max sm 0⟩, 1⟩] := rfl
    rw [e, if_pos h, h, List.cons_append, List.foldl_cons, List.foldl_append, foldl_flt]; rfl⟩)
  have cb := cod_b P ⟨9, sh, sa, sc, so, max sd 0, max sm 0⟩
  show Calls _ _ _ _ fun e w' => e = .returned (.int .i64 (cod P ⟨9, sh, sa, sc, so, max sd 0, max sm 0⟩)) ∧ ∃ lo', CT w w' p gm gk (stp P ⟨9, sh, sa, sc, so, sd, sm⟩) lo lo' ((row P ⟨9, sh, sa, sc, so, sd, sm⟩).foldl putL L)
  obtain ⟨c, hc⟩ : ∃ c, cod P ⟨9, sh, sa, sc, so, max sd 0, max sm 0⟩ = c := ⟨_, rfl⟩
  rw [hc] at HR HD HC HE HB cb ⊢
  clear hc hmb R D
  obtain ⟨Wa, hWa⟩ : ∃ W, w.alloc (.cells #[.int .u8 9, .int .i64 sh, .int .u8 sa, .int .i64 sc, .int .i64 so, .int .i64 sd, .int .i64 sm] 40) = W := ⟨_, rfl⟩
  have ba : Below w.heap.size w Wa := by rw [← hWa]; exact below_alloc _ _
  have ka : Blk Wa w.heap.size [.int .u8 9, .int .i64 sh, .int .u8 sa, .int .i64 sc, .int .i64 so, .int .i64 sd, .int .i64 sm] 40 := by rw [← hWa]; exact Blk.newAt w _ _ _ w.heap.size rfl rfl
  have a5 := ka.cell 5 _ rfl
  have a6 := ka.cell 6 _ rfl
  have fa5 := ka.frozen 5
  have fa6 := ka.frozen 6
  obtain ⟨W, hW⟩ : ∃ W', (Wa.setCell ⟨w.heap.size, 5, none⟩ (.int .i64 (max sd 0))).setCell ⟨w.heap.size, 6, none⟩ (.int .i64 (max sm 0)) = W' := ⟨_, rfl⟩
  have BW : Hid (Below w.heap.size w W) := by rw [← hW]; exact Tb.below_set (Tb.below_set ba _ _ _ (Nat.le_refl _) ba.size) _ _ _ (Nat.le_refl _) (by simp [World.setCell]; exact ba.size)
  have KB : Hid (Blk W w.heap.size [.int .u8 9, .int .i64 sh, .int .u8 sa, .int .i64 sc, .int .i64 so, .int .i64 (max sd 0), .int .i64 (max sm 0)] 40) := by rw [← hW]; exact (ka.set 5 _).set 6 _
  have HP := hid (hp.below BW.out)
  have HL := hid (hl.below BW.out)
  have HA := hid ha
  have GL := hid hp.lt
  have HM := hid hm
  have HPW := hid hp
  have LL : Hid (∀ j, blo lo j → j < w.heap.size) := hl.lt
  obtain ⟨U, hU⟩ : ∃ U, W.alloc (.cells #[.nilFunc, .nilFunc] 93) = U := ⟨_, rfl⟩
  have NU : Hid (Below W.heap.size W U) := by rw [← hU]; exact below_alloc _ _
  have ku : Blk U W.heap.size [.nilFunc, .nilFunc] 93 := by rw [← hU]; exact Blk.newAt W _ _ _ W.heap.size rfl rfl
  obtain ⟨V, s1, k1, hk1⟩ := SVn_run 42 43 ku rfl
  have NV : Hid (Below W.heap.size W V) := hid (NU.out.trans (hk1.below NU.out.size (fun k h e => by omega)))
  have s1 : (SVn ⟨W.heap.size, 0, none⟩ (.agg #[.func (.func 42) #[] #[], .func (.func 43) #[] #[]])).run Tryz.prog U = .ok () V := s1
  have x1 := HP.out.c1
  have l0 : (LDn ⟨gk, 0, none⟩).run Tryz.prog W = .ok (.agg #[.func (.func 42) #[] #[], .func (.func 43) #[] #[]]) W := run_loadVar_mid W gk 0 _ [.func (.func 42) #[] #[], .func (.func 43) #[] #[]] _ (HP.out.kt.range 0 _ (fun j v hj => by
    match j, hj with
    | 0, hj => exact hj
    | 1, hj => exact hj
    | j + 2, hj => simp at hj)) Tryz.underlying93 rfl infon
  have D1 : Hid (Below W.heap.size W V.drew) := hid (below_next NV.out (below_drewN V 1))
  have pv := HP.out.below D1.out
  have kv := KB.out.below D1.out
  have y1 := pv.c1
  have y2 := kv.cell 0 _ rfl
  have D2 : Hid (Below W.heap.size W V.drew.drew) := hid (below_next D1.out (below_drewN V.drew 1))
  have DK : Blk V.drew.drew W.heap.size [.func (.func 42) #[] #[], .func (.func 43) #[] #[]] 93 := k1.below (below_drewN V 2)
  have pv2 := HP.out.below D2.out
  have kv2 := KB.out.below D2.out
  have z1 := pv2.c1
  have z2 := kv2.cell 0 _ rfl
  have z3 : (LDn ⟨gk, 18, none⟩).run Tryz.prog V.drew.drew = .ok (.agg #[.func (.func 60) #[] #[], .func (.func 43) #[] #[]]) V.drew.drew := run_loadVar_mid V.drew.drew gk 18 _ [.func (.func 60) #[] #[], .func (.func 43) #[] #[]] _ (pv2.kt.range 18 _ (fun j v hj => by
    match j, hj with
    | 0, hj => exact hj
    | 1, hj => exact hj
    | j + 2, hj => simp at hj)) Tryz.underlying93 rfl infon
  obtain ⟨X, s2, k2, hk2⟩ := SVn_run 60 43 DK rfl
  have s2 : (SVn ⟨W.heap.size, 0, none⟩ (.agg #[.func (.func 60) #[] #[], .func (.func 43) #[] #[]])).run Tryz.prog V.drew.drew = .ok () X := s2
  have NX : Hid (Below W.heap.size W X) := hid (D2.out.trans (hk2.below D2.out.size (fun k h e => by omega)))
  have KX : Hid (Blk X W.heap.size [.func (.func 60) #[] #[], .func (.func 43) #[] #[]] 93) := hid k2
  have pz := HP.out.below NX.out
  have kz := KB.out.below NX.out
  have u1 := pz.c1
  have u2 := kz.cell 0 _ rfl
  have u3 : (LDn ⟨gk, 18, none⟩).run Tryz.prog X = .ok (.agg #[.func (.func 60) #[] #[], .func (.func 43) #[] #[]]) X := run_loadVar_mid X gk 18 _ [.func (.func 60) #[] #[], .func (.func 43) #[] #[]] _ (pz.kt.range 18 _ (fun j v hj => by
    match j, hj with
    | 0, hj => exact hj
    | 1, hj => exact hj
    | j + 2, hj => simp at hj)) Tryz.underlying93 rfl infon
  have KBX := hid (KB.out.below NX.out)
  have HPX := hid (HP.out.below NX.out)
  have HLX := hid (HL.out.below NX.out)
  have BX : Hid (Below w.heap.size w X) := hid (below_next BW.out NX.out)
  have v0 := KX.out.cell 0 _ rfl
  have v1 := LDk_run (s := ⟨9, sh, sa, sc, so, max sd 0, max sm 0⟩) KBX.out
  have v1 : (LDk ⟨w.heap.size, 0, none⟩).run Tryz.prog X = .ok (.agg #[.int .u8 9, .int .i64 sh, .int .u8 sa, .int .i64 sc, .int .i64 so, .int .i64 (max sd 0), .int .i64 (max sm 0)]) X := v1
  clear hp hl ha hm ka ba k1 hk1 ku pv kv pv2 kv2 pz kz k2 hk2 DK
  go_enter Tryz.func29, Tryz.ntmps29
  go_wp2_with fail
  clear hWa hW
  go_region_held3 (fun V => V.cell? ⟨p, 1, none⟩ = some (.slice (some ⟨gk, 0, none⟩) 11 11) ∧ V.cell? ⟨w.heap.size, 0, none⟩ = some (.int .u8 9)) (go_keep) (fail)
  go_wp2_with fail
  go_region_held3 (fun V => V.cell? ⟨p, 1, none⟩ = some (.slice (some ⟨gk, 0, none⟩) 11 11) ∧ V.cell? ⟨w.heap.size, 0, none⟩ = some (.int .u8 9) ∧ (LDn ⟨gk, 18, none⟩).run Tryz.prog V = .ok (.agg #[.func (.func 60) #[] #[], .func (.func 43) #[] #[]]) V) (go_keep) (fail)
  go_wp2_with fail
  refine (HR.out _ HPX.out).mono ?_
  rintro e W1 ⟨rfl, hb⟩
  have N1 : Hid (Below X.heap.size X W1) := hid hb
  have KB1 := hid (KBX.out.below hb)
  have KX1 := hid (KX.out.below hb)
  have q0 := KB1.out.cell 0 _ rfl
  have C0 := hid (CT.after (below_next BX.out N1.out) (CT.refl (HPX.out.below hb) (HLX.out.below hb)))
  have n1 := hid (note_o lo L 11 9 W1 (HLX.out.below hb) (by omega) (HM.out.less (k := 1) (by decide)))
  clear hb
  have wk : IntKind.i64.wrap 9 = 9 := by rw [IntKind.wrap_i64]; omega
  go_wp2_with fail
  refine n1.out.mono ?_
  rintro e W2 ⟨rfl, l2, t2⟩
  have P2 := hid t2.ptr
  have C2 := hid (C0.out.trans (CT.note C0.out.pu (C0.out.apo HPW.out HA.out) t2))
  have RM2 : Hid (Rm (putL L ⟨11, 9, 1⟩) 7) := hid (Rm.put (m := 7) HM.out (by show (1 : Int) ≤ 1125899906842624; decide))
  have nlo : ∀ g, X.heap.size ≤ g ∨ g = w.heap.size ∨ g = W.heap.size → ¬ blo lo g := fun g hg e => by have := LL.out _ e; have := BX.out.size; have := BW.out.size; omega
  have KB2 := hid (KB1.out.kept t2.kp (nlo _ (.inr (.inl rfl))))
  have KX2 := hid (KX1.out.kept t2.kp (nlo _ (.inr (.inr rfl))))
  clear t2 nlo
  by_cases c0 : c = 0
  · subst c0
    obtain ⟨hE1, hE2⟩ := HE.out rfl
    have HE1 := hid hE1
    have HE2 := hid hE2
    clear hE1 hE2
    have HB2 := hid (HB.out rfl)
    have g1 := KX2.out.cell 1 _ rfl
    have g2 := LDk_run (s := ⟨9, sh, sa, sc, so, max sd 0, max sm 0⟩) KB2.out
    have g2 : (LDk ⟨w.heap.size, 0, none⟩).run Tryz.prog W2 = .ok (.agg #[.int .u8 9, .int .i64 sh, .int .u8 sa, .int .i64 sc, .int .i64 so, .int .i64 (max sd 0), .int .i64 (max sm 0)]) W2 := g2
    have d2 := HD.out rfl W2 l2 _ C2.out.pu C2.out.led (C2.out.apo HPW.out HA.out) (RM2.out.less (k := 4) (by decide))
    rw [P2.out] at d2
    have D2 := hid d2
    clear d2
    go_wp2_with fail
    refine D2.out.mono ?_
    rintro e W3 ⟨rfl, l3, c3⟩
    have P3 := hid c3.ptr
    have C3 := hid (C2.out.trans c3)
    clear c3
    have rm3 : Rm ((mid ⟨9, sh, sa, sc, so, max sd 0, max sm 0⟩ ((hat P sh).getD h0)).foldl putL (putL L ⟨11, 9, 1⟩)) 4 := Rm.fold (m := 4) (RM2.out.less (by have := mid_three ⟨9, sh, sa, sc, so, max sd 0, max sm 0⟩ ((hat P sh).getD h0); omega)) HB2.out
    have n3 := note_o l3 _ 12 0 W3 C3.out.led (by omega) (rm3.less (k := 1) (by decide))
    rw [P3.out, P2.out] at n3
    have N3 := hid n3
    clear n3 rm3
    go_wp2_with fail
    refine N3.out.mono ?_
    rintro e W4 ⟨rfl, l4, t4⟩
    have C4 := hid (C3.out.trans (CT.note C3.out.pu (C3.out.apo HPW.out HA.out) t4))
    clear t4
    go_wp2
    go_ret
    exact ⟨rfl, l4, by rw [HE1.out, HE2.out]; exact C4.out⟩
  · have n3 := note_o l2 _ 12 c W2 C2.out.led (by omega) (RM2.out.less (k := 1) (by decide))
    rw [P2.out] at n3
    have N3 := hid n3
    have c1 : (c == 0) = false := by simpa using c0
    clear n3
    go_wp2_with fail
    refine N3.out.mono ?_
    rintro e W4 ⟨rfl, l4, t4⟩
    have C4 := hid (C2.out.trans (CT.note C2.out.pu (C2.out.apo HPW.out HA.out) t4))
    clear t4
    go_wp2
    go_ret
    exact ⟨rfl, l4, by rw [(HC.out c0).1, (HC.out c0).2]; exact C4.out⟩
set_option maxRecDepth 8000 in
set_option maxHeartbeats 1600000 in
theorem record_10 (p gm gk : Nat) (P : St) (s : Sk) (lo : Lo) (L : List Rn) (w : World) (hp : PU w p gm gk P) (hl : LdO w lo L) (ha : Apo lo p gm gk) (hk : s.k = 10) (kb : 0 ≤ s.k ∧ s.k ≤ 255) (hm : Rm L 8) (hmb : cod P (clp s) = 0 → ∀ r ∈ mid (clp s) ((hat P (clp s).h).getD h0), r.c ≤ 1125899906842624) (R : Rf p gm gk P (clp s) 61) (D : Dd p gm gk P (clp s) 62) :
    Calls Tryz.prog 29 #[.pointer (some ⟨p, 0, none⟩), lpo lo, sv s] w fun e w' => e = .returned (.int .i64 (cod P (clp s))) ∧ ∃ lo', CT w w' p gm gk (stp P s) lo lo' ((row P s).foldl putL L) := by
  obtain ⟨sk, sh, sa, sc, so, sd, sm⟩ := s
  obtain rfl : sk = 10 := hk
  have kb : 0 ≤ (10 : Int) ∧ (10 : Int) ≤ 255 := kb
  have HR : Hid (∀ V, PU V p gm gk P → Calls Tryz.prog 61 #[.pointer (some ⟨p, 0, none⟩), .agg #[.int .u8 10, .int .i64 sh, .int .u8 sa, .int .i64 sc, .int .i64 so, .int .i64 (max sd 0), .int .i64 (max sm 0)]] V fun e w' => e = .returned (.int .i64 (cod P ⟨10, sh, sa, sc, so, max sd 0, max sm 0⟩)) ∧ Below V.heap.size V w') := hid R
  have HD : Hid (cod P ⟨10, sh, sa, sc, so, max sd 0, max sm 0⟩ = 0 → ∀ V lo L, PU V p gm gk P → LdO V lo L → Apo lo p gm gk → Rm L 4 → Calls Tryz.prog 62 #[.pointer (some ⟨p, 0, none⟩), lpo lo, .agg #[.int .u8 10, .int .i64 sh, .int .u8 sa, .int .i64 sc, .int .i64 so, .int .i64 (max sd 0), .int .i64 (max sm 0)]] V fun e w' => e = .returned (.tuple #[]) ∧ ∃ lo', CT V w' p gm gk (nxt P ⟨10, sh, sa, sc, so, max sd 0, max sm 0⟩) lo lo' ((mid ⟨10, sh, sa, sc, so, max sd 0, max sm 0⟩ ((hat P sh).getD h0)).foldl putL L)) := hid D
  have HB : Hid (cod P ⟨10, sh, sa, sc, so, max sd 0, max sm 0⟩ = 0 → ∀ r ∈ mid ⟨10, sh, sa, sc, so, max sd 0, max sm 0⟩ ((hat P sh).getD h0), r.c ≤ 1125899906842624) := hid hmb
  have HC : Hid (cod P ⟨10, sh, sa, sc, so, max sd 0, max sm 0⟩ ≠ 0 → stp P ⟨10, sh, sa, sc, so, sd, sm⟩ = P ∧ ∀ A, (row P ⟨10, sh, sa, sc, so, sd, sm⟩).foldl putL A = putL (putL A ⟨11, 10, 1⟩) ⟨12, cod P ⟨10, sh, sa, sc, so, max sd 0, max sm 0⟩, 1⟩) := hid (fun h => ⟨by
    show (if cod P ⟨10, sh, sa, sc, so, max sd 0, max sm 0⟩ = 0 then nxt P ⟨10, sh, sa, sc, so, max sd 0, max sm 0⟩ else P) = P
    rw [if_neg h], fun A => by
    have e : row P ⟨10, sh, sa, sc, so, sd, sm⟩ = ⟨11, 10, 1⟩ :: (if cod P ⟨10, sh, sa, sc, so, max sd 0, max sm 0⟩ = 0 then flt (mid ⟨10, sh, sa, sc, so, max sd 0, max sm 0⟩ ((hat P sh).getD h0)) else []) ++ [⟨12, cod P ⟨10, sh, sa, sc, so, max sd 0, max sm 0⟩, 1⟩] := rfl
    rw [e, if_neg h]; rfl⟩)
  have HE : Hid (cod P ⟨10, sh, sa, sc, so, max sd 0, max sm 0⟩ = 0 → stp P ⟨10, sh, sa, sc, so, sd, sm⟩ = nxt P ⟨10, sh, sa, sc, so, max sd 0, max sm 0⟩ ∧ ∀ A, (row P ⟨10, sh, sa, sc, so, sd, sm⟩).foldl putL A = putL ((mid ⟨10, sh, sa, sc, so, max sd 0, max sm 0⟩ ((hat P sh).getD h0)).foldl putL (putL A ⟨11, 10, 1⟩)) ⟨12, 0, 1⟩) := hid (fun h => ⟨by
    show (if cod P ⟨10, sh, sa, sc, so, max sd 0, max sm 0⟩ = 0 then nxt P ⟨10, sh, sa, sc, so, max sd 0, max sm 0⟩ else P) = _
    rw [if_pos h], fun A => by
    have e : row P ⟨10, sh, sa, sc, so, sd, sm⟩ = ⟨11, 10, 1⟩ :: (if cod P ⟨10, sh, sa, sc, so, max sd 0, max sm 0⟩ = 0 then flt (mid ⟨10, sh, sa, sc, so, max sd 0, max sm 0⟩ ((hat P sh).getD h0)) else []) ++ [⟨12, cod P ⟨10, sh, sa, sc, so, max sd 0, max sm 0⟩, 1⟩] := rfl
    rw [e, if_pos h, h, List.cons_append, List.foldl_cons, List.foldl_append, foldl_flt]; rfl⟩)
  have cb := cod_b P ⟨10, sh, sa, sc, so, max sd 0, max sm 0⟩
  show Calls _ _ _ _ fun e w' => e = .returned (.int .i64 (cod P ⟨10, sh, sa, sc, so, max sd 0, max sm 0⟩)) ∧ ∃ lo', CT w w' p gm gk (stp P ⟨10, sh, sa, sc, so, sd, sm⟩) lo lo' ((row P ⟨10, sh, sa, sc, so, sd, sm⟩).foldl putL L)
  obtain ⟨c, hc⟩ : ∃ c, cod P ⟨10, sh, sa, sc, so, max sd 0, max sm 0⟩ = c := ⟨_, rfl⟩
  rw [hc] at HR HD HC HE HB cb ⊢
  clear hc hmb R D
  obtain ⟨Wa, hWa⟩ : ∃ W, w.alloc (.cells #[.int .u8 10, .int .i64 sh, .int .u8 sa, .int .i64 sc, .int .i64 so, .int .i64 sd, .int .i64 sm] 40) = W := ⟨_, rfl⟩
  have ba : Below w.heap.size w Wa := by rw [← hWa]; exact below_alloc _ _
  have ka : Blk Wa w.heap.size [.int .u8 10, .int .i64 sh, .int .u8 sa, .int .i64 sc, .int .i64 so, .int .i64 sd, .int .i64 sm] 40 := by rw [← hWa]; exact Blk.newAt w _ _ _ w.heap.size rfl rfl
  have a5 := ka.cell 5 _ rfl
  have a6 := ka.cell 6 _ rfl
  have fa5 := ka.frozen 5
  have fa6 := ka.frozen 6
  obtain ⟨W, hW⟩ : ∃ W', (Wa.setCell ⟨w.heap.size, 5, none⟩ (.int .i64 (max sd 0))).setCell ⟨w.heap.size, 6, none⟩ (.int .i64 (max sm 0)) = W' := ⟨_, rfl⟩
  have BW : Hid (Below w.heap.size w W) := by rw [← hW]; exact Tb.below_set (Tb.below_set ba _ _ _ (Nat.le_refl _) ba.size) _ _ _ (Nat.le_refl _) (by simp [World.setCell]; exact ba.size)
  have KB : Hid (Blk W w.heap.size [.int .u8 10, .int .i64 sh, .int .u8 sa, .int .i64 sc, .int .i64 so, .int .i64 (max sd 0), .int .i64 (max sm 0)] 40) := by rw [← hW]; exact (ka.set 5 _).set 6 _
  have HP := hid (hp.below BW.out)
  have HL := hid (hl.below BW.out)
  have HA := hid ha
  have GL := hid hp.lt
  have HM := hid hm
  have HPW := hid hp
  have LL : Hid (∀ j, blo lo j → j < w.heap.size) := hl.lt
  obtain ⟨U, hU⟩ : ∃ U, W.alloc (.cells #[.nilFunc, .nilFunc] 93) = U := ⟨_, rfl⟩
  have NU : Hid (Below W.heap.size W U) := by rw [← hU]; exact below_alloc _ _
  have ku : Blk U W.heap.size [.nilFunc, .nilFunc] 93 := by rw [← hU]; exact Blk.newAt W _ _ _ W.heap.size rfl rfl
  obtain ⟨V, s1, k1, hk1⟩ := SVn_run 42 43 ku rfl
  have NV : Hid (Below W.heap.size W V) := hid (NU.out.trans (hk1.below NU.out.size (fun k h e => by omega)))
  have s1 : (SVn ⟨W.heap.size, 0, none⟩ (.agg #[.func (.func 42) #[] #[], .func (.func 43) #[] #[]])).run Tryz.prog U = .ok () V := s1
  have x1 := HP.out.c1
  have l0 : (LDn ⟨gk, 0, none⟩).run Tryz.prog W = .ok (.agg #[.func (.func 42) #[] #[], .func (.func 43) #[] #[]]) W := run_loadVar_mid W gk 0 _ [.func (.func 42) #[] #[], .func (.func 43) #[] #[]] _ (HP.out.kt.range 0 _ (fun j v hj => by
    match j, hj with
    | 0, hj => exact hj
    | 1, hj => exact hj
    | j + 2, hj => simp at hj)) Tryz.underlying93 rfl infon
  have D1 : Hid (Below W.heap.size W V.drew) := hid (below_next NV.out (below_drewN V 1))
  have pv := HP.out.below D1.out
  have kv := KB.out.below D1.out
  have y1 := pv.c1
  have y2 := kv.cell 0 _ rfl
  have D2 : Hid (Below W.heap.size W V.drew.drew) := hid (below_next D1.out (below_drewN V.drew 1))
  have DK : Blk V.drew.drew W.heap.size [.func (.func 42) #[] #[], .func (.func 43) #[] #[]] 93 := k1.below (below_drewN V 2)
  have pv2 := HP.out.below D2.out
  have kv2 := KB.out.below D2.out
  have z1 := pv2.c1
  have z2 := kv2.cell 0 _ rfl
  have z3 : (LDn ⟨gk, 20, none⟩).run Tryz.prog V.drew.drew = .ok (.agg #[.func (.func 61) #[] #[], .func (.func 62) #[] #[]]) V.drew.drew := run_loadVar_mid V.drew.drew gk 20 _ [.func (.func 61) #[] #[], .func (.func 62) #[] #[]] _ (pv2.kt.range 20 _ (fun j v hj => by
    match j, hj with
    | 0, hj => exact hj
    | 1, hj => exact hj
    | j + 2, hj => simp at hj)) Tryz.underlying93 rfl infon
  obtain ⟨X, s2, k2, hk2⟩ := SVn_run 61 62 DK rfl
  have s2 : (SVn ⟨W.heap.size, 0, none⟩ (.agg #[.func (.func 61) #[] #[], .func (.func 62) #[] #[]])).run Tryz.prog V.drew.drew = .ok () X := s2
  have NX : Hid (Below W.heap.size W X) := hid (D2.out.trans (hk2.below D2.out.size (fun k h e => by omega)))
  have KX : Hid (Blk X W.heap.size [.func (.func 61) #[] #[], .func (.func 62) #[] #[]] 93) := hid k2
  have pz := HP.out.below NX.out
  have kz := KB.out.below NX.out
  have u1 := pz.c1
  have u2 := kz.cell 0 _ rfl
  have u3 : (LDn ⟨gk, 20, none⟩).run Tryz.prog X = .ok (.agg #[.func (.func 61) #[] #[], .func (.func 62) #[] #[]]) X := run_loadVar_mid X gk 20 _ [.func (.func 61) #[] #[], .func (.func 62) #[] #[]] _ (pz.kt.range 20 _ (fun j v hj => by
    match j, hj with
    | 0, hj => exact hj
    | 1, hj => exact hj
    | j + 2, hj => simp at hj)) Tryz.underlying93 rfl infon
  have KBX := hid (KB.out.below NX.out)
  have HPX := hid (HP.out.below NX.out)
  have HLX := hid (HL.out.below NX.out)
  have BX : Hid (Below w.heap.size w X) := hid (below_next BW.out NX.out)
  have v0 := KX.out.cell 0 _ rfl
  have v1 := LDk_run (s := ⟨10, sh, sa, sc, so, max sd 0, max sm 0⟩) KBX.out
  have v1 : (LDk ⟨w.heap.size, 0, none⟩).run Tryz.prog X = .ok (.agg #[.int .u8 10, .int .i64 sh, .int .u8 sa, .int .i64 sc, .int .i64 so, .int .i64 (max sd 0), .int .i64 (max sm 0)]) X := v1
  clear hp hl ha hm ka ba k1 hk1 ku pv kv pv2 kv2 pz kz k2 hk2 DK
  go_enter Tryz.func29, Tryz.ntmps29
  go_wp2_with fail
  clear hWa hW
  go_region_held3 (fun V => V.cell? ⟨p, 1, none⟩ = some (.slice (some ⟨gk, 0, none⟩) 11 11) ∧ V.cell? ⟨w.heap.size, 0, none⟩ = some (.int .u8 10)) (go_keep) (fail)
  go_wp2_with fail
  go_region_held3 (fun V => V.cell? ⟨p, 1, none⟩ = some (.slice (some ⟨gk, 0, none⟩) 11 11) ∧ V.cell? ⟨w.heap.size, 0, none⟩ = some (.int .u8 10) ∧ (LDn ⟨gk, 20, none⟩).run Tryz.prog V = .ok (.agg #[.func (.func 61) #[] #[], .func (.func 62) #[] #[]]) V) (go_keep) (fail)
  go_wp2_with fail
  refine (HR.out _ HPX.out).mono ?_
  rintro e W1 ⟨rfl, hb⟩
  have N1 : Hid (Below X.heap.size X W1) := hid hb
  have KB1 := hid (KBX.out.below hb)
  have KX1 := hid (KX.out.below hb)
  have q0 := KB1.out.cell 0 _ rfl
  have C0 := hid (CT.after (below_next BX.out N1.out) (CT.refl (HPX.out.below hb) (HLX.out.below hb)))
  have n1 := hid (note_o lo L 11 10 W1 (HLX.out.below hb) (by omega) (HM.out.less (k := 1) (by decide)))
  clear hb
  have wk : IntKind.i64.wrap 10 = 10 := by rw [IntKind.wrap_i64]; omega
  go_wp2_with fail
  refine n1.out.mono ?_
  rintro e W2 ⟨rfl, l2, t2⟩
  have P2 := hid t2.ptr
  have C2 := hid (C0.out.trans (CT.note C0.out.pu (C0.out.apo HPW.out HA.out) t2))
  have RM2 : Hid (Rm (putL L ⟨11, 10, 1⟩) 7) := hid (Rm.put (m := 7) HM.out (by show (1 : Int) ≤ 1125899906842624; decide))
  have nlo : ∀ g, X.heap.size ≤ g ∨ g = w.heap.size ∨ g = W.heap.size → ¬ blo lo g := fun g hg e => by have := LL.out _ e; have := BX.out.size; have := BW.out.size; omega
  have KB2 := hid (KB1.out.kept t2.kp (nlo _ (.inr (.inl rfl))))
  have KX2 := hid (KX1.out.kept t2.kp (nlo _ (.inr (.inr rfl))))
  clear t2 nlo
  by_cases c0 : c = 0
  · subst c0
    obtain ⟨hE1, hE2⟩ := HE.out rfl
    have HE1 := hid hE1
    have HE2 := hid hE2
    clear hE1 hE2
    have HB2 := hid (HB.out rfl)
    have g1 := KX2.out.cell 1 _ rfl
    have g2 := LDk_run (s := ⟨10, sh, sa, sc, so, max sd 0, max sm 0⟩) KB2.out
    have g2 : (LDk ⟨w.heap.size, 0, none⟩).run Tryz.prog W2 = .ok (.agg #[.int .u8 10, .int .i64 sh, .int .u8 sa, .int .i64 sc, .int .i64 so, .int .i64 (max sd 0), .int .i64 (max sm 0)]) W2 := g2
    have d2 := HD.out rfl W2 l2 _ C2.out.pu C2.out.led (C2.out.apo HPW.out HA.out) (RM2.out.less (k := 4) (by decide))
    rw [P2.out] at d2
    have D2 := hid d2
    clear d2
    go_wp2_with fail
    refine D2.out.mono ?_
    rintro e W3 ⟨rfl, l3, c3⟩
    have P3 := hid c3.ptr
    have C3 := hid (C2.out.trans c3)
    clear c3
    have rm3 : Rm ((mid ⟨10, sh, sa, sc, so, max sd 0, max sm 0⟩ ((hat P sh).getD h0)).foldl putL (putL L ⟨11, 10, 1⟩)) 4 := Rm.fold (m := 4) (RM2.out.less (by have := mid_three ⟨10, sh, sa, sc, so, max sd 0, max sm 0⟩ ((hat P sh).getD h0); omega)) HB2.out
    have n3 := note_o l3 _ 12 0 W3 C3.out.led (by omega) (rm3.less (k := 1) (by decide))
    rw [P3.out, P2.out] at n3
    have N3 := hid n3
    clear n3 rm3
    go_wp2_with fail
    refine N3.out.mono ?_
    rintro e W4 ⟨rfl, l4, t4⟩
    have C4 := hid (C3.out.trans (CT.note C3.out.pu (C3.out.apo HPW.out HA.out) t4))
    clear t4
    go_wp2
    go_ret
    exact ⟨rfl, l4, by rw [HE1.out, HE2.out]; exact C4.out⟩
  · have n3 := note_o l2 _ 12 c W2 C2.out.led (by omega) (RM2.out.less (k := 1) (by decide))
    rw [P2.out] at n3
    have N3 := hid n3
    have c1 : (c == 0) = false := by simpa using c0
    clear n3
    go_wp2_with fail
    refine N3.out.mono ?_
    rintro e W4 ⟨rfl, l4, t4⟩
    have C4 := hid (C2.out.trans (CT.note C2.out.pu (C2.out.apo HPW.out HA.out) t4))
    clear t4
    go_wp2
    go_ret
    exact ⟨rfl, l4, by rw [(HC.out c0).1, (HC.out c0).2]; exact C4.out⟩
set_option maxRecDepth 8000 in
set_option maxHeartbeats 1600000 in
theorem record_no (p gm gk : Nat) (P : St) (s : Sk) (lo : Lo) (L : List Rn) (w : World) (hp : PU w p gm gk P) (hl : LdO w lo L) (ha : Apo lo p gm gk) (hk : 10 < s.k) (kb : 0 ≤ s.k ∧ s.k ≤ 255) (hm : Rm L 8) (hmb : cod P (clp s) = 0 → ∀ r ∈ mid (clp s) ((hat P (clp s).h).getD h0), r.c ≤ 1125899906842624) (R : Rf p gm gk P (clp s) 42) (D : Dd p gm gk P (clp s) 43) :
    Calls Tryz.prog 29 #[.pointer (some ⟨p, 0, none⟩), lpo lo, sv s] w fun e w' => e = .returned (.int .i64 (cod P (clp s))) ∧ ∃ lo', CT w w' p gm gk (stp P s) lo lo' ((row P s).foldl putL L) := by
  obtain ⟨sk, sh, sa, sc, so, sd, sm⟩ := s
  have hk : 10 < sk := hk
  have kb : 0 ≤ (sk : Int) ∧ (sk : Int) ≤ 255 := kb
  have HR : Hid (∀ V, PU V p gm gk P → Calls Tryz.prog 42 #[.pointer (some ⟨p, 0, none⟩), .agg #[.int .u8 sk, .int .i64 sh, .int .u8 sa, .int .i64 sc, .int .i64 so, .int .i64 (max sd 0), .int .i64 (max sm 0)]] V fun e w' => e = .returned (.int .i64 (cod P ⟨sk, sh, sa, sc, so, max sd 0, max sm 0⟩)) ∧ Below V.heap.size V w') := hid R
  have HD : Hid (cod P ⟨sk, sh, sa, sc, so, max sd 0, max sm 0⟩ = 0 → ∀ V lo L, PU V p gm gk P → LdO V lo L → Apo lo p gm gk → Rm L 4 → Calls Tryz.prog 43 #[.pointer (some ⟨p, 0, none⟩), lpo lo, .agg #[.int .u8 sk, .int .i64 sh, .int .u8 sa, .int .i64 sc, .int .i64 so, .int .i64 (max sd 0), .int .i64 (max sm 0)]] V fun e w' => e = .returned (.tuple #[]) ∧ ∃ lo', CT V w' p gm gk (nxt P ⟨sk, sh, sa, sc, so, max sd 0, max sm 0⟩) lo lo' ((mid ⟨sk, sh, sa, sc, so, max sd 0, max sm 0⟩ ((hat P sh).getD h0)).foldl putL L)) := hid D
  have HB : Hid (cod P ⟨sk, sh, sa, sc, so, max sd 0, max sm 0⟩ = 0 → ∀ r ∈ mid ⟨sk, sh, sa, sc, so, max sd 0, max sm 0⟩ ((hat P sh).getD h0), r.c ≤ 1125899906842624) := hid hmb
  have HC : Hid (cod P ⟨sk, sh, sa, sc, so, max sd 0, max sm 0⟩ ≠ 0 → stp P ⟨sk, sh, sa, sc, so, sd, sm⟩ = P ∧ ∀ A, (row P ⟨sk, sh, sa, sc, so, sd, sm⟩).foldl putL A = putL (putL A ⟨11, sk, 1⟩) ⟨12, cod P ⟨sk, sh, sa, sc, so, max sd 0, max sm 0⟩, 1⟩) := hid (fun h => ⟨by
    show (if cod P ⟨sk, sh, sa, sc, so, max sd 0, max sm 0⟩ = 0 then nxt P ⟨sk, sh, sa, sc, so, max sd 0, max sm 0⟩ else P) = P
    rw [if_neg h], fun A => by
    have e : row P ⟨sk, sh, sa, sc, so, sd, sm⟩ = ⟨11, sk, 1⟩ :: (if cod P ⟨sk, sh, sa, sc, so, max sd 0, max sm 0⟩ = 0 then flt (mid ⟨sk, sh, sa, sc, so, max sd 0, max sm 0⟩ ((hat P sh).getD h0)) else []) ++ [⟨12, cod P ⟨sk, sh, sa, sc, so, max sd 0, max sm 0⟩, 1⟩] := rfl
    rw [e, if_neg h]; rfl⟩)
  have HE : Hid (cod P ⟨sk, sh, sa, sc, so, max sd 0, max sm 0⟩ = 0 → stp P ⟨sk, sh, sa, sc, so, sd, sm⟩ = nxt P ⟨sk, sh, sa, sc, so, max sd 0, max sm 0⟩ ∧ ∀ A, (row P ⟨sk, sh, sa, sc, so, sd, sm⟩).foldl putL A = putL ((mid ⟨sk, sh, sa, sc, so, max sd 0, max sm 0⟩ ((hat P sh).getD h0)).foldl putL (putL A ⟨11, sk, 1⟩)) ⟨12, 0, 1⟩) := hid (fun h => ⟨by
    show (if cod P ⟨sk, sh, sa, sc, so, max sd 0, max sm 0⟩ = 0 then nxt P ⟨sk, sh, sa, sc, so, max sd 0, max sm 0⟩ else P) = _
    rw [if_pos h], fun A => by
    have e : row P ⟨sk, sh, sa, sc, so, sd, sm⟩ = ⟨11, sk, 1⟩ :: (if cod P ⟨sk, sh, sa, sc, so, max sd 0, max sm 0⟩ = 0 then flt (mid ⟨sk, sh, sa, sc, so, max sd 0, max sm 0⟩ ((hat P sh).getD h0)) else []) ++ [⟨12, cod P ⟨sk, sh, sa, sc, so, max sd 0, max sm 0⟩, 1⟩] := rfl
    rw [e, if_pos h, h, List.cons_append, List.foldl_cons, List.foldl_append, foldl_flt]; rfl⟩)
  have cb := cod_b P ⟨sk, sh, sa, sc, so, max sd 0, max sm 0⟩
  show Calls _ _ _ _ fun e w' => e = .returned (.int .i64 (cod P ⟨sk, sh, sa, sc, so, max sd 0, max sm 0⟩)) ∧ ∃ lo', CT w w' p gm gk (stp P ⟨sk, sh, sa, sc, so, sd, sm⟩) lo lo' ((row P ⟨sk, sh, sa, sc, so, sd, sm⟩).foldl putL L)
  obtain ⟨c, hc⟩ : ∃ c, cod P ⟨sk, sh, sa, sc, so, max sd 0, max sm 0⟩ = c := ⟨_, rfl⟩
  rw [hc] at HR HD HC HE HB cb ⊢
  clear hc hmb R D
  obtain ⟨Wa, hWa⟩ : ∃ W, w.alloc (.cells #[.int .u8 sk, .int .i64 sh, .int .u8 sa, .int .i64 sc, .int .i64 so, .int .i64 sd, .int .i64 sm] 40) = W := ⟨_, rfl⟩
  have ba : Below w.heap.size w Wa := by rw [← hWa]; exact below_alloc _ _
  have ka : Blk Wa w.heap.size [.int .u8 sk, .int .i64 sh, .int .u8 sa, .int .i64 sc, .int .i64 so, .int .i64 sd, .int .i64 sm] 40 := by rw [← hWa]; exact Blk.newAt w _ _ _ w.heap.size rfl rfl
  have a5 := ka.cell 5 _ rfl
  have a6 := ka.cell 6 _ rfl
  have fa5 := ka.frozen 5
  have fa6 := ka.frozen 6
  obtain ⟨W, hW⟩ : ∃ W', (Wa.setCell ⟨w.heap.size, 5, none⟩ (.int .i64 (max sd 0))).setCell ⟨w.heap.size, 6, none⟩ (.int .i64 (max sm 0)) = W' := ⟨_, rfl⟩
  have BW : Hid (Below w.heap.size w W) := by rw [← hW]; exact Tb.below_set (Tb.below_set ba _ _ _ (Nat.le_refl _) ba.size) _ _ _ (Nat.le_refl _) (by simp [World.setCell]; exact ba.size)
  have KB : Hid (Blk W w.heap.size [.int .u8 sk, .int .i64 sh, .int .u8 sa, .int .i64 sc, .int .i64 so, .int .i64 (max sd 0), .int .i64 (max sm 0)] 40) := by rw [← hW]; exact (ka.set 5 _).set 6 _
  have HP := hid (hp.below BW.out)
  have HL := hid (hl.below BW.out)
  have HA := hid ha
  have GL := hid hp.lt
  have HM := hid hm
  have HPW := hid hp
  have LL : Hid (∀ j, blo lo j → j < w.heap.size) := hl.lt
  obtain ⟨U, hU⟩ : ∃ U, W.alloc (.cells #[.nilFunc, .nilFunc] 93) = U := ⟨_, rfl⟩
  have NU : Hid (Below W.heap.size W U) := by rw [← hU]; exact below_alloc _ _
  have ku : Blk U W.heap.size [.nilFunc, .nilFunc] 93 := by rw [← hU]; exact Blk.newAt W _ _ _ W.heap.size rfl rfl
  obtain ⟨V, s1, k1, hk1⟩ := SVn_run 42 43 ku rfl
  have NV : Hid (Below W.heap.size W V) := hid (NU.out.trans (hk1.below NU.out.size (fun k h e => by omega)))
  have s1 : (SVn ⟨W.heap.size, 0, none⟩ (.agg #[.func (.func 42) #[] #[], .func (.func 43) #[] #[]])).run Tryz.prog U = .ok () V := s1
  have x1 := HP.out.c1
  have l0 : (LDn ⟨gk, 0, none⟩).run Tryz.prog W = .ok (.agg #[.func (.func 42) #[] #[], .func (.func 43) #[] #[]]) W := run_loadVar_mid W gk 0 _ [.func (.func 42) #[] #[], .func (.func 43) #[] #[]] _ (HP.out.kt.range 0 _ (fun j v hj => by
    match j, hj with
    | 0, hj => exact hj
    | 1, hj => exact hj
    | j + 2, hj => simp at hj)) Tryz.underlying93 rfl infon
  have D1 : Hid (Below W.heap.size W V.drew) := hid (below_next NV.out (below_drewN V 1))
  have pv := HP.out.below D1.out
  have kv := KB.out.below D1.out
  have y1 := pv.c1
  have y2 := kv.cell 0 _ rfl
  obtain ⟨X, hX⟩ : ∃ X, V.drew = X := ⟨_, rfl⟩
  have NX : Hid (Below W.heap.size W X) := by rw [← hX]; exact D1.out
  have KX : Hid (Blk X W.heap.size [.func (.func 42) #[] #[], .func (.func 43) #[] #[]] 93) := by rw [← hX]; exact k1.below (below_drewN V 1)
  rw [hX] at y1 y2
  have nk : ¬ sk < 11 := by omega
  have wk0 : IntKind.i64.wrap sk = sk := by rw [IntKind.wrap_i64]; omega
  have nk2 : decide (sk < 11) = false := by simpa using nk
  have KBX := hid (KB.out.below NX.out)
  have HPX := hid (HP.out.below NX.out)
  have HLX := hid (HL.out.below NX.out)
  have BX : Hid (Below w.heap.size w X) := hid (below_next BW.out NX.out)
  have v0 := KX.out.cell 0 _ rfl
  have v1 := LDk_run (s := ⟨sk, sh, sa, sc, so, max sd 0, max sm 0⟩) KBX.out
  have v1 : (LDk ⟨w.heap.size, 0, none⟩).run Tryz.prog X = .ok (.agg #[.int .u8 sk, .int .i64 sh, .int .u8 sa, .int .i64 sc, .int .i64 so, .int .i64 (max sd 0), .int .i64 (max sm 0)]) X := v1
  clear hp hl ha hm ka ba k1 hk1 ku pv kv 
  go_enter Tryz.func29, Tryz.ntmps29
  go_wp2_with fail
  clear hWa hW
  go_region_held3 (fun V => V.cell? ⟨p, 1, none⟩ = some (.slice (some ⟨gk, 0, none⟩) 11 11) ∧ V.cell? ⟨w.heap.size, 0, none⟩ = some (.int .u8 sk)) (go_keep) (fail)
  go_wp2_with fail
  go_wp2_with fail
  refine (HR.out _ HPX.out).mono ?_
  rintro e W1 ⟨rfl, hb⟩
  have N1 : Hid (Below X.heap.size X W1) := hid hb
  have KB1 := hid (KBX.out.below hb)
  have KX1 := hid (KX.out.below hb)
  have q0 := KB1.out.cell 0 _ rfl
  have C0 := hid (CT.after (below_next BX.out N1.out) (CT.refl (HPX.out.below hb) (HLX.out.below hb)))
  have n1 := hid (note_o lo L 11 sk W1 (HLX.out.below hb) (by omega) (HM.out.less (k := 1) (by decide)))
  clear hb
  have wk : IntKind.i64.wrap sk = sk := by rw [IntKind.wrap_i64]; omega
  go_wp2_with fail
  refine n1.out.mono ?_
  rintro e W2 ⟨rfl, l2, t2⟩
  have P2 := hid t2.ptr
  have C2 := hid (C0.out.trans (CT.note C0.out.pu (C0.out.apo HPW.out HA.out) t2))
  have RM2 : Hid (Rm (putL L ⟨11, sk, 1⟩) 7) := hid (Rm.put (m := 7) HM.out (by show (1 : Int) ≤ 1125899906842624; decide))
  have nlo : ∀ g, X.heap.size ≤ g ∨ g = w.heap.size ∨ g = W.heap.size → ¬ blo lo g := fun g hg e => by have := LL.out _ e; have := BX.out.size; have := BW.out.size; omega
  have KB2 := hid (KB1.out.kept t2.kp (nlo _ (.inr (.inl rfl))))
  have KX2 := hid (KX1.out.kept t2.kp (nlo _ (.inr (.inr rfl))))
  clear t2 nlo
  by_cases c0 : c = 0
  · subst c0
    obtain ⟨hE1, hE2⟩ := HE.out rfl
    have HE1 := hid hE1
    have HE2 := hid hE2
    clear hE1 hE2
    have HB2 := hid (HB.out rfl)
    have g1 := KX2.out.cell 1 _ rfl
    have g2 := LDk_run (s := ⟨sk, sh, sa, sc, so, max sd 0, max sm 0⟩) KB2.out
    have g2 : (LDk ⟨w.heap.size, 0, none⟩).run Tryz.prog W2 = .ok (.agg #[.int .u8 sk, .int .i64 sh, .int .u8 sa, .int .i64 sc, .int .i64 so, .int .i64 (max sd 0), .int .i64 (max sm 0)]) W2 := g2
    have d2 := HD.out rfl W2 l2 _ C2.out.pu C2.out.led (C2.out.apo HPW.out HA.out) (RM2.out.less (k := 4) (by decide))
    rw [P2.out] at d2
    have D2 := hid d2
    clear d2
    go_wp2_with fail
    refine D2.out.mono ?_
    rintro e W3 ⟨rfl, l3, c3⟩
    have P3 := hid c3.ptr
    have C3 := hid (C2.out.trans c3)
    clear c3
    have rm3 : Rm ((mid ⟨sk, sh, sa, sc, so, max sd 0, max sm 0⟩ ((hat P sh).getD h0)).foldl putL (putL L ⟨11, sk, 1⟩)) 4 := Rm.fold (m := 4) (RM2.out.less (by have := mid_three ⟨sk, sh, sa, sc, so, max sd 0, max sm 0⟩ ((hat P sh).getD h0); omega)) HB2.out
    have n3 := note_o l3 _ 12 0 W3 C3.out.led (by omega) (rm3.less (k := 1) (by decide))
    rw [P3.out, P2.out] at n3
    have N3 := hid n3
    clear n3 rm3
    go_wp2_with fail
    refine N3.out.mono ?_
    rintro e W4 ⟨rfl, l4, t4⟩
    have C4 := hid (C3.out.trans (CT.note C3.out.pu (C3.out.apo HPW.out HA.out) t4))
    clear t4
    go_wp2
    go_ret
    exact ⟨rfl, l4, by rw [HE1.out, HE2.out]; exact C4.out⟩
  · have n3 := note_o l2 _ 12 c W2 C2.out.led (by omega) (RM2.out.less (k := 1) (by decide))
    rw [P2.out] at n3
    have N3 := hid n3
    have c1 : (c == 0) = false := by simpa using c0
    clear n3
    go_wp2_with fail
    refine N3.out.mono ?_
    rintro e W4 ⟨rfl, l4, t4⟩
    have C4 := hid (C2.out.trans (CT.note C2.out.pu (C2.out.apo HPW.out HA.out) t4))
    clear t4
    go_wp2
    go_ret
    exact ⟨rfl, l4, by rw [(HC.out c0).1, (HC.out c0).2]; exact C4.out⟩
end Go.Proofs.YtdmacflcjbkkpaaGreat.Co
