/- The walk of CostBounds: bounded, and framed. -/
import Derived.Test.YtdmacflcjbkkpaaCaw
import Derived.Test.YtdmacflcjbkkpaaCck
import Derived.Test.YtdmacflcjbkkpaaJg
namespace Go.Proofs.Ytdmacflcjbkkpaa.Co
open Go.ChangeShapes Go.WideShapes Go.ChangeAt Go.RowKit
open Go.Proofs.Ytdmacflcjbkkpaa (RB Own same14 rl below_drew' eq3 eq3_true)
open Go.Proofs.Ytdmacflcjbkkpaa.Lg (Chk totS joinL check_ok total_ok join_ok)
open Go.Proofs.Ytdmacflcjbkkpaa.Ou (Sk sv sL zS LDk SVk LDk_run SVk_run bd)
open Go.Proofs.Ytdmacflcjbkkpaa.Tb (Blk)
open Go.Proofs.Ytdmacflcjbkkpaa.Xr
theorem by_w {c : Prop} [Decidable c] {A B : Prop} (h : c) (a : A) : if c then A else B := by rw [if_pos h]; exact a
theorem by_g {x y : Bool} {A B : Prop} (hxy : x = y) (h : y = false) (b : B) : if x = true then A else B := by rw [if_neg (by rw [hxy, h]; decide)]; exact b
theorem rb_load {w : World} {b off n cap m : Nat} {L : List Ru} {r : Ru} (h : RB w (.slice (some ⟨b, off, none⟩) n cap) L) (hr : L[m]? = some r) : (LDr ⟨b, off + m * 3, none⟩).run Try.prog w = .ok (.agg #[.int .u8 r.k, .int .i64 r.s, .int .i64 r.c]) w := by
  obtain ⟨b', off', e, c1, c2, c3⟩ := h.at hr
  simp only [Option.some.injEq, Addr.mk.injEq, and_true] at e
  obtain ⟨rfl, rfl⟩ := e
  refine run_loadVar_mid w b (off + m * 3) _ [.int .u8 r.k, .int .i64 r.s, .int .i64 r.c] _ (fun j u hu => ?_) Try.underlying49 rfl (by kernel_rfl)
  match j, hu with
  | 0, hu => simp at hu; subst hu; exact c1
  | 1, hu => simp at hu; subst hu; exact c2
  | 2, hu => simp at hu; subst hu; exact c3
  | j + 3, hu => simp at hu
theorem rb_kind {w : World} {b off n cap i : Nat} {f : Nat → Sk} (h : Sx.RB w (.slice (some ⟨b, off, none⟩) n cap) n f) (hi : i < n) : w.cell? ⟨b, off + i * 7, none⟩ = some (.int .u8 (f i).k) := by
  obtain ⟨a', cap', hv, _, _, h0⟩ := h
  simp only [Value.slice.injEq, true_and] at hv
  obtain ⟨rfl, rfl⟩ := hv
  rcases h0 with ⟨h0, _⟩ | ⟨b', off', e, hc⟩
  · omega
  · simp only [Option.some.injEq, Addr.mk.injEq, and_true] at e
    obtain ⟨rfl, rfl⟩ := e
    exact hc (i * 7 + 0) _ (by rw [Sx.sl_get n f i 0 hi (by omega)]; rfl)
def bv (lb lo n c gc rb ro p cp k m : Nat) (s0 s1 s2 s3 s4 s5 s6 T D C : Int) (q : Bool) : Nat → Value
  | 0 => .int .i64 p
  | 1 => .bool false
  | 2 => .bool false
  | 3 => .slice (some ⟨rb, ro, none⟩) p cp
  | 4 => .int .i64 0
  | 5 => .bool false
  | 6 => .bool false
  | 7 => .bool false
  | 8 => .slice (some ⟨rb, ro, none⟩) p cp
  | 9 => .pointer (some ⟨rb, ro + 0 * 3, none⟩)
  | 10 => .agg #[.int .u8 11, .int .i64 s0, .int .i64 1]
  | 11 => .slice (some ⟨lb, lo, none⟩) n c
  | 12 => .int .i64 k
  | 13 => .pointer (some ⟨lb, lo + k * 7, none⟩)
  | 14 => .pointer (some ⟨lb, lo + k * 7, none⟩)
  | 15 => .int .u8 s0
  | 16 => .int .i64 s0
  | 17 => .agg #[.int .u8 11, .int .i64 s0, .int .i64 1]
  | 18 => .bool false
  | 19 => .bool false
  | 20 => .bool false
  | 21 => .slice (some ⟨rb, ro, none⟩) p cp
  | 22 => .int .i64 p
  | 23 => .int .i64 m
  | 24 => .pointer (some ⟨rb, ro + m * 3, none⟩)
  | 25 => .agg #[.int .u8 12, .int .i64 C, .int .i64 1]
  | 26 => .slice (some ⟨gc, 0, none⟩) n n
  | 27 => .int .i64 k
  | 28 => .pointer (some ⟨gc, 0 + k * 1, none⟩)
  | 29 => .int .i64 C
  | 30 => .agg #[.int .u8 12, .int .i64 C, .int .i64 1]
  | 31 => .bool false
  | 32 => .bool false
  | 33 => .bool false
  | 34 => .slice (some ⟨rb, ro, none⟩) p cp
  | 35 => .int .i64 T
  | 36 => .slice (some ⟨lb, lo, none⟩) n c
  | 37 => .int .i64 k
  | 38 => .pointer (some ⟨lb, lo + k * 7, none⟩)
  | 39 => .agg #[.int .u8 s0, .int .i64 s1, .int .u8 s2, .int .i64 s3, .int .i64 s4, .int .i64 s5, .int .i64 s6]
  | 40 => .int .i64 D
  | 41 => .bool false
  | 42 => .bool false
  | 43 => .bool false
  | 44 => .slice (some ⟨gc, 0, none⟩) n n
  | 45 => .int .i64 k
  | 46 => .pointer (some ⟨gc, 0 + k * 1, none⟩)
  | 47 => .int .i64 C
  | 48 => .bool q
  | 49 => .bool q
  | 50 => if q then .int .i64 p else undef
  | 51 => if q then .bool false else undef
  | 52 => .bool false
  | 53 => .bool false
  | _ => undef
set_option maxRecDepth 100000 in
set_option maxHeartbeats 8000000 in
theorem bounds_w (v : Value) (n : Nat) (f : Nat → Sk) (w : World) (h : Sx.RB w v n f) (hs : ∀ i, i < n → SkIn (f i)) (hn : (n + 6) * 56 ≤ 140737488355328) :
    Calls Try.prog 4 #[v] w fun e w' => e = .returned (.bool true) ∧ Below w.heap.size w w' := by
  obtain ⟨a, c, rfl⟩ := h.isSl
  have H := hid h
  have HS := hid hs
  have n1 : n ≤ 100000000000000 := by omega
  clear h hs hn
  go_enter Try.func4, Try.ntmps4
  go_wp2_with fail
  refine (awake_ok _).mono ?_
  rintro e W1 ⟨rfl, hb1⟩
  have B1 := hid hb1
  clear hb1
  by_cases hlt : 300 < n
  · have h3 : 300 < (n : Int) := by omega
    go_wp2
    go_ret
    exact ⟨rfl, B1.out⟩
  · have h3 : ¬ 300 < (n : Int) := by omega
    have hn3 : n ≤ 300 := by omega
    have EC := each_ok _ n f W1 (H.out.below B1.out) HS.out (by omega)
    go_wp2_with fail
    refine EC.mono ?_
    rintro e W2 ⟨ge, u, rfl, ke, ho, hge, b2⟩
    have KE := hid ke
    have HO := hid ho
    have B2 := hid (below_next B1.out b2)
    have CC := codes_ok _ n f W2 (H.out.below B2.out) HS.out (by omega)
    clear EC ke ho hge b2 B1
    go_wp2_with fail
    refine CC.mono ?_
    rintro e W3 ⟨gc, rfl, kc, hgc, b3⟩
    have KC := hid kc
    have KE3 := hid (KE.out.below b3)
    have HO3 : Hid (∀ i, i < n → Own W3 0 (u i) (rr f i)) := hid fun i hi => (HO.out i hi).below b3
    have B3 := hid (below_next B2.out b3)
    clear CC kc hgc b3 B2 KE HO
    go_wp2
    go_loopw [6, 7] (fun s x wr => ∃ k : Nat, k ≤ n ∧ x = .int .i64 k ∧ RB wr s (jn [] (rws P00 (lf f k))) ∧ Below W3.heap.size W3 wr) (fun _ x _ => n - (RowKit.intOf x).toNat)
    case atStart => exact ⟨0, Nat.zero_le _, rfl, (Own.nil W3 0).reads, Below.refl _ _⟩
    case round =>
      obtain ⟨k, hk, rfl, hr, hbel⟩ := hrel
      have HA := hid hr
      have HB := hid hbel
      clear hr hbel
      by_cases hkn : k < n
      · have sk := HS.out k hkn
        obtain ⟨lb, lo, rfl, ld⟩ := H.out.ldB hkn
        have ldw := ld
        have oe := (HO3.out k hkn).below HB.out
        have x1 := (KE3.out.below HB.out).cell k (u k) (by rw [List.getElem?_map, List.getElem?_range hkn]; rfl)
        have x2 := (KC.out.below HB.out).cell k (.int .i64 (cc f k)) (by rw [List.getElem?_map, List.getElem?_range hkn]; rfl)
        have ck := rr_chk f k
        have ln := rr_len f k
        have ft := rr_first f k
        have lt := rr_last f k
        have tw := rr_two f k
        have tt := rr_tot f k
        have jx := join_next f k
        obtain ⟨L, hL⟩ : ∃ L, rr f k = L := ⟨_, rfl⟩
        obtain ⟨C, hC⟩ : ∃ C, cc f k = C := ⟨_, rfl⟩
        obtain ⟨s, hs⟩ : ∃ s, f k = s := ⟨_, rfl⟩
        obtain ⟨A, hA⟩ : ∃ A, jn [] (rws P00 (lf f k)) = A := ⟨_, rfl⟩
        obtain ⟨m, hm⟩ : ∃ m, L.length = m + 1 := ⟨L.length - 1, by rw [hL] at ln; omega⟩
        rw [hL] at oe ck ln ft lt tw tt jx
        rw [hC] at x2 lt tw
        rw [hs] at sk ft tt
        rw [hA] at jx
        have r1 := oe.reads
        obtain ⟨rv, hrv⟩ : ∃ v, u k = v := ⟨_, rfl⟩
        rw [hrv] at x1 r1
        obtain ⟨a0, cp, rfl, _, _, _, _⟩ := r1.shape
        obtain ⟨rb, ro, rfl, _, _, _⟩ := r1.at ft
        have HR := hid r1
        have f1 := fun V (hV : Below wr.heap.size wr V) => rb_load (r1.below hV) ft
        have f2 := fun V (hV : Below wr.heap.size wr V) => rb_load (r1.below hV) lt
        rw [hm] at f2
        simp only [Nat.zero_mul, Nat.add_zero] at f1
        have kc := fun V (hV : Below wr.heap.size wr V) => rb_kind (H.out.below (below_next (below_next B3.out HB.out) hV)) hkn
        have ldw' := fun V (hV : Below wr.heap.size wr V) => ldw V (below_next (below_next B3.out HB.out) hV)
        rw [hs] at kc ldw'
        have cb := cod_b (aft P00 (lf f k)) (clp (f k))
        have hC' : cod (aft P00 (lf f k)) (clp (f k)) = C := hC
        rw [hC'] at cb
        have CK : Hid (∀ V, Below wr.heap.size wr V → Calls Try.prog 12 #[.slice (some ⟨rb, ro, none⟩) L.length cp] V fun e w' => e = .returned (.int .i64 0) ∧ Below V.heap.size V w') := hid fun V hV => (check_ok _ L V (HR.out.below hV) (by omega)).mono (by
          rintro e w' ⟨z, rfl, hz, hb⟩
          rcases hz with ⟨rfl, _⟩ | ⟨_, hz⟩
          · exact ⟨rfl, hb⟩
          · exact absurd ck hz)
        have TO : Hid (∀ V, Below wr.heap.size wr V → Calls Try.prog 14 #[.slice (some ⟨rb, ro, none⟩) L.length cp] V fun e w' => e = .returned (.int .i64 (totS L)) ∧ Below V.heap.size V w') := hid fun V hV => total_ok _ L V (HR.out.below hV) (by omega)
        have JN : Hid (∀ V, Below wr.heap.size wr V → Calls Try.prog 16 #[u6, .slice (some ⟨rb, ro, none⟩) L.length cp] V fun e w' => ∃ v, e = .returned v ∧ RB w' v (jn [] (rws P00 (lf f (k + 1)))) ∧ Below V.heap.size V w') := hid fun V hV => by
          have jl := jn_rm f k (by omega)
          rw [hA] at jl
          have ha := HA.out
          rw [hA] at ha
          rw [← jx]
          refine (join_ok _ _ A L V (ha.below hV) (HR.out.below hV) (by have := jl.2.1; omega)).mono ?_
          rintro e w' ⟨v, rfl, ho, hb⟩
          exact ⟨v, rfl, ho.reads, hb⟩
        obtain ⟨T, hT⟩ : ∃ T, totS L = T := ⟨_, rfl⟩
        obtain ⟨D, hD⟩ : ∃ D, bd s = D := ⟨_, rfl⟩
        have BO : Hid (∀ V, Calls Try.prog 15 #[sv s] V fun e w' => e = .returned (.int .i64 D) ∧ Below V.heap.size V w') := hid fun V => by rw [← hD]; exact bound_ok s V
        rw [hT] at TO tt
        rw [hD] at tt
        obtain ⟨p, hp⟩ : ∃ p, L.length = p := ⟨_, rfl⟩
        rw [hp] at CK TO JN x1 ln hm tw
        obtain ⟨s0, s1, s2, s3, s4, s5, s6⟩ := s
        have sk0 : 0 ≤ s0 ∧ s0 ≤ 255 := sk.k
        have kb := hid sk0
        have kb := hid sk0
        have kb := hid sk0
        have kb := hid sk0
        have kb := hid sk0
        have kb := hid sk0
        have SW : Hid (∀ V, Below wr.heap.size wr V → ((LDr ⟨rb, ro, none⟩).run Try.prog V = .ok (.agg #[.int .u8 11, .int .i64 s0, .int .i64 1]) V ∧ (LDr ⟨rb, ro + m * 3, none⟩).run Try.prog V = .ok (.agg #[.int .u8 12, .int .i64 C, .int .i64 1]) V ∧ V.cell? ⟨lb, lo + k * 7, none⟩ = some (.int .u8 s0) ∧ V.cell? ⟨gc, k, none⟩ = some (.int .i64 C) ∧ (LDk ⟨lb, lo + k * 7, none⟩).run Try.prog V = .ok (.agg #[.int .u8 s0, .int .i64 s1, .int .u8 s2, .int .i64 s3, .int .i64 s4, .int .i64 s5, .int .i64 s6]) V)) :=
          hid fun V hV => ⟨f1 V hV, f2 V hV, kc V hV, (hV.cell (World.block_lt_of_cell? _ _ x2)).trans x2, ldw' V hV⟩
        have hw1 : IntKind.i64.wrap ((p : Int) - 1) = m := by rw [IntKind.wrap_i64]; omega
        have hw2 : IntKind.i64.wrap s0 = s0 := by rw [IntKind.wrap_i64]; omega
        have p2 : decide ((p : Int) < 2) = false := decide_eq_false (by omega)
        have mp : (m : Int) < p := by omega
        have p0 : (0 : Int) < p := by omega
        have p1 : 0 < p := by omega
        have HM : Hid (p = m + 1) := hid hm
        have q1 : eq3 11 s0 1 11 s0 1 = true := eq3_true rfl rfl rfl
        have q2 : eq3 12 C 1 12 C 1 = true := eq3_true rfl rfl rfl
        have kn : (k : Int) < n := by omega
        have kz : (0 : Int) ≤ k := by omega
        have td : decide (D < T) = false := decide_eq_false (by omega)
        have TW := hid tw
        clear oe ck ln ft lt tw tt jx r1 f1 f2 kc ldw ldw' ld cb hC' hA hs hC hL hrv x2 hm hT hD hp sk sk0
        go_wp2_with fail
        obtain ⟨q, hqC⟩ : ∃ q : Bool, (C != 0) = q := ⟨_, rfl⟩
        have cq : (C != 0) = q := hqC
        have pq : q = true → ((p : Int) != 2) = false := fun h => by
          have hc : C ≠ 0 := by rw [h] at hqC; simpa using hqC
          have := TW.out hc
          subst this; rfl
        refine region_okG (R := fun i v _ => v = bv lb lo n c gc rb ro p cp k m s0 s1 s2 s3 s4 s5 s6 T D C q i) (by kernel_rfl) (by kernel_rfl) (fun _ _ _ _ h _ => h) ?_ ?_
        · intro i o ho listed a w3 h dep K hK
          have k0 : a.tmps[0]? = some (.slice (some ⟨lb, lo, none⟩) n c) := (h.keep 0 (no_dst (by kernel_rfl))).trans rfl
          have k5 : a.tmps[5]? = some (.slice (some ⟨gc, 0, none⟩) n n) := (h.keep 5 (no_dst (by kernel_rfl))).trans rfl
          have k7 : a.tmps[7]? = some (.int .i64 k) := (h.keep 7 (no_dst (by kernel_rfl))).trans rfl
          have k8 : a.tmps[8]? = some (.slice (some ⟨rb, ro, none⟩) p cp) := (h.keep 8 (no_dst (by kernel_rfl))).trans rfl
          have k9 : a.tmps[9]? = some (.int .i64 p) := (h.keep 9 (no_dst (by kernel_rfl))).trans rfl
          match i, ho with
          | 0, ho =>
            cases ho
            refine by_w rfl ?_
            exact st_mv 9 _ rfl k9 (hK _ w3 (Below.refl _ _) (fun _ _ => rfl))
          | 1, ho =>
            cases ho
            refine by_w rfl ?_
            exact st_bin _ _ _ _ _ _ _ _ rfl (tmpE (show a.tmps[43]? = some (.int .i64 p) from (h.val (dep ⟨0, .data⟩ (by simp) rfl) rfl))) rfl (gd_int _ _ _ _ _ _ _ _) ((bin_lt _ _ _).trans (by rw [p2]; rfl)) (hK _ w3 (Below.refl _ _) (fun _ _ => rfl))
          | 2, ho =>
            cases ho
            refine by_w rfl ?_
            exact st_mv 44 _ rfl (h.val (dep ⟨1, .data⟩ (by simp) rfl) rfl) (hK _ w3 (Below.refl _ _) (fun _ _ => rfl))
          | 3, ho =>
            cases ho
            refine by_w (Eq.trans (wanted_at (b := false) (c := false) rfl rfl (h.val (dep ⟨2, .guard⟩ (by simp) rfl) rfl)) rfl) ?_
            exact st_mv 8 _ rfl k8 (hK _ w3 (Below.refl _ _) (fun _ _ => rfl))
          | 4, ho =>
            cases ho
            refine by_w (Eq.trans (wanted_at (b := false) (c := false) rfl rfl (h.val (dep ⟨2, .guard⟩ (by simp) rfl) rfl)) rfl) ?_
            exact st_call 12 46 _ _ _ rfl (enters_of Try.func12 (by kernel_rfl) rfl) (h.val (dep ⟨3, .data⟩ (by simp) rfl) rfl) (CK.out w3 h.bel) (fun w4 hb => hK _ w4 hb (fun _ _ => rfl))
          | 5, ho =>
            cases ho
            refine by_w (Eq.trans (wanted_at (b := false) (c := false) rfl rfl (h.val (dep ⟨2, .guard⟩ (by simp) rfl) rfl)) rfl) ?_
            exact st_bin _ _ _ _ _ _ _ _ rfl (tmpE (show a.tmps[47]? = some (.int .i64 0) from (h.val (dep ⟨4, .data⟩ (by simp) rfl) rfl))) rfl (gd_int _ _ _ _ _ _ _ _) (bin_nec 0 0 _) (hK _ w3 (Below.refl _ _) (fun _ _ => rfl))
          | 6, ho =>
            cases ho
            refine by_w rfl ?_
            exact st_pick _ _ _ _ _ _ rfl (tmpE (show a.tmps[45]? = some (.bool false) from (h.val (dep ⟨2, .data⟩ (by simp) rfl) rfl))) rfl (tmpE (show a.tmps[48]? = some (.bool false) from (h.val (dep ⟨5, .data⟩ (by simp) rfl) rfl))) (hK _ w3 (Below.refl _ _) (fun _ _ => rfl))
          | 7, ho =>
            cases ho
            refine by_w rfl ?_
            exact st_mv 49 _ rfl (h.val (dep ⟨6, .data⟩ (by simp) rfl) rfl) (hK _ w3 (Below.refl _ _) (fun _ _ => rfl))
          | 8, ho =>
            cases ho
            refine by_w (Eq.trans (wanted_at (b := false) (c := false) rfl rfl (h.val (dep ⟨7, .guard⟩ (by simp) rfl) rfl)) rfl) ?_
            exact st_mv 8 _ rfl k8 (hK _ w3 (Below.refl _ _) (fun _ _ => rfl))
          | 9, ho =>
            cases ho
            refine by_w (Eq.trans (wanted_at (b := false) (c := false) rfl rfl (h.val (dep ⟨7, .guard⟩ (by simp) rfl) rfl)) rfl) ?_
            exact st_idx _ _ _ _ _ _ rfl (tmpE (show a.tmps[51]? = some (.slice (some ⟨rb, ro, none⟩) p cp) from (h.val (dep ⟨8, .data⟩ (by simp) rfl) rfl))) rfl (idx_runs _ _ _ _ 0 _ (by omega)) (hK _ w3 (Below.refl _ _) (fun _ _ => rfl))
          | 10, ho =>
            cases ho
            refine by_w (Eq.trans (wanted_at (b := false) (c := false) rfl rfl (h.val (dep ⟨7, .guard⟩ (by simp) rfl) rfl)) rfl) ?_
            have sw := SW.out w3 h.bel
            exact st_load _ _ _ _ _ rfl (tmpE (show a.tmps[52]? = some (.pointer (some ⟨rb, ro + 0 * 3, none⟩)) from (h.val (dep ⟨9, .data⟩ (by simp) rfl) rfl))) ((congrArg (fun z => (LDr ⟨rb, z, none⟩).run Try.prog w3) (by omega)).trans sw.1) (hK _ w3 (Below.refl _ _) (fun _ _ => rfl))
          | 11, ho =>
            cases ho
            refine by_w (Eq.trans (wanted_at (b := false) (c := false) rfl rfl (h.val (dep ⟨7, .guard⟩ (by simp) rfl) rfl)) rfl) ?_
            exact st_mv 0 _ rfl k0 (hK _ w3 (Below.refl _ _) (fun _ _ => rfl))
          | 12, ho =>
            cases ho
            refine by_w (Eq.trans (wanted_at (b := false) (c := false) rfl rfl (h.val (dep ⟨7, .guard⟩ (by simp) rfl) rfl)) rfl) ?_
            exact st_mv 7 _ rfl k7 (hK _ w3 (Below.refl _ _) (fun _ _ => rfl))
          | 13, ho =>
            cases ho
            refine by_w (Eq.trans (wanted_at (b := false) (c := false) rfl rfl (h.val (dep ⟨7, .guard⟩ (by simp) rfl) rfl)) rfl) ?_
            exact st_idx _ _ _ _ _ _ rfl (tmpE (show a.tmps[54]? = some (.slice (some ⟨lb, lo, none⟩) n c) from (h.val (dep ⟨11, .data⟩ (by simp) rfl) rfl))) (tmpE (show a.tmps[55]? = some (.int .i64 k) from (h.val (dep ⟨12, .data⟩ (by simp) rfl) rfl))) (idx_skels _ _ _ _ k _ (by omega)) (hK _ w3 (Below.refl _ _) (fun _ _ => rfl))
          | 14, ho =>
            cases ho
            refine by_w (Eq.trans (wanted_at (b := false) (c := false) rfl rfl (h.val (dep ⟨7, .guard⟩ (by simp) rfl) rfl)) rfl) ?_
            exact st_fld0 _ _ _ rfl (tmpE (show a.tmps[56]? = some (.pointer (some ⟨lb, lo + k * 7, none⟩)) from (h.val (dep ⟨13, .data⟩ (by simp) rfl) rfl))) (hK _ w3 (Below.refl _ _) (fun _ _ => rfl))
          | 15, ho =>
            cases ho
            refine by_w (Eq.trans (wanted_at (b := false) (c := false) rfl rfl (h.val (dep ⟨7, .guard⟩ (by simp) rfl) rfl)) rfl) ?_
            have sw := SW.out w3 h.bel
            exact st_load _ _ _ _ _ rfl (tmpE (show a.tmps[57]? = some (.pointer (some ⟨lb, lo + k * 7, none⟩)) from (h.val (dep ⟨14, .data⟩ (by simp) rfl) rfl))) (ld_u8 sw.2.2.1) (hK _ w3 (Below.refl _ _) (fun _ _ => rfl))
          | 16, ho =>
            cases ho
            refine by_w (Eq.trans (wanted_at (b := false) (c := false) rfl rfl (h.val (dep ⟨7, .guard⟩ (by simp) rfl) rfl)) rfl) ?_
            exact st_conv _ _ kb.out rfl (tmpE (show a.tmps[58]? = some (.int .u8 s0) from (h.val (dep ⟨15, .data⟩ (by simp) rfl) rfl))) (hK _ w3 (Below.refl _ _) (fun _ _ => rfl))
          | 17, ho =>
            cases ho
            refine by_w (Eq.trans (wanted_at (b := false) (c := false) rfl rfl (h.val (dep ⟨7, .guard⟩ (by simp) rfl) rfl)) rfl) ?_
            exact st_call3 13 59 _ _ _ _ _ rfl (enters_of Try.func13 (by kernel_rfl) rfl) (h.val (dep ⟨16, .data⟩ (by simp) rfl) rfl) (event_ok _ _ _ w3) (fun w4 hb => hK _ w4 hb (fun _ _ => rfl))
          | 18, ho =>
            cases ho
            refine by_w (Eq.trans (wanted_at (b := false) (c := false) rfl rfl (h.val (dep ⟨7, .guard⟩ (by simp) rfl) rfl)) rfl) ?_
            exact st_bin _ _ _ _ _ _ _ _ rfl (tmpE (show a.tmps[53]? = some (.agg #[.int .u8 11, .int .i64 s0, .int .i64 1]) from (h.val (dep ⟨10, .data⟩ (by simp) rfl) rfl))) (tmpE (show a.tmps[60]? = some (.agg #[.int .u8 11, .int .i64 s0, .int .i64 1]) from (h.val (dep ⟨17, .data⟩ (by simp) rfl) rfl))) (gd_run _ _ _ _ _ _ _ _ _) ((bin_ner _ _ _ _ _ _ _).trans (by rw [q1]; rfl)) (hK _ w3 (Below.refl _ _) (fun _ _ => rfl))
          | 19, ho =>
            cases ho
            refine by_w rfl ?_
            exact st_pick _ _ _ _ _ _ rfl (tmpE (show a.tmps[50]? = some (.bool false) from (h.val (dep ⟨7, .data⟩ (by simp) rfl) rfl))) rfl (tmpE (show a.tmps[61]? = some (.bool false) from (h.val (dep ⟨18, .data⟩ (by simp) rfl) rfl))) (hK _ w3 (Below.refl _ _) (fun _ _ => rfl))
          | 20, ho =>
            cases ho
            refine by_w rfl ?_
            exact st_mv 62 _ rfl (h.val (dep ⟨19, .data⟩ (by simp) rfl) rfl) (hK _ w3 (Below.refl _ _) (fun _ _ => rfl))
          | 21, ho =>
            cases ho
            refine by_w (Eq.trans (wanted_at (b := false) (c := false) rfl rfl (h.val (dep ⟨20, .guard⟩ (by simp) rfl) rfl)) rfl) ?_
            exact st_mv 8 _ rfl k8 (hK _ w3 (Below.refl _ _) (fun _ _ => rfl))
          | 22, ho =>
            cases ho
            refine by_w (Eq.trans (wanted_at (b := false) (c := false) rfl rfl (h.val (dep ⟨20, .guard⟩ (by simp) rfl) rfl)) rfl) ?_
            exact st_mv 9 _ rfl k9 (hK _ w3 (Below.refl _ _) (fun _ _ => rfl))
          | 23, ho =>
            cases ho
            refine by_w (Eq.trans (wanted_at (b := false) (c := false) rfl rfl (h.val (dep ⟨20, .guard⟩ (by simp) rfl) rfl)) rfl) ?_
            exact st_bin _ _ _ _ _ _ _ _ rfl (tmpE (show a.tmps[65]? = some (.int .i64 p) from (h.val (dep ⟨22, .data⟩ (by simp) rfl) rfl))) rfl (gd_int _ _ _ _ _ _ _ _) ((bin_sub _ _ _).trans (by rw [hw1]; rfl)) (hK _ w3 (Below.refl _ _) (fun _ _ => rfl))
          | 24, ho =>
            cases ho
            refine by_w (Eq.trans (wanted_at (b := false) (c := false) rfl rfl (h.val (dep ⟨20, .guard⟩ (by simp) rfl) rfl)) rfl) ?_
            exact st_idx _ _ _ _ _ _ rfl (tmpE (show a.tmps[64]? = some (.slice (some ⟨rb, ro, none⟩) p cp) from (h.val (dep ⟨21, .data⟩ (by simp) rfl) rfl))) (tmpE (show a.tmps[66]? = some (.int .i64 m) from (h.val (dep ⟨23, .data⟩ (by simp) rfl) rfl))) (idx_runs _ _ _ _ m _ (by omega)) (hK _ w3 (Below.refl _ _) (fun _ _ => rfl))
          | 25, ho =>
            cases ho
            refine by_w (Eq.trans (wanted_at (b := false) (c := false) rfl rfl (h.val (dep ⟨20, .guard⟩ (by simp) rfl) rfl)) rfl) ?_
            have sw := SW.out w3 h.bel
            exact st_load _ _ _ _ _ rfl (tmpE (show a.tmps[67]? = some (.pointer (some ⟨rb, ro + m * 3, none⟩)) from (h.val (dep ⟨24, .data⟩ (by simp) rfl) rfl))) sw.2.1 (hK _ w3 (Below.refl _ _) (fun _ _ => rfl))
          | 26, ho =>
            cases ho
            refine by_w (Eq.trans (wanted_at (b := false) (c := false) rfl rfl (h.val (dep ⟨20, .guard⟩ (by simp) rfl) rfl)) rfl) ?_
            exact st_mv 5 _ rfl k5 (hK _ w3 (Below.refl _ _) (fun _ _ => rfl))
          | 27, ho =>
            cases ho
            refine by_w (Eq.trans (wanted_at (b := false) (c := false) rfl rfl (h.val (dep ⟨20, .guard⟩ (by simp) rfl) rfl)) rfl) ?_
            exact st_mv 7 _ rfl k7 (hK _ w3 (Below.refl _ _) (fun _ _ => rfl))
          | 28, ho =>
            cases ho
            refine by_w (Eq.trans (wanted_at (b := false) (c := false) rfl rfl (h.val (dep ⟨20, .guard⟩ (by simp) rfl) rfl)) rfl) ?_
            exact st_idx _ _ _ _ _ _ rfl (tmpE (show a.tmps[69]? = some (.slice (some ⟨gc, 0, none⟩) n n) from (h.val (dep ⟨26, .data⟩ (by simp) rfl) rfl))) (tmpE (show a.tmps[70]? = some (.int .i64 k) from (h.val (dep ⟨27, .data⟩ (by simp) rfl) rfl))) (idx_codes _ _ _ _ k _ (by omega)) (hK _ w3 (Below.refl _ _) (fun _ _ => rfl))
          | 29, ho =>
            cases ho
            refine by_w (Eq.trans (wanted_at (b := false) (c := false) rfl rfl (h.val (dep ⟨20, .guard⟩ (by simp) rfl) rfl)) rfl) ?_
            have sw := SW.out w3 h.bel
            exact st_load _ _ _ _ _ rfl (tmpE (show a.tmps[71]? = some (.pointer (some ⟨gc, 0 + k * 1, none⟩)) from (h.val (dep ⟨28, .data⟩ (by simp) rfl) rfl))) (ld_i64 ((congrArg (fun z => w3.cell? ⟨gc, z, none⟩) (by omega)).trans sw.2.2.2.1)) (hK _ w3 (Below.refl _ _) (fun _ _ => rfl))
          | 30, ho =>
            cases ho
            refine by_w (Eq.trans (wanted_at (b := false) (c := false) rfl rfl (h.val (dep ⟨20, .guard⟩ (by simp) rfl) rfl)) rfl) ?_
            exact st_call3 13 72 _ _ _ _ _ rfl (enters_of Try.func13 (by kernel_rfl) rfl) (h.val (dep ⟨29, .data⟩ (by simp) rfl) rfl) (event_ok _ _ _ w3) (fun w4 hb => hK _ w4 hb (fun _ _ => rfl))
          | 31, ho =>
            cases ho
            refine by_w (Eq.trans (wanted_at (b := false) (c := false) rfl rfl (h.val (dep ⟨20, .guard⟩ (by simp) rfl) rfl)) rfl) ?_
            exact st_bin _ _ _ _ _ _ _ _ rfl (tmpE (show a.tmps[68]? = some (.agg #[.int .u8 12, .int .i64 C, .int .i64 1]) from (h.val (dep ⟨25, .data⟩ (by simp) rfl) rfl))) (tmpE (show a.tmps[73]? = some (.agg #[.int .u8 12, .int .i64 C, .int .i64 1]) from (h.val (dep ⟨30, .data⟩ (by simp) rfl) rfl))) (gd_run _ _ _ _ _ _ _ _ _) ((bin_ner _ _ _ _ _ _ _).trans (by rw [q2]; rfl)) (hK _ w3 (Below.refl _ _) (fun _ _ => rfl))
          | 32, ho =>
            cases ho
            refine by_w rfl ?_
            exact st_pick _ _ _ _ _ _ rfl (tmpE (show a.tmps[63]? = some (.bool false) from (h.val (dep ⟨20, .data⟩ (by simp) rfl) rfl))) rfl (tmpE (show a.tmps[74]? = some (.bool false) from (h.val (dep ⟨31, .data⟩ (by simp) rfl) rfl))) (hK _ w3 (Below.refl _ _) (fun _ _ => rfl))
          | 33, ho =>
            cases ho
            refine by_w rfl ?_
            exact st_mv 75 _ rfl (h.val (dep ⟨32, .data⟩ (by simp) rfl) rfl) (hK _ w3 (Below.refl _ _) (fun _ _ => rfl))
          | 34, ho =>
            cases ho
            refine by_w (Eq.trans (wanted_at (b := false) (c := false) rfl rfl (h.val (dep ⟨33, .guard⟩ (by simp) rfl) rfl)) rfl) ?_
            exact st_mv 8 _ rfl k8 (hK _ w3 (Below.refl _ _) (fun _ _ => rfl))
          | 35, ho =>
            cases ho
            refine by_w (Eq.trans (wanted_at (b := false) (c := false) rfl rfl (h.val (dep ⟨33, .guard⟩ (by simp) rfl) rfl)) rfl) ?_
            exact st_call 14 77 _ _ _ rfl (enters_of Try.func14 (by kernel_rfl) rfl) (h.val (dep ⟨34, .data⟩ (by simp) rfl) rfl) (TO.out w3 h.bel) (fun w4 hb => hK _ w4 hb (fun _ _ => rfl))
          | 36, ho =>
            cases ho
            refine by_w (Eq.trans (wanted_at (b := false) (c := false) rfl rfl (h.val (dep ⟨33, .guard⟩ (by simp) rfl) rfl)) rfl) ?_
            exact st_mv 0 _ rfl k0 (hK _ w3 (Below.refl _ _) (fun _ _ => rfl))
          | 37, ho =>
            cases ho
            refine by_w (Eq.trans (wanted_at (b := false) (c := false) rfl rfl (h.val (dep ⟨33, .guard⟩ (by simp) rfl) rfl)) rfl) ?_
            exact st_mv 7 _ rfl k7 (hK _ w3 (Below.refl _ _) (fun _ _ => rfl))
          | 38, ho =>
            cases ho
            refine by_w (Eq.trans (wanted_at (b := false) (c := false) rfl rfl (h.val (dep ⟨33, .guard⟩ (by simp) rfl) rfl)) rfl) ?_
            exact st_idx _ _ _ _ _ _ rfl (tmpE (show a.tmps[79]? = some (.slice (some ⟨lb, lo, none⟩) n c) from (h.val (dep ⟨36, .data⟩ (by simp) rfl) rfl))) (tmpE (show a.tmps[80]? = some (.int .i64 k) from (h.val (dep ⟨37, .data⟩ (by simp) rfl) rfl))) (idx_skels _ _ _ _ k _ (by omega)) (hK _ w3 (Below.refl _ _) (fun _ _ => rfl))
          | 39, ho =>
            cases ho
            refine by_w (Eq.trans (wanted_at (b := false) (c := false) rfl rfl (h.val (dep ⟨33, .guard⟩ (by simp) rfl) rfl)) rfl) ?_
            have sw := SW.out w3 h.bel
            exact st_load _ _ _ _ _ rfl (tmpE (show a.tmps[81]? = some (.pointer (some ⟨lb, lo + k * 7, none⟩)) from (h.val (dep ⟨38, .data⟩ (by simp) rfl) rfl))) sw.2.2.2.2 (hK _ w3 (Below.refl _ _) (fun _ _ => rfl))
          | 40, ho =>
            cases ho
            refine by_w (Eq.trans (wanted_at (b := false) (c := false) rfl rfl (h.val (dep ⟨33, .guard⟩ (by simp) rfl) rfl)) rfl) ?_
            exact st_call 15 82 _ _ _ rfl (enters_of Try.func15 (by kernel_rfl) rfl) (h.val (dep ⟨39, .data⟩ (by simp) rfl) rfl) (BO.out w3) (fun w4 hb => hK _ w4 hb (fun _ _ => rfl))
          | 41, ho =>
            cases ho
            refine by_w (Eq.trans (wanted_at (b := false) (c := false) rfl rfl (h.val (dep ⟨33, .guard⟩ (by simp) rfl) rfl)) rfl) ?_
            exact st_bin _ _ _ _ _ _ _ _ rfl (tmpE (show a.tmps[78]? = some (.int .i64 T) from (h.val (dep ⟨35, .data⟩ (by simp) rfl) rfl))) (tmpE (show a.tmps[83]? = some (.int .i64 D) from (h.val (dep ⟨40, .data⟩ (by simp) rfl) rfl))) (gd_int _ _ _ _ _ _ _ _) ((bin_gt _ _ _).trans (by rw [td]; rfl)) (hK _ w3 (Below.refl _ _) (fun _ _ => rfl))
          | 42, ho =>
            cases ho
            refine by_w rfl ?_
            exact st_pick _ _ _ _ _ _ rfl (tmpE (show a.tmps[76]? = some (.bool false) from (h.val (dep ⟨33, .data⟩ (by simp) rfl) rfl))) rfl (tmpE (show a.tmps[84]? = some (.bool false) from (h.val (dep ⟨41, .data⟩ (by simp) rfl) rfl))) (hK _ w3 (Below.refl _ _) (fun _ _ => rfl))
          | 43, ho =>
            cases ho
            refine by_w rfl ?_
            exact st_mv 85 _ rfl (h.val (dep ⟨42, .data⟩ (by simp) rfl) rfl) (hK _ w3 (Below.refl _ _) (fun _ _ => rfl))
          | 44, ho =>
            cases ho
            refine by_w (Eq.trans (wanted_at (b := false) (c := false) rfl rfl (h.val (dep ⟨43, .guard⟩ (by simp) rfl) rfl)) rfl) ?_
            exact st_mv 5 _ rfl k5 (hK _ w3 (Below.refl _ _) (fun _ _ => rfl))
          | 45, ho =>
            cases ho
            refine by_w (Eq.trans (wanted_at (b := false) (c := false) rfl rfl (h.val (dep ⟨43, .guard⟩ (by simp) rfl) rfl)) rfl) ?_
            exact st_mv 7 _ rfl k7 (hK _ w3 (Below.refl _ _) (fun _ _ => rfl))
          | 46, ho =>
            cases ho
            refine by_w (Eq.trans (wanted_at (b := false) (c := false) rfl rfl (h.val (dep ⟨43, .guard⟩ (by simp) rfl) rfl)) rfl) ?_
            exact st_idx _ _ _ _ _ _ rfl (tmpE (show a.tmps[87]? = some (.slice (some ⟨gc, 0, none⟩) n n) from (h.val (dep ⟨44, .data⟩ (by simp) rfl) rfl))) (tmpE (show a.tmps[88]? = some (.int .i64 k) from (h.val (dep ⟨45, .data⟩ (by simp) rfl) rfl))) (idx_codes _ _ _ _ k _ (by omega)) (hK _ w3 (Below.refl _ _) (fun _ _ => rfl))
          | 47, ho =>
            cases ho
            refine by_w (Eq.trans (wanted_at (b := false) (c := false) rfl rfl (h.val (dep ⟨43, .guard⟩ (by simp) rfl) rfl)) rfl) ?_
            have sw := SW.out w3 h.bel
            exact st_load _ _ _ _ _ rfl (tmpE (show a.tmps[89]? = some (.pointer (some ⟨gc, 0 + k * 1, none⟩)) from (h.val (dep ⟨46, .data⟩ (by simp) rfl) rfl))) (ld_i64 ((congrArg (fun z => w3.cell? ⟨gc, z, none⟩) (by omega)).trans sw.2.2.2.1)) (hK _ w3 (Below.refl _ _) (fun _ _ => rfl))
          | 48, ho =>
            cases ho
            refine by_w (Eq.trans (wanted_at (b := false) (c := false) rfl rfl (h.val (dep ⟨43, .guard⟩ (by simp) rfl) rfl)) rfl) ?_
            exact st_bin _ _ _ _ _ _ _ _ rfl (tmpE (show a.tmps[90]? = some (.int .i64 C) from (h.val (dep ⟨47, .data⟩ (by simp) rfl) rfl))) rfl (gd_int _ _ _ _ _ _ _ _) ((bin_nec _ _ _).trans (by rw [cq]; rfl)) (hK _ w3 (Below.refl _ _) (fun _ _ => rfl))
          | 49, ho =>
            cases ho
            refine by_w (Eq.trans (wanted_at (b := false) (c := false) rfl rfl (h.val (dep ⟨43, .guard⟩ (by simp) rfl) rfl)) rfl) ?_
            exact st_mv 91 _ rfl (h.val (dep ⟨48, .data⟩ (by simp) rfl) rfl) (hK _ w3 (Below.refl _ _) (fun _ _ => rfl))
          | 50, ho =>
            cases ho
            by_cases hq : q = true
            · refine by_w (Eq.trans (wanted_at (b := q) (c := true) rfl rfl (h.val (dep ⟨49, .guard⟩ (by simp) rfl) rfl)) (by rw [hq]; rfl)) ?_
              exact st_mv 9 _ rfl k9 (hK _ w3 (Below.refl _ _) (fun _ _ => by rw [hq]; rfl))
            · have hq2 : q = false := by simpa using hq
              refine by_g (wanted_at (b := q) (c := true) rfl rfl (h.val (dep ⟨49, .guard⟩ (by simp) rfl) rfl)) (by rw [hq2]; rfl) ?_
              exact hK _ w3 (Below.refl _ _) (fun _ _ => by rw [hq2]; rfl)
          | 51, ho =>
            cases ho
            by_cases hq : q = true
            · refine by_w (Eq.trans (wanted_at (b := q) (c := true) rfl rfl (h.val (dep ⟨49, .guard⟩ (by simp) rfl) rfl)) (by rw [hq]; rfl)) ?_
              exact st_bin _ _ _ _ _ _ _ _ rfl (tmpE (show a.tmps[93]? = some (.int .i64 p) from ((h.val (dep ⟨50, .data⟩ (by simp) rfl) rfl)).trans (by rw [hq] <;> rfl))) rfl (gd_int _ _ _ _ _ _ _ _) ((bin_ne _ _ _).trans (by rw [pq hq] <;> rfl)) (hK _ w3 (Below.refl _ _) (fun _ _ => by rw [hq]; rfl))
            · have hq2 : q = false := by simpa using hq
              refine by_g (wanted_at (b := q) (c := true) rfl rfl (h.val (dep ⟨49, .guard⟩ (by simp) rfl) rfl)) (by rw [hq2]; rfl) ?_
              exact hK _ w3 (Below.refl _ _) (fun _ _ => by rw [hq2]; rfl)
          | 52, ho =>
            cases ho
            refine by_w (Eq.trans (wanted_at (b := false) (c := false) rfl rfl (h.val (dep ⟨43, .guard⟩ (by simp) rfl) rfl)) rfl) ?_
            exact st_pick _ _ _ _ _ _ rfl (tmpE (show a.tmps[92]? = some (.bool q) from (h.val (dep ⟨49, .data⟩ (by simp) rfl) rfl))) (tmpE (show a.tmps[94]? = some (if q then .bool false else undef) from (h.val (dep ⟨51, .data⟩ (by simp) rfl) rfl))) rfl (hK _ w3 (Below.refl _ _) (fun _ _ => by cases q <;> rfl))
          | 53, ho =>
            cases ho
            refine by_w rfl ?_
            exact st_pick _ _ _ _ _ _ rfl (tmpE (show a.tmps[86]? = some (.bool false) from (h.val (dep ⟨43, .data⟩ (by simp) rfl) rfl))) rfl (tmpE (show a.tmps[95]? = some (.bool false) from (h.val (dep ⟨52, .data⟩ (by simp) rfl) rfl))) (hK _ w3 (Below.refl _ _) (fun _ _ => rfl))
          | x + 54, ho => simp at ho
        · intro listed a w3 h all
          have h96 : a.tmps[96]? = some (.bool false) := h.val (all 53 (by decide)) rfl
          have ea := h.act all 43 54 (by kernel_rfl) (by kernel_rfl) (of_decide_eq_true (by kernel_rfl))
          have bl := h.bel
          clear h all h96
          subst ea
          simp only [List.take_succ_cons, List.take_zero, List.drop_succ_cons, List.drop_zero, List.range, List.range.loop, List.map_cons, List.map_nil, List.cons_append, List.nil_append, bv]
          have N := hid bl
          go_wp2_with (go_at_call 16; go_must (refine (JN.out _ N.out).mono ?_; rintro e V5 ⟨va, rfl, hva, hb⟩; have HV := hid hva; have N9 := hid (below_next N.out hb); clear hva hb))
          go_roundw
          case rel => exact ⟨k + 1, by omega, by go_num, HV.out, below_next HB.out N9.out⟩
          case measure => simp [RowKit.intOf]; omega
      · have e : k = n := by omega
        subst e
        have RN := runs_ok _ k f wr (H.out.below (below_next B3.out HB.out)) HS.out (by omega)
        have jl := jn_rm f k (by omega)
        obtain ⟨A, hA⟩ : ∃ A, jn [] (rws P00 (lf f k)) = A := ⟨_, rfl⟩
        rw [hA] at RN jl
        have HA' : Hid (RB wr u6 A) := by have := HA.out; rw [hA] at this; exact this
        have JL : Hid (A.length < 1000000000000000000) := by have := jl.2.1; show _ < _; omega
        clear jl hA HA
        go_wp2_with fail
        refine RN.mono ?_
        rintro e W4 ⟨vr, rfl, hor, b4⟩
        have VR := hid hor.reads
        have VA := hid (HA'.out.below b4)
        have B4 := hid (below_next B3.out (below_next HB.out b4))
        clear RN hor b4
        go_wp2_with fail
        refine (same14 _ _ A A W4 VA.out VR.out JL.out JL.out).mono ?_
        rw [decide_eq_true rfl]
        rintro e W5 ⟨rfl, d, rfl⟩
        go_wp2
        go_ret
        exact ⟨rfl, below_drew' B4.out d⟩
end Go.Proofs.Ytdmacflcjbkkpaa.Co
