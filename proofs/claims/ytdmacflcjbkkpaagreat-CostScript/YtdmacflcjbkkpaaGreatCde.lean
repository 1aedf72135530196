/- What a key put, a clone, a derivation, a drop make. -/
import Derived.Test.YtdmacflcjbkkpaaGreatCdu
namespace Go.Proofs.YtdmacflcjbkkpaaGreat.Co
open Go.ChangeShapes Go.WideShapes Go.ChangeAt Go.RowKit
open Go.Proofs.YtdmacflcjbkkpaaGreat (putL)
open Go.Proofs.YtdmacflcjbkkpaaGreat.Ou (Sk sv sL LDk SVk LDk_run SVk_run)
open Go.Proofs.YtdmacflcjbkkpaaGreat.Tb (Blk Blk.newAt put_all Kp.setCells results_cell1 results_cell2)
set_option maxRecDepth 8000 in
set_option maxHeartbeats 1600000 in
theorem put_k (p gm gk : Nat) (P : St) (s : Sk) (lo : Lo) (L : List Rn) (f : Nat) (hf : fre P = some f) (w : World) (hp : PU w p gm gk P) (hl : LdO w lo L) (ha : Apo lo p gm gk) (hs : Sk.Fit s) :
    Calls Tryz.prog 45 #[.pointer (some ⟨p, 0, none⟩), lpo lo, sv s] w fun e w' => e = .returned (.tuple #[]) ∧ ∃ lo', CT w w' p gm gk (upS P f (some ⟨s.d, 0, 0, 0, 0⟩)) lo lo' L := by
  obtain ⟨sk, sh, sa, sc, so, sd, sm⟩ := s
  obtain ⟨W, hW⟩ : ∃ W, w.alloc (.cells #[.int .u8 sk, .int .i64 sh, .int .u8 sa, .int .i64 sc, .int .i64 so, .int .i64 sd, .int .i64 sm] 40) = W := ⟨_, rfl⟩
  have BW : Hid (Below w.heap.size w W) := by rw [← hW]; exact below_alloc _ _
  have KB : Hid (Blk W w.heap.size [.int .u8 sk, .int .i64 sh, .int .u8 sa, .int .i64 sc, .int .i64 so, .int .i64 sd, .int .i64 sm] 40) := by rw [← hW]; exact Blk.newAt w _ _ _ w.heap.size rfl rfl
  have HP := hid (hp.below BW.out)
  have HL := hid (hl.below BW.out)
  have HA := hid ha
  have GL := hid hp.lt
  have LL : Hid (∀ j, blo lo j → j < w.heap.size) := hl.lt
  have CK := hid (take_ok p gm gk P ⟨sd, 0, 0, 0, 0⟩ f hf W HP.out)
  have x5 := KB.out.cell 5 _ rfl
  clear hp hl ha hs
  go_enter Tryz.func45, Tryz.ntmps45
  go_wp2_with fail
  clear hW
  refine CK.out.mono ?_
  rintro e W4 ⟨rfl, p4, k4⟩
  have C4 := hid (CT.after BW.out (CT.map HL.out HA.out p4 k4))
  clear p4 k4
  go_wp2
  go_end0
  exact ⟨rfl, lo, C4.out⟩
set_option maxRecDepth 8000 in
set_option maxHeartbeats 1600000 in
theorem nothing_k (p gm gk : Nat) (P : St) (s : Sk) (lo : Lo) (L : List Rn)  (w : World) (hp : PU w p gm gk P) (hl : LdO w lo L) (ha : Apo lo p gm gk) (hs : Sk.Fit s) :
    Calls Tryz.prog 43 #[.pointer (some ⟨p, 0, none⟩), lpo lo, sv s] w fun e w' => e = .returned (.tuple #[]) ∧ ∃ lo', CT w w' p gm gk P lo lo' L := by
  obtain ⟨sk, sh, sa, sc, so, sd, sm⟩ := s
  obtain ⟨W, hW⟩ : ∃ W, w.alloc (.cells #[.int .u8 sk, .int .i64 sh, .int .u8 sa, .int .i64 sc, .int .i64 so, .int .i64 sd, .int .i64 sm] 40) = W := ⟨_, rfl⟩
  have BW : Hid (Below w.heap.size w W) := by rw [← hW]; exact below_alloc _ _
  have KB : Hid (Blk W w.heap.size [.int .u8 sk, .int .i64 sh, .int .u8 sa, .int .i64 sc, .int .i64 so, .int .i64 sd, .int .i64 sm] 40) := by rw [← hW]; exact Blk.newAt w _ _ _ w.heap.size rfl rfl
  have HP := hid (hp.below BW.out)
  have HL := hid (hl.below BW.out)
  have HA := hid ha
  have GL := hid hp.lt
  have LL : Hid (∀ j, blo lo j → j < w.heap.size) := hl.lt
  have C4 := hid (CT.after BW.out (CT.refl HP.out HL.out))
  clear hp hl ha hs
  go_enter Tryz.func43, Tryz.ntmps43
  go_wp2
  go_end0
  exact ⟨rfl, lo, C4.out⟩
set_option maxRecDepth 8000 in
set_option maxHeartbeats 1600000 in
theorem drop_k (p gm gk : Nat) (P : St) (s : Sk) (lo : Lo) (L : List Rn) (y : He) (hy : hat P s.h = some y) (hm : Rm L 1) (w : World) (hp : PU w p gm gk P) (hl : LdO w lo L) (ha : Apo lo p gm gk) (hs : Sk.Fit s) :
    Calls Tryz.prog 62 #[.pointer (some ⟨p, 0, none⟩), lpo lo, sv s] w fun e w' => e = .returned (.tuple #[]) ∧ ∃ lo', CT w w' p gm gk (upS P s.h.toNat none) lo lo' (putL L ⟨8, 1024, 1⟩) := by
  obtain ⟨sk, sh, sa, sc, so, sd, sm⟩ := s
  obtain ⟨i, rfl⟩ : ∃ i : Nat, sh = i := ⟨sh.toNat, by have := (hat_of hy).1; have : 0 ≤ sh := this; omega⟩
  have bh : 0 ≤ (i : Int) ∧ (i : Int) < 64 := ⟨(hat_of hy).1, (hat_of hy).2.1⟩
  obtain ⟨W, hW⟩ : ∃ W, w.alloc (.cells #[.int .u8 sk, .int .i64 i, .int .u8 sa, .int .i64 sc, .int .i64 so, .int .i64 sd, .int .i64 sm] 40) = W := ⟨_, rfl⟩
  have BW : Hid (Below w.heap.size w W) := by rw [← hW]; exact below_alloc _ _
  have KB : Hid (Blk W w.heap.size [.int .u8 sk, .int .i64 i, .int .u8 sa, .int .i64 sc, .int .i64 so, .int .i64 sd, .int .i64 sm] 40) := by rw [← hW]; exact Blk.newAt w _ _ _ w.heap.size rfl rfl
  have HP := hid (hp.below BW.out)
  have HL := hid (hl.below BW.out)
  have HA := hid ha
  have GL := hid hp.lt
  have LL : Hid (∀ j, blo lo j → j < w.heap.size) := hl.lt
  have CFr := hid (free_ok p gm gk P i (by omega) lo L W HP.out HL.out ha hm)
  have x1 := KB.out.cell 1 _ rfl
  clear hp hl ha hs hy
  go_enter Tryz.func62, Tryz.ntmps62
  go_wp2_with fail
  clear hW
  refine CFr.out.mono ?_
  rintro e W4 ⟨rfl, l4, c4⟩
  have C4 := hid (CT.after BW.out c4)
  clear c4
  go_wp2
  go_end0
  exact ⟨rfl, l4, C4.out⟩
set_option maxRecDepth 8000 in
set_option maxHeartbeats 1600000 in
theorem clone_k (p gm gk : Nat) (P : St) (s : Sk) (lo : Lo) (L : List Rn) (y : He) (f : Nat) (hy : hat P s.h = some y) (hf : fre P = some f) (w : World) (hp : PU w p gm gk P) (hl : LdO w lo L) (ha : Apo lo p gm gk) (hs : Sk.Fit s) :
    Calls Tryz.prog 55 #[.pointer (some ⟨p, 0, none⟩), lpo lo, sv s] w fun e w' => e = .returned (.tuple #[]) ∧ ∃ lo', CT w w' p gm gk (upS P f (some y)) lo lo' L := by
  obtain ⟨sk, sh, sa, sc, so, sd, sm⟩ := s
  obtain ⟨yk, ya, yo, yc, ym⟩ := y
  obtain ⟨i, rfl⟩ : ∃ i : Nat, sh = i := ⟨sh.toNat, by have := (hat_of hy).1; have : 0 ≤ sh := this; omega⟩
  have bh : 0 ≤ (i : Int) ∧ (i : Int) < 64 := ⟨(hat_of hy).1, (hat_of hy).2.1⟩
  obtain ⟨W, hW⟩ : ∃ W, w.alloc (.cells #[.int .u8 sk, .int .i64 i, .int .u8 sa, .int .i64 sc, .int .i64 so, .int .i64 sd, .int .i64 sm] 40) = W := ⟨_, rfl⟩
  have BW : Hid (Below w.heap.size w W) := by rw [← hW]; exact below_alloc _ _
  have KB : Hid (Blk W w.heap.size [.int .u8 sk, .int .i64 i, .int .u8 sa, .int .i64 sc, .int .i64 so, .int .i64 sd, .int .i64 sm] 40) := by rw [← hW]; exact Blk.newAt w _ _ _ w.heap.size rfl rfl
  have HP := hid (hp.below BW.out)
  have HL := hid (hl.below BW.out)
  have HA := hid ha
  have GL := hid hp.lt
  have LL : Hid (∀ j, blo lo j → j < w.heap.size) := hl.lt
  have LKf : ∀ V, PU V p gm gk P → (LK (.map (some gm)) (.int .i64 i) false).run Tryz.prog V = .ok (.agg #[.int .u8 ya, .int .i64 yo, .int .i64 yk, .int .i64 yc, .int .i64 ym]) V := fun V hV => by
    have := hV.look (x := (i : Int)) (by omega) false
    rw [hy] at this
    exact this
  have SW : Hid (∀ U V, Below W.heap.size W U → Kp (blo lo) U V → V.cell? ⟨p, 0, none⟩ = some (.map (some gm)) ∧ V.cell? ⟨w.heap.size, 1, none⟩ = some (.int .i64 i) ∧ (LK (.map (some gm)) (.int .i64 i) false).run Tryz.prog V = .ok (.agg #[.int .u8 ya, .int .i64 yo, .int .i64 yk, .int .i64 yc, .int .i64 ym]) V) := fun U V hU hk => by
    have pv := (HP.out.below hU).kept hk (fun e => (HA.out _ e).1 rfl) (fun e => (HA.out _ e).2.1 rfl) (fun e => (HA.out _ e).2.2 rfl)
    have kv := (KB.out.below hU).kept hk (fun e => by have := LL.out _ e; omega)
    exact ⟨pv.c0, kv.cell 1 _ rfl, LKf V pv⟩
  have D1 : Hid (Below W.heap.size W W.drew) := hid (below_drewN W 1)
  have CK := hid (take_ok p gm gk P ⟨yk, ya, yo, yc, ym⟩ f hf W.drew (HP.out.below D1.out))
  have hne : (i : Int) ≠ (f : Int) := fun e => by
    have e2 : i = f := by omega
    subst e2
    have h1 := (fre_inv hf).2.1
    have h2 : hat P (i : Int) = some ⟨yk, ya, yo, yc, ym⟩ := hy
    rw [hat_nat P (by omega), h1] at h2
    cases h2
  have HN : Hid (hat (upS P f (some ⟨yk, ya, yo, yc, ym⟩)) (i : Int) = some ⟨yk, ya, yo, yc, ym⟩) := hid (by rw [hat_up P (fre_inv hf).1, if_neg hne]; exact hy)
  obtain ⟨x0, x1, x2⟩ := SW.out W.drew W.drew D1.out (Kp.refl _ _)
  clear hp hl ha hs hy LKf hne
  go_enter Tryz.func55, Tryz.ntmps55
  go_wp2_with fail
  clear hW
  go_region_held3 (fun V => V.cell? ⟨p, 0, none⟩ = some (.map (some gm)) ∧ V.cell? ⟨w.heap.size, 1, none⟩ = some (.int .i64 i) ∧ (LK (.map (some gm)) (.int .i64 i) false).run Tryz.prog V = .ok (.agg #[.int .u8 ya, .int .i64 yo, .int .i64 yk, .int .i64 yc, .int .i64 ym]) V) (go_keep) (first
    | (go_at_call 80; with_reducible refine CK.out.mono ?_; rintro e W4 ⟨rfl, p4, k4⟩; have C4 := hid (CT.after (below_next BW.out D1.out) (CT.map (HL.out.below D1.out) HA.out p4 k4)); have y0 := p4.c0; have y1 := ((KB.out.below D1.out).kept k4 (fun e => by have e : w.heap.size = gm := e; have := GL.out; omega)).cell 1 _ rfl; have y2 := p4.look (x := (i : Int)) (by omega) false; rw [HN.out] at y2; clear p4 k4))
  go_wp2
  go_end0
  exact ⟨rfl, lo, C4.out⟩
set_option maxRecDepth 8000 in
set_option maxHeartbeats 1600000 in
theorem hkdf_1 (p gm gk : Nat) (P : St) (s : Sk) (lo : Lo) (L : List Rn) (y : He) (f : Nat) (hy : hat P s.h = some y) (hf : fre P = some f) (hk : s.a = 1) (ho : 0 ≤ y.key ∧ y.key ≤ 512) (hd : 0 ≤ s.d ∧ s.d ≤ 65536) (hmm : 0 ≤ s.m ∧ s.m ≤ 65536) (hoo : 1 ≤ s.o ∧ s.o ≤ 512) (hm : Rm L 1) (w : World) (hp : PU w p gm gk P) (hl : LdO w lo L) (ha : Apo lo p gm gk) (hs : Sk.Fit s) :
    Calls Tryz.prog 57 #[.pointer (some ⟨p, 0, none⟩), lpo lo, sv s] w fun e w' => e = .returned (.tuple #[]) ∧ ∃ lo', CT w w' p gm gk (upS P f (some ⟨s.o, 0, 0, 0, 0⟩)) lo lo' (putL L ⟨1, 64, hkd 1 y.key s.d s.m s.o⟩) := by
  obtain ⟨sk, sh, sa, sc, so, sd, sm⟩ := s
  obtain ⟨yk, ya, yo, yc, ym⟩ := y
  obtain ⟨i, rfl⟩ : ∃ i : Nat, sh = i := ⟨sh.toNat, by have := (hat_of hy).1; have : 0 ≤ sh := this; omega⟩
  have bh : 0 ≤ (i : Int) ∧ (i : Int) < 64 := ⟨(hat_of hy).1, (hat_of hy).2.1⟩
  obtain rfl : sa = 1 := hk
  have hd : 0 ≤ sd ∧ sd ≤ 65536 := hd
  have hmm : 0 ≤ sm ∧ sm ≤ 65536 := hmm
  have hoo : 1 ≤ so ∧ so ≤ 512 := hoo
  have ho : 0 ≤ yk ∧ yk ≤ 512 := ho
  have CX := hid (hkdf1_ok (k := yk) (s := sd) (m := sm) (o := so) (by omega) (by omega) (by omega) (by omega))
  have hkb : 0 ≤ hkd 1 yk sd sm so ∧ hkd 1 yk sd sm so ≤ 100000000 := by
    have b1 := hkd_b (a := 1) (key := yk) (salt := sd) (info := sm) (out := so) (by decide) (by omega) (by omega) (by omega) (by omega)
    have b2 : (so / 32 + 1) * (sm / 64 + 6) ≤ 17 * 1100 := Int.mul_le_mul (by omega) (by omega) (by omega) (by omega)
    omega
  show Calls _ _ _ _ fun e w' => e = .returned (.tuple #[]) ∧ ∃ lo', CT w w' p gm gk (upS P f (some ⟨so, 0, 0, 0, 0⟩)) lo lo' (putL L ⟨1, 64, hkd 1 yk sd sm so⟩)
  obtain ⟨x, hx⟩ : ∃ x, hkd 1 yk sd sm so = x := ⟨_, rfl⟩
  rw [hx] at CX hkb ⊢
  clear hx
  obtain ⟨W, hW⟩ : ∃ W, w.alloc (.cells #[.int .u8 sk, .int .i64 i, .int .u8 1, .int .i64 sc, .int .i64 so, .int .i64 sd, .int .i64 sm] 40) = W := ⟨_, rfl⟩
  have BW : Hid (Below w.heap.size w W) := by rw [← hW]; exact below_alloc _ _
  have KB : Hid (Blk W w.heap.size [.int .u8 sk, .int .i64 i, .int .u8 1, .int .i64 sc, .int .i64 so, .int .i64 sd, .int .i64 sm] 40) := by rw [← hW]; exact Blk.newAt w _ _ _ w.heap.size rfl rfl
  have HP := hid (hp.below BW.out)
  have HL := hid (hl.below BW.out)
  have HA := hid ha
  have GL := hid hp.lt
  have LL : Hid (∀ j, blo lo j → j < w.heap.size) := hl.lt
  have LKf : ∀ V, PU V p gm gk P → (LK (.map (some gm)) (.int .i64 i) false).run Tryz.prog V = .ok (.agg #[.int .u8 ya, .int .i64 yo, .int .i64 yk, .int .i64 yc, .int .i64 ym]) V := fun V hV => by
    have := hV.look (x := (i : Int)) (by omega) false
    rw [hy] at this
    exact this
  have SW : Hid (∀ U V, Below W.heap.size W U → Kp (blo lo) U V → V.cell? ⟨p, 0, none⟩ = some (.map (some gm)) ∧ V.cell? ⟨w.heap.size, 1, none⟩ = some (.int .i64 i) ∧ V.cell? ⟨w.heap.size, 2, none⟩ = some (.int .u8 1) ∧ V.cell? ⟨w.heap.size, 4, none⟩ = some (.int .i64 so) ∧ V.cell? ⟨w.heap.size, 5, none⟩ = some (.int .i64 sd) ∧ V.cell? ⟨w.heap.size, 6, none⟩ = some (.int .i64 sm) ∧ (LK (.map (some gm)) (.int .i64 i) false).run Tryz.prog V = .ok (.agg #[.int .u8 ya, .int .i64 yo, .int .i64 yk, .int .i64 yc, .int .i64 ym]) V) := fun U V hU hk => by
    have pv := (HP.out.below hU).kept hk (fun e => (HA.out _ e).1 rfl) (fun e => (HA.out _ e).2.1 rfl) (fun e => (HA.out _ e).2.2 rfl)
    have kv := (KB.out.below hU).kept hk (fun e => by have := LL.out _ e; omega)
    exact ⟨pv.c0, kv.cell 1 _ rfl, kv.cell 2 _ rfl, kv.cell 4 _ rfl, kv.cell 5 _ rfl, kv.cell 6 _ rfl, LKf V pv⟩
  have HRM := hid hm
  have HF := hid hf
  have HKB := hid hkb
  have HPW := hid hp
  obtain ⟨x0, x1, x2, x3, x4, x5, x6⟩ := SW.out W W (Below.refl _ _) (Kp.refl _ _)
  clear hp hl ha hs hy LKf hm hf hkb
  go_enter Tryz.func57, Tryz.ntmps57
  go_wp2_with fail
  clear hW
  refine (hashOf1_ok _).mono ?_
  rintro e W1 ⟨rfl, hb⟩
  have N1 := hid hb
  obtain ⟨U, hU⟩ : ∃ U, W1.alloc (.cells #[.int .i64 0, .int .i64 0, .int .u8 0, .int .i64 0] 119) = U := ⟨_, rfl⟩
  have NU : Hid (Below W1.heap.size W1 U) := by rw [← hU]; exact below_alloc _ _
  have ku : Blk U W1.heap.size [.int .i64 0, .int .i64 0, .int .u8 0, .int .i64 0] 119 := by rw [← hU]; exact Blk.newAt W1 _ _ _ W1.heap.size rfl rfl
  obtain ⟨V, s1, kv, hkv⟩ := SVh_run 32 64 1 64 ku rfl
  have KV := hid kv
  have NV : Hid (Below W.heap.size W V) := hid (below_next N1.out (NU.out.trans (hkv.below NU.out.size (fun k h e => by omega))))
  have ND : Hid (Below W.heap.size W V.drew) := hid (below_next NV.out (below_drewN V 1))
  have DV : Hid (Below V.heap.size V V.drew) := hid (below_drewN V 1)
  have SS : Hid (∀ U2 V2, Below V.heap.size V U2 → Kp (blo lo) U2 V2 → (LDe ⟨W1.heap.size, 2, none⟩).run Tryz.prog V2 = .ok (.agg #[.int .u8 1, .int .i64 64]) V2 ∧ (LDh ⟨W1.heap.size, 0, none⟩).run Tryz.prog V2 = .ok (.agg #[.int .i64 32, .int .i64 64, .int .u8 1, .int .i64 64]) V2) := fun U2 V2 hU2 hk2 => by
    have kg := (KV.out.below hU2).kept hk2 (fun e => by have := LL.out _ e; have := BW.out.size; have := N1.out.size; omega)
    exact ⟨LDe_at (kg.range 2 _ (fun j v hj => by
      match j, hj with
      | 0, hj => exact hj
      | 1, hj => exact hj
      | j + 2, hj => simp at hj)), LDh_run kg⟩
  obtain ⟨e0, e1⟩ := SS.out V.drew V.drew DV.out (Kp.refl _ _)
  obtain ⟨y0, y1, y2, y3, y4, y5, y6⟩ := SW.out V.drew V.drew ND.out (Kp.refl _ _)
  have NT : Hid (∀ V2, Below W.heap.size W V2 → Calls Tryz.prog 85 #[lpo lo, .agg #[.int .u8 1, .int .i64 64], .int .i64 x] V2 fun e w' => e = .returned (.tuple #[]) ∧ ∃ lo', LT V2 w' lo lo' (putL L ⟨1, 64, x⟩)) := fun V2 hV => noteTimes_o lo L 1 64 x V2 (HL.out.below hV) (by omega) (by have := HKB.out; omega) HRM.out
  clear ku kv hkv hb x0 x1 x2 x3 x4 x5 x6
  go_wp2_with fail
  clear hU
  go_region_held3 (fun V => (LDe ⟨W1.heap.size, 2, none⟩).run Tryz.prog V = .ok (.agg #[.int .u8 1, .int .i64 64]) V ∧ (LDh ⟨W1.heap.size, 0, none⟩).run Tryz.prog V = .ok (.agg #[.int .i64 32, .int .i64 64, .int .u8 1, .int .i64 64]) V ∧ V.cell? ⟨p, 0, none⟩ = some (.map (some gm)) ∧ V.cell? ⟨w.heap.size, 1, none⟩ = some (.int .i64 i) ∧ V.cell? ⟨w.heap.size, 2, none⟩ = some (.int .u8 1) ∧ V.cell? ⟨w.heap.size, 4, none⟩ = some (.int .i64 so) ∧ V.cell? ⟨w.heap.size, 5, none⟩ = some (.int .i64 sd) ∧ V.cell? ⟨w.heap.size, 6, none⟩ = some (.int .i64 sm) ∧ (LK (.map (some gm)) (.int .i64 i) false).run Tryz.prog V = .ok (.agg #[.int .u8 ya, .int .i64 yo, .int .i64 yk, .int .i64 yc, .int .i64 ym]) V) (go_keep) (first
    | (go_at_call 86; with_reducible refine (CX.out _).mono ?_; rintro e W2 ⟨rfl, hb⟩; have N2 : Hid (Below V.heap.size V W2) := hid (below_next DV.out hb); have M2 : Hid (Below W.heap.size W W2) := hid (below_next NV.out N2.out); obtain ⟨f0, f1⟩ := SS.out W2 W2 N2.out (Kp.refl _ _); obtain ⟨z0, z1, z2, z3, z4, z5, z6⟩ := SW.out W2 W2 M2.out (Kp.refl _ _); clear hb)
    | (go_at_call 85; with_reducible refine (NT.out _ M2.out).mono ?_; rintro e W3 ⟨rfl, l3, t3⟩; have T3 := hid t3; obtain ⟨g0, g1⟩ := SS.out W2 W3 N2.out t3.kp; obtain ⟨r0, r1, r2, r3, r4, r5, r6⟩ := SW.out W2 W3 M2.out t3.kp; clear t3))
  have C3 := hid (CT.after (below_next BW.out M2.out) (CT.note (HP.out.below M2.out) HA.out T3.out))
  have CK := hid (take_ok p gm gk P ⟨so, 0, 0, 0, 0⟩ f HF.out W3 C3.out.pu)
  go_wp2_with fail
  refine CK.out.mono ?_
  rintro e W4 ⟨rfl, p4, k4⟩
  have C4 := hid (C3.out.trans (CT.map C3.out.led (C3.out.apo HPW.out HA.out) p4 k4))
  clear p4 k4
  go_wp2
  go_end0
  exact ⟨rfl, l3, C4.out⟩
set_option maxRecDepth 8000 in
set_option maxHeartbeats 1600000 in
theorem hkdf_2 (p gm gk : Nat) (P : St) (s : Sk) (lo : Lo) (L : List Rn) (y : He) (f : Nat) (hy : hat P s.h = some y) (hf : fre P = some f) (hk : s.a = 2) (ho : 0 ≤ y.key ∧ y.key ≤ 512) (hd : 0 ≤ s.d ∧ s.d ≤ 65536) (hmm : 0 ≤ s.m ∧ s.m ≤ 65536) (hoo : 1 ≤ s.o ∧ s.o ≤ 512) (hm : Rm L 1) (w : World) (hp : PU w p gm gk P) (hl : LdO w lo L) (ha : Apo lo p gm gk) (hs : Sk.Fit s) :
    Calls Tryz.prog 57 #[.pointer (some ⟨p, 0, none⟩), lpo lo, sv s] w fun e w' => e = .returned (.tuple #[]) ∧ ∃ lo', CT w w' p gm gk (upS P f (some ⟨s.o, 0, 0, 0, 0⟩)) lo lo' (putL L ⟨2, 128, hkd 2 y.key s.d s.m s.o⟩) := by
  obtain ⟨sk, sh, sa, sc, so, sd, sm⟩ := s
  obtain ⟨yk, ya, yo, yc, ym⟩ := y
  obtain ⟨i, rfl⟩ : ∃ i : Nat, sh = i := ⟨sh.toNat, by have := (hat_of hy).1; have : 0 ≤ sh := this; omega⟩
  have bh : 0 ≤ (i : Int) ∧ (i : Int) < 64 := ⟨(hat_of hy).1, (hat_of hy).2.1⟩
  obtain rfl : sa = 2 := hk
  have hd : 0 ≤ sd ∧ sd ≤ 65536 := hd
  have hmm : 0 ≤ sm ∧ sm ≤ 65536 := hmm
  have hoo : 1 ≤ so ∧ so ≤ 512 := hoo
  have ho : 0 ≤ yk ∧ yk ≤ 512 := ho
  have CX := hid (hkdf2_ok (k := yk) (s := sd) (m := sm) (o := so) (by omega) (by omega) (by omega) (by omega))
  have hkb : 0 ≤ hkd 2 yk sd sm so ∧ hkd 2 yk sd sm so ≤ 100000000 := by
    have b1 := hkd_b (a := 2) (key := yk) (salt := sd) (info := sm) (out := so) (by decide) (by omega) (by omega) (by omega) (by omega)
    have b2 : (so / 32 + 1) * (sm / 64 + 6) ≤ 17 * 1100 := Int.mul_le_mul (by omega) (by omega) (by omega) (by omega)
    omega
  show Calls _ _ _ _ fun e w' => e = .returned (.tuple #[]) ∧ ∃ lo', CT w w' p gm gk (upS P f (some ⟨so, 0, 0, 0, 0⟩)) lo lo' (putL L ⟨2, 128, hkd 2 yk sd sm so⟩)
  obtain ⟨x, hx⟩ : ∃ x, hkd 2 yk sd sm so = x := ⟨_, rfl⟩
  rw [hx] at CX hkb ⊢
  clear hx
  obtain ⟨W, hW⟩ : ∃ W, w.alloc (.cells #[.int .u8 sk, .int .i64 i, .int .u8 2, .int .i64 sc, .int .i64 so, .int .i64 sd, .int .i64 sm] 40) = W := ⟨_, rfl⟩
  have BW : Hid (Below w.heap.size w W) := by rw [← hW]; exact below_alloc _ _
  have KB : Hid (Blk W w.heap.size [.int .u8 sk, .int .i64 i, .int .u8 2, .int .i64 sc, .int .i64 so, .int .i64 sd, .int .i64 sm] 40) := by rw [← hW]; exact Blk.newAt w _ _ _ w.heap.size rfl rfl
  have HP := hid (hp.below BW.out)
  have HL := hid (hl.below BW.out)
  have HA := hid ha
  have GL := hid hp.lt
  have LL : Hid (∀ j, blo lo j → j < w.heap.size) := hl.lt
  have LKf : ∀ V, PU V p gm gk P → (LK (.map (some gm)) (.int .i64 i) false).run Tryz.prog V = .ok (.agg #[.int .u8 ya, .int .i64 yo, .int .i64 yk, .int .i64 yc, .int .i64 ym]) V := fun V hV => by
    have := hV.look (x := (i : Int)) (by omega) false
    rw [hy] at this
    exact this
  have SW : Hid (∀ U V, Below W.heap.size W U → Kp (blo lo) U V → V.cell? ⟨p, 0, none⟩ = some (.map (some gm)) ∧ V.cell? ⟨w.heap.size, 1, none⟩ = some (.int .i64 i) ∧ V.cell? ⟨w.heap.size, 2, none⟩ = some (.int .u8 2) ∧ V.cell? ⟨w.heap.size, 4, none⟩ = some (.int .i64 so) ∧ V.cell? ⟨w.heap.size, 5, none⟩ = some (.int .i64 sd) ∧ V.cell? ⟨w.heap.size, 6, none⟩ = some (.int .i64 sm) ∧ (LK (.map (some gm)) (.int .i64 i) false).run Tryz.prog V = .ok (.agg #[.int .u8 ya, .int .i64 yo, .int .i64 yk, .int .i64 yc, .int .i64 ym]) V) := fun U V hU hk => by
    have pv := (HP.out.below hU).kept hk (fun e => (HA.out _ e).1 rfl) (fun e => (HA.out _ e).2.1 rfl) (fun e => (HA.out _ e).2.2 rfl)
    have kv := (KB.out.below hU).kept hk (fun e => by have := LL.out _ e; omega)
    exact ⟨pv.c0, kv.cell 1 _ rfl, kv.cell 2 _ rfl, kv.cell 4 _ rfl, kv.cell 5 _ rfl, kv.cell 6 _ rfl, LKf V pv⟩
  have HRM := hid hm
  have HF := hid hf
  have HKB := hid hkb
  have HPW := hid hp
  obtain ⟨x0, x1, x2, x3, x4, x5, x6⟩ := SW.out W W (Below.refl _ _) (Kp.refl _ _)
  clear hp hl ha hs hy LKf hm hf hkb
  go_enter Tryz.func57, Tryz.ntmps57
  go_wp2_with fail
  clear hW
  refine (hashOf2_ok _).mono ?_
  rintro e W1 ⟨rfl, hb⟩
  have N1 := hid hb
  obtain ⟨U, hU⟩ : ∃ U, W1.alloc (.cells #[.int .i64 0, .int .i64 0, .int .u8 0, .int .i64 0] 119) = U := ⟨_, rfl⟩
  have NU : Hid (Below W1.heap.size W1 U) := by rw [← hU]; exact below_alloc _ _
  have ku : Blk U W1.heap.size [.int .i64 0, .int .i64 0, .int .u8 0, .int .i64 0] 119 := by rw [← hU]; exact Blk.newAt W1 _ _ _ W1.heap.size rfl rfl
  obtain ⟨V, s1, kv, hkv⟩ := SVh_run 64 128 2 128 ku rfl
  have KV := hid kv
  have NV : Hid (Below W.heap.size W V) := hid (below_next N1.out (NU.out.trans (hkv.below NU.out.size (fun k h e => by omega))))
  have ND : Hid (Below W.heap.size W V.drew) := hid (below_next NV.out (below_drewN V 1))
  have DV : Hid (Below V.heap.size V V.drew) := hid (below_drewN V 1)
  have SS : Hid (∀ U2 V2, Below V.heap.size V U2 → Kp (blo lo) U2 V2 → (LDe ⟨W1.heap.size, 2, none⟩).run Tryz.prog V2 = .ok (.agg #[.int .u8 2, .int .i64 128]) V2 ∧ (LDh ⟨W1.heap.size, 0, none⟩).run Tryz.prog V2 = .ok (.agg #[.int .i64 64, .int .i64 128, .int .u8 2, .int .i64 128]) V2) := fun U2 V2 hU2 hk2 => by
    have kg := (KV.out.below hU2).kept hk2 (fun e => by have := LL.out _ e; have := BW.out.size; have := N1.out.size; omega)
    exact ⟨LDe_at (kg.range 2 _ (fun j v hj => by
      match j, hj with
      | 0, hj => exact hj
      | 1, hj => exact hj
      | j + 2, hj => simp at hj)), LDh_run kg⟩
  obtain ⟨e0, e1⟩ := SS.out V.drew V.drew DV.out (Kp.refl _ _)
  obtain ⟨y0, y1, y2, y3, y4, y5, y6⟩ := SW.out V.drew V.drew ND.out (Kp.refl _ _)
  have NT : Hid (∀ V2, Below W.heap.size W V2 → Calls Tryz.prog 85 #[lpo lo, .agg #[.int .u8 2, .int .i64 128], .int .i64 x] V2 fun e w' => e = .returned (.tuple #[]) ∧ ∃ lo', LT V2 w' lo lo' (putL L ⟨2, 128, x⟩)) := fun V2 hV => noteTimes_o lo L 2 128 x V2 (HL.out.below hV) (by omega) (by have := HKB.out; omega) HRM.out
  clear ku kv hkv hb x0 x1 x2 x3 x4 x5 x6
  go_wp2_with fail
  clear hU
  go_region_held3 (fun V => (LDe ⟨W1.heap.size, 2, none⟩).run Tryz.prog V = .ok (.agg #[.int .u8 2, .int .i64 128]) V ∧ (LDh ⟨W1.heap.size, 0, none⟩).run Tryz.prog V = .ok (.agg #[.int .i64 64, .int .i64 128, .int .u8 2, .int .i64 128]) V ∧ V.cell? ⟨p, 0, none⟩ = some (.map (some gm)) ∧ V.cell? ⟨w.heap.size, 1, none⟩ = some (.int .i64 i) ∧ V.cell? ⟨w.heap.size, 2, none⟩ = some (.int .u8 2) ∧ V.cell? ⟨w.heap.size, 4, none⟩ = some (.int .i64 so) ∧ V.cell? ⟨w.heap.size, 5, none⟩ = some (.int .i64 sd) ∧ V.cell? ⟨w.heap.size, 6, none⟩ = some (.int .i64 sm) ∧ (LK (.map (some gm)) (.int .i64 i) false).run Tryz.prog V = .ok (.agg #[.int .u8 ya, .int .i64 yo, .int .i64 yk, .int .i64 yc, .int .i64 ym]) V) (go_keep) (first
    | (go_at_call 86; with_reducible refine (CX.out _).mono ?_; rintro e W2 ⟨rfl, hb⟩; have N2 : Hid (Below V.heap.size V W2) := hid (below_next DV.out hb); have M2 : Hid (Below W.heap.size W W2) := hid (below_next NV.out N2.out); obtain ⟨f0, f1⟩ := SS.out W2 W2 N2.out (Kp.refl _ _); obtain ⟨z0, z1, z2, z3, z4, z5, z6⟩ := SW.out W2 W2 M2.out (Kp.refl _ _); clear hb)
    | (go_at_call 85; with_reducible refine (NT.out _ M2.out).mono ?_; rintro e W3 ⟨rfl, l3, t3⟩; have T3 := hid t3; obtain ⟨g0, g1⟩ := SS.out W2 W3 N2.out t3.kp; obtain ⟨r0, r1, r2, r3, r4, r5, r6⟩ := SW.out W2 W3 M2.out t3.kp; clear t3))
  have C3 := hid (CT.after (below_next BW.out M2.out) (CT.note (HP.out.below M2.out) HA.out T3.out))
  have CK := hid (take_ok p gm gk P ⟨so, 0, 0, 0, 0⟩ f HF.out W3 C3.out.pu)
  go_wp2_with fail
  refine CK.out.mono ?_
  rintro e W4 ⟨rfl, p4, k4⟩
  have C4 := hid (C3.out.trans (CT.map C3.out.led (C3.out.apo HPW.out HA.out) p4 k4))
  clear p4 k4
  go_wp2
  go_end0
  exact ⟨rfl, l3, C4.out⟩
set_option maxRecDepth 8000 in
set_option maxHeartbeats 1600000 in
theorem pbkdf_1 (p gm gk : Nat) (P : St) (s : Sk) (lo : Lo) (L : List Rn) (y : He) (f : Nat) (hy : hat P s.h = some y) (hf : fre P = some f) (hk : s.a = 1) (ho : 0 ≤ y.key ∧ y.key ≤ 512) (hd : 0 ≤ s.d ∧ s.d ≤ 65536) (hcc : 1 ≤ s.c ∧ s.c ≤ 1048576) (hoo : 1 ≤ s.o ∧ s.o ≤ 512) (hm : Rm L 1) (w : World) (hp : PU w p gm gk P) (hl : LdO w lo L) (ha : Apo lo p gm gk) (hs : Sk.Fit s) :
    Calls Tryz.prog 59 #[.pointer (some ⟨p, 0, none⟩), lpo lo, sv s] w fun e w' => e = .returned (.tuple #[]) ∧ ∃ lo', CT w w' p gm gk (upS P f (some ⟨s.o, 0, 0, 0, 0⟩)) lo lo' (putL L ⟨1, 64, pbk 1 y.key s.d s.c s.o⟩) := by
  obtain ⟨sk, sh, sa, sc, so, sd, sm⟩ := s
  obtain ⟨yk, ya, yo, yc, ym⟩ := y
  obtain ⟨i, rfl⟩ : ∃ i : Nat, sh = i := ⟨sh.toNat, by have := (hat_of hy).1; have : 0 ≤ sh := this; omega⟩
  have bh : 0 ≤ (i : Int) ∧ (i : Int) < 64 := ⟨(hat_of hy).1, (hat_of hy).2.1⟩
  obtain rfl : sa = 1 := hk
  have hd : 0 ≤ sd ∧ sd ≤ 65536 := hd
  have hcc : 1 ≤ sc ∧ sc ≤ 1048576 := hcc
  have hoo : 1 ≤ so ∧ so ≤ 512 := hoo
  have ho : 0 ≤ yk ∧ yk ≤ 512 := ho
  have CX := hid (pbkdf1_ok (k := yk) (s := sd) (c := sc) (o := so) (by omega) (by omega) (by omega) (by omega))
  have hkb : 0 ≤ pbk 1 yk sd sc so ∧ pbk 1 yk sd sc so ≤ 100000000000 := by
    have b1 := pbk_b (a := 1) (key := yk) (salt := sd) (count := sc) (out := so) (by decide) (by omega) (by omega) (by omega) (by omega)
    have b2 : (so / 32 + 1) * ((sd + 4) / 64 + 4 + 2 * (sc - 1)) ≤ 17 * 3000000 := Int.mul_le_mul (by omega) (by omega) (by omega) (by omega)
    omega
  show Calls _ _ _ _ fun e w' => e = .returned (.tuple #[]) ∧ ∃ lo', CT w w' p gm gk (upS P f (some ⟨so, 0, 0, 0, 0⟩)) lo lo' (putL L ⟨1, 64, pbk 1 yk sd sc so⟩)
  obtain ⟨x, hx⟩ : ∃ x, pbk 1 yk sd sc so = x := ⟨_, rfl⟩
  rw [hx] at CX hkb ⊢
  clear hx
  obtain ⟨W, hW⟩ : ∃ W, w.alloc (.cells #[.int .u8 sk, .int .i64 i, .int .u8 1, .int .i64 sc, .int .i64 so, .int .i64 sd, .int .i64 sm] 40) = W := ⟨_, rfl⟩
  have BW : Hid (Below w.heap.size w W) := by rw [← hW]; exact below_alloc _ _
  have KB : Hid (Blk W w.heap.size [.int .u8 sk, .int .i64 i, .int .u8 1, .int .i64 sc, .int .i64 so, .int .i64 sd, .int .i64 sm] 40) := by rw [← hW]; exact Blk.newAt w _ _ _ w.heap.size rfl rfl
  have HP := hid (hp.below BW.out)
  have HL := hid (hl.below BW.out)
  have HA := hid ha
  have GL := hid hp.lt
  have LL : Hid (∀ j, blo lo j → j < w.heap.size) := hl.lt
  have LKf : ∀ V, PU V p gm gk P → (LK (.map (some gm)) (.int .i64 i) false).run Tryz.prog V = .ok (.agg #[.int .u8 ya, .int .i64 yo, .int .i64 yk, .int .i64 yc, .int .i64 ym]) V := fun V hV => by
    have := hV.look (x := (i : Int)) (by omega) false
    rw [hy] at this
    exact this
  have SW : Hid (∀ U V, Below W.heap.size W U → Kp (blo lo) U V → V.cell? ⟨p, 0, none⟩ = some (.map (some gm)) ∧ V.cell? ⟨w.heap.size, 1, none⟩ = some (.int .i64 i) ∧ V.cell? ⟨w.heap.size, 2, none⟩ = some (.int .u8 1) ∧ V.cell? ⟨w.heap.size, 3, none⟩ = some (.int .i64 sc) ∧ V.cell? ⟨w.heap.size, 4, none⟩ = some (.int .i64 so) ∧ V.cell? ⟨w.heap.size, 5, none⟩ = some (.int .i64 sd) ∧ (LK (.map (some gm)) (.int .i64 i) false).run Tryz.prog V = .ok (.agg #[.int .u8 ya, .int .i64 yo, .int .i64 yk, .int .i64 yc, .int .i64 ym]) V) := fun U V hU hk => by
    have pv := (HP.out.below hU).kept hk (fun e => (HA.out _ e).1 rfl) (fun e => (HA.out _ e).2.1 rfl) (fun e => (HA.out _ e).2.2 rfl)
    have kv := (KB.out.below hU).kept hk (fun e => by have := LL.out _ e; omega)
    exact ⟨pv.c0, kv.cell 1 _ rfl, kv.cell 2 _ rfl, kv.cell 3 _ rfl, kv.cell 4 _ rfl, kv.cell 5 _ rfl, LKf V pv⟩
  have HRM := hid hm
  have HF := hid hf
  have HKB := hid hkb
  have HPW := hid hp
  obtain ⟨x0, x1, x2, x3, x4, x5, x6⟩ := SW.out W W (Below.refl _ _) (Kp.refl _ _)
  clear hp hl ha hs hy LKf hm hf hkb
  go_enter Tryz.func59, Tryz.ntmps59
  go_wp2_with fail
  clear hW
  refine (hashOf1_ok _).mono ?_
  rintro e W1 ⟨rfl, hb⟩
  have N1 := hid hb
  obtain ⟨U, hU⟩ : ∃ U, W1.alloc (.cells #[.int .i64 0, .int .i64 0, .int .u8 0, .int .i64 0] 119) = U := ⟨_, rfl⟩
  have NU : Hid (Below W1.heap.size W1 U) := by rw [← hU]; exact below_alloc _ _
  have ku : Blk U W1.heap.size [.int .i64 0, .int .i64 0, .int .u8 0, .int .i64 0] 119 := by rw [← hU]; exact Blk.newAt W1 _ _ _ W1.heap.size rfl rfl
  obtain ⟨V, s1, kv, hkv⟩ := SVh_run 32 64 1 64 ku rfl
  have KV := hid kv
  have NV : Hid (Below W.heap.size W V) := hid (below_next N1.out (NU.out.trans (hkv.below NU.out.size (fun k h e => by omega))))
  have ND : Hid (Below W.heap.size W V.drew) := hid (below_next NV.out (below_drewN V 1))
  have DV : Hid (Below V.heap.size V V.drew) := hid (below_drewN V 1)
  have SS : Hid (∀ U2 V2, Below V.heap.size V U2 → Kp (blo lo) U2 V2 → (LDe ⟨W1.heap.size, 2, none⟩).run Tryz.prog V2 = .ok (.agg #[.int .u8 1, .int .i64 64]) V2 ∧ (LDh ⟨W1.heap.size, 0, none⟩).run Tryz.prog V2 = .ok (.agg #[.int .i64 32, .int .i64 64, .int .u8 1, .int .i64 64]) V2) := fun U2 V2 hU2 hk2 => by
    have kg := (KV.out.below hU2).kept hk2 (fun e => by have := LL.out _ e; have := BW.out.size; have := N1.out.size; omega)
    exact ⟨LDe_at (kg.range 2 _ (fun j v hj => by
      match j, hj with
      | 0, hj => exact hj
      | 1, hj => exact hj
      | j + 2, hj => simp at hj)), LDh_run kg⟩
  obtain ⟨e0, e1⟩ := SS.out V.drew V.drew DV.out (Kp.refl _ _)
  obtain ⟨y0, y1, y2, y3, y4, y5, y6⟩ := SW.out V.drew V.drew ND.out (Kp.refl _ _)
  have NT : Hid (∀ V2, Below W.heap.size W V2 → Calls Tryz.prog 85 #[lpo lo, .agg #[.int .u8 1, .int .i64 64], .int .i64 x] V2 fun e w' => e = .returned (.tuple #[]) ∧ ∃ lo', LT V2 w' lo lo' (putL L ⟨1, 64, x⟩)) := fun V2 hV => noteTimes_o lo L 1 64 x V2 (HL.out.below hV) (by omega) (by have := HKB.out; omega) HRM.out
  clear ku kv hkv hb x0 x1 x2 x3 x4 x5 x6
  go_wp2_with fail
  clear hU
  go_region_held3 (fun V => (LDe ⟨W1.heap.size, 2, none⟩).run Tryz.prog V = .ok (.agg #[.int .u8 1, .int .i64 64]) V ∧ (LDh ⟨W1.heap.size, 0, none⟩).run Tryz.prog V = .ok (.agg #[.int .i64 32, .int .i64 64, .int .u8 1, .int .i64 64]) V ∧ V.cell? ⟨p, 0, none⟩ = some (.map (some gm)) ∧ V.cell? ⟨w.heap.size, 1, none⟩ = some (.int .i64 i) ∧ V.cell? ⟨w.heap.size, 2, none⟩ = some (.int .u8 1) ∧ V.cell? ⟨w.heap.size, 3, none⟩ = some (.int .i64 sc) ∧ V.cell? ⟨w.heap.size, 4, none⟩ = some (.int .i64 so) ∧ V.cell? ⟨w.heap.size, 5, none⟩ = some (.int .i64 sd) ∧ (LK (.map (some gm)) (.int .i64 i) false).run Tryz.prog V = .ok (.agg #[.int .u8 ya, .int .i64 yo, .int .i64 yk, .int .i64 yc, .int .i64 ym]) V) (go_keep) (first
    | (go_at_call 87; with_reducible refine (CX.out _).mono ?_; rintro e W2 ⟨rfl, hb⟩; have N2 : Hid (Below V.heap.size V W2) := hid (below_next DV.out hb); have M2 : Hid (Below W.heap.size W W2) := hid (below_next NV.out N2.out); obtain ⟨f0, f1⟩ := SS.out W2 W2 N2.out (Kp.refl _ _); obtain ⟨z0, z1, z2, z3, z4, z5, z6⟩ := SW.out W2 W2 M2.out (Kp.refl _ _); clear hb)
    | (go_at_call 85; with_reducible refine (NT.out _ M2.out).mono ?_; rintro e W3 ⟨rfl, l3, t3⟩; have T3 := hid t3; obtain ⟨g0, g1⟩ := SS.out W2 W3 N2.out t3.kp; obtain ⟨r0, r1, r2, r3, r4, r5, r6⟩ := SW.out W2 W3 M2.out t3.kp; clear t3))
  have C3 := hid (CT.after (below_next BW.out M2.out) (CT.note (HP.out.below M2.out) HA.out T3.out))
  have CK := hid (take_ok p gm gk P ⟨so, 0, 0, 0, 0⟩ f HF.out W3 C3.out.pu)
  go_wp2_with fail
  refine CK.out.mono ?_
  rintro e W4 ⟨rfl, p4, k4⟩
  have C4 := hid (C3.out.trans (CT.map C3.out.led (C3.out.apo HPW.out HA.out) p4 k4))
  clear p4 k4
  go_wp2
  go_end0
  exact ⟨rfl, l3, C4.out⟩
set_option maxRecDepth 8000 in
set_option maxHeartbeats 1600000 in
theorem pbkdf_2 (p gm gk : Nat) (P : St) (s : Sk) (lo : Lo) (L : List Rn) (y : He) (f : Nat) (hy : hat P s.h = some y) (hf : fre P = some f) (hk : s.a = 2) (ho : 0 ≤ y.key ∧ y.key ≤ 512) (hd : 0 ≤ s.d ∧ s.d ≤ 65536) (hcc : 1 ≤ s.c ∧ s.c ≤ 1048576) (hoo : 1 ≤ s.o ∧ s.o ≤ 512) (hm : Rm L 1) (w : World) (hp : PU w p gm gk P) (hl : LdO w lo L) (ha : Apo lo p gm gk) (hs : Sk.Fit s) :
    Calls Tryz.prog 59 #[.pointer (some ⟨p, 0, none⟩), lpo lo, sv s] w fun e w' => e = .returned (.tuple #[]) ∧ ∃ lo', CT w w' p gm gk (upS P f (some ⟨s.o, 0, 0, 0, 0⟩)) lo lo' (putL L ⟨2, 128, pbk 2 y.key s.d s.c s.o⟩) := by
  obtain ⟨sk, sh, sa, sc, so, sd, sm⟩ := s
  obtain ⟨yk, ya, yo, yc, ym⟩ := y
  obtain ⟨i, rfl⟩ : ∃ i : Nat, sh = i := ⟨sh.toNat, by have := (hat_of hy).1; have : 0 ≤ sh := this; omega⟩
  have bh : 0 ≤ (i : Int) ∧ (i : Int) < 64 := ⟨(hat_of hy).1, (hat_of hy).2.1⟩
  obtain rfl : sa = 2 := hk
  have hd : 0 ≤ sd ∧ sd ≤ 65536 := hd
  have hcc : 1 ≤ sc ∧ sc ≤ 1048576 := hcc
  have hoo : 1 ≤ so ∧ so ≤ 512 := hoo
  have ho : 0 ≤ yk ∧ yk ≤ 512 := ho
  have CX := hid (pbkdf2_ok (k := yk) (s := sd) (c := sc) (o := so) (by omega) (by omega) (by omega) (by omega))
  have hkb : 0 ≤ pbk 2 yk sd sc so ∧ pbk 2 yk sd sc so ≤ 100000000000 := by
    have b1 := pbk_b (a := 2) (key := yk) (salt := sd) (count := sc) (out := so) (by decide) (by omega) (by omega) (by omega) (by omega)
    have b2 : (so / 32 + 1) * ((sd + 4) / 64 + 4 + 2 * (sc - 1)) ≤ 17 * 3000000 := Int.mul_le_mul (by omega) (by omega) (by omega) (by omega)
    omega
  show Calls _ _ _ _ fun e w' => e = .returned (.tuple #[]) ∧ ∃ lo', CT w w' p gm gk (upS P f (some ⟨so, 0, 0, 0, 0⟩)) lo lo' (putL L ⟨2, 128, pbk 2 yk sd sc so⟩)
  obtain ⟨x, hx⟩ : ∃ x, pbk 2 yk sd sc so = x := ⟨_, rfl⟩
  rw [hx] at CX hkb ⊢
  clear hx
  obtain ⟨W, hW⟩ : ∃ W, w.alloc (.cells #[.int .u8 sk, .int .i64 i, .int .u8 2, .int .i64 sc, .int .i64 so, .int .i64 sd, .int .i64 sm] 40) = W := ⟨_, rfl⟩
  have BW : Hid (Below w.heap.size w W) := by rw [← hW]; exact below_alloc _ _
  have KB : Hid (Blk W w.heap.size [.int .u8 sk, .int .i64 i, .int .u8 2, .int .i64 sc, .int .i64 so, .int .i64 sd, .int .i64 sm] 40) := by rw [← hW]; exact Blk.newAt w _ _ _ w.heap.size rfl rfl
  have HP := hid (hp.below BW.out)
  have HL := hid (hl.below BW.out)
  have HA := hid ha
  have GL := hid hp.lt
  have LL : Hid (∀ j, blo lo j → j < w.heap.size) := hl.lt
  have LKf : ∀ V, PU V p gm gk P → (LK (.map (some gm)) (.int .i64 i) false).run Tryz.prog V = .ok (.agg #[.int .u8 ya, .int .i64 yo, .int .i64 yk, .int .i64 yc, .int .i64 ym]) V := fun V hV => by
    have := hV.look (x := (i : Int)) (by omega) false
    rw [hy] at this
    exact this
  have SW : Hid (∀ U V, Below W.heap.size W U → Kp (blo lo) U V → V.cell? ⟨p, 0, none⟩ = some (.map (some gm)) ∧ V.cell? ⟨w.heap.size, 1, none⟩ = some (.int .i64 i) ∧ V.cell? ⟨w.heap.size, 2, none⟩ = some (.int .u8 2) ∧ V.cell? ⟨w.heap.size, 3, none⟩ = some (.int .i64 sc) ∧ V.cell? ⟨w.heap.size, 4, none⟩ = some (.int .i64 so) ∧ V.cell? ⟨w.heap.size, 5, none⟩ = some (.int .i64 sd) ∧ (LK (.map (some gm)) (.int .i64 i) false).run Tryz.prog V = .ok (.agg #[.int .u8 ya, .int .i64 yo, .int .i64 yk, .int .i64 yc, .int .i64 ym]) V) := fun U V hU hk => by
    have pv := (HP.out.below hU).kept hk (fun e => (HA.out _ e).1 rfl) (fun e => (HA.out _ e).2.1 rfl) (fun e => (HA.out _ e).2.2 rfl)
    have kv := (KB.out.below hU).kept hk (fun e => by have := LL.out _ e; omega)
    exact ⟨pv.c0, kv.cell 1 _ rfl, kv.cell 2 _ rfl, kv.cell 3 _ rfl, kv.cell 4 _ rfl, kv.cell 5 _ rfl, LKf V pv⟩
  have HRM := hid hm
  have HF := hid hf
  have HKB := hid hkb
  have HPW := hid hp
  obtain ⟨x0, x1, x2, x3, x4, x5, x6⟩ := SW.out W W (Below.refl _ _) (Kp.refl _ _)
  clear hp hl ha hs hy LKf hm hf hkb
  go_enter Tryz.func59, Tryz.ntmps59
  go_wp2_with fail
  clear hW
  refine (hashOf2_ok _).mono ?_
  rintro e W1 ⟨rfl, hb⟩
  have N1 := hid hb
  obtain ⟨U, hU⟩ : ∃ U, W1.alloc (.cells #[.int .i64 0, .int .i64 0, .int .u8 0, .int .i64 0] 119) = U := ⟨_, rfl⟩
  have NU : Hid (Below W1.heap.size W1 U) := by rw [← hU]; exact below_alloc _ _
  have ku : Blk U W1.heap.size [.int .i64 0, .int .i64 0, .int .u8 0, .int .i64 0] 119 := by rw [← hU]; exact Blk.newAt W1 _ _ _ W1.heap.size rfl rfl
  obtain ⟨V, s1, kv, hkv⟩ := SVh_run 64 128 2 128 ku rfl
  have KV := hid kv
  have NV : Hid (Below W.heap.size W V) := hid (below_next N1.out (NU.out.trans (hkv.below NU.out.size (fun k h e => by omega))))
  have ND : Hid (Below W.heap.size W V.drew) := hid (below_next NV.out (below_drewN V 1))
  have DV : Hid (Below V.heap.size V V.drew) := hid (below_drewN V 1)
  have SS : Hid (∀ U2 V2, Below V.heap.size V U2 → Kp (blo lo) U2 V2 → (LDe ⟨W1.heap.size, 2, none⟩).run Tryz.prog V2 = .ok (.agg #[.int .u8 2, .int .i64 128]) V2 ∧ (LDh ⟨W1.heap.size, 0, none⟩).run Tryz.prog V2 = .ok (.agg #[.int .i64 64, .int .i64 128, .int .u8 2, .int .i64 128]) V2) := fun U2 V2 hU2 hk2 => by
    have kg := (KV.out.below hU2).kept hk2 (fun e => by have := LL.out _ e; have := BW.out.size; have := N1.out.size; omega)
    exact ⟨LDe_at (kg.range 2 _ (fun j v hj => by
      match j, hj with
      | 0, hj => exact hj
      | 1, hj => exact hj
      | j + 2, hj => simp at hj)), LDh_run kg⟩
  obtain ⟨e0, e1⟩ := SS.out V.drew V.drew DV.out (Kp.refl _ _)
  obtain ⟨y0, y1, y2, y3, y4, y5, y6⟩ := SW.out V.drew V.drew ND.out (Kp.refl _ _)
  have NT : Hid (∀ V2, Below W.heap.size W V2 → Calls Tryz.prog 85 #[lpo lo, .agg #[.int .u8 2, .int .i64 128], .int .i64 x] V2 fun e w' => e = .returned (.tuple #[]) ∧ ∃ lo', LT V2 w' lo lo' (putL L ⟨2, 128, x⟩)) := fun V2 hV => noteTimes_o lo L 2 128 x V2 (HL.out.below hV) (by omega) (by have := HKB.out; omega) HRM.out
  clear ku kv hkv hb x0 x1 x2 x3 x4 x5 x6
  go_wp2_with fail
  clear hU
  go_region_held3 (fun V => (LDe ⟨W1.heap.size, 2, none⟩).run Tryz.prog V = .ok (.agg #[.int .u8 2, .int .i64 128]) V ∧ (LDh ⟨W1.heap.size, 0, none⟩).run Tryz.prog V = .ok (.agg #[.int .i64 64, .int .i64 128, .int .u8 2, .int .i64 128]) V ∧ V.cell? ⟨p, 0, none⟩ = some (.map (some gm)) ∧ V.cell? ⟨w.heap.size, 1, none⟩ = some (.int .i64 i) ∧ V.cell? ⟨w.heap.size, 2, none⟩ = some (.int .u8 2) ∧ V.cell? ⟨w.heap.size, 3, none⟩ = some (.int .i64 sc) ∧ V.cell? ⟨w.heap.size, 4, none⟩ = some (.int .i64 so) ∧ V.cell? ⟨w.heap.size, 5, none⟩ = some (.int .i64 sd) ∧ (LK (.map (some gm)) (.int .i64 i) false).run Tryz.prog V = .ok (.agg #[.int .u8 ya, .int .i64 yo, .int .i64 yk, .int .i64 yc, .int .i64 ym]) V) (go_keep) (first
    | (go_at_call 87; with_reducible refine (CX.out _).mono ?_; rintro e W2 ⟨rfl, hb⟩; have N2 : Hid (Below V.heap.size V W2) := hid (below_next DV.out hb); have M2 : Hid (Below W.heap.size W W2) := hid (below_next NV.out N2.out); obtain ⟨f0, f1⟩ := SS.out W2 W2 N2.out (Kp.refl _ _); obtain ⟨z0, z1, z2, z3, z4, z5, z6⟩ := SW.out W2 W2 M2.out (Kp.refl _ _); clear hb)
    | (go_at_call 85; with_reducible refine (NT.out _ M2.out).mono ?_; rintro e W3 ⟨rfl, l3, t3⟩; have T3 := hid t3; obtain ⟨g0, g1⟩ := SS.out W2 W3 N2.out t3.kp; obtain ⟨r0, r1, r2, r3, r4, r5, r6⟩ := SW.out W2 W3 M2.out t3.kp; clear t3))
  have C3 := hid (CT.after (below_next BW.out M2.out) (CT.note (HP.out.below M2.out) HA.out T3.out))
  have CK := hid (take_ok p gm gk P ⟨so, 0, 0, 0, 0⟩ f HF.out W3 C3.out.pu)
  go_wp2_with fail
  refine CK.out.mono ?_
  rintro e W4 ⟨rfl, p4, k4⟩
  have C4 := hid (C3.out.trans (CT.map C3.out.led (C3.out.apo HPW.out HA.out) p4 k4))
  clear p4 k4
  go_wp2
  go_end0
  exact ⟨rfl, l3, C4.out⟩
end Go.Proofs.YtdmacflcjbkkpaaGreat.Co
