/- PBKDF2: the closure that counts the blocks. -/
import Derived.Test.YtkmkbofokoimkaaDoorNblk
namespace Go.Proofs.YtkmkbofokoimkaaDoor.Dg
open Go.ChangeShapes Go.WideShapes Go.ChangeAt Go.RowKit
open Go.Proofs.YtkmkbofokoimkaaDoor.By
open Go.Proofs.YtkmkbofokoimkaaDoor.Sh (Blk size_alloc)
/-- What holds all the time, of the world where the closure is made. -/
structure NX (w : World) (S : Nat → Prop) (b Bl Bm Bs Bc Bi : Nat) (lo : Option Nat) (L : List Rn) (a : Bool) (ns : Nat) (f : Nat → Int) (v : Value) (c : Nat) : Prop where
  kt : KT w
  s0 : ¬ S 0
  s1 : ¬ S 1
  sb : S b
  si : S Bi
  hb : 1 < b
  bl : Blk w Bl [lpv lo] 34
  bm : Blk w Bm [.pointer (some ⟨b, 0, none⟩)] 35
  bs : Blk w Bs [v] 22
  bc : Blk w Bc [.int .i64 c] 3
  nl : ¬ S Bl
  nm : ¬ S Bm
  nss : ¬ S Bs
  nc : ¬ S Bc
  hr : ∀ w', Kp S w w' → By.RB w' v ns f
  ps : Pos L
  room : tq L ≤ 1900000000
  hns : ns ≤ 1000000
  hc1 : 1 ≤ c
  hc2 : c ≤ 1048576
/-- k blocks are made; the next one has the number i0 + k. -/
structure NU (w : World) (S : Nat → Prop) (b Bi : Nat) (lo : Option Nat) (L : List Rn) (a : Bool) (K : Nat → Int) (ns c i0 : Nat) (k : Nat) (W : World) : Prop where
  kp : Kp S w W
  mc : ∃ x : MB, IsMk W b x ∧ x.a = a ∧ x.K = K
  lg : LG S w W lo (evs a L (k * be a ns c))
  ci : Blk W Bi [.int .u32 (((i0 + k) % 4294967296 : Nat) : Int)] 45
section
variable {w W W' : World} {S : Nat → Prop} {b Bl Bm Bs Bc Bi : Nat} {lo : Option Nat} {L : List Rn} {a : Bool} {K : Nat → Int} {ns c i0 k : Nat} {f : Nat → Int} {v : Value}
theorem NU.below (h : NU w S b Bi lo L a K ns c i0 k W) (hb : Below W.heap.size W W') : NU w S b Bi lo L a K ns c i0 k W' := by
  obtain ⟨x, hx, e1, e2⟩ := h.mc
  exact ⟨h.kp.trans (Kp.of_below _ hb) (fun _ _ e => e), ⟨x, hx.below hb, e1, e2⟩, h.lg.below hb, h.ci.below hb⟩
/-- A list of bytes of the call's own is gone on with. -/
theorem NU.grow (h : NU w S b Bi lo L a K ns c i0 k W) {n : Nat} {u : Value} {fu : Nat → Int} (ho : By.Own W w.heap.size u n fu) (hk : Kp (fun j => u.ownBlock = some j) W W') : NU w S b Bi lo L a K ns c i0 k W' := by
  obtain ⟨x, hx, e1, e2⟩ := h.mc
  obtain ⟨d0, h0⟩ := hx.s0.blk
  obtain ⟨d1, h1⟩ := hx.s1.blk
  obtain ⟨d2, h2⟩ := hx.s2.blk
  have ty : ∀ {i cs t}, Blk W i cs t → t ≠ 5 → ¬ u.ownBlock = some i := fun hb ht e => by
    obtain ⟨c8, h8⟩ := own_b8 ho e
    exact Blk.ne hb h8 ht rfl
  have ts : ∀ a, tyS a ≠ 5 := fun a => by cases a <;> decide
  exact ⟨h.kp.trans hk (fun i hi e => by have := own_row ho i e; omega), ⟨x, hx.kept hk (ty hx.here (by decide)) (ty h0 (ts _)) (ty h1 (ts _)) (ty h2 (ts _)), e1, e2⟩, lg_keep h.lg hk (fun j cs' t' e hb hl => ty hb (fun e => absurd (e ▸ hl) (by decide)) e), h.ci.kept hk (ty h.ci (by decide))⟩
set_option maxHeartbeats 2000000 in
theorem NU.call (C : NX w S b Bl Bm Bs Bc Bi lo L a ns f v c) (h : NU w S b Bi lo L a K ns c i0 k W) (hi : i0 + k < 4294967296) (hk : k ≤ 511) :
    Calls Tryd.prog 27 #[.pointer (some ⟨Bl, 0, none⟩), .pointer (some ⟨Bm, 0, none⟩), .pointer (some ⟨Bs, 0, none⟩), .pointer (some ⟨Bc, 0, none⟩), .pointer (some ⟨Bi, 0, none⟩)] W fun e W' => ∃ u, e = .returned u ∧ By.Own W' W.heap.size u (sz a) (xs a K ns f (i0 + k) (c - 1)) ∧ NU w S b Bi lo L a K ns c i0 (k + 1) W' ∧ (∀ {base n : Nat} {v : Value} {f : Nat → Int}, By.Own W base v n f → By.Own W' base v n f) ∧ W.heap.size ≤ W'.heap.size := by
  obtain ⟨x, hx, e1, e2⟩ := h.mc
  obtain ⟨T1, l1, hT, hTS⟩ := LG.own h.lg
  have hlt := C.kt.lt
  have hz := h.kp.size
  have keep : ∀ {w' : World}, Kp (fun j => T1 j ∨ j = b) W w' → Kp S w w' := fun hk => h.kp.trans hk (fun i hi e => e.elim (hTS i hi) (fun e => by rw [show i = b from e]; exact C.sb))
  have hroom := bes_fine a C.ps ns c k (by have := C.room; omega) C.hns C.hc2 hk
  have hc := h.ci.cell 0 _ rfl
  have hfz := h.ci.frozen 0
  rw [Nat.mod_eq_of_lt hi] at hc
  have HCI := hid h.ci
  have HC := hid (block_on b x ns c (i0 + k) v f lo (evs a L (k * be a ns c)) T1 W hx l1 (C.kt.kept h.kp C.s0 C.s1) (fun e => C.s0 (hTS 0 (by omega) e)) (fun e => C.s1 (hTS 1 (by omega) e)) C.hb (evsP a C.ps _) (fun w' hk' => C.hr w' (keep hk')) C.hns C.hc1 C.hc2 (by have := C.room; omega))
  have E1 := hid e1
  have E2 := hid e2
  have HT := hid hT
  have HTS := hid hTS
  have HX := hid hx.here
  have HLG := hid h.lg
  have HKP := hid h.kp
  have HKE := hid (show ∀ w', Kp (fun j => T1 j ∨ j = b) W w' → Kp S w w' from fun w' hk => keep hk)
  have HZ := hid hz
  have SI := hid C.si
  have m1 := (C.bl.kept h.kp C.nl).cell 0 _ rfl
  have m2 := (C.bm.kept h.kp C.nm).cell 0 _ rfl
  have m3 := (C.bs.kept h.kp C.nss).cell 0 _ rfl
  have m4 := (C.bc.kept h.kp C.nc).cell 0 _ rfl
  obtain ⟨-, va, vc, rfl, -⟩ := C.hr w (Kp.refl _ _)
  obtain ⟨ii, hii⟩ : ∃ ii, i0 + k = ii := ⟨_, rfl⟩
  rw [hii] at hc HC
  have HII := hid hii
  have hi4 : ii < 4294967296 := by omega
  clear C h hx e1 e2 l1 hT hTS keep hroom hz hii
  go_enter Tryd.func27, Tryd.ntmps27
  go_wp2_with fail
  refine HC.out.mono ?_
  rintro e W1 ⟨u, rfl, hu, hb⟩
  have tI : ¬ (T1 Bi ∨ Bi = b) := fun e => e.elim (HT.out.no HCI.out (by decide)) (fun e => Blk.ne HCI.out HX.out (by decide) e)
  have ci1 := HCI.out.kept hb.kp tI
  have hc1 := ci1.cell 0 _ rfl
  have hf1 := ci1.frozen 0
  rw [HII.out, Nat.mod_eq_of_lt hi4] at hc1
  have U1 := hid hu
  have B1 := hid hb
  have C1 := hid ci1
  obtain ⟨ua, uc, rfl⟩ := own_sl hu
  clear hu hb ci1 HC m1 m2 m3 m4 hc hfz
  go_wp2
  go_ret
  have k2 : Kp (fun j => j = Bi) W1 (W1.setCell ⟨Bi, 0, none⟩ (.int .u32 (((ii : Int) + 1) % 4294967296))) := Kp.setCell Bi 0 _
  have n8 : ∀ {W : World} {base n : Nat} {v : Value} {f : Nat → Int} {cs : List Value}, Blk W Bi cs 45 → By.Own W base v n f → ∀ g, v.ownBlock = some g → ¬ g = Bi := fun hB ho g hg e => by
    obtain ⟨c8, h8⟩ := own_b8 ho hg
    exact Blk.ne h8 hB (by decide) e
  obtain ⟨y, hy, y1, y2⟩ := B1.out.mc
  obtain ⟨d0, h0⟩ := hy.s0.blk
  obtain ⟨d1, h1⟩ := hy.s1.blk
  obtain ⟨d2, h2⟩ := hy.s2.blk
  have ts : ∀ a, tyS a ≠ 45 := fun a => by cases a <;> decide
  have lg1 := lg_back B1.out.lg HLG.out HZ.out HTS.out
  refine ⟨_, rfl, ?_, ⟨(HKE.out _ B1.out.kp).trans k2 (fun i hi e => by rw [show i = Bi from e]; exact SI.out), ⟨y, hy.kept k2 (Blk.ne hy.here C1.out (by decide)) (Blk.ne h0 C1.out (ts _)) (Blk.ne h1 C1.out (ts _)) (Blk.ne h2 C1.out (ts _)), y1.trans E1.out, y2.trans E2.out⟩, ?_, ?_⟩, fun ho => ?_, Nat.le_trans B1.out.kp.size k2.size⟩
  · have o := Sg.own_kept U1.out k2 (n8 C1.out U1.out)
    rw [E1.out, E2.out] at o
    rw [HII.out]
    rw [E1.out]
    exact o
  · have g := lg_keep lg1 k2 (fun j cs' t' e hb hl => absurd rfl (Blk.ne ((show j = Bi from e) ▸ hb : Blk W1 Bi cs' t') C1.out (fun e => absurd (e ▸ hl) (by decide))))
    rw [E1.out, evs_add, ← Nat.succ_mul] at g
    exact g
  · have g := C1.out.set 0 (.int .u32 (((ii : Int) + 1) % 4294967296))
    rw [show (((i0 + (k + 1)) % 4294967296 : Nat) : Int) = ((ii : Int) + 1) % 4294967296 from by rw [← Nat.add_assoc, HII.out]; omega]
    exact g
  · have o1 := Sg.own_kept ho B1.out.kp (fun g hg e => by
      obtain ⟨c8, h8⟩ := own_b8 ho hg
      exact e.elim (HT.out.no h8 (by decide)) (fun e => Blk.ne h8 HX.out (by decide) e))
    exact Sg.own_kept o1 k2 (n8 C1.out o1)
theorem from_on (lo : Option Nat) (b ns sc : Nat) (sa : Option Addr) (c i : Int) (w : World) : Calls Tryd.prog 19 #[lpv lo, .pointer (some ⟨b, 0, none⟩), .slice sa ns sc, .int .i64 c, .int .u32 i] w fun e w' => e = .returned (.func (.func 27) #[] #[.pointer (some ⟨w.heap.size, 0, none⟩), .pointer (some ⟨w.heap.size + 1, 0, none⟩), .pointer (some ⟨w.heap.size + 1 + 1, 0, none⟩), .pointer (some ⟨w.heap.size + 1 + 1 + 1, 0, none⟩), .pointer (some ⟨w.heap.size + 1 + 1 + 1 + 1, 0, none⟩)]) ∧ w' = ((((w.alloc (.cells #[lpv lo] 34)).alloc (.cells #[.pointer (some ⟨b, 0, none⟩)] 35)).alloc (.cells #[.slice sa ns sc] 22)).alloc (.cells #[.int .i64 c] 3)).alloc (.cells #[.int .u32 i] 45) := by
  obtain ⟨lp, hlp⟩ : ∃ lp, lpv lo = .pointer lp := by cases lo; exact ⟨_, rfl⟩; exact ⟨_, rfl⟩
  rw [hlp]
  go_enter Tryd.func19, Tryd.ntmps19
  go_wp2
  go_ret
  exact ⟨rfl, rfl⟩
end
end Go.Proofs.YtkmkbofokoimkaaDoor.Dg
