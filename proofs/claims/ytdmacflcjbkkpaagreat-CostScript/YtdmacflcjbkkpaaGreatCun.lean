/- A Public in memory; what refuses an operation. -/
import Derived.Test.YtdmacflcjbkkpaaGreatCal
import Derived.Test.YtdmacflcjbkkpaaGreatCma
namespace Go.Proofs.YtdmacflcjbkkpaaGreat.Co
open Go.ChangeShapes Go.WideShapes Go.ChangeAt Go.RowKit
open Go.Proofs.YtdmacflcjbkkpaaGreat (putL)
open Go.Proofs.YtdmacflcjbkkpaaGreat.Ou (Sk sv sL LDk SVk LDk_run SVk_run)
open Go.Proofs.YtdmacflcjbkkpaaGreat.Tb (Blk Blk.newAt put_all Kp.setCells results_cell1 results_cell2)
def LK (m k : Value) (c : Bool) : Sem Value := Instr.lookup 57 m k c
def MU (m k v : Value) : Sem Unit := Instr.mapUpdate 57 m k v
@[go_sem ↓ high] theorem lk_ (m k : Value) (c : Bool) : Instr.lookup 57 m k c = LK m k c := rfl
@[go_sem ↓ high] theorem mu_ (m k v : Value) : Instr.mapUpdate 57 m k v = MU m k v := rfl
def ML (args : Array Value) : Sem Value := Builtin.len_ #[57] 3 args
def MD (ty : TypeId) (args : Array Value) : Sem Value := Builtin.delete_ #[57, 3] ty args
@[go_sem ↓ high] theorem ml_ (cs : Array Bool) (args : Array Value) : builtin .len #[57] 3 cs args = (do pure (.value (← ML args))) := rfl
@[go_sem ↓ high] theorem md_ (ty : TypeId) (cs : Array Bool) (args : Array Value) : builtin .delete #[57, 3] ty cs args = (do pure (.value (← MD ty args))) := rfl
/-- The table of kinds, cell by cell. -/
abbrev ktab : List Value := [fv 42, fv 43, fv 44, fv 45, fv 46, fv 47, fv 48, fv 49, fv 50, fv 51, fv 52, fv 53, fv 54, fv 55, fv 56, fv 57, fv 58, fv 59, fv 60, fv 43, fv 61, fv 62]
/-- A Public in block p, its map in gm, its kinds in gk. -/
structure PU (W : World) (p gm gk : Nat) (P : St) : Prop where
  here : Blk W p [.map (some gm), .slice (some ⟨gk, 0, none⟩) 11 11] 61
  map : MP W gm P
  kt : Blk W gk ktab 93
theorem PU.below {W W' : World} {p gm gk : Nat} {P : St} (h : PU W p gm gk P) (hb : Below W.heap.size W W') : PU W' p gm gk P := ⟨h.here.below hb, h.map.below hb, h.kt.below hb⟩
theorem PU.kept {W W' : World} {p gm gk : Nat} {P : St} {S : Nat → Prop} (h : PU W p gm gk P) (hk : Kp S W W') (h1 : ¬ S p) (h2 : ¬ S gm) (h3 : ¬ S gk) : PU W' p gm gk P := ⟨h.here.kept hk h1, h.map.kept hk h2, h.kt.kept hk h3⟩
/-- The map is turned. -/
theorem PU.turn {W W' : World} {p gm gk : Nat} {P P' : St} (h : PU W p gm gk P) (hk : Kp (fun j => j = gm) W W') (hm : MP W' gm P') : PU W' p gm gk P' :=
  ⟨h.here.kept hk (fun e => h.map.ne h.here e.symm), hm, h.kt.kept hk (fun e => h.map.ne h.kt e.symm)⟩
theorem PU.c0 {W : World} {p gm gk : Nat} {P : St} (h : PU W p gm gk P) : W.cell? ⟨p, 0, none⟩ = some (.map (some gm)) := h.here.cell 0 _ rfl
theorem PU.c1 {W : World} {p gm gk : Nat} {P : St} (h : PU W p gm gk P) : W.cell? ⟨p, 1, none⟩ = some (.slice (some ⟨gk, 0, none⟩) 11 11) := h.here.cell 1 _ rfl
theorem PU.look {W : World} {p gm gk : Nat} {P : St} (h : PU W p gm gk P) {x : Int} (hx : -9223372036854775808 ≤ x ∧ x ≤ 9223372036854775807) (c : Bool) : (LK (.map (some gm)) (.int .i64 x) c).run Tryz.prog W = .ok (if c then .tuple #[hv ((hat P x).getD h0), .bool (hat P x).isSome] else hv ((hat P x).getD h0)) W := h.map.look hx c
/-- A skeleton's numbers fit. -/
structure Sk.Fit (s : Sk) : Prop where
  k : 0 ≤ s.k ∧ s.k ≤ 255
  h : -9223372036854775808 ≤ s.h ∧ s.h ≤ 9223372036854775807
  a : 0 ≤ s.a ∧ s.a ≤ 255
  c : -9223372036854775808 ≤ s.c ∧ s.c ≤ 9223372036854775807
  o : -9223372036854775808 ≤ s.o ∧ s.o ≤ 9223372036854775807
  d : 0 ≤ s.d ∧ s.d ≤ 9223372036854775807
  m : 0 ≤ s.m ∧ s.m ≤ 9223372036854775807
@[go_sem ↓ high] theorem fld0 (a b c d e : Int) (w : World) : (Instr.field 82 (.agg #[.int .u8 a, .int .i64 b, .int .i64 c, .int .i64 d, .int .i64 e]) 0).run Tryz.prog w = .ok (.int .u8 a) w := by kernel_rfl
@[go_sem ↓ high] theorem fld1 (a b c d e : Int) (w : World) : (Instr.field 82 (.agg #[.int .u8 a, .int .i64 b, .int .i64 c, .int .i64 d, .int .i64 e]) 1).run Tryz.prog w = .ok (.int .i64 b) w := by kernel_rfl
@[go_sem ↓ high] theorem fld2 (a b c d e : Int) (w : World) : (Instr.field 82 (.agg #[.int .u8 a, .int .i64 b, .int .i64 c, .int .i64 d, .int .i64 e]) 2).run Tryz.prog w = .ok (.int .i64 c) w := by kernel_rfl
@[go_sem ↓ high] theorem fld3 (a b c d e : Int) (w : World) : (Instr.field 82 (.agg #[.int .u8 a, .int .i64 b, .int .i64 c, .int .i64 d, .int .i64 e]) 3).run Tryz.prog w = .ok (.int .i64 d) w := by kernel_rfl
@[go_sem ↓ high] theorem fld4 (a b c d e : Int) (w : World) : (Instr.field 82 (.agg #[.int .u8 a, .int .i64 b, .int .i64 c, .int .i64 d, .int .i64 e]) 4).run Tryz.prog w = .ok (.int .i64 e) w := by kernel_rfl
@[go_sem ↓ high] theorem fla3 (m : Int) (c : Bool) (k b x s : Nat) (ck cb cw cs0 : Array Value) (w : World) : (Instr.field 113 (.agg #[.int .i64 m, .bool c, .func (.func k) #[] ck, .func (.func b) #[] cb, .func (.func x) #[] cw, .func (.func s) #[] cs0]) 3).run Tryz.prog w = .ok (.func (.func b) #[] cb) w := by kernel_rfl
@[go_sem ↓ high] theorem fla4 (m : Int) (c : Bool) (k b x s : Nat) (ck cb cw cs0 : Array Value) (w : World) : (Instr.field 113 (.agg #[.int .i64 m, .bool c, .func (.func k) #[] ck, .func (.func b) #[] cb, .func (.func x) #[] cw, .func (.func s) #[] cs0]) 4).run Tryz.prog w = .ok (.func (.func x) #[] cw) w := by kernel_rfl
@[go_sem ↓ high] theorem fla5 (m : Int) (c : Bool) (k b x s : Nat) (ck cb cw cs0 : Array Value) (w : World) : (Instr.field 113 (.agg #[.int .i64 m, .bool c, .func (.func k) #[] ck, .func (.func b) #[] cb, .func (.func x) #[] cw, .func (.func s) #[] cs0]) 5).run Tryz.prog w = .ok (.func (.func s) #[] cs0) w := by kernel_rfl
theorem PU.len {W : World} {p gm gk : Nat} {P : St} (h : PU W p gm gk P) : (ML #[.map (some gm)]).run Tryz.prog W = .ok (.int .i64 (cnt P)) W := h.map.len 3
def uh (P : St) (x : Int) : Int := if hat P x = none then 5 else 0
def uk (P : St) (x : Int) : Int := match hat P x with | none => 5 | some y => if y.alg ≠ 0 then 6 else 0
def us (P : St) (x : Int) : Int := match hat P x with | none => 5 | some y => if y.alg = 0 then 6 else 0
def ur (P : St) : Int := if fre P = none then 8 else 0
set_option maxRecDepth 8000 in
set_option maxHeartbeats 1600000 in
theorem unlessRoom_ok (p gm gk : Nat) (P : St) (w : World) (hp : PU w p gm gk P) :
    Calls Tryz.prog 79 #[.pointer (some ⟨p, 0, none⟩)] w fun e w' => e = .returned (.int .i64 (ur P)) ∧ w' = w := by
  have x0 := hp.c0
  have x1 := hp.len
  have c1 := cnt_full P
  have c2 := cnt_le P
  obtain ⟨n, hn⟩ : ∃ n, cnt P = n := ⟨_, rfl⟩
  rw [hn] at x1 c1 c2
  clear hn
  by_cases h : fre P = none
  · have E : Hid (ur P = 8) := hid (if_pos h)
    have h2 : (64 : Int) ≤ (n : Int) := by have := c1.2 h; omega
    clear c1 h
    go_enter Tryz.func79, Tryz.ntmps79
    go_wp2
    go_ret
    exact ⟨by rw [E.out]; rfl, rfl⟩
  · have E : Hid (ur P = 0) := hid (if_neg h)
    have h2 : ¬ (64 : Int) ≤ (n : Int) := fun e => h (c1.1 (by omega))
    clear c1 h
    go_enter Tryz.func79, Tryz.ntmps79
    go_wp2
    go_ret
    exact ⟨by rw [E.out]; rfl, rfl⟩
set_option maxRecDepth 8000 in
set_option maxHeartbeats 1600000 in
theorem unlessHeld_ok (p gm gk : Nat) (P : St) (s : Sk) (w : World) (hp : PU w p gm gk P) (hs : Sk.Fit s) :
    Calls Tryz.prog 61 #[.pointer (some ⟨p, 0, none⟩), sv s] w fun e w' => e = .returned (.int .i64 (uh P s.h)) ∧ Below w.heap.size w w' := by
  obtain ⟨sk, sh, sa, sc, so, sd, sm⟩ := s
  have bh : -9223372036854775808 ≤ sh ∧ sh ≤ 9223372036854775807 := hs.h
  have bc : -9223372036854775808 ≤ sc ∧ sc ≤ 9223372036854775807 := hs.c
  have bo : -9223372036854775808 ≤ so ∧ so ≤ 9223372036854775807 := hs.o
  have bd' : 0 ≤ sd ∧ sd ≤ 9223372036854775807 := hs.d
  have bm : 0 ≤ sm ∧ sm ≤ 9223372036854775807 := hs.m
  obtain ⟨W, hW⟩ : ∃ W, w.alloc (.cells #[.int .u8 sk, .int .i64 sh, .int .u8 sa, .int .i64 sc, .int .i64 so, .int .i64 sd, .int .i64 sm] 40) = W := ⟨_, rfl⟩
  have BW : Hid (Below w.heap.size w W) := by rw [← hW]; exact below_alloc _ _
  have KB : Hid (Blk W w.heap.size [.int .u8 sk, .int .i64 sh, .int .u8 sa, .int .i64 sc, .int .i64 so, .int .i64 sd, .int .i64 sm] 40) := by rw [← hW]; exact Blk.newAt w _ _ _ w.heap.size rfl rfl
  have HP := hid (hp.below BW.out)
  obtain ⟨y, hy⟩ : ∃ y, (hat P sh).getD h0 = y := ⟨_, rfl⟩
  obtain ⟨yk, ya, yo, yc, ym⟩ := y
  obtain ⟨yb, hb⟩ : ∃ b, (hat P sh).isSome = b := ⟨_, rfl⟩
  have E : Hid (uh P sh = if yb = true then 0 else 5) := hid (by rw [← hb]; unfold uh; cases hat P sh <;> rfl)
  have LKt : ∀ V, Below W.heap.size W V → (LK (.map (some gm)) (.int .i64 sh) true).run Tryz.prog V = .ok (.tuple #[.agg #[.int .u8 ya, .int .i64 yo, .int .i64 yk, .int .i64 yc, .int .i64 ym], .bool yb]) V := fun V hV => by
    have := (HP.out.below hV).look bh true
    rw [hy, hb] at this
    exact this
  have SW : Hid (∀ V, Below W.heap.size W V → V.cell? ⟨p, 0, none⟩ = some (.map (some gm)) ∧ V.cell? ⟨w.heap.size, 1, none⟩ = some (.int .i64 sh) ∧ (LK (.map (some gm)) (.int .i64 sh) true).run Tryz.prog V = .ok (.tuple #[.agg #[.int .u8 ya, .int .i64 yo, .int .i64 yk, .int .i64 yc, .int .i64 ym], .bool yb]) V) := fun V hV => ⟨(HP.out.below hV).c0, (KB.out.below hV).cell 1 _ rfl, LKt V hV⟩
  obtain ⟨U, hU⟩ : ∃ U, (W.alloc (.cells #[.int .u8 0, .int .i64 0, .int .i64 0, .int .i64 0, .int .i64 0] 82)).drew = U := ⟨_, rfl⟩
  have NU : Hid (Below W.heap.size W U) := by rw [← hU]; exact (below_alloc _ _).drew
  have ku : Blk U W.heap.size [.int .u8 0, .int .i64 0, .int .i64 0, .int .i64 0, .int .i64 0] 82 := by rw [← hU]; exact (Blk.newAt W _ _ _ W.heap.size rfl rfl).drewN 1
  obtain ⟨V, s1, k1, hk1⟩ := SVg_run ya yo yk yc ym ku rfl
  have NV : Hid (Below W.heap.size W V) := hid (NU.out.trans (hk1.below NU.out.size (fun k h e => by omega)))
  obtain ⟨x0, x1, x2⟩ := SW.out W.drew (below_drewN W 1)
  obtain ⟨y0, y1, y2⟩ := SW.out U NU.out
  obtain ⟨z0, z1, z2⟩ := SW.out V NV.out
  clear k1 hk1 ku LKt hy hb hp hs
  show Calls _ _ _ _ fun e w' => e = .returned (.int .i64 (uh P sh)) ∧ Below w.heap.size w w'
  rw [E.out]
  cases yb with
  | true =>
    go_enter Tryz.func61, Tryz.ntmps61
    go_wp2_with fail
    clear hW
    go_region_held3 (fun V => V.cell? ⟨p, 0, none⟩ = some (.map (some gm)) ∧ V.cell? ⟨w.heap.size, 1, none⟩ = some (.int .i64 sh) ∧ (LK (.map (some gm)) (.int .i64 sh) true).run Tryz.prog V = .ok (.tuple #[.agg #[.int .u8 ya, .int .i64 yo, .int .i64 yk, .int .i64 yc, .int .i64 ym], .bool true]) V) (go_keep) (fail)
    all_goals
      go_wp2
      go_ret
      exact ⟨rfl, below_next BW.out NV.out⟩
  | false =>
    go_enter Tryz.func61, Tryz.ntmps61
    go_wp2_with fail
    clear hW
    go_region_held3 (fun V => V.cell? ⟨p, 0, none⟩ = some (.map (some gm)) ∧ V.cell? ⟨w.heap.size, 1, none⟩ = some (.int .i64 sh) ∧ (LK (.map (some gm)) (.int .i64 sh) true).run Tryz.prog V = .ok (.tuple #[.agg #[.int .u8 ya, .int .i64 yo, .int .i64 yk, .int .i64 yc, .int .i64 ym], .bool false]) V) (go_keep) (fail)
    all_goals
      go_wp2
      go_ret
      exact ⟨rfl, below_next BW.out NV.out⟩
set_option maxRecDepth 8000 in
set_option maxHeartbeats 1600000 in
theorem unlessKey_ok (p gm gk : Nat) (P : St) (s : Sk) (w : World) (hp : PU w p gm gk P) (hs : Sk.Fit s) :
    Calls Tryz.prog 60 #[.pointer (some ⟨p, 0, none⟩), sv s] w fun e w' => e = .returned (.int .i64 (uk P s.h)) ∧ Below w.heap.size w w' := by
  obtain ⟨sk, sh, sa, sc, so, sd, sm⟩ := s
  have bh : -9223372036854775808 ≤ sh ∧ sh ≤ 9223372036854775807 := hs.h
  have bc : -9223372036854775808 ≤ sc ∧ sc ≤ 9223372036854775807 := hs.c
  have bo : -9223372036854775808 ≤ so ∧ so ≤ 9223372036854775807 := hs.o
  have bd' : 0 ≤ sd ∧ sd ≤ 9223372036854775807 := hs.d
  have bm : 0 ≤ sm ∧ sm ≤ 9223372036854775807 := hs.m
  obtain ⟨W, hW⟩ : ∃ W, w.alloc (.cells #[.int .u8 sk, .int .i64 sh, .int .u8 sa, .int .i64 sc, .int .i64 so, .int .i64 sd, .int .i64 sm] 40) = W := ⟨_, rfl⟩
  have BW : Hid (Below w.heap.size w W) := by rw [← hW]; exact below_alloc _ _
  have KB : Hid (Blk W w.heap.size [.int .u8 sk, .int .i64 sh, .int .u8 sa, .int .i64 sc, .int .i64 so, .int .i64 sd, .int .i64 sm] 40) := by rw [← hW]; exact Blk.newAt w _ _ _ w.heap.size rfl rfl
  have HP := hid (hp.below BW.out)
  have CH := hid (unlessHeld_ok p gm gk P ⟨sk, sh, sa, sc, so, sd, sm⟩ W HP.out hs)
  show Calls _ _ _ _ fun e w' => e = .returned (.int .i64 (uk P sh)) ∧ Below w.heap.size w w'
  obtain ⟨y, hy⟩ : ∃ y, (hat P sh).getD h0 = y := ⟨_, rfl⟩
  obtain ⟨yk, ya, yo, yc, ym⟩ := y
  have LKf : ∀ V, Below W.heap.size W V → (LK (.map (some gm)) (.int .i64 sh) false).run Tryz.prog V = .ok (.agg #[.int .u8 ya, .int .i64 yo, .int .i64 yk, .int .i64 yc, .int .i64 ym]) V := fun V hV => by
    have := (HP.out.below hV).look bh false
    rw [hy] at this
    exact this
  have SW : Hid (∀ V, Below W.heap.size W V → V.cell? ⟨p, 0, none⟩ = some (.map (some gm)) ∧ V.cell? ⟨w.heap.size, 1, none⟩ = some (.int .i64 sh) ∧ (LDk ⟨w.heap.size, 0, none⟩).run Tryz.prog V = .ok (.agg #[.int .u8 sk, .int .i64 sh, .int .u8 sa, .int .i64 sc, .int .i64 so, .int .i64 sd, .int .i64 sm]) V ∧ (LK (.map (some gm)) (.int .i64 sh) false).run Tryz.prog V = .ok (.agg #[.int .u8 ya, .int .i64 yo, .int .i64 yk, .int .i64 yc, .int .i64 ym]) V) := fun V hV => ⟨(HP.out.below hV).c0, (KB.out.below hV).cell 1 _ rfl, (LDk_run (s := ⟨sk, sh, sa, sc, so, sd, sm⟩) (KB.out.below hV)), LKf V hV⟩
  obtain ⟨x0, x1, x2, x3⟩ := SW.out W (Below.refl _ _)
  cases hh : hat P sh with
  | none =>
    have E : Hid (uk P sh = 5) := hid (by unfold uk; rw [hh])
    have eh : uh P sh = 5 := if_pos hh
    rw [show uh P (Sk.h ⟨sk, sh, sa, sc, so, sd, sm⟩) = 5 from eh] at CH
    rw [E.out]
    clear LKf hy hh hp hs eh
    go_enter Tryz.func60, Tryz.ntmps60
    go_wp2_with fail
    clear hW
    refine CH.out.mono ?_
    rintro e W1 ⟨rfl, hb⟩
    have N1 := hid hb
    clear hb
    go_wp2
    go_ret
    exact ⟨rfl, below_next BW.out N1.out⟩
  | some y =>
    rw [hh] at hy
    obtain rfl : y = ⟨yk, ya, yo, yc, ym⟩ := hy
    have eh : uh P sh = 0 := if_neg (by rw [hh]; simp)
    rw [show uh P (Sk.h ⟨sk, sh, sa, sc, so, sd, sm⟩) = 0 from eh] at CH
    by_cases h6 : ya = 0
    · have E : Hid (uk P sh = 0) := hid (by unfold uk; rw [hh]; exact if_neg (fun e => e h6))
      rw [E.out]
      subst h6
      clear LKf hh hp hs eh
      go_enter Tryz.func60, Tryz.ntmps60
      go_wp2_with fail
      clear hW
      refine CH.out.mono ?_
      rintro e W1 ⟨rfl, hb⟩
      have N1 := hid hb
      clear hb
      obtain ⟨y0, y1, y2, y3⟩ := SW.out W1.drew (below_next N1.out (below_drewN W1 1))
      go_wp2_with fail
      go_region_held3 (fun V => V.cell? ⟨p, 0, none⟩ = some (.map (some gm)) ∧ V.cell? ⟨w.heap.size, 1, none⟩ = some (.int .i64 sh) ∧ (LDk ⟨w.heap.size, 0, none⟩).run Tryz.prog V = .ok (.agg #[.int .u8 sk, .int .i64 sh, .int .u8 sa, .int .i64 sc, .int .i64 so, .int .i64 sd, .int .i64 sm]) V ∧ (LK (.map (some gm)) (.int .i64 sh) false).run Tryz.prog V = .ok (.agg #[.int .u8 0, .int .i64 yo, .int .i64 yk, .int .i64 yc, .int .i64 ym]) V) (go_keep) (fail)
      go_wp2
      go_ret
      exact ⟨rfl, below_next BW.out (below_next N1.out (below_drewN W1 1))⟩
    · have E : Hid (uk P sh = 6) := hid (by unfold uk; rw [hh]; exact if_pos h6)
      rw [E.out]
      clear LKf hh hp hs eh
      have h7 : (ya == 0) = false := by simpa using h6
      have h8 : (ya != 0) = true := by simpa using h6
      go_enter Tryz.func60, Tryz.ntmps60
      go_wp2_with fail
      clear hW
      refine CH.out.mono ?_
      rintro e W1 ⟨rfl, hb⟩
      have N1 := hid hb
      clear hb
      obtain ⟨y0, y1, y2, y3⟩ := SW.out W1.drew (below_next N1.out (below_drewN W1 1))
      go_wp2_with fail
      go_region_held3 (fun V => V.cell? ⟨p, 0, none⟩ = some (.map (some gm)) ∧ V.cell? ⟨w.heap.size, 1, none⟩ = some (.int .i64 sh) ∧ (LDk ⟨w.heap.size, 0, none⟩).run Tryz.prog V = .ok (.agg #[.int .u8 sk, .int .i64 sh, .int .u8 sa, .int .i64 sc, .int .i64 so, .int .i64 sd, .int .i64 sm]) V ∧ (LK (.map (some gm)) (.int .i64 sh) false).run Tryz.prog V = .ok (.agg #[.int .u8 ya, .int .i64 yo, .int .i64 yk, .int .i64 yc, .int .i64 ym]) V) (go_keep) (fail)
      go_wp2
      go_ret
      exact ⟨rfl, below_next BW.out (below_next N1.out (below_drewN W1 1))⟩
set_option maxRecDepth 8000 in
set_option maxHeartbeats 1600000 in
theorem unlessSession_ok (p gm gk : Nat) (P : St) (s : Sk) (w : World) (hp : PU w p gm gk P) (hs : Sk.Fit s) :
    Calls Tryz.prog 50 #[.pointer (some ⟨p, 0, none⟩), sv s] w fun e w' => e = .returned (.int .i64 (us P s.h)) ∧ Below w.heap.size w w' := by
  obtain ⟨sk, sh, sa, sc, so, sd, sm⟩ := s
  have bh : -9223372036854775808 ≤ sh ∧ sh ≤ 9223372036854775807 := hs.h
  have bc : -9223372036854775808 ≤ sc ∧ sc ≤ 9223372036854775807 := hs.c
  have bo : -9223372036854775808 ≤ so ∧ so ≤ 9223372036854775807 := hs.o
  have bd' : 0 ≤ sd ∧ sd ≤ 9223372036854775807 := hs.d
  have bm : 0 ≤ sm ∧ sm ≤ 9223372036854775807 := hs.m
  obtain ⟨W, hW⟩ : ∃ W, w.alloc (.cells #[.int .u8 sk, .int .i64 sh, .int .u8 sa, .int .i64 sc, .int .i64 so, .int .i64 sd, .int .i64 sm] 40) = W := ⟨_, rfl⟩
  have BW : Hid (Below w.heap.size w W) := by rw [← hW]; exact below_alloc _ _
  have KB : Hid (Blk W w.heap.size [.int .u8 sk, .int .i64 sh, .int .u8 sa, .int .i64 sc, .int .i64 so, .int .i64 sd, .int .i64 sm] 40) := by rw [← hW]; exact Blk.newAt w _ _ _ w.heap.size rfl rfl
  have HP := hid (hp.below BW.out)
  have CH := hid (unlessHeld_ok p gm gk P ⟨sk, sh, sa, sc, so, sd, sm⟩ W HP.out hs)
  show Calls _ _ _ _ fun e w' => e = .returned (.int .i64 (us P sh)) ∧ Below w.heap.size w w'
  obtain ⟨y, hy⟩ : ∃ y, (hat P sh).getD h0 = y := ⟨_, rfl⟩
  obtain ⟨yk, ya, yo, yc, ym⟩ := y
  have LKf : ∀ V, Below W.heap.size W V → (LK (.map (some gm)) (.int .i64 sh) false).run Tryz.prog V = .ok (.agg #[.int .u8 ya, .int .i64 yo, .int .i64 yk, .int .i64 yc, .int .i64 ym]) V := fun V hV => by
    have := (HP.out.below hV).look bh false
    rw [hy] at this
    exact this
  have SW : Hid (∀ V, Below W.heap.size W V → V.cell? ⟨p, 0, none⟩ = some (.map (some gm)) ∧ V.cell? ⟨w.heap.size, 1, none⟩ = some (.int .i64 sh) ∧ (LDk ⟨w.heap.size, 0, none⟩).run Tryz.prog V = .ok (.agg #[.int .u8 sk, .int .i64 sh, .int .u8 sa, .int .i64 sc, .int .i64 so, .int .i64 sd, .int .i64 sm]) V ∧ (LK (.map (some gm)) (.int .i64 sh) false).run Tryz.prog V = .ok (.agg #[.int .u8 ya, .int .i64 yo, .int .i64 yk, .int .i64 yc, .int .i64 ym]) V) := fun V hV => ⟨(HP.out.below hV).c0, (KB.out.below hV).cell 1 _ rfl, (LDk_run (s := ⟨sk, sh, sa, sc, so, sd, sm⟩) (KB.out.below hV)), LKf V hV⟩
  obtain ⟨x0, x1, x2, x3⟩ := SW.out W (Below.refl _ _)
  cases hh : hat P sh with
  | none =>
    have E : Hid (us P sh = 5) := hid (by unfold us; rw [hh])
    have eh : uh P sh = 5 := if_pos hh
    rw [show uh P (Sk.h ⟨sk, sh, sa, sc, so, sd, sm⟩) = 5 from eh] at CH
    rw [E.out]
    clear LKf hy hh hp hs eh
    go_enter Tryz.func50, Tryz.ntmps50
    go_wp2_with fail
    clear hW
    refine CH.out.mono ?_
    rintro e W1 ⟨rfl, hb⟩
    have N1 := hid hb
    clear hb
    go_wp2
    go_ret
    exact ⟨rfl, below_next BW.out N1.out⟩
  | some y =>
    rw [hh] at hy
    obtain rfl : y = ⟨yk, ya, yo, yc, ym⟩ := hy
    have eh : uh P sh = 0 := if_neg (by rw [hh]; simp)
    rw [show uh P (Sk.h ⟨sk, sh, sa, sc, so, sd, sm⟩) = 0 from eh] at CH
    by_cases h6 : ya = 0
    · have E : Hid (us P sh = 6) := hid (by unfold us; rw [hh]; exact if_pos h6)
      rw [E.out]
      subst h6
      clear LKf hh hp hs eh
      go_enter Tryz.func50, Tryz.ntmps50
      go_wp2_with fail
      clear hW
      refine CH.out.mono ?_
      rintro e W1 ⟨rfl, hb⟩
      have N1 := hid hb
      clear hb
      obtain ⟨y0, y1, y2, y3⟩ := SW.out W1.drew (below_next N1.out (below_drewN W1 1))
      go_wp2_with fail
      go_region_held3 (fun V => V.cell? ⟨p, 0, none⟩ = some (.map (some gm)) ∧ V.cell? ⟨w.heap.size, 1, none⟩ = some (.int .i64 sh) ∧ (LDk ⟨w.heap.size, 0, none⟩).run Tryz.prog V = .ok (.agg #[.int .u8 sk, .int .i64 sh, .int .u8 sa, .int .i64 sc, .int .i64 so, .int .i64 sd, .int .i64 sm]) V ∧ (LK (.map (some gm)) (.int .i64 sh) false).run Tryz.prog V = .ok (.agg #[.int .u8 0, .int .i64 yo, .int .i64 yk, .int .i64 yc, .int .i64 ym]) V) (go_keep) (fail)
      go_wp2
      go_ret
      exact ⟨rfl, below_next BW.out (below_next N1.out (below_drewN W1 1))⟩
    · have E : Hid (us P sh = 0) := hid (by unfold us; rw [hh]; exact if_neg h6)
      rw [E.out]
      clear LKf hh hp hs eh
      have h7 : (ya == 0) = false := by simpa using h6
      have h8 : (ya != 0) = true := by simpa using h6
      go_enter Tryz.func50, Tryz.ntmps50
      go_wp2_with fail
      clear hW
      refine CH.out.mono ?_
      rintro e W1 ⟨rfl, hb⟩
      have N1 := hid hb
      clear hb
      obtain ⟨y0, y1, y2, y3⟩ := SW.out W1.drew (below_next N1.out (below_drewN W1 1))
      go_wp2_with fail
      go_region_held3 (fun V => V.cell? ⟨p, 0, none⟩ = some (.map (some gm)) ∧ V.cell? ⟨w.heap.size, 1, none⟩ = some (.int .i64 sh) ∧ (LDk ⟨w.heap.size, 0, none⟩).run Tryz.prog V = .ok (.agg #[.int .u8 sk, .int .i64 sh, .int .u8 sa, .int .i64 sc, .int .i64 so, .int .i64 sd, .int .i64 sm]) V ∧ (LK (.map (some gm)) (.int .i64 sh) false).run Tryz.prog V = .ok (.agg #[.int .u8 ya, .int .i64 yo, .int .i64 yk, .int .i64 yc, .int .i64 ym]) V) (go_keep) (fail)
      go_wp2
      go_ret
      exact ⟨rfl, below_next BW.out (below_next N1.out (below_drewN W1 1))⟩
end Go.Proofs.YtdmacflcjbkkpaaGreat.Co
