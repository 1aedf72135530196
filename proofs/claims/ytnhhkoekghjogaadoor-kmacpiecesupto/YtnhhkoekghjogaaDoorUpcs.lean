/- The statement Pieces, walked. -/
import Derived.Test.YtnhhkoekghjogaaDoorUsml
import Derived.Test.YtnhhkoekghjogaaDoorUlive
import Derived.Test.YtnhhkoekghjogaaDoorRlen
import Derived.Test.YtnhhkoekghjogaaDoorRreads
import Derived.Test.YtnhhkoekghjogaaDoorScut
import Derived.Test.YtnhhkoekghjogaaDoorSlnone
import Derived.Deep.DeepMust
namespace Go.Proofs.YtnhhkoekghjogaaDoor.Kc
open Go.ChangeShapes Go.WideShapes Go.ChangeAt Go.RowKit
open Go.Proofs.YtnhhkoekghjogaaDoor.By Go.Proofs.YtnhhkoekghjogaaDoor.Wd
/-- Blocks turn that are no sponge's and no ledger's that is known. -/
theorem GS.frame {w0 W W' : World} {B : Nat} {sts : List (Nat × SK)} {leds : List LE} {S : Nat → Prop} (h : GS w0 B sts leds W) (hk : Kp S W W') (hB : ∀ j, S j → B ≤ j) (h1 : ∀ p ∈ sts, ¬ S p.1) (h2 : ∀ q ∈ leds, ¬ S q.blk ∧ ∀ g, q.rv.ownBlock = some g → ¬ S g) : GS w0 B sts leds W' :=
  ⟨fun p hp => ⟨(h.st p hp).1.kept hk (h1 p hp), (h.st p hp).2⟩, h.stn, fun q hq => ⟨(h.led q hq).1.kept hk (h2 q hq).1 (h2 q hq).2, (h.led q hq).2⟩, h.ledn, h.bel.trans (hk.below h.hB (fun k hk e => by have := hB k e; omega)), h.kt.kept hk (fun e => by have := hB 0 e; have := h.h0; omega) (fun e => by have := hB 1 e; have := h.h0; omega), h.h0, Nat.le_trans h.hB hk.size⟩
/-- The sponge behind m bytes of the message. -/
def zk (r kn : Nat) (f : Nat → Int) (cn : Nat) (h g : Nat → Int) (m : Nat) : Z := Z.ins r (kz r kn f cn h) g m
section
variable {st : Int} {r : Nat} (hst : Str st r) (kn cn : Nat) (f h g : Nat → Int)
include hst
theorem zk_ok (m : Nat) : (zk r kn f cn h g m).Ok r false := (kz_ok hst kn cn f h).ins (by have := hst.lo; omega) _ _
theorem zk_le (hk : kn ≤ 1000000) (hc : cn ≤ 1000000) (m : Nat) (hm : m ≤ 1000000) : (zk r kn f cn h g m).c ≤ 40000 := by
  have h1 := kz_le hst kn cn f h hk hc
  have h2 := ins_up hst (kz_ok hst kn cn f h) g m hm
  unfold zk; omega
end
theorem zk_next (r kn : Nat) (f : Nat → Int) (cn : Nat) (h g : Nat → Int) (m q : Nat) : Z.ins r (zk r kn f cn h g m) (fun i => g (m + i)) q = zk r kn f cn h g (m + q) := (ins_add r (kz r kn f cn h) g m q).symm
section
variable {w0 W : World} {B b lb n m r ga kn cn : Nat} {st : Int} {sts1 sts2 : List (Nat × SK)} {leds1 leds2 : List LE} {f h g : Nat → Int} {rv x : Value} {us : List Value}
/-- A piece is taken in. -/
theorem GS.kpiece (hG : GS w0 B (sts1 ++ (b, some (r, 4, zk r kn f cn h g m, false)) :: sts2) (leds1 ++ ⟨true, lb, rv, evk [] (zk r kn f cn h g m).c⟩ :: leds2) W) (hM : Blk W ga [.pointer (some ⟨b, 0, none⟩), .int .i64 st] 67) (hst : Str st r) (hc : Cuts W B g (x :: us) m n) (hn : n ≤ 4000) (hk : kn ≤ 4000) (hcn : cn ≤ 4000) :
    Calls Tryd.prog 21 #[.pointer (some ⟨ga, 0, none⟩), .pointer (some ⟨lb, 0, none⟩), x] W fun e w' => e = .returned (.int .i64 0) ∧ ∃ q rv', m + q ≤ n ∧ GS w0 B (sts1 ++ (b, some (r, 4, zk r kn f cn h g (m + q), false)) :: sts2) (leds1 ++ ⟨true, lb, rv', evk [] (zk r kn f cn h g (m + q)).c⟩ :: leds2) w' ∧ Ko W w' ∧ Kp (fun j => j = b ∨ SE ⟨true, lb, rv, evk [] (zk r kn f cn h g m).c⟩ j) W w' ∧ Cuts w' B g us (m + q) n := by
  obtain ⟨q, hq, hu⟩ := hc
  have hle := hu.le
  obtain ⟨hb, hB, _⟩ := hG.mid
  obtain ⟨he, hB1, hB2, _⟩ := hG.midL
  have hl : Led W lb rv (evk [] (zk r kn f cn h g m).c) := he
  have n0 : ¬ (0 = b ∨ SE ⟨true, lb, rv, evk [] (zk r kn f cn h g m).c⟩ 0) := by have := hG.h0; rintro (e | e); omega; exact hG.no0 e
  have n1 : ¬ (1 = b ∨ SE ⟨true, lb, rv, evk [] (zk r kn f cn h g m).c⟩ 1) := by have := hG.h0; rintro (e | e); omega; exact hG.no1 e
  have hko := fun w' hk => (hG.koB (W' := w') hk).1
  have hz := zk_le hst kn cn f h g (by omega) (by omega) m (by omega)
  refine ((Mk.write (z := zk r kn f cn h g m) ⟨hM, hb, hst⟩ _ _ _ (write_sp b r q 4 x _ (fun i => g (m + i)) (some lb) _ (fun j => j = b ∨ SE ⟨true, lb, rv, evk [] (zk r kn f cn h g m).c⟩ j) W hb hG.kt n0 n1 (.inl rfl) ⟨.inr (.inl rfl), rv, hl, fun g hg _ => .inr (.inr hg)⟩ hl.pos (fun w' hk => ((hko w' hk).own hq).reads) (by omega) (evn_big _ (by omega)))).mono ?_)
  rintro e w' ⟨rfl, hs, hlg, hkp⟩
  obtain ⟨_, rv', hl', ho'⟩ := hlg
  rw [zk_next] at hs
  rw [zk_next, ← evk_add] at hl'
  have h1 := ins_ge ((zk_ok hst kn cn f h g m).o rfl) (fun i => g (m + i)) q
  rw [zk_next] at h1
  have e1 : (zk r kn f cn h g m).c + ((zk r kn f cn h g (m + q)).c - (zk r kn f cn h g m).c) = (zk r kn f cn h g (m + q)).c := by omega
  rw [e1] at hl'
  obtain ⟨hG', hk'⟩ := hG.turnB (k' := some (r, 4, zk r kn f cn h g (m + q), false)) (e' := ⟨true, lb, rv', evk [] (zk r kn f cn h g (m + q)).c⟩) (fun _ hj => hj) hkp hs hl' rfl (fun g hg hlt => ho' g hg hlt)
  exact ⟨rfl, q, rv', hle, hG', hk', hkp, hu.ko hk'⟩
end
set_option maxRecDepth 8000 in
set_option maxHeartbeats 8000000 in
theorem pieces_walk (st n : Int) (xof : Bool) (ka : Option Addr) (kn kc : Nat) (ca : Option Addr) (cn cc : Nat) (pa : Option Addr) (pn pc : Nat) (da : Option Addr) (dn dc : Nat) (f h g u : Nat → Int) (w : World) (hk : KT w)
    (hp : By.RB w (.slice ka kn kc) kn f) (hq : By.RB w (.slice ca cn cc) cn h) (hx : By.RB w (.slice pa pn pc) pn g) (hd : By.RB w (.slice da dn dc) dn u) (lk : kn ≤ 140737488355328 ∧ cn ≤ 140737488355328 ∧ pn ≤ 140737488355328) (ld : dn ≤ 1048576) :
    Calls Tryd.prog 4 #[.agg #[.int .i64 st, .slice ka kn kc, .slice ca cn cc], .agg #[.slice pa pn pc, .int .i64 n, .bool xof], .slice da dn dc] w fun e w' => e = .returned (.bool true) ∧ Below w.heap.size w w' := by
  have HK := hid hk
  have HP := hid hp
  have HQ := hid hq
  have HX := hid hx
  have HD := hid hd
  have G0 := hid (GS.start w hk)
  clear hk hp hq hx hd
  have LK := hid lk
  have LD := hid ld
  clear lk ld
  go_enter Tryd.func4, Tryd.ntmps4
  go_wp2_with fail
  obtain ⟨cb, hcb⟩ : ∃ x, w.heap.size = x := ⟨_, rfl⟩
  obtain ⟨W, hW⟩ : ∃ x, (w.alloc (.cells #[.int .i64 st, .slice ka kn kc, .slice ca cn cc] 24)).alloc (.cells #[.slice pa pn pc, .int .i64 n, .bool xof] 26) = x := ⟨_, rfl⟩
  have bW : Hid (Below w.heap.size w W) := by rw [← hW]; exact below_next (below_alloc _ _) (below_alloc _ _)
  have C0 : Hid (Blk W cb [.int .i64 st, .slice ka kn kc, .slice ca cn cc] 24) := by
    rw [← hW]
    exact (Blk.newAt w #[.int .i64 st, .slice ka kn kc, .slice ca cn cc] _ 24 cb hcb.symm rfl).below (below_alloc _ _)
  have X0 : Hid (Blk W (cb + 1) [.slice pa pn pc, .int .i64 n, .bool xof] 26) := by
    rw [← hW]
    exact Blk.newAt _ #[.slice pa pn pc, .int .i64 n, .bool xof] _ 26 (cb + 1) (by simp [hcb]) rfl
  have HCB := hid hcb
  rw [hW, hcb]
  clear hW hcb
  have G0' := hid (G0.out.below bW.out)
  clear G0
  refine (lives1 W (HK.out.below bW.out)).mono ?_
  rintro e w1 ⟨rfl, hb⟩
  have G1 := hid (G0'.out.below hb)
  have C1 := hid (C0.out.below hb)
  have X1 := hid (X0.out.below hb)
  clear hb C0 X0 G0'
  obtain ⟨w2, hw2⟩ : ∃ x, w1.alloc (.cells #[.int .i64 0, .int .i64 0, .int .i64 0, .slice pa pn pc, .int .i64 0, .bool false] 30) = x := ⟨_, rfl⟩
  obtain ⟨w3, hw3⟩ : ∃ x, w2.alloc (.cells #[.int .i64 st, .slice ka kn kc, .slice ca cn cc] 24) = x := ⟨_, rfl⟩
  obtain ⟨ab, hab⟩ : ∃ x, w1.heap.size = x := ⟨_, rfl⟩
  obtain ⟨sb, hsb⟩ : ∃ x, w2.heap.size = x := ⟨_, rfl⟩
  have b12 : Hid (Below w1.heap.size w1 w2) := by rw [← hw2]; exact below_alloc _ _
  have b23 : Hid (Below w2.heap.size w2 w3) := by rw [← hw3]; exact below_alloc _ _
  have A2 : Hid (Blk w2 ab [.int .i64 0, .int .i64 0, .int .i64 0, .slice pa pn pc, .int .i64 0, .bool false] 30) := by
    rw [← hw2]; exact Blk.newAt w1 _ _ _ ab hab.symm rfl
  have A3 := hid (A2.out.below b23.out)
  have S3 : Hid (Blk w3 sb [.int .i64 st, .slice ka kn kc, .slice ca cn cc] 24) := by
    rw [← hw3]; exact Blk.newAt w2 _ _ _ sb hsb.symm rfl
  have x0 := X1.out.cell 0 _ rfl
  have x1 := X1.out.cell 1 _ rfl
  have c0 := (C1.out.below b12.out).cell 0 _ rfl
  have c1 := (C1.out.below b12.out).cell 1 _ rfl
  have c2 := (C1.out.below b12.out).cell 2 _ rfl
  have C3 := hid ((C1.out.below b12.out).below b23.out)
  have X3 := hid ((X1.out.below b12.out).below b23.out)
  have G3 := hid ((G1.out.below b12.out).below b23.out)
  clear C1 X1 G1 A2
  go_wp2_with fail
  refine (small1 (some ⟨ab, 0, none⟩) ab 0 1 1 (fun _ => rfl) (fun _ => ⟨0, 0, 0, pa, pn, pc, 0, false, g⟩) sb 1 (fun _ => ⟨st, ka, kn, kc, ca, cn, cc, f, h⟩) w3 (fun i hi => by
    obtain rfl : i = 0 := by omega
    exact ⟨A3.out.cell 0 _ rfl, A3.out.cell 1 _ rfl, A3.out.cell 2 _ rfl, A3.out.cell 3 _ rfl, A3.out.cell 4 _ rfl, A3.out.cell 5 _ rfl⟩) (fun i hi => by
    obtain rfl : i = 0 := by omega
    exact ⟨S3.out.cell 0 _ rfl, S3.out.cell 1 _ rfl, S3.out.cell 2 _ rfl⟩) (by omega) (by decide) (fun _ _ => LK.out.2.2) (fun _ _ => ⟨LK.out.1, LK.out.2.1⟩) (by omega)).mono ?_
  rintro e w4 ⟨⟨y, rfl, hy⟩, d4, hw4⟩
  have b34 : Hid (Below w3.heap.size w3 w4) := by rw [hw4]; exact below_drewN _ _
  have HY := hid hy
  clear hw4 hy A3 S3 hw2 hw3 hab hsb x0 x1 c0 c1 c2 b12 b23
  have C4 := hid (C3.out.below b34.out)
  have X4 := hid (X3.out.below b34.out)
  have G4 := hid (G3.out.below b34.out)
  clear C3 X3 G3 b34
  cases y with
  | false =>
    go_wp2
    go_ret
    exact ⟨rfl, G4.out.bel⟩
  | true =>
    have SZ : Hid (kn ≤ 4000 ∧ cn ≤ 4000 ∧ pn ≤ 4000) := by
      obtain ⟨_, h1, h2⟩ := HY.out rfl
      exact ⟨(h2 0 (by omega)).1, (h2 0 (by omega)).2, h1 0 (by omega)⟩
    clear HY LK
    have c0 := C4.out.cell 0 _ rfl
    obtain ⟨t, ht⟩ : ∃ t, (st.tmod 2 != 0) = t := ⟨_, rfl⟩
    have FIN : Hid (∃ s2 r, Str s2 r ∧ s2 = if t then 256 else 128) := by
      cases t with
      | true => exact ⟨256, 136, .inr ⟨rfl, rfl⟩, rfl⟩
      | false => exact ⟨128, 168, .inl ⟨rfl, rfl⟩, rfl⟩
    obtain ⟨s2, r, hstr, hs2⟩ := FIN.out
    have HST := hid hstr
    clear hstr FIN
    cases t
    all_goals
      simp at hs2
      go_wp2_with fail
      rw [← hs2]
      clear hs2 ht c0
      refine (new9 w4).mono ?_
      rintro e w5 ⟨rfl, hl, hb⟩
      have G5 := hid (G4.out.addLed hb (o := true) hl)
      have C5 := hid (C4.out.below hb)
      have X5 := hid (X4.out.below hb)
      clear hl hb G4 C4 X4
      go_wp2_with fail
      refine (new9 w5).mono ?_
      rintro e w6 ⟨rfl, hl, hb⟩
      have G6 := hid (show GS w w.heap.size [] [⟨true, w4.heap.size, .slice none 0 0, []⟩, ⟨true, w5.heap.size, .slice none 0 0, []⟩] w6 from G5.out.addLed hb (o := true) hl)
      have C6 := hid (C5.out.below hb)
      have X6 := hid (X5.out.below hb)
      clear hl hb G5 C5 X5
      obtain ⟨lb, hlb⟩ : ∃ x, w4.heap.size = x := ⟨_, rfl⟩
      obtain ⟨mb, hmb⟩ : ∃ x, w5.heap.size = x := ⟨_, rfl⟩
      rw [hlb, hmb] at G6
      rw [hlb, hmb]
      clear hlb hmb
      have NP := hid (knew_ok s2 r kn cn f h (.slice ka kn kc) (.slice ca cn cc) (some lb) [] (SE ⟨true, lb, .slice none 0 0, []⟩) w6 HST.out G6.out.kt (GS.no0 (leds1 := []) G6.out) (GS.no1 (leds1 := []) G6.out) (GS.lgP (leds1 := []) G6.out) pos_nil tiny_nil
        (fun w' hk' => HP.out.below (GS.koL (leds1 := []) G6.out hk').2)
        (fun w' hk' => HQ.out.below (GS.koL (leds1 := []) G6.out hk').2)
        (by have := SZ.out; omega) (by have := SZ.out; omega))
      have c1 := C6.out.cell 1 _ rfl
      have c2 := C6.out.cell 2 _ rfl
      go_wp2_with fail
      refine NP.out.mono ?_
      rintro e w7 ⟨ga, b1, rfl, hb1, hga, hmk, hlg, hkp⟩
      obtain ⟨rv1, hG, hko⟩ := GS.turnP (leds1 := []) G6.out hlg hkp
      have G7 := hid (show GS w w.heap.size [(b1, some (r, 4, zk r kn f cn h g 0, false))] [⟨true, lb, rv1, evk [] (zk r kn f cn h g 0).c⟩, ⟨true, mb, .slice none 0 0, []⟩] w7 from hG.add (k := some (r, 4, zk r kn f cn h g 0, false)) hmk.sp (by have := G6.out.hB; omega) (fun p hp => by cases hp))
      have A7 := hid hmk.here
      have GA := hid (show w.heap.size ≤ ga by have := G6.out.hB; omega)
      have C7 := hid (hko _ _ _ C6.out (by decide) (by decide) (by decide) (by decide))
      have X7 := hid (hko _ _ _ X6.out (by decide) (by decide) (by decide) (by decide))
      clear hb1 hga hmk hlg hkp hG hko NP G6 C6 X6 c1 c2
      have NQ := hid (knew_ok s2 r kn cn f h (.slice ka kn kc) (.slice ca cn cc) (some mb) [] (SE ⟨true, mb, .slice none 0 0, []⟩) w7 HST.out G7.out.kt (GS.no0 (leds1 := [_]) (leds2 := []) G7.out) (GS.no1 (leds1 := [_]) (leds2 := []) G7.out) (GS.lgP (leds1 := [_]) (leds2 := []) G7.out) pos_nil tiny_nil
        (fun w' hk' => HP.out.below (GS.koL (leds1 := [_]) (leds2 := []) G7.out hk').2)
        (fun w' hk' => HQ.out.below (GS.koL (leds1 := [_]) (leds2 := []) G7.out hk').2)
        (by have := SZ.out; omega) (by have := SZ.out; omega))
      have c1 := C7.out.cell 1 _ rfl
      have c2 := C7.out.cell 2 _ rfl
      go_wp2_with fail
      refine NQ.out.mono ?_
      rintro e w8 ⟨gb, b2, rfl, hb2, hgb, hmk, hlg, hkp⟩
      obtain ⟨rv2, hG, hko⟩ := GS.turnP (leds1 := [_]) (leds2 := []) G7.out hlg hkp
      have hlt := (GS.mid (sts1 := []) (sts2 := []) G7.out).1.here.lt
      have G8 := hid (show GS w w.heap.size [(b1, some (r, 4, zk r kn f cn h g 0, false)), (b2, some (r, 4, zk r kn f cn h g 0, false))] [⟨true, lb, rv1, evk [] (zk r kn f cn h g 0).c⟩, ⟨true, mb, rv2, evk [] (zk r kn f cn h g 0).c⟩] w8 from hG.add (k := some (r, 4, zk r kn f cn h g 0, false)) hmk.sp (by have := G7.out.hB; omega) (fun p hp => by simp only [List.mem_cons, List.not_mem_nil, or_false] at hp; subst hp; show b1 ≠ b2; omega))
      have B8 := hid hmk.here
      have A8 := hid (hko _ _ _ A7.out (by decide) (by decide) (by decide) (by decide))
      have GAB : Hid (ga ≠ gb) := by have := A7.out.lt; show ga ≠ gb; omega
      have GB := hid (show w.heap.size ≤ gb by have := G7.out.hB; omega)
      have X8 := hid (hko _ _ _ X7.out (by decide) (by decide) (by decide) (by decide))
      clear hb2 hgb hmk hlg hkp hG hko NQ G7 C7 X7 c1 c2 A7 hlt
      have HZ0 := hid (zk_le HST.out kn cn f h g (by have := SZ.out; omega) (by have := SZ.out; omega) 0 (by omega))
      have x0 := X8.out.cell 0 _ rfl
      have WB := hid (Mk.write ⟨B8.out, (GS.mid (sts1 := [_]) (sts2 := []) G8.out).1, HST.out⟩ (.pointer (some ⟨mb, 0, none⟩)) (.slice pa pn pc) _ (GS.write (sts1 := [_]) (sts2 := []) (leds1 := [_]) (leds2 := []) G8.out pn (.slice pa pn pc) g (fun w' hk' => HX.out.below (GS.koB (sts1 := [_]) (sts2 := []) (leds1 := [_]) (leds2 := []) G8.out hk').2) (by have := SZ.out; omega) (evn_big _ (by have := HZ0.out; omega))))
      go_wp2_with fail
      refine WB.out.mono ?_
      rintro e w9 ⟨rfl, rv3, hG, hko⟩
      have e9 : evk (evk [] (zk r kn f cn h g 0).c) ((Z.ins r (zk r kn f cn h g 0) g pn).c - (zk r kn f cn h g 0).c) = evk [] (zk r kn f cn h g pn).c := by
        have h1 : (zk r kn f cn h g 0).c ≤ (Z.ins r (zk r kn f cn h g 0) g pn).c := ins_ge ((zk_ok HST.out kn cn f h g 0).o rfl) g pn
        rw [← evk_add, show (zk r kn f cn h g 0).c + ((Z.ins r (zk r kn f cn h g 0) g pn).c - (zk r kn f cn h g 0).c) = (zk r kn f cn h g pn).c from by
          have e2 : (Z.ins r (zk r kn f cn h g 0) g pn).c = (zk r kn f cn h g pn).c := rfl
          omega]
      rw [e9] at hG
      have G9 := hid (show GS w w.heap.size [(b1, some (r, 4, zk r kn f cn h g 0, false)), (b2, some (r, 4, zk r kn f cn h g pn, false))] [⟨true, lb, rv1, evk [] (zk r kn f cn h g 0).c⟩, ⟨true, mb, rv3, evk [] (zk r kn f cn h g pn).c⟩] w9 from hG)
      have A9 := hid (hko _ _ _ A8.out (by decide) (by decide) (by decide) (by decide))
      have B9 := hid (hko _ _ _ B8.out (by decide) (by decide) (by decide) (by decide))
      have X9 := hid (hko _ _ _ X8.out (by decide) (by decide) (by decide) (by decide))
      clear hG hko e9 WB G8 A8 B8 X8 x0 HZ0
      have x0 := X9.out.cell 0 _ rfl
      go_wp2_with fail
      refine (cut27 pa da pn pc dn dc g u _ (HX.out.below G9.out.bel) (HD.out.below G9.out.bel) (by have := SZ.out; omega) LD.out).mono ?_
      rintro e w10 ⟨pv, vs, rfl, hrow, hcut, hb, hvl, hv0, -⟩
      have G10 := hid (G9.out.below hb)
      have A10 := hid (A9.out.below hb)
      have B10 := hid (B9.out.below hb)
      have X10 := hid (X9.out.below hb)
      have R10 := hid (row_mono hrow G9.out.hB)
      have C10 := hid (Cuts.mono hcut G9.out.hB)
      have VL := hid (show vs.length ≤ 1048577 by have := LD.out; omega)
      obtain ⟨A, cp, rfl⟩ := row_slice hrow
      clear hrow hcut hb hvl hv0 G9 A9 B9 X9 x0
      go_wp2_with fail
      go_loopw [16] (fun x wr => ∃ (i m : Nat) (rv : Value), i ≤ vs.length ∧ x = .int .i64 i ∧ m ≤ pn ∧ Cuts wr w.heap.size g (vs.drop i) m pn ∧ wr.ownsRow w.heap.size 22 1 (.slice A vs.length cp) vs.length vs ∧ Blk wr (cb + 1) [.slice pa pn pc, .int .i64 n, .bool xof] 26 ∧ Blk wr ga [.pointer (some ⟨b1, 0, none⟩), .int .i64 s2] 67 ∧ Blk wr gb [.pointer (some ⟨b2, 0, none⟩), .int .i64 s2] 67 ∧ GS w w.heap.size [(b1, some (r, 4, zk r kn f cn h g m, false)), (b2, some (r, 4, zk r kn f cn h g pn, false))] [⟨true, lb, rv, evk [] (zk r kn f cn h g m).c⟩, ⟨true, mb, rv3, evk [] (zk r kn f cn h g pn).c⟩] wr) (fun x _ => vs.length - (intOf x).toNat)
      case atStart => exact ⟨0, 0, rv1, by omega, rfl, by omega, C10.out, R10.out, X10.out, A10.out, B10.out, G10.out⟩
      case round =>
        clear G10 R10 C10 X10 A10 B10
        obtain ⟨i, m, rv, hi, rfl, hmn, hcut, hrow, hX, hA, hBb, hG⟩ := hrel
        have C := hid hcut
        have R := hid hrow
        have X := hid hX
        have A1 := hid hA
        have B1 := hid hBb
        have G := hid hG
        clear hcut hrow hG hX hA hBb
        by_cases h1 : i < vs.length
        · obtain ⟨x, hx⟩ : ∃ x, vs[i]? = some x := ⟨_, List.getElem?_eq_getElem h1⟩
          obtain ⟨gr, gc, e, hcell⟩ := rowL_cell R.out hx
          simp only [Value.slice.injEq, true_and] at e
          obtain ⟨rfl, rfl⟩ := e
          rw [Nat.zero_add] at hcell
          have hd : vs.drop i = x :: vs.drop (i + 1) := by rw [List.drop_eq_getElem_cons h1]; congr 1; rw [List.getElem?_eq_getElem h1] at hx; exact Option.some.inj hx
          have D := hid hd
          rw [hd] at C
          have VLo := VL.out
          clear hx hd
          go_wp2_with fail
          refine (Mk.clone ⟨A1.out, (GS.mid (sts1 := []) G.out).1, HST.out⟩).mono ?_
          rintro e w11 ⟨gd, rfl, hgd, hmd, hb⟩
          have G11 := hid (G.out.below hb)
          have A11 := hid (A1.out.below hb)
          have B11 := hid (B1.out.below hb)
          have X11 := hid (X.out.below hb)
          have C11 := hid (C.out.below hb)
          have R11 := hid ((Ko.below hb).row R.out)
          have M11 := hid hmd
          have GD := hid hgd
          have BS := hid hb.size
          have LTS : Hid (b1 < wr.heap.size ∧ b2 < wr.heap.size ∧ ga < wr.heap.size ∧ gb < wr.heap.size ∧ gr < wr.heap.size) := ⟨(GS.mid (sts1 := []) G.out).1.here.lt, (GS.mid (sts1 := [_]) (sts2 := []) G.out).1.here.lt, A1.out.lt, B1.out.lt, block_lt_of_cell hcell⟩
          have HWR := hid G.out.hB
          clear hgd hmd hb G A1 B1 X C R hcell
          have c11 : w11.cell? ⟨gr, i, none⟩ = some x := by
            obtain ⟨ga', gc', e, hcell⟩ := rowL_cell R11.out (show vs[i]? = some x from by have := D.out; rw [List.drop_eq_getElem_cons h1] at this; rw [List.getElem?_eq_getElem h1]; exact congrArg some (List.cons.inj this).1)
            simp only [Value.slice.injEq, Option.some.injEq, Addr.mk.injEq, true_and, and_true] at e
            rw [Nat.zero_add] at hcell
            rw [e.1]; exact hcell
          have x11 := X11.out.cell 0 _ rfl
          have HB1 : Hid (b1 < wr.heap.size ∧ b2 < wr.heap.size ∧ ga < wr.heap.size ∧ gb < wr.heap.size ∧ gr < wr.heap.size) := LTS.out
          have SZo := SZ.out
          go_wp2_with fail
          refine (GS.kpiece (sts1 := []) (leds1 := []) G11.out A11.out HST.out C11.out SZo.2.2 SZo.1 SZo.2.1).mono ?_
          rintro e w12 ⟨rfl, q, rv', hmq, hG12, hko, hkp, hC12⟩
          have G12 := hid hG12
          have C12 := hid hC12
          have A12 := hid (hko _ _ _ A11.out (by decide) (by decide) (by decide) (by decide))
          have B12 := hid (hko _ _ _ B11.out (by decide) (by decide) (by decide) (by decide))
          have X12 := hid (hko _ _ _ X11.out (by decide) (by decide) (by decide) (by decide))
          have R12 := hid (hko.row R11.out)
          have S12 := hid (M11.out.sp.kept hkp (fun e => by
            have h2 := HB1.out
            rcases e with e | e
            · omega
            · exact led_apart (GS.midL (leds1 := []) G11.out).1 M11.out.sp.here (by decide) (by decide) e))
          have M12 : Hid (Mk w12 gd wr.heap.size s2 r (zk r kn f cn h g m)) := ⟨hko _ _ _ M11.out.here (by decide) (by decide) (by decide) (by decide), S12.out, HST.out⟩
          have BS12 : Hid (wr.heap.size ≤ w12.heap.size) := by have := BS.out; have := hkp.size; show _ ≤ _; omega
          have HMQ := hid hmq
          clear hG12 hC12 hko hkp G11 C11 A11 B11 X11 R11 M11 S12 c11 x11
          obtain ⟨bd, hbd⟩ : ∃ x, wr.heap.size = x := ⟨_, rfl⟩
          rw [hbd] at M12 HB1 GD BS12
          have WB : Hid (w.heap.size ≤ bd) := by rw [← hbd]; exact HWR.out
          have x12 := X12.out.cell 0 _ rfl
          have n01 : ∀ j, j ≤ 1 → ¬ (fun x => x = bd) j := fun j hj e => by have e' : j = bd := e; have := G12.out.h0; have := WB.out; omega
          have WD := hid (M12.out.write (.pointer none) (.slice pa pn pc) _ (write_sp bd r pn 4 (.slice pa pn pc) (zk r kn f cn h g m) g none [] (fun x => x = bd) w12 M12.out.sp G12.out.kt (n01 0 (by omega)) (n01 1 (by omega)) rfl trivial pos_nil (fun w' hk' => HX.out.below (G12.out.bel.trans (hk'.below G12.out.hB (fun k hk e => by have e' : k = bd := e; have := WB.out; omega)))) (by omega) big_nil))
          clear n01
          go_wp2_with fail
          refine WD.out.mono ?_
          rintro e w13 ⟨rfl, hs, -, hkp⟩
          have hgb : gd ≠ bd := fun e => by have h1 := M12.out.here; have h2 := M12.out.sp.here; rw [← e] at h2; exact Blk.ne h1 h2 (by decide) rfl
          have M13 : Hid (Mk w13 gd bd s2 r (Z.ins r (zk r kn f cn h g m) g pn)) := ⟨M12.out.here.kept hkp hgb, hs, HST.out⟩
          have K13 := hid hkp
          clear hs hkp WD
          have WW := hid (M13.out.wipe none [] (fun j => j = gd ∨ j = bd) (.inl rfl) (.inr rfl) trivial big_nil)
          go_wp2_with fail
          refine WW.out.mono ?_
          rintro e w14 ⟨rfl, -, -, -, hkp⟩
          have K14 : Hid (Kp (fun j => j = gd ∨ j = bd) w12 w14) := (K13.out.mono (fun _ _ e => .inr e)).trans hkp (fun _ _ e => e)
          have ty : ∀ {x cs t}, Blk w12 x cs t → t ≠ 67 → t ≠ 106 → ¬ (x = gd ∨ x = bd) := fun {x cs t} hx h1 h2 e => by
            rcases e with e | e
            · exact Blk.ne hx M12.out.here h1 e
            · exact Blk.ne hx M12.out.sp.here h2 e
          have lt : ∀ {x}, x < bd → ¬ (x = gd ∨ x = bd) := fun {x} hx e => by have := GD.out; omega
          have G14 := hid (G12.out.frame K14.out (fun j e => by have := WB.out; have := GD.out; rcases e with e | e <;> omega) (fun p hp => by
              have h2 := HB1.out
              simp only [List.mem_cons, List.not_mem_nil, or_false, List.nil_append] at hp
              rcases hp with rfl | rfl
              · exact lt h2.1
              · exact lt h2.2.1) (fun q hq => by
              obtain ⟨c, hc⟩ := (G12.out.led q hq).1.blk
              refine ⟨ty hc (by cases q.own <;> decide) (by cases q.own <;> decide), fun x hx => ?_⟩
              obtain ⟨c, hc⟩ := (G12.out.led q hq).1.run hx
              exact ty hc (by decide) (by decide)))
          have A14 := hid (A12.out.kept K14.out (lt HB1.out.2.2.1))
          have B14 := hid (B12.out.kept K14.out (lt HB1.out.2.2.2.1))
          have X14 := hid (X12.out.kept K14.out (ty X12.out (by decide) (by decide)))
          have R14 := hid (row_kept3 R12.out K14.out (fun x hx => by simp [Value.ownBlock] at hx; subst hx; exact lt HB1.out.2.2.2.2))
          have C14 := hid (C12.out.imp (fun v m g ho => own_kept ho K14.out (fun x hx => by
            obtain ⟨c, hc⟩ := own8_type ho hx
            exact ty (cs := c.toList) (t := 5) (by show w12.heap[x]? = _; rw [hc]) (by decide) (by decide))))
          clear hkp K13 K14 ty WW M13 M12 G12 C12 A12 B12 X12 R12 x12 hgb lt
          go_wp2_with fail
          refine ⟨⟨i + 1, m + q, rv', by omega, by go_num, HMQ.out, C14.out, R14.out, X14.out, A14.out, B14.out, G14.out⟩, by simp [intOf]; omega⟩
        · have ei : i = vs.length := by omega
          subst ei
          have em : m = pn := by have := C.out; rw [List.drop_length] at this; exact this
          subst em
          clear C R h1
          have SZo := SZ.out
          have HZL := hid (zk_le HST.out kn cn f h g (by omega) (by omega) m (by omega))
          have HZO := hid (zk_ok HST.out kn cn f h g m)
          obtain ⟨zp, hzp⟩ : ∃ x, zk r kn f cn h g m = x := ⟨_, rfl⟩
          rw [hzp] at G HZL HZO
          clear hzp
          have x1 := X.out.cell 1 _ rfl
          go_wp2_with fail
          refine (pickN n 400 (by omega) (by omega) _).mono ?_
          rintro e w11 ⟨⟨p1, hp1, rfl⟩, rfl⟩
          go_wp2_with fail
          refine (pickN n 50 (by omega) (by omega) _).mono ?_
          rintro e w11' ⟨⟨p2, hp2, rfl⟩, rfl⟩
          obtain ⟨mo, hmo⟩ : ∃ mo, p1 + 1 + p2 = mo := ⟨_, rfl⟩
          have hmoI : (p1 : Int) + 1 + (p2 : Int) = (mo : Int) := by omega
          have HMO := hid hmo
          clear hmo
          have x2 := X.out.cell 2 _ rfl
          have TN := hid (tiny_evn zp.c (by have := HZL.out; omega))
          have S1 := hid (Mk.sum ⟨A1.out, (GS.mid (sts1 := []) G.out).1, HST.out⟩ (some lb) _ (SE ⟨true, lb, rv, evk [] zp.c⟩) p1 xof G.out.kt (GS.no0 (leds1 := []) G.out) (GS.no1 (leds1 := []) G.out) (GS.lgP (leds1 := []) G.out) (evn_pos _) TN.out (by omega))
          go_wp2_with fail
          refine S1.out.mono ?_
          rintro e w12 ⟨v1, rfl, ho, hlg, hkp⟩
          obtain ⟨a1, k1, rfl⟩ := own_slice ho
          obtain ⟨rw1, hG, hko⟩ := GS.turnP (leds1 := []) G.out hlg hkp
          have G12 := hid hG
          have A12 := hid (hko _ _ _ A1.out (by decide) (by decide) (by decide) (by decide))
          have B12 := hid (hko _ _ _ B1.out (by decide) (by decide) (by decide) (by decide))
          have X12 := hid (hko _ _ _ X.out (by decide) (by decide) (by decide) (by decide))
          have V1 := hid (own_mono ho G.out.hB)
          clear ho hlg hkp hG hko S1 G A1 B1 X x1 x2
          have x2 := X12.out.cell 2 _ rfl
          have S2 := hid (Mk.sum ⟨B12.out, (GS.mid (sts1 := [_]) (sts2 := []) G12.out).1, HST.out⟩ (some mb) _ (SE ⟨true, mb, rv3, evk [] zp.c⟩) p1 xof G12.out.kt (GS.no0 (leds1 := [_]) (leds2 := []) G12.out) (GS.no1 (leds1 := [_]) (leds2 := []) G12.out) (GS.lgP (leds1 := [_]) (leds2 := []) G12.out) (evn_pos _) TN.out (by omega))
          go_wp2_with fail
          refine S2.out.mono ?_
          rintro e w13 ⟨v2, rfl, ho, hlg, hkp⟩
          obtain ⟨a2, k2, rfl⟩ := own_slice ho
          obtain ⟨rw2, hG, hko⟩ := GS.turnP (leds1 := [_]) (leds2 := []) G12.out hlg hkp
          have G13 := hid hG
          have A13 := hid (hko _ _ _ A12.out (by decide) (by decide) (by decide) (by decide))
          have B13 := hid (hko _ _ _ B12.out (by decide) (by decide) (by decide) (by decide))
          have V1' := hid (hko.own V1.out)
          have V2 := hid (own_mono ho G12.out.hB)
          clear ho hlg hkp hG hko S2 G12 A12 B12 X12 x2 V1
          have S3 := hid (Mk.sum ⟨B13.out, (GS.mid (sts1 := [_]) (sts2 := []) G13.out).1, HST.out⟩ none [] (fun _ => False) mo true G13.out.kt (fun e => e) (fun e => e) trivial pos_nil tiny_nil (by have := HMO.out; omega))
          go_wp2_with fail
          refine S3.out.mono ?_
          rintro e w14 ⟨v3, rfl, ho, -, hkp⟩
          obtain ⟨a3, k3, rfl⟩ := own_slice ho
          have hb := below_no hkp
          have G14 := hid (G13.out.below hb)
          have A14 := hid (A13.out.below hb)
          have B14 := hid (B13.out.below hb)
          have V1 := hid (own_below V1'.out hb)
          have V2' := hid (own_below V2.out hb)
          have V3 := hid (own_mono ho G13.out.hB)
          clear ho hkp hb S3 G13 A13 B13 V1' V2
          have S4 := hid (Mk.sum ⟨A14.out, (GS.mid (sts1 := []) G14.out).1, HST.out⟩ none [] (fun _ => False) p1 true G14.out.kt (fun e => e) (fun e => e) trivial pos_nil tiny_nil (by omega))
          go_wp2_with fail
          refine S4.out.mono ?_
          rintro e w15 ⟨v4, rfl, ho, -, hkp⟩
          obtain ⟨a4, k4, rfl⟩ := own_slice ho
          have hb := below_no hkp
          have G15 := hid (G14.out.below hb)
          have A15 := hid (A14.out.below hb)
          have B15 := hid (B14.out.below hb)
          have U1 := hid (own_below V1.out hb).reads
          have U2 := hid (own_below V2'.out hb).reads
          have U3 := hid (own_below V3.out hb).reads
          have U4 := hid ho.reads
          clear ho hkp hb S4 G14 A14 B14 V1 V2' V3
          have hc3 := rb_cap U3.out
          have i3 : (p1 : Int) ≤ (k3 : Int) := by have := HMO.out; omega
          have HMO' : p1 ≤ mo := by have := HMO.out; omega
          go_wp2_with fail
          refine (same_true _ _ p1 _ _ w15 U1.out U2.out (by omega) (fun _ _ => rfl)).mono ?_
          rintro e w16 ⟨rfl, d16, hw16⟩
          have b16 : Below w15.heap.size w15 w16 := by rw [hw16]; exact below_drewN _ _
          have G16 := hid (G15.out.below b16)
          have A16 := hid (A15.out.below b16)
          have B16 := hid (B15.out.below b16)
          have U3' := hid (U3.out.below b16)
          have U4' := hid (U4.out.below b16)
          clear hw16 b16 G15 A15 B15 U1 U2 U3 U4
          go_wp2_with fail
          refine (same_true _ _ p1 _ _ w16 (U3'.out.first p1 HMO') U4'.out (by omega) (fun _ _ => rfl)).mono ?_
          rintro e w17 ⟨rfl, d17, hw17⟩
          have b17 : Below w16.heap.size w16 w17 := by rw [hw17]; exact below_drewN _ _
          have G17 := hid (G16.out.below b17)
          have A17 := hid (A16.out.below b17)
          have B17 := hid (B16.out.below b17)
          clear hw17 b17 G16 A16 B16 U3' U4'
          have hev : Hid ((evk (evk [] zp.c) (kN r zp p1 xof)).length * 24 ≤ 140737488355328) := by
            have h1 := evk_len [] zp.c
            have h2 := evk_len (evk [] zp.c) (kN r zp p1 xof)
            have h3 := kN_le HST.out HZO.out p1 xof (by omega)
            have h4 := HZL.out
            simp at h1
            show _ ≤ _
            omega
          go_wp2_with fail
          refine (runs22 lb rw1 _ w17 (GS.midL (leds1 := []) G17.out).1 hev.out).mono ?_
          rintro e w18 ⟨u1, rfl, hu, hb⟩
          have RU1 := hid hu
          have G18 := hid (G17.out.below hb)
          have A18 := hid (A17.out.below hb)
          have B18 := hid (B17.out.below hb)
          clear hu hb G17 A17 B17
          go_wp2_with fail
          refine (runs22 mb rw2 _ w18 (GS.midL (leds1 := [_]) (leds2 := []) G18.out).1 hev.out).mono ?_
          rintro e w19 ⟨u2, rfl, hu, hb⟩
          have RU2 := hid hu
          have RU1' := hid (RU1.out.reads.below hb)
          have G19 := hid (G18.out.below hb)
          have A19 := hid (A18.out.below hb)
          have B19 := hid (B18.out.below hb)
          clear hu hb G18 A18 B18 RU1
          go_wp2_with fail
          refine (same14 _ _ _ _ w19 RU1'.out RU2.out.reads (by have := hev.out; omega) (by have := hev.out; omega)).mono ?_
          rw [decide_eq_true rfl]
          rintro e w20 ⟨rfl, d20, hw20⟩
          have b20 : Below w19.heap.size w19 w20 := by rw [hw20]; exact below_drewN _ _
          have G20 := hid (G19.out.below b20)
          have A20 := hid (A19.out.below b20)
          have B20 := hid (B19.out.below b20)
          clear hw20 b20 G19 A19 B19 RU1' RU2
          go_wp2_with fail
          refine (Mk.form ⟨A20.out, (GS.mid (sts1 := []) G20.out).1, HST.out⟩).mono ?_
          rintro e w21 ⟨rfl, hf1, hb⟩
          have F1 := hid hf1
          have G21 := hid (G20.out.below hb)
          have B21 := hid (B20.out.below hb)
          clear hf1 hb G20 A20 B20
          go_wp2_with fail
          refine (Mk.form ⟨B21.out, (GS.mid (sts1 := [_]) (sts2 := []) G21.out).1, HST.out⟩).mono ?_
          rintro e w22 ⟨rfl, hf2, hb⟩
          have F2 := hid hf2
          have F1' := hid (F1.out.below hb)
          have G22 := hid (G21.out.below hb)
          clear hf2 hb G21 B21 F1
          go_wp2_with fail
          refine (same_true _ _ 203 (fmf zp false) (fmf zp false) w22 (rb_blk F1'.out (fmf_b HZO.out.b false) (by decide)) (rb_blk F2.out (fmf_b HZO.out.b false) (by decide)) (by omega) (fun _ _ => rfl)).mono ?_
          rintro e w23 ⟨rfl, d23, hw23⟩
          have B23 : Hid (Below w.heap.size w w23) := by rw [hw23]; exact below_drew' G22.out.bel _
          clear hw23
          go_wp2
          go_ret
          exact ⟨rfl, B23.out⟩
end Go.Proofs.YtnhhkoekghjogaaDoor.Kc
