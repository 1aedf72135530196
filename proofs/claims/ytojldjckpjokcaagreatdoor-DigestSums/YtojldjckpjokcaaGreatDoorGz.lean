/- The program's Of: a hash function's numbers and what makes its states. A state of either hash function, by its algorithm: what it is, and what its calls answer. The program's function Sum, of either algorithm and of none; lives. The document's Of; the program's Sum at no algorithm. The document's function Sum of layer 11, of either algorithm and of none. The law DigestSums. -/
import Derived.Test.YtojldjckpjokcaaGreatDoorHgen
import Derived.Test.YtojldjckpjokcaaGreatDoorJgen
import Derived.Laws.EntriesVeiled
import Derived.Test.YtojldjckpjokcaaGreatDoorHeval
import Derived.Test.YtojldjckpjokcaaGreatDoorJeval
import Derived.Lib.SlBytesConst
import Derived.Test.YtojldjckpjokcaaGreatDoorHs24
import Derived.Test.YtojldjckpjokcaaGreatDoorJsums
import Derived.Test.YtojldjckpjokcaaGreatDoorRlen
import Derived.Deep.RegionHeld3
namespace Go.Proofs.YtojldjckpjokcaaGreatDoor.Dg
open Go.ChangeShapes Go.WideShapes Go.ChangeAt Go.RowKit
open Go.Proofs.YtojldjckpjokcaaGreatDoor.By
open Go.Proofs.YtojldjckpjokcaaGreatDoor.Sh (Blk)
/-- The number of an algorithm; bytes of its digest, of its block, of its form. -/
def an : Bool → Int | false => 1 | true => 2
def sz : Bool → Nat | false => 32 | true => 64
def bk : Bool → Nat | false => 64 | true => 128
def fmn : Bool → Nat | false => 104 | true => 200
def fNew : Bool → FuncId | false => 37 | true => 39
def fSum : Bool → FuncId | false => 38 | true => 40
/-- A Hash's cells. -/
def hc (a : Bool) : List Value := [.int .u8 (an a), .int .i64 (sz a), .int .i64 (bk a), .int .u8 (an a), .int .i64 (bk a), .func (.func (fNew a)) #[] #[], .func (.func (fSum a)) #[] #[]]
def hz : List Value := [.int .u8 0, .int .i64 0, .int .i64 0, .int .u8 0, .int .i64 0, .nilFunc, .nilFunc]
theorem results_cell2 {P : Program} {fn : Func} {p q : Tmp} {ty : TypeId} {tmps : Array Value} {w : World} {a : Addr} {v u : Value} (h : fn.results = #[.cell p ty, .tmp q]) (ha : tmps.getD p undef = .pointer (some a)) (hq : tmps.getD q undef = u) (hl : (loadVar ty a).run P w = .ok v w) :
    (results fn tmps).run P w = .ok (.tuple #[v, u]) w := by
  have e1 : tmps[p]?.getD undef = .pointer (some a) := by rw [← ha]; simp [Array.getD_eq_getD_getElem?]
  have e2 : tmps[q]?.getD undef = u := by rw [← hq]; simp [Array.getD_eq_getD_getElem?]
  simp only [results, h]
  simp [e1, e2, asAddr, hl]
theorem infoHs : (Tryz.prog.info? 61).map (·.size) = some 7 := by kernel_rfl
def LDH (a : Addr) : Sem Value := loadVar 61 a
@[go_sem ↓ high] theorem ldh (a : Addr) : loadVar 61 a = LDH a := rfl
theorem ldH {w : World} {g : Nat} {cs : List Value} (h : w.rangeAt g 0 cs) (hl : cs.length = 7) : (LDH ⟨g, 0, none⟩).run Tryz.prog w = .ok (.agg cs.toArray) w :=
  run_loadVar_mid w g 0 _ cs _ h Tryz.underlying61 rfl (by rw [hl]; exact infoHs)
theorem range0 {w : World} {g : Nat} {cs : List Value} {t : TypeId} (h : Blk w g cs t) : w.rangeAt g 0 cs := h.range 0 _ (fun j v h => by rw [Nat.zero_add]; exact h)
theorem of_is (a : Bool) (w : World) : Calls Tryz.prog 22 #[.int .u8 (an a)] w fun e w' => e = .returned (.tuple #[.agg (hc a).toArray, .int .i64 0]) ∧ Below w.heap.size w w' := by
  have L := hid (ldH (range0 (Sh.Blk.new w (hc a) 61)) rfl)
  cases a
  · show Calls Tryz.prog 22 #[.int .u8 1] w _
    go_enter Tryz.func22, Tryz.ntmps22
    go_wp2
    refine bodyPost_ret ?_ rfl ⟨rfl, below_alloc w _⟩
    exact results_cell2 Tryz.results22 rfl rfl L.out
  · show Calls Tryz.prog 22 #[.int .u8 2] w _
    go_enter Tryz.func22, Tryz.ntmps22
    go_wp2
    refine bodyPost_ret ?_ rfl ⟨rfl, below_alloc w _⟩
    exact results_cell2 Tryz.results22 rfl rfl L.out
set_option maxRecDepth 4000 in
theorem of_no (a : Int) (w : World) (h1 : ¬ a = 1) (h2 : ¬ a = 2) : Calls Tryz.prog 22 #[.int .u8 a] w fun e w' => e = .returned (.tuple #[.agg hz.toArray, .int .i64 4]) ∧ Below w.heap.size w w' := by
  have L := hid (ldH (range0 (Sh.Blk.new w hz 61)) rfl)
  go_enter Tryz.func22, Tryz.ntmps22
  go_wp2
  refine bodyPost_ret ?_ rfl ⟨rfl, below_alloc w _⟩
  exact results_cell2 Tryz.results22 rfl rfl L.out
theorem of256 (w : World) : Calls Tryz.prog 22 #[.int .u8 1] w fun e w' => e = .returned (.tuple #[.agg #[.int .u8 1, .int .i64 32, .int .i64 64, .int .u8 1, .int .i64 64, .func (.func 37) #[] #[], .func (.func 38) #[] #[]], .int .i64 0]) ∧ Below w.heap.size w w' := of_is false w
theorem of512 (w : World) : Calls Tryz.prog 22 #[.int .u8 2] w fun e w' => e = .returned (.tuple #[.agg #[.int .u8 2, .int .i64 64, .int .i64 128, .int .u8 2, .int .i64 128, .func (.func 39) #[] #[], .func (.func 40) #[] #[]], .int .i64 0]) ∧ Below w.heap.size w w' := of_is true w
@[go_sem ↓ high] theorem fn_neqA (w : World) (f : Fn) (c d : Array Value) : (binOp .neq 58 (.func f c d) .nilFunc).run Tryz.prog w = .ok (.bool true) w := by kernel_rfl
@[go_sem ↓ high] theorem fn_eqlA (w : World) (f : Fn) (c d : Array Value) : (binOp .eql 58 (.func f c d) .nilFunc).run Tryz.prog w = .ok (.bool false) w := by kernel_rfl
@[go_sem ↓ high] theorem fn_eqlzA (w : World) : (binOp .eql 58 .nilFunc .nilFunc).run Tryz.prog w = .ok (.bool true) w := by kernel_rfl
@[go_sem ↓ high] theorem fn_neqB (w : World) (f : Fn) (c d : Array Value) : (binOp .neq 59 (.func f c d) .nilFunc).run Tryz.prog w = .ok (.bool true) w := by kernel_rfl
@[go_sem ↓ high] theorem fn_eqlB (w : World) (f : Fn) (c d : Array Value) : (binOp .eql 59 (.func f c d) .nilFunc).run Tryz.prog w = .ok (.bool false) w := by kernel_rfl
@[go_sem ↓ high] theorem fn_eqlzB (w : World) : (binOp .eql 59 .nilFunc .nilFunc).run Tryz.prog w = .ok (.bool true) w := by kernel_rfl
end Go.Proofs.YtojldjckpjokcaaGreatDoor.Dg
namespace Go.Proofs.YtojldjckpjokcaaGreatDoor.Dg
open Go.ChangeShapes Go.WideShapes Go.ChangeAt Go.RowKit
open Go.Proofs.YtojldjckpjokcaaGreatDoor.By
open Go.Proofs.YtojldjckpjokcaaGreatDoor.Sh (Blk size_alloc)
/-- What a state is: none, or one with a message. -/
abbrev SK := Option (Nat × (Nat → Int))
def IsD (W : World) (b : Nat) : Bool → SK → Prop
  | false, none => Sh.NoSt W b
  | false, some (m, f) => Sh.St W b m f
  | true, none => Sg.NoSt W b
  | true, some (m, f) => Sg.St W b m f
def tyS : Bool → TypeId | false => 120 | true => 127
def tyI : Bool → TypeId | false => 101 | true => 106
/-- The interface value that holds a state. -/
def iv (a : Bool) (b : Nat) : Value := .iface (tyI a) (.agg #[.pointer (some ⟨b, 0, none⟩)])
theorem IsD.blk {W : World} {b : Nat} {a : Bool} {k : SK} (h : IsD W b a k) : ∃ cs, Blk W b cs (tyS a) := by
  match a, k, h with
  | false, none, h => obtain ⟨cs, h, _⟩ := h; exact ⟨_, h⟩
  | false, some (m, f), h => exact ⟨_, (show Sh.St W b m f from h).here⟩
  | true, none, h => obtain ⟨cs, h, _⟩ := h; exact ⟨_, h⟩
  | true, some (m, f), h => exact ⟨_, (show Sg.St W b m f from h).here⟩
theorem IsD.kept {W W' : World} {b : Nat} {a : Bool} {k : SK} {S : Nat → Prop} (h : IsD W b a k) (hk : Kp S W W') (hn : ¬ S b) : IsD W' b a k := by
  match a, k, h with
  | false, none, h => obtain ⟨cs, h, hl⟩ := h; exact ⟨cs, h.kept hk hn, hl⟩
  | false, some (m, f), h => exact Sh.St.kept h hk hn
  | true, none, h => obtain ⟨cs, h, hl⟩ := h; exact ⟨cs, h.kept hk hn, hl⟩
  | true, some (m, f), h => exact Sg.St.kept h hk hn
theorem IsD.below {W W' : World} {b : Nat} {a : Bool} {k : SK} (h : IsD W b a k) (hb : Below W.heap.size W W') : IsD W' b a k := h.kept (Kp.of_below (fun _ => False) hb) id
/-- Both tables lie in their places. -/
structure KT (W : World) : Prop where
  h : Sh.KT W
  g : Sg.KT W
theorem KT.below {W W' : World} (h : KT W) (hb : Below W.heap.size W W') : KT W' := ⟨h.h.below hb, h.g.below hb⟩
theorem KT.kept {W W' : World} {S : Nat → Prop} (h : KT W) (hk : Kp S W W') (h0 : ¬ S 0) (h1 : ¬ S 1) : KT W' := ⟨h.h.kept hk h0, h.g.kept hk h1⟩
theorem KT.lt {W : World} (h : KT W) : 1 < W.heap.size := h.g.lt
/-- A ledger or none, by the blocks that it may turn. -/
abbrev LG := @Sg.LG
abbrev lpv := Sg.lpv
theorem lpvH (lo : Option Nat) : Sh.lpv lo = Sg.lpv lo := by cases lo <;> rfl
theorem lgH {S : Nat → Prop} {w0 w : World} {lo : Option Nat} {L : List Rn} : Sh.LG S w0 w lo L ↔ LG S w0 w lo L := by cases lo <;> exact Iff.rfl
/-- What is recorded of n blocks; how many blocks Sum works on; the digest; the form. -/
def evs : Bool → List Rn → Nat → List Rn | false => Sh.evs256 | true => Sg.evs512
def last : Bool → Nat → Nat | false => Sh.last | true => Sg.last
def dig : Bool → Nat → (Nat → Int) → Nat → Int | false => Sh.dig | true => Sg.dig
def formf : Bool → Nat → (Nat → Int) → Nat → Int | false => Sh.formf | true => Sg.formf
abbrev cat := Sg.cat
theorem catH (m : Nat) (f g : Nat → Int) : Sh.cat m f g = cat m f g := rfl
theorem len_tot {L : List Rn} (h : Pos L) : (L.length : Int) ≤ tot L := by
  induction L with
  | nil => exact Int.le_refl _
  | cons q L ih =>
    have h1 := ih (fun x hx => h x (by simp [hx]))
    have h2 := h q (by simp)
    have e : tot (q :: L) = q.c + tot L := by simp [tot]
    rw [e, List.length_cons]
    omega
theorem big_of {L : List Rn} (h : Pos L) (ht : tot L ≤ 100000) : Sg.Big L := ⟨by omega, by have := len_tot h; omega⟩
theorem wide_of {L : List Rn} (h : Pos L) (ht : tot L ≤ 100000) : Sg.Wide L := ⟨by omega, by have := len_tot h; omega⟩
def fWrite : Bool → FuncId | false => 140 | true => 146
def fSumS : Bool → FuncId | false => 57 | true => 60
def fWipe : Bool → FuncId | false => 139 | true => 145
def fForm : Bool → FuncId | false => 137 | true => 143
def fCopy : Bool → FuncId | false => 141 | true => 147
theorem dwrite (a : Bool) (b m n : Nat) (v : Value) (f g : Nat → Int) (lo : Option Nat) (L : List Rn) (S : Nat → Prop) (w : World) (hst : IsD w b a (some (m, f))) (hk : KT w) (hS0 : ¬ S 0) (hS1 : ¬ S 1) (hSb : S b) (hl : LG S w w lo L) (hp : Pos L)
    (hr : ∀ w', Kp S w w' → By.RB w' v n g) (hmn : m + n ≤ 1000000) (hroom : tot L ≤ 100000) :
    Calls Tryz.prog (fWrite a) #[.pointer (some ⟨b, 0, none⟩), lpv lo, v] w fun e w' => e = .returned (.int .i64 0) ∧ IsD w' b a (some (m + n, cat m f g)) ∧ LG S w w' lo (evs a L ((m + n) / bk a - m / bk a)) ∧ Kp S w w' := by
  cases a
  · have := Sh.write26 b m n v f g lo L S w hst hk.h hS0 hSb (lgH.2 hl) hp hr hmn hroom
    rw [lpvH] at this
    refine this.mono ?_
    rintro e w' ⟨h1, h2, h3, h4⟩
    exact ⟨h1, h2, lgH.1 h3, h4⟩
  · exact Sg.write26 b m n v f g lo L S w hst hk.g hS1 hSb hl hp hr (by omega) (big_of hp hroom)
theorem dwriteN (a : Bool) (b : Nat) (v lp : Value) (w : World) (h : IsD w b a none) : Calls Tryz.prog (fWrite a) #[.pointer (some ⟨b, 0, none⟩), lp, v] w fun e w' => e = .returned (.int .i64 1) ∧ w' = w := by
  cases a
  · exact Sh.write26n b v lp w h
  · exact Sg.write26n b v lp w h
theorem dsum (a : Bool) (b m : Nat) (f : Nat → Int) (lo : Option Nat) (L : List Rn) (S : Nat → Prop) (w : World) (h : IsD w b a (some (m, f))) (hk : KT w) (hS0 : ¬ S 0) (hS1 : ¬ S 1) (hl : LG S w w lo L) (hp : Pos L) (hm : m ≤ 900000) (hroom : tot L ≤ 100000) :
    Calls Tryz.prog (fSumS a) #[.pointer (some ⟨b, 0, none⟩), lpv lo] w fun e w' => ∃ v, e = .returned (.tuple #[v, .int .i64 0]) ∧ By.Own w' w.heap.size v (sz a) (dig a m f) ∧ LG S w w' lo (evs a L (last a m)) ∧ Kp S w w' := by
  cases a
  · have := Sh.sum32 b m f lo L S w h hk.h hS0 (lgH.2 hl) hp hm hroom
    rw [lpvH] at this
    refine this.mono ?_
    rintro e w' ⟨v, h1, h2, h3, h4⟩
    exact ⟨v, h1, h2, lgH.1 h3, h4⟩
  · exact Sg.sum32 b m f lo L S w h hk.g hS1 hl hp (by omega) (big_of hp hroom)
theorem dsumN (a : Bool) (b : Nat) (lp : Value) (w : World) (h : IsD w b a none) : Calls Tryz.prog (fSumS a) #[.pointer (some ⟨b, 0, none⟩), lp] w fun e w' => e = .returned (.tuple #[.slice none 0 0, .int .i64 1]) ∧ w' = w := by
  cases a
  · exact Sh.sum32n b lp w h
  · exact Sg.sum32n b lp w h
theorem dwipe (a : Bool) (b m : Nat) (f : Nat → Int) (lo : Option Nat) (L : List Rn) (S : Nat → Prop) (w : World) (h : IsD w b a (some (m, f))) (hSb : S b) (hl : LG S w w lo L) (hp : Pos L) (hroom : tot L ≤ 100000) :
    Calls Tryz.prog (fWipe a) #[.pointer (some ⟨b, 0, none⟩), lpv lo] w fun e w' => e = .returned (.int .i64 0) ∧ IsD w' b a none ∧ LG S w w' lo (putL L ⟨8, fmn a, 1⟩) ∧ Kp S w w' := by
  cases a
  · have := Sh.wipe29 b m f lo L S w h hSb (lgH.2 hl) hroom
    rw [lpvH] at this
    refine this.mono ?_
    rintro e w' ⟨h1, h2, h3, h4⟩
    exact ⟨h1, h2, lgH.1 h3, h4⟩
  · exact Sg.wipe29 b m f lo L S w h hSb hl (big_of hp hroom).room
theorem dwipeN (a : Bool) (b : Nat) (lp : Value) (w : World) (h : IsD w b a none) : Calls Tryz.prog (fWipe a) #[.pointer (some ⟨b, 0, none⟩), lp] w fun e w' => e = .returned (.int .i64 1) ∧ w' = w := by
  cases a
  · exact Sh.wipe29n b lp w h
  · exact Sg.wipe29n b lp w h
theorem dform (a : Bool) (b m : Nat) (f : Nat → Int) (w : World) (h : IsD w b a (some (m, f))) :
    Calls Tryz.prog (fForm a) #[.pointer (some ⟨b, 0, none⟩)] w fun e w' => ∃ v, e = .returned v ∧ By.Own w' w.heap.size v (fmn a) (formf a m f) ∧ Below w.heap.size w w' := by
  cases a
  · exact Sh.form30 b m f w h
  · exact Sg.form30 b m f w h
theorem dformN (a : Bool) (b : Nat) (w : World) (h : IsD w b a none) : Calls Tryz.prog (fForm a) #[.pointer (some ⟨b, 0, none⟩)] w fun e w' => e = .returned (.slice none 0 0) ∧ w' = w := by
  cases a
  · exact Sh.form30n b w h
  · exact Sg.form30n b w h
theorem dsumF (a : Bool) (n : Nat) (v : Value) (g : Nat → Int) (lo : Option Nat) (L : List Rn) (S : Nat → Prop) (w : World) (hk : KT w) (hS0 : ¬ S 0) (hS1 : ¬ S 1) (hl : LG S w w lo L) (hp : Pos L)
    (hr : ∀ w', Kp S w w' → By.RB w' v n g) (hn : n ≤ 900000) (hroom : tot L ≤ 50000) :
    Calls Tryz.prog (fSum a) #[lpv lo, v] w fun e w' => ∃ u, e = .returned u ∧ By.Own w' w.heap.size u (sz a) (dig a n g) ∧ LG S w w' lo (evs a L (n / bk a + last a n)) ∧ Kp S w w' := by
  cases a
  · have := Sh.sum23 n v g lo L S w hk.h hS0 (lgH.2 hl) hp hr hn hroom
    rw [lpvH] at this
    refine this.mono ?_
    rintro e w' ⟨v, h1, h2, h3, h4⟩
    exact ⟨v, h1, h2, lgH.1 h3, h4⟩
  · exact Sg.sum23 n v g lo L S w hk.g hS1 hl hp hr (by omega) (wide_of hp (by omega))
theorem dnew (a : Bool) (w : World) : Calls Tryz.prog (fNew a) #[] w fun e w' => ∃ b, w.heap.size ≤ b ∧ e = .returned (iv a b) ∧ IsD w' b a (some (0, fun _ => 0)) ∧ Below w.heap.size w w' := by
  cases a
  · show Calls Tryz.prog 37 #[] w _
    go_enter Tryz.func37, Tryz.ntmps37
    go_wp2_with (go_at_call 55; refine (Sh.new12 _).mono ?_; rintro e w' ⟨rfl, h1, h2⟩)
    go_ret
    exact ⟨_, Nat.le_refl _, rfl, h1, h2⟩
  · show Calls Tryz.prog 39 #[] w _
    go_enter Tryz.func39, Tryz.ntmps39
    go_wp2_with (go_at_call 58; refine (Sg.new12 _).mono ?_; rintro e w' ⟨rfl, h1, h2⟩)
    go_ret
    exact ⟨_, Nat.le_refl _, rfl, h1, h2⟩
theorem dcopy256 (b m : Nat) (f : Nat → Int) (w : World) (h : IsD w b false (some (m, f))) : Calls Tryz.prog 141 #[.agg #[.pointer (some ⟨b, 0, none⟩)]] w fun e w' => ∃ c, w.heap.size ≤ c ∧ e = .returned (iv false c) ∧ IsD w' c false (some (m, f)) ∧ Below w.heap.size w w' := by
  have HS := hid (show Sh.St (w.alloc (.cells #[Value.pointer (some ⟨b, 0, none⟩)] 101)) b m f from Sh.St.below h (below_alloc _ _))
  clear h
  go_enter Tryz.func141, Tryz.ntmps141
  go_wp2_with (go_at_call 142; refine (Sh.clone28 _ m f _ HS.out).mono ?_; rintro e w' ⟨rfl, h1, h2⟩)
  go_ret
  rw [size_alloc] at h1
  exact ⟨_, Nat.le_succ _, rfl, h1, below_next (below_alloc w _) h2⟩
theorem dcopyN256 (b : Nat) (w : World) (h : IsD w b false none) : Calls Tryz.prog 141 #[.agg #[.pointer (some ⟨b, 0, none⟩)]] w fun e w' => e = .returned .nilIface ∧ Below w.heap.size w w' := by
  have HS := hid (show Sh.NoSt (w.alloc (.cells #[Value.pointer (some ⟨b, 0, none⟩)] 101)) b from IsD.below (a := false) (k := none) h (below_alloc _ _))
  clear h
  go_enter Tryz.func141, Tryz.ntmps141
  go_wp2_with (go_at_call 142; refine (Sh.clone28n _ _ HS.out).mono ?_; rintro e w' ⟨rfl, rfl⟩)
  go_ret
  exact ⟨rfl, below_alloc w _⟩
theorem dcopy512 (b m : Nat) (f : Nat → Int) (w : World) (h : IsD w b true (some (m, f))) : Calls Tryz.prog 147 #[.agg #[.pointer (some ⟨b, 0, none⟩)]] w fun e w' => ∃ c, w.heap.size ≤ c ∧ e = .returned (iv true c) ∧ IsD w' c true (some (m, f)) ∧ Below w.heap.size w w' := by
  have HS := hid (show Sg.St (w.alloc (.cells #[Value.pointer (some ⟨b, 0, none⟩)] 106)) b m f from Sg.St.below h (below_alloc _ _))
  clear h
  go_enter Tryz.func147, Tryz.ntmps147
  go_wp2_with (go_at_call 148; refine (Sg.clone28 _ m f _ HS.out).mono ?_; rintro e w' ⟨rfl, h1, h2⟩)
  go_ret
  rw [size_alloc] at h1
  exact ⟨_, Nat.le_succ _, rfl, h1, below_next (below_alloc w _) h2⟩
theorem dcopyN512 (b : Nat) (w : World) (h : IsD w b true none) : Calls Tryz.prog 147 #[.agg #[.pointer (some ⟨b, 0, none⟩)]] w fun e w' => e = .returned .nilIface ∧ Below w.heap.size w w' := by
  have HS := hid (show Sg.NoSt (w.alloc (.cells #[Value.pointer (some ⟨b, 0, none⟩)] 106)) b from IsD.below (a := true) (k := none) h (below_alloc _ _))
  clear h
  go_enter Tryz.func147, Tryz.ntmps147
  go_wp2_with (go_at_call 148; refine (Sg.clone28n _ _ HS.out).mono ?_; rintro e w' ⟨rfl, rfl⟩)
  go_ret
  exact ⟨rfl, below_alloc w _⟩
theorem dcopy (a : Bool) (b m : Nat) (f : Nat → Int) (w : World) (h : IsD w b a (some (m, f))) : Calls Tryz.prog (fCopy a) #[.agg #[.pointer (some ⟨b, 0, none⟩)]] w fun e w' => ∃ c, w.heap.size ≤ c ∧ e = .returned (iv a c) ∧ IsD w' c a (some (m, f)) ∧ Below w.heap.size w w' := by
  cases a
  · exact dcopy256 b m f w h
  · exact dcopy512 b m f w h
theorem dcopyN (a : Bool) (b : Nat) (w : World) (h : IsD w b a none) : Calls Tryz.prog (fCopy a) #[.agg #[.pointer (some ⟨b, 0, none⟩)]] w fun e w' => e = .returned .nilIface ∧ Below w.heap.size w w' := by
  cases a
  · exact dcopyN256 b w h
  · exact dcopyN512 b w h
end Go.Proofs.YtojldjckpjokcaaGreatDoor.Dg
namespace Go.Proofs.YtojldjckpjokcaaGreatDoor.Dg
open Go.ChangeShapes Go.WideShapes Go.ChangeAt Go.RowKit
open Go.Proofs.YtojldjckpjokcaaGreatDoor.By
open Go.Proofs.YtojldjckpjokcaaGreatDoor.Sh (Blk size_alloc)
set_option maxRecDepth 4000 in
theorem sumf256 (n : Nat) (v : Value) (g : Nat → Int) (lo : Option Nat) (L : List Rn) (S : Nat → Prop) (w : World) (hk : KT w) (hS0 : ¬ S 0) (hS1 : ¬ S 1) (hl : LG S w w lo L) (hp : Pos L)
    (hr : ∀ w', Kp S w w' → By.RB w' v n g) (hn : n ≤ 900000) (hroom : tot L ≤ 50000) :
    Calls Tryz.prog 19 #[lpv lo, .int .u8 1, v] w fun e w' => ∃ u, e = .returned (.tuple #[u, .int .i64 0]) ∧ By.Own w' w.heap.size u 32 (Sh.dig n g) ∧ LG S w w' lo (Sh.evs256 L (n / 64 + Sh.last n)) ∧ Kp S w w' := by
  have HC := hid (fun w1 (hb : Below w.heap.size w w1) => show Calls Tryz.prog 38 #[lpv lo, v] w1 (fun e w' => ∃ u, e = .returned u ∧ By.Own w' w.heap.size u (sz false) (dig false n g) ∧ LG S w w' lo (evs false L (n / bk false + last false n)) ∧ Kp S w w') from by
    refine (dsumF false n v g lo L S w1 (hk.below hb) hS0 hS1 (hl.start hb (fun _ _ h => h)) hp (fun w' h' => hr w' ((Kp.of_below S hb).trans h' (fun _ _ e => e))) hn hroom).mono ?_
    rintro e w' ⟨u, rfl, h1, h2, h3⟩
    exact ⟨u, rfl, Sg.own_mono h1 hb.size, Sg.LG.back h2 hl hb.size (fun _ _ h => h), (Kp.of_below S hb).trans h3 (fun _ _ e => e)⟩)
  clear hk hS0 hS1 hl hp hr hn hroom
  show Calls Tryz.prog 19 #[lpv lo, .int .u8 1, v] w _
  go_enter Tryz.func19, Tryz.ntmps19
  go_wp2_with (first | (go_at_call 22; refine (of256 _).mono ?_; rintro e w1 ⟨rfl, hb1⟩; have B1 := hid hb1; clear hb1) | (go_at_call 38; refine (HC.out _ (below_next B1.out (below_alloc w1 _))).mono ?_; rintro e w2 ⟨u, rfl, h1, h2, h3⟩))
  go_ret2
  exact ⟨u, rfl, h1, h2, h3⟩
set_option maxRecDepth 4000 in
theorem sumf512 (n : Nat) (v : Value) (g : Nat → Int) (lo : Option Nat) (L : List Rn) (S : Nat → Prop) (w : World) (hk : KT w) (hS0 : ¬ S 0) (hS1 : ¬ S 1) (hl : LG S w w lo L) (hp : Pos L)
    (hr : ∀ w', Kp S w w' → By.RB w' v n g) (hn : n ≤ 900000) (hroom : tot L ≤ 50000) :
    Calls Tryz.prog 19 #[lpv lo, .int .u8 2, v] w fun e w' => ∃ u, e = .returned (.tuple #[u, .int .i64 0]) ∧ By.Own w' w.heap.size u 64 (Sg.dig n g) ∧ LG S w w' lo (Sg.evs512 L (n / 128 + Sg.last n)) ∧ Kp S w w' := by
  have HC := hid (fun w1 (hb : Below w.heap.size w w1) => show Calls Tryz.prog 40 #[lpv lo, v] w1 (fun e w' => ∃ u, e = .returned u ∧ By.Own w' w.heap.size u (sz true) (dig true n g) ∧ LG S w w' lo (evs true L (n / bk true + last true n)) ∧ Kp S w w') from by
    refine (dsumF true n v g lo L S w1 (hk.below hb) hS0 hS1 (hl.start hb (fun _ _ h => h)) hp (fun w' h' => hr w' ((Kp.of_below S hb).trans h' (fun _ _ e => e))) hn hroom).mono ?_
    rintro e w' ⟨u, rfl, h1, h2, h3⟩
    exact ⟨u, rfl, Sg.own_mono h1 hb.size, Sg.LG.back h2 hl hb.size (fun _ _ h => h), (Kp.of_below S hb).trans h3 (fun _ _ e => e)⟩)
  clear hk hS0 hS1 hl hp hr hn hroom
  show Calls Tryz.prog 19 #[lpv lo, .int .u8 2, v] w _
  go_enter Tryz.func19, Tryz.ntmps19
  go_wp2_with (first | (go_at_call 22; refine (of512 _).mono ?_; rintro e w1 ⟨rfl, hb1⟩; have B1 := hid hb1; clear hb1) | (go_at_call 40; refine (HC.out _ (below_next B1.out (below_alloc w1 _))).mono ?_; rintro e w2 ⟨u, rfl, h1, h2, h3⟩))
  go_ret2
  exact ⟨u, rfl, h1, h2, h3⟩
/-- Eight words out of a list. -/
def wof (l : List Int) (i : Nat) : Int := l.getD i 0
theorem lf_l8256 (h h' : Nat → Int) (e : Sh.l8 h = Sh.l8 h') (i : Nat) (hi : i < 32) : Sh.lf h i = Sh.lf h' i := by
  simp only [Sh.l8, List.cons.injEq, and_true] at e
  obtain ⟨e0, e1, e2, e3, e4, e5, e6, e7⟩ := e
  unfold Sh.lf
  have : i / 4 < 8 := by omega
  have hh : h (i / 4) = h' (i / 4) := by
    generalize i / 4 = q at this
    match q, this with
    | 0, _ => exact e0
    | 1, _ => exact e1
    | 2, _ => exact e2
    | 3, _ => exact e3
    | 4, _ => exact e4
    | 5, _ => exact e5
    | 6, _ => exact e6
    | 7, _ => exact e7
  rw [hh]
theorem dig_abc256 (i : Nat) (hi : i < 32) : Sh.dig 3 Sh.abc i = Sh.lf (wof Sh.wabc) i := lf_l8256 _ _ (Sh.abc_words.trans (by rfl)) i hi
theorem first256 : ∀ i, i < 4 → Sh.lf (wof Sh.wabc) i = lst [186, 120, 22, 191] i := by decide +kernel
theorem lf_l8512 (h h' : Nat → Int) (e : Sg.l8 h = Sg.l8 h') (i : Nat) (hi : i < 64) : Sg.lf h i = Sg.lf h' i := by
  simp only [Sg.l8, List.cons.injEq, and_true] at e
  obtain ⟨e0, e1, e2, e3, e4, e5, e6, e7⟩ := e
  unfold Sg.lf
  have : i / 8 < 8 := by omega
  have hh : h (i / 8) = h' (i / 8) := by
    generalize i / 8 = q at this
    match q, this with
    | 0, _ => exact e0
    | 1, _ => exact e1
    | 2, _ => exact e2
    | 3, _ => exact e3
    | 4, _ => exact e4
    | 5, _ => exact e5
    | 6, _ => exact e6
    | 7, _ => exact e7
  rw [hh]
theorem dig_abc512 (i : Nat) (hi : i < 64) : Sg.dig 3 Sg.abc i = Sg.lf (wof Sg.wabc) i := lf_l8512 _ _ (Sg.abc_words.trans (by rfl)) i hi
theorem first512 : ∀ i, i < 4 → Sg.lf (wof Sg.wabc) i = lst [221, 175, 53, 161] i := by decide +kernel
theorem abc_bound (i : Nat) : 0 ≤ Sh.abc i ∧ Sh.abc i < 256 := lst_bound _ (by decide) i
theorem abcE : Sg.abc = Sh.abc := rfl
theorem rb_first {w : World} {base n cap g : Nat} {f : Nat → Int} (h : By.Own w base (.slice (some ⟨g, 0, none⟩) n cap) n f) (h4 : 4 ≤ n) : By.RB w (.slice (some ⟨g, 0, none⟩) 4 cap) 4 f := h.reads.first 4 h4
set_option maxRecDepth 4000 in
set_option maxHeartbeats 1200000 in
theorem lives1 (w : World) (hk : KT w) : Calls Tryz.prog 5 #[] w fun e w' => e = .returned (.bool true) ∧ Below w.heap.size w w' := by
  have HK := hid hk
  have hcv := fun w => Lib.run_convert_bytes_const (P := Tryz.prog) w 41 5 #[Value.int .u8 97, .int .u8 98, .int .u8 99] 3 3 Tryz.underlying41 Tryz.underlying5
  clear hk
  go_enter Tryz.func5, Tryz.ntmps5
  go_wp2_with fail
  have B0 := hid (Sg.rb_marked w 3 Sh.abc (3, 4) abc_bound (by decide))
  have b0 := hid (below_alloc w (.cells (bl 3 Sh.abc).toArray 5 (3, 4)))
  have e3 : (bl 3 Sh.abc).toArray = #[Value.int .u8 97, .int .u8 98, .int .u8 99] := rfl
  rw [e3] at B0 b0
  clear e3
  refine (sumf256 3 _ Sh.abc none [] (fun _ => False) _ (HK.out.below b0.out) id id trivial Sg.pos_nil' (fun w' h' => B0.out.below (Sg.below_kp h')) (by omega) (by decide)).mono ?_
  rintro e w1 ⟨u, rfl, hu, -, hk1⟩
  have U1 := hid hu
  have b1 := hid (below_next b0.out (Sg.below_kp hk1))
  clear hu hk1 B0 b0
  go_wp2_with fail
  have B0 := hid (Sg.rb_marked w1 3 Sh.abc (3, 4) abc_bound (by decide))
  have b0 := hid (below_alloc w1 (.cells (bl 3 Sh.abc).toArray 5 (3, 4)))
  have e3 : (bl 3 Sh.abc).toArray = #[Value.int .u8 97, .int .u8 98, .int .u8 99] := rfl
  rw [e3] at B0 b0
  clear e3
  refine (sumf512 3 _ Sh.abc none [] (fun _ => False) _ (HK.out.below (below_next b1.out b0.out)) id id trivial Sg.pos_nil' (fun w' h' => B0.out.below (Sg.below_kp h')) (by omega) (by decide)).mono ?_
  rintro e w2 ⟨u', rfl, hu, -, hk1⟩
  have U2 := hid hu
  have V1 := hid (own_below (own_below U1.out b0.out) (Sg.below_kp hk1))
  have b2 := hid (below_next (below_next b1.out b0.out) (Sg.below_kp hk1))
  clear hu hk1 B0 b0 hcv U1 b1
  obtain ⟨g1, c1, rfl, -⟩ := own_cells V1.out (by decide)
  obtain ⟨g2, c2, rfl, -⟩ := own_cells U2.out (by decide)
  have hc1 := rb_cap V1.out.reads
  have hc2 := rb_cap U2.out.reads
  have hc1' : (32 : Int) ≤ c1 := by have : 32 ≤ c1 := hc1; omega
  have hc2' : (64 : Int) ≤ c2 := by have : 64 ≤ c2 := hc2; omega
  clear hc1 hc2

  have hl1 := hid (fun (W : World) => rb_lit W #[Value.int .u8 186, .int .u8 120, .int .u8 22, .int .u8 191] 4 (lst [186, 120, 22, 191]) (lst_bound _ (by decide)) (by decide) rfl rfl)
  have hl2 := hid (fun (W : World) => rb_lit W #[Value.int .u8 221, .int .u8 175, .int .u8 53, .int .u8 161] 4 (lst [221, 175, 53, 161]) (lst_bound _ (by decide)) (by decide) rfl rfl)
  go_wp2_with fail
  refine (same_true _ _ 4 _ _ _ ((rb_first V1.out (by decide)).alloc _) (hl1.out _) (by decide) (fun i hi => (dig_abc256 i (by omega)).trans (first256 i hi))).mono ?_
  rintro e w3 ⟨rfl, d3, rfl⟩
  obtain ⟨X, hX⟩ : ∃ x, (w2.alloc (.cells #[Value.int .u8 186, .int .u8 120, .int .u8 22, .int .u8 191] 5)).drewN d3 = x := ⟨_, rfl⟩
  have hbx : Below w2.heap.size w2 X := by rw [← hX]; exact below_drew' (below_alloc w2 _) d3
  rw [hX]
  have U3 := hid (own_below U2.out hbx)
  have b3 := hid (below_next b2.out hbx)
  clear hX hbx U2 V1 b2
  go_wp2_with fail
  refine (same_true _ _ 4 _ _ _ ((rb_first U3.out (by decide)).alloc _) (hl2.out _) (by decide) (fun i hi => (dig_abc512 i (by omega)).trans (first512 i hi))).mono ?_
  rintro e w4 ⟨rfl, d4, rfl⟩
  go_wp2
  go_ret
  exact ⟨rfl, below_drew' (below_next b3.out (below_alloc X _)) d4⟩
end Go.Proofs.YtojldjckpjokcaaGreatDoor.Dg
namespace Go.Proofs.YtojldjckpjokcaaGreatDoor.Dg
open Go.ChangeShapes Go.WideShapes Go.ChangeAt Go.RowKit
open Go.Proofs.YtojldjckpjokcaaGreatDoor.By
open Go.Proofs.YtojldjckpjokcaaGreatDoor.Sh (Blk size_alloc)
def rc (a : Bool) : List Value := [.int .u8 (an a), .int .i64 (sz a), .int .i64 (bk a), .int .u8 (an a), .int .i64 (bk a)]
def rz : List Value := [.int .u8 0, .int .i64 0, .int .i64 0, .int .u8 0, .int .i64 0]
theorem infoRh : (Tryz.prog.info? 70).map (·.size) = some 5 := by kernel_rfl
def LDR (a : Addr) : Sem Value := loadVar 70 a
@[go_sem ↓ high] theorem ldr (a : Addr) : loadVar 70 a = LDR a := rfl
theorem ldR {w : World} {g : Nat} {cs : List Value} (h : w.rangeAt g 0 cs) (hl : cs.length = 5) : (LDR ⟨g, 0, none⟩).run Tryz.prog w = .ok (.agg cs.toArray) w :=
  run_loadVar_mid w g 0 _ cs _ h Tryz.underlying70 rfl (by rw [hl]; exact infoRh)
theorem rof256 (w : World) : Calls Tryz.prog 23 #[.int .u8 1] w fun e w' => e = .returned (.tuple #[.agg #[.int .u8 1, .int .i64 32, .int .i64 64, .int .u8 1, .int .i64 64], .int .i64 0]) ∧ Below w.heap.size w w' := by
  have L := hid (ldR (range0 (Sh.Blk.new w (rc false) 70)) rfl)
  go_enter Tryz.func23, Tryz.ntmps23
  go_wp2
  refine bodyPost_ret ?_ rfl ⟨rfl, below_alloc w _⟩
  exact results_cell2 Tryz.results23 rfl rfl L.out
theorem rof512 (w : World) : Calls Tryz.prog 23 #[.int .u8 2] w fun e w' => e = .returned (.tuple #[.agg #[.int .u8 2, .int .i64 64, .int .i64 128, .int .u8 2, .int .i64 128], .int .i64 0]) ∧ Below w.heap.size w w' := by
  have L := hid (ldR (range0 (Sh.Blk.new w (rc true) 70)) rfl)
  go_enter Tryz.func23, Tryz.ntmps23
  go_wp2
  refine bodyPost_ret ?_ rfl ⟨rfl, below_alloc w _⟩
  exact results_cell2 Tryz.results23 rfl rfl L.out
set_option maxRecDepth 4000 in
theorem rof_no (a : Int) (w : World) (h1 : ¬ a = 1) (h2 : ¬ a = 2) : Calls Tryz.prog 23 #[.int .u8 a] w fun e w' => e = .returned (.tuple #[.agg #[.int .u8 0, .int .i64 0, .int .i64 0, .int .u8 0, .int .i64 0], .int .i64 4]) ∧ Below w.heap.size w w' := by
  have L := hid (ldR (range0 (Sh.Blk.new w rz 70)) rfl)
  go_enter Tryz.func23, Tryz.ntmps23
  go_wp2
  refine bodyPost_ret ?_ rfl ⟨rfl, below_alloc w _⟩
  exact results_cell2 Tryz.results23 rfl rfl L.out
theorem u8_int (k : Nat) (h : k < 256) : IntKind.u8.wrap (k : Int) = k := by simp [IntKind.wrap_u8]; omega
theorem of_zero (a : Int) (w : World) (h1 : ¬ a = 1) (h2 : ¬ a = 2) : Calls Tryz.prog 22 #[.int .u8 a] w fun e w' => e = .returned (.tuple #[.agg #[.int .u8 0, .int .i64 0, .int .i64 0, .int .u8 0, .int .i64 0, .nilFunc, .nilFunc], .int .i64 4]) ∧ Below w.heap.size w w' := of_no a w h1 h2
set_option maxRecDepth 4000 in
set_option maxHeartbeats 1200000 in
theorem sumf_no (a : Int) (lp v : Value) (w : World) (h1 : ¬ a = 1) (h2 : ¬ a = 2) : Calls Tryz.prog 19 #[lp, .int .u8 a, v] w fun e w' => e = .returned (.tuple #[.slice none 0 0, .int .i64 4]) ∧ Below w.heap.size w w' := by
  go_enter Tryz.func19, Tryz.ntmps19
  go_wp2_with (go_at_call 22; refine (of_zero a _ h1 h2).mono ?_; rintro e w1 ⟨rfl, hb1⟩; have B1 := hid hb1; clear hb1)
  go_ret2
  exact ⟨rfl, below_next B1.out (below_alloc w1 _)⟩
end Go.Proofs.YtojldjckpjokcaaGreatDoor.Dg
namespace Go.Proofs.YtojldjckpjokcaaGreatDoor.Dg
open Go.ChangeShapes Go.WideShapes Go.ChangeAt Go.RowKit
open Go.Proofs.YtojldjckpjokcaaGreatDoor.By
open Go.Proofs.YtojldjckpjokcaaGreatDoor.Sh (Blk size_alloc)
theorem rsumd512 (b m : Nat) (v : Value) (f : Nat → Int) (w : World) (h : RLed w b (.slice none 0 0) []) (hr : ∀ w', Kp (fun j => j = b) w w' → By.RB w' v m f) (hm : m ≤ 900000) :
    Calls Tryz.prog 54 #[.pointer (some ⟨b, 0, none⟩), v] w fun e w' => ∃ u rv', e = .returned u ∧ By.Own w' w.heap.size u 64 (Sg.dig m f) ∧ RLed w' b rv' [⟨2, 128, (Sg.blocks m : Int)⟩] ∧ (∀ q, rv'.ownBlock = some q → w.heap.size ≤ q) ∧ Kp (fun j => j = b) w w' := by
  have km : ∀ w', Kp (fun j => j = b ∨ (Value.slice none 0 0).ownBlock = some j) w w' → Kp (fun j => j = b) w w' := fun w' h' => h'.mono (fun j _ e => by rcases e with e | e; exact e; simp [Value.ownBlock] at e)
  refine (Sg.rsum23 b m v f _ [] w h Sg.wide_nil (fun w' h' => hr w' (km w' h')) (by omega)).mono ?_
  rintro e w' ⟨u, rv', rfl, h1, h2, h3, h4⟩
  have hN := Sg.blocks_pos m
  rw [Sg.blocks_last, show Sg.blocks m = Sg.blocks m - 1 + 1 from by omega, Sg.evs_one _ (by unfold Sg.blocks Sg.zs; omega), show Sg.blocks m - 1 + 1 = Sg.blocks m from by omega] at h2
  refine ⟨u, rv', rfl, h1, h2, fun q hq => ?_, km w' h4⟩
  rcases h3 with e | e
  · rw [e] at hq; simp [Value.ownBlock] at hq
  · exact e q hq
theorem rsumd256 (b m : Nat) (v : Value) (f : Nat → Int) (w : World) (h : RLed w b (.slice none 0 0) []) (hr : ∀ w', Kp (fun j => j = b) w w' → By.RB w' v m f) (hm : m ≤ 900000) :
    Calls Tryz.prog 53 #[.pointer (some ⟨b, 0, none⟩), v] w fun e w' => ∃ u rv', e = .returned u ∧ By.Own w' w.heap.size u 32 (Sh.dig m f) ∧ RLed w' b rv' [⟨1, 64, (Sh.blocks m : Int)⟩] ∧ (∀ q, rv'.ownBlock = some q → w.heap.size ≤ q) ∧ Kp (fun j => j = b) w w' := Sh.sum24 b m v f w h hr hm
set_option maxRecDepth 4000 in
theorem rhsum256 (b m : Nat) (v : Value) (f : Nat → Int) (w : World) (h : RLed w b (.slice none 0 0) []) (hr : ∀ w', Kp (fun j => j = b) w w' → By.RB w' v m f) (hm : m ≤ 900000) :
    Calls Tryz.prog 36 #[.agg #[.int .u8 1, .int .i64 32, .int .i64 64, .int .u8 1, .int .i64 64], .pointer (some ⟨b, 0, none⟩), v] w fun e w' => ∃ u rv', e = .returned u ∧ By.Own w' w.heap.size u 32 (Sh.dig m f) ∧ RLed w' b rv' [⟨1, 64, (Sh.blocks m : Int)⟩] ∧ (∀ q, rv'.ownBlock = some q → w.heap.size ≤ q) ∧ Kp (fun j => j = b) w w' := by
  have HC := hid (fun w1 (hb : Below w.heap.size w w1) => show Calls Tryz.prog 53 #[.pointer (some ⟨b, 0, none⟩), v] w1 (fun e w' => ∃ u rv', e = .returned u ∧ By.Own w' w.heap.size u 32 (Sh.dig m f) ∧ RLed w' b rv' [⟨1, 64, (Sh.blocks m : Int)⟩] ∧ (∀ q, rv'.ownBlock = some q → w.heap.size ≤ q) ∧ Kp (fun j => j = b) w w') from by
    refine (rsumd256 b m v f w1 (h.below hb) (fun w' h' => hr w' ((Kp.of_below _ hb).trans h' (fun _ _ e => e))) hm).mono ?_
    rintro e w' ⟨u, rv', rfl, h1, h2, h3, h4⟩
    exact ⟨u, rv', rfl, Sg.own_mono h1 hb.size, h2, fun q hq => Nat.le_trans hb.size (h3 q hq), (Kp.of_below _ hb).trans h4 (fun _ _ e => e)⟩)
  clear h hr hm
  go_enter Tryz.func36, Tryz.ntmps36
  go_wp2_with (go_at_call 53; refine (HC.out _ (below_alloc w _)).mono ?_; rintro e w2 ⟨u, rv', rfl, h1, h2, h3, h4⟩)
  go_ret
  exact ⟨u, rv', rfl, h1, h2, h3, h4⟩
set_option maxRecDepth 4000 in
theorem rsumf256 (b m : Nat) (v : Value) (f : Nat → Int) (w : World) (h : RLed w b (.slice none 0 0) []) (hr : ∀ w', Kp (fun j => j = b) w w' → By.RB w' v m f) (hm : m ≤ 900000) :
    Calls Tryz.prog 20 #[.pointer (some ⟨b, 0, none⟩), .int .u8 1, v] w fun e w' => ∃ u rv', e = .returned (.tuple #[u, .int .i64 0]) ∧ By.Own w' w.heap.size u 32 (Sh.dig m f) ∧ RLed w' b rv' [⟨1, 64, (Sh.blocks m : Int)⟩] ∧ (∀ q, rv'.ownBlock = some q → w.heap.size ≤ q) ∧ Kp (fun j => j = b) w w' := by
  have HC := hid (fun w1 (hb : Below w.heap.size w w1) => show Calls Tryz.prog 36 #[.agg #[.int .u8 1, .int .i64 32, .int .i64 64, .int .u8 1, .int .i64 64], .pointer (some ⟨b, 0, none⟩), v] w1 (fun e w' => ∃ u rv', e = .returned u ∧ By.Own w' w.heap.size u 32 (Sh.dig m f) ∧ RLed w' b rv' [⟨1, 64, (Sh.blocks m : Int)⟩] ∧ (∀ q, rv'.ownBlock = some q → w.heap.size ≤ q) ∧ Kp (fun j => j = b) w w') from by
    refine (rhsum256 b m v f w1 (h.below hb) (fun w' h' => hr w' ((Kp.of_below _ hb).trans h' (fun _ _ e => e))) hm).mono ?_
    rintro e w' ⟨u, rv', rfl, h1, h2, h3, h4⟩
    exact ⟨u, rv', rfl, Sg.own_mono h1 hb.size, h2, fun q hq => Nat.le_trans hb.size (h3 q hq), (Kp.of_below _ hb).trans h4 (fun _ _ e => e)⟩)
  clear h hr hm
  go_enter Tryz.func20, Tryz.ntmps20
  go_wp2_with (first | (go_at_call 23; refine (rof256 _).mono ?_; rintro e w1 ⟨rfl, hb1⟩; have B1 := hid (below_next hb1 (below_alloc w1 (.cells #[.int .u8 1, .int .i64 32, .int .i64 64, .int .u8 1, .int .i64 64] 70))); have l1 := ldR (range0 (Sh.Blk.new w1 [.int .u8 1, .int .i64 32, .int .i64 64, .int .u8 1, .int .i64 64] 70)) rfl; clear hb1) | (go_at_call 36; refine (HC.out _ B1.out).mono ?_; rintro e w2 ⟨u, rv', rfl, h1, h2, h3, h4⟩))
  go_ret2
  exact ⟨u, rv', rfl, h1, h2, h3, h4⟩
set_option maxRecDepth 4000 in
theorem rhsum512 (b m : Nat) (v : Value) (f : Nat → Int) (w : World) (h : RLed w b (.slice none 0 0) []) (hr : ∀ w', Kp (fun j => j = b) w w' → By.RB w' v m f) (hm : m ≤ 900000) :
    Calls Tryz.prog 36 #[.agg #[.int .u8 2, .int .i64 64, .int .i64 128, .int .u8 2, .int .i64 128], .pointer (some ⟨b, 0, none⟩), v] w fun e w' => ∃ u rv', e = .returned u ∧ By.Own w' w.heap.size u 64 (Sg.dig m f) ∧ RLed w' b rv' [⟨2, 128, (Sg.blocks m : Int)⟩] ∧ (∀ q, rv'.ownBlock = some q → w.heap.size ≤ q) ∧ Kp (fun j => j = b) w w' := by
  have HC := hid (fun w1 (hb : Below w.heap.size w w1) => show Calls Tryz.prog 54 #[.pointer (some ⟨b, 0, none⟩), v] w1 (fun e w' => ∃ u rv', e = .returned u ∧ By.Own w' w.heap.size u 64 (Sg.dig m f) ∧ RLed w' b rv' [⟨2, 128, (Sg.blocks m : Int)⟩] ∧ (∀ q, rv'.ownBlock = some q → w.heap.size ≤ q) ∧ Kp (fun j => j = b) w w') from by
    refine (rsumd512 b m v f w1 (h.below hb) (fun w' h' => hr w' ((Kp.of_below _ hb).trans h' (fun _ _ e => e))) hm).mono ?_
    rintro e w' ⟨u, rv', rfl, h1, h2, h3, h4⟩
    exact ⟨u, rv', rfl, Sg.own_mono h1 hb.size, h2, fun q hq => Nat.le_trans hb.size (h3 q hq), (Kp.of_below _ hb).trans h4 (fun _ _ e => e)⟩)
  clear h hr hm
  go_enter Tryz.func36, Tryz.ntmps36
  go_wp2_with (go_at_call 54; refine (HC.out _ (below_alloc w _)).mono ?_; rintro e w2 ⟨u, rv', rfl, h1, h2, h3, h4⟩)
  go_ret
  exact ⟨u, rv', rfl, h1, h2, h3, h4⟩
set_option maxRecDepth 4000 in
theorem rsumf512 (b m : Nat) (v : Value) (f : Nat → Int) (w : World) (h : RLed w b (.slice none 0 0) []) (hr : ∀ w', Kp (fun j => j = b) w w' → By.RB w' v m f) (hm : m ≤ 900000) :
    Calls Tryz.prog 20 #[.pointer (some ⟨b, 0, none⟩), .int .u8 2, v] w fun e w' => ∃ u rv', e = .returned (.tuple #[u, .int .i64 0]) ∧ By.Own w' w.heap.size u 64 (Sg.dig m f) ∧ RLed w' b rv' [⟨2, 128, (Sg.blocks m : Int)⟩] ∧ (∀ q, rv'.ownBlock = some q → w.heap.size ≤ q) ∧ Kp (fun j => j = b) w w' := by
  have HC := hid (fun w1 (hb : Below w.heap.size w w1) => show Calls Tryz.prog 36 #[.agg #[.int .u8 2, .int .i64 64, .int .i64 128, .int .u8 2, .int .i64 128], .pointer (some ⟨b, 0, none⟩), v] w1 (fun e w' => ∃ u rv', e = .returned u ∧ By.Own w' w.heap.size u 64 (Sg.dig m f) ∧ RLed w' b rv' [⟨2, 128, (Sg.blocks m : Int)⟩] ∧ (∀ q, rv'.ownBlock = some q → w.heap.size ≤ q) ∧ Kp (fun j => j = b) w w') from by
    refine (rhsum512 b m v f w1 (h.below hb) (fun w' h' => hr w' ((Kp.of_below _ hb).trans h' (fun _ _ e => e))) hm).mono ?_
    rintro e w' ⟨u, rv', rfl, h1, h2, h3, h4⟩
    exact ⟨u, rv', rfl, Sg.own_mono h1 hb.size, h2, fun q hq => Nat.le_trans hb.size (h3 q hq), (Kp.of_below _ hb).trans h4 (fun _ _ e => e)⟩)
  clear h hr hm
  go_enter Tryz.func20, Tryz.ntmps20
  go_wp2_with (first | (go_at_call 23; refine (rof512 _).mono ?_; rintro e w1 ⟨rfl, hb1⟩; have B1 := hid (below_next hb1 (below_alloc w1 (.cells #[.int .u8 2, .int .i64 64, .int .i64 128, .int .u8 2, .int .i64 128] 70))); have l1 := ldR (range0 (Sh.Blk.new w1 [.int .u8 2, .int .i64 64, .int .i64 128, .int .u8 2, .int .i64 128] 70)) rfl; clear hb1) | (go_at_call 36; refine (HC.out _ B1.out).mono ?_; rintro e w2 ⟨u, rv', rfl, h1, h2, h3, h4⟩))
  go_ret2
  exact ⟨u, rv', rfl, h1, h2, h3, h4⟩
set_option maxRecDepth 4000 in
theorem rsumf_no (a : Int) (lp v : Value) (w : World) (h1 : ¬ a = 1) (h2 : ¬ a = 2) : Calls Tryz.prog 20 #[lp, .int .u8 a, v] w fun e w' => e = .returned (.tuple #[.slice none 0 0, .int .i64 4]) ∧ Below w.heap.size w w' := by
  go_enter Tryz.func20, Tryz.ntmps20
  go_wp2_with (go_at_call 23; refine (rof_no a _ h1 h2).mono ?_; rintro e w1 ⟨rfl, hb1⟩; have B1 := hid hb1; clear hb1)
  go_ret2
  exact ⟨rfl, below_next B1.out (below_alloc w1 _)⟩
end Go.Proofs.YtojldjckpjokcaaGreatDoor.Dg
namespace Go.Proofs.YtojldjckpjokcaaGreatDoor.Dg
open Go.ChangeShapes Go.WideShapes Go.ChangeAt Go.RowKit
open Go.Proofs.YtojldjckpjokcaaGreatDoor.By
open Go.Proofs.YtojldjckpjokcaaGreatDoor.Sh (Blk size_alloc)
theorem apart2 (B z : Nat) (hz : z ≤ 64) (a b : Value) (f g : Nat → Int) (w : World) (ha : By.Own w B a z f) (hb : By.Own w B b z g) (hne : a.ownBlock ≠ b.ownBlock) (hB : B ≤ w.heap.size) :
    Calls Tryz.prog 17 #[.slice (some ⟨w.heap.size, 0, none⟩) 2 2] (w.alloc (.cells #[a, b] 41)) fun e w' => e = .returned (.bool true) ∧ Below B (w.alloc (.cells #[a, b] 41)) w' := by
  have ha' := own_below ha (below_alloc w (.cells #[a, b] 41))
  have hb' := own_below hb (below_alloc w (.cells #[a, b] 41))
  have bz := Sh.Blk.newAt w #[a, b] [a, b] 41 w.heap.size rfl rfl
  have lt1 : ∀ (v : Value) (h : Nat → Int), By.Own w B v z h → v.ownBlock ≠ some w.heap.size := by
    intro v h ho e
    obtain ⟨cs, hc⟩ := Sg.own8_type ho e
    have := (Array.getElem?_eq_some_iff.1 hc).1
    omega
  refine By.apart30 B 2 w.heap.size 2 (fun j => if j = 0 then a else b) (fun _ => z) (fun j => if j = 0 then f else g) _ ⟨?_, ?_⟩ ⟨?_, ?_⟩ ?_ (by omega) (by omega) (fun _ _ => by omega) (by rw [size_alloc]; omega)
  · intro i j hi hj hij
    right
    match i, j, hi, hj, hij with
    | 0, 1, _, _, _ => exact hne
    | 1, 0, _, _, _ => exact fun e => hne e.symm
    | 0, 0, _, _, h => exact absurd rfl h
    | 1, 1, _, _, h => exact absurd rfl h
  · intro j hj
    match j, hj with
    | 0, _ => exact lt1 a f ha
    | 1, _ => exact lt1 b g hb
  · intro j hj
    match j, hj with
    | 0, _ => exact ha'
    | 1, _ => exact hb'
  · intro j hj
    match j, hj with
    | 0, _ => exact bz.cell 0 _ rfl
    | 1, _ => exact bz.cell 1 _ rfl
  · intro j i
    by_cases h : j = 0
    · simp only [h, if_true]; exact ha.1 i
    · simp only [h, if_false]; exact hb.1 i
/-- A list of bytes stays where a block of another kind is turned. -/
theorem own_other {w w' : World} {base n q : Nat} {v : Value} {f : Nat → Int} {cs : List Value} {t : TypeId} (h : By.Own w base v n f) (hq : Blk w q cs t) (ht : 5 ≠ t) (hk : Kp (fun j => j = q) w w') : By.Own w' base v n f :=
  Sg.own_kept h hk (fun g hg e => by
    obtain ⟨c, hc⟩ := Sg.own8_type h hg
    exact Sh.Blk.ne (show Blk w g c.toList 5 from by show w.heap[g]? = _; rw [hc]) hq ht e)
theorem bel_one {w W W' : World} {q : Nat} (h : Below w.heap.size w W) (hk : Kp (fun j => j = q) W W') (hq : w.heap.size ≤ q) : Below w.heap.size w W' := h.trans (hk.below h.size (fun k hk e => by have : k = q := e; omega))
theorem led_other {w w' : World} {lb q : Nat} {rv : Value} {L : List Rn} {cs : List Value} (h : Led w lb rv L) (hq : Blk w q cs 68) (hk : Kp (fun j => j = q) w w') : Led w' lb rv L :=
  h.kept hk (fun e => Sh.Blk.ne (show Blk w lb _ 66 from h.here) hq (by decide) e) (fun g hg e => by
    obtain ⟨c, hc⟩ := Sg.own_type h.own hg
    exact Sh.Blk.ne (show Blk w g c.toList 84 from by show w.heap[g]? = _; rw [hc]) hq (by decide) e)
theorem rled_other {w w' : World} {lb q : Nat} {rv : Value} {L : List Rn} {cs : List Value} (h : RLed w lb rv L) (hq : Blk w q cs 66) (hk : Kp (fun j => j = q) w w') : RLed w' lb rv L :=
  h.kept hk (fun e => Sh.Blk.ne (show Blk w lb _ 68 from h.here) hq (by decide) e) (fun g hg e => by
    obtain ⟨c, hc⟩ := Sg.own_type h.own hg
    exact Sh.Blk.ne (show Blk w g c.toList 84 from by show w.heap[g]? = _; rw [hc]) hq (by decide) e)
set_option maxRecDepth 8000 in
set_option maxHeartbeats 4000000 in
theorem sums256 (A : Option Addr) (n cap : Nat) (f : Nat → Int) (w : World) (hr : By.RB w (.slice A n cap) n f) (hk : KT w) :
    Calls Tryz.prog 4 #[.int .u8 1, .slice A n cap] w fun e w' => e = .returned (.bool true) ∧ Below w.heap.size w w' := by
  have HR := hid hr
  have HK := hid hk
  have H1 := hid hk.lt
  clear hr hk
  go_enter Tryz.func4, Tryz.ntmps4
  go_wp2_with fail
  refine (lives1 _ HK.out).mono ?_
  rintro e w1 ⟨rfl, hb⟩
  have b1 := hid hb
  clear hb
  by_cases hn : 8192 < n
  · go_wp2
    go_ret
    exact ⟨rfl, b1.out⟩
  · go_wp2_with fail
    refine (lent14 _ n f _ (HR.out.below b1.out) (by omega)).mono ?_
    rintro e w2 ⟨v2, rfl, hu, hb⟩
    obtain ⟨gf, cf, rfl, -⟩ := own_cells hu (by omega)
    have F2 := hid (Sg.own_mono hu b1.out.size)
    have hcf := rb_cap hu.reads
    have hcf' : (n : Int) ≤ cf := by omega
    have b2 := hid (below_next b1.out hb)
    clear hu hb
    go_wp2_with fail
    refine (new9 _).mono ?_
    rintro e w3 ⟨rfl, hl, hb⟩
    have F3 := hid (own_below F2.out hb)
    have L3 := hid hl
    have z2 := hid b2.out.size
    have b3 := hid (below_next b2.out hb)
    clear hl hb F2
    go_wp2_with fail
    refine (refNew10 _).mono ?_
    rintro e w4 ⟨rfl, hl, hb⟩
    have F4 := hid (own_below F3.out hb)
    have L4 := hid (L3.out.below hb)
    have R4 := hid hl
    have z3 := hid b3.out.size
    have b4 := hid (below_next b3.out hb)
    clear hl hb F3 L3
    go_wp2_with fail
    refine (sumf256 n _ (lent n f) (some w2.heap.size) [] (fun j => j = w2.heap.size) _ (HK.out.below b4.out) (by have := z2.out; have := H1.out; omega) (by have := z2.out; have := H1.out; omega) ⟨rfl, _, L4.out, fun g hg _ => by simp [Value.ownBlock] at hg⟩ Sg.pos_nil' (fun w' hk' => (own_other F4.out L4.out.here (by decide) hk').reads.first n (by omega)) (by omega) (by decide)).mono ?_
    rintro e w5 ⟨u5, rfl, hu, ⟨-, rv5, hl, -⟩, hk5⟩
    rw [Sh.lent_dig] at hu
    have hN := hid (show Sh.evs256 [] (n / 64 + Sh.last n) = [⟨1, 64, (Sh.blocks n : Int)⟩] from by
      have h1 := Sh.blocks_pos n
      rw [Sh.blocks_last, show Sh.blocks n = Sh.blocks n - 1 + 1 from by omega, Sh.evs_one _ (by unfold Sh.blocks Sh.zs; omega)])
    rw [hN.out] at hl
    have U5 := hid (Sg.own_mono hu b4.out.size)
    have U5' := hid hu
    have L5 := hid hl
    have F5 := hid (own_other F4.out L4.out.here (by decide) hk5)
    have R5 := hid (rled_other R4.out L4.out.here hk5)
    have b5 := hid (bel_one b4.out hk5 z2.out)
    clear hu hl hk5 F4 L4 R4
    go_wp2_with fail
    refine (rsumf256 w3.heap.size n _ f _ R5.out (fun w' hk' => HR.out.below (bel_one b5.out hk' z3.out)) (by omega)).mono ?_
    rintro e w6 ⟨u6, rv6, rfl, hu, hl, -, hk6⟩
    have V6 := hid hu
    have R6 := hid hl
    have U6 := hid (own_other U5.out R5.out.here (by decide) hk6)
    have F6 := hid (own_other F5.out R5.out.here (by decide) hk6)
    have L6 := hid (led_other L5.out R5.out.here hk6)
    have b6 := hid (bel_one b5.out hk6 z3.out)
    have lt5 := hid (show ∀ g, u5.ownBlock = some g → g < w6.heap.size from fun g hg => by
      obtain ⟨c, hc⟩ := Sg.own8_type U6.out hg
      exact (Array.getElem?_eq_some_iff.1 hc).1)
    clear hu hl hk6 U5 U5' F5 L5 R5
    go_wp2_with fail
    refine (same_true _ _ 32 _ _ _ U6.out.reads V6.out.reads (by decide) (fun _ _ => rfl)).mono ?_
    rintro e w7 ⟨rfl, d7, rfl⟩
    obtain ⟨X, hX⟩ : ∃ x, w6.drewN d7 = x := ⟨_, rfl⟩
    have hbx : Below w6.heap.size w6 X := by rw [← hX]; exact below_drewN w6 d7
    rw [hX]
    clear hX
    have U7 := hid (own_below U6.out hbx)
    have V7 := hid (own_below V6.out hbx)
    have F7 := hid (own_below F6.out hbx)
    have L7 := hid (L6.out.below hbx)
    have R7 := hid (R6.out.below hbx)
    have b7 := hid (below_next b6.out hbx)
    have y7 := hid hbx.size
    clear hbx U6 V6 F6 L6 R6
    go_wp2_with fail
    refine (runs22 _ _ _ _ L7.out (by show 1 * 24 ≤ 140737488355328; decide)).mono ?_
    rintro e w8 ⟨r8, rfl, ho, hb⟩
    have O8 := hid ho
    have U8 := hid (own_below U7.out hb)
    have V8 := hid (own_below V7.out hb)
    have F8 := hid (own_below F7.out hb)
    have R8 := hid (R7.out.below hb)
    have b8 := hid (below_next b7.out hb)
    have y8 := hid (Nat.le_trans y7.out hb.size)
    clear ho hb U7 V7 F7 L7 R7
    go_wp2_with fail
    refine (refRuns20 _ _ _ _ R8.out (by show 1 * 24 ≤ 140737488355328; decide)).mono ?_
    rintro e w9 ⟨r9, rfl, ho, hb⟩
    have P9 := hid ho
    have O9 := hid (O8.out.below hb)
    have U9 := hid (own_below U8.out hb)
    have V9 := hid (own_below V8.out hb)
    have F9 := hid (own_below F8.out hb)
    have R9 := hid (R8.out.below hb)
    have b9 := hid (below_next b8.out hb)
    have y9 := hid (Nat.le_trans y8.out hb.size)
    clear ho hb O8 U8 V8 F8 R8
    go_wp2_with fail
    refine (same14 _ _ [⟨1, 64, (Sh.blocks n : Int)⟩] [⟨1, 64, (Sh.blocks n : Int)⟩] _ O9.out.reads P9.out.reads (by show 1 < 1000000000000000000; decide) (by show 1 < 1000000000000000000; decide)).mono ?_
    rw [decide_eq_true (show ([⟨1, 64, (Sh.blocks n : Int)⟩] : List Rn) = [⟨1, 64, (Sh.blocks n : Int)⟩] from rfl)]
    rintro e w10 ⟨rfl, d10, rfl⟩
    obtain ⟨Y, hY⟩ : ∃ x, w9.drewN d10 = x := ⟨_, rfl⟩
    have hby : Below w9.heap.size w9 Y := by rw [← hY]; exact below_drewN w9 d10
    rw [hY]
    clear hY
    have U10 := hid (own_below U9.out hby)
    have V10 := hid (own_below V9.out hby)
    have F10 := hid (own_below F9.out hby)
    have R10 := hid (R9.out.below hby)
    have b10 := hid (below_next b9.out hby)
    have y10 := hid (Nat.le_trans y9.out hby.size)
    clear hby O9 P9 U9 V9 F9 R9
    go_wp2_with fail
    refine (kept17 _ _ n f _ F10.out.reads (HR.out.below b10.out) (by omega)).mono ?_
    rintro e w11 ⟨rfl, hb⟩
    have U11 := hid (own_below U10.out hb)
    have V11 := hid (own_below V10.out hb)
    have F11 := hid (own_below F10.out hb)
    have R11 := hid (R10.out.below hb)
    have b11 := hid (below_next b10.out hb)
    have y11 := hid (Nat.le_trans y10.out hb.size)
    clear hb U10 V10 F10 R10
    go_wp2_with fail
    refine (of256 _).mono ?_
    rintro e w12 ⟨rfl, hb1⟩
    have hb := below_next hb1 (below_alloc w12 (.cells #[.int .u8 1, .int .i64 32, .int .i64 64, .int .u8 1, .int .i64 64, .func (.func 37) #[] #[], .func (.func 38) #[] #[]] 61))
    have C12 := hid (Sh.Blk.new w12 [.int .u8 1, .int .i64 32, .int .i64 64, .int .u8 1, .int .i64 64, .func (.func 37) #[] #[], .func (.func 38) #[] #[]] 61)
    have U12 := hid (own_below U11.out hb)
    have V12 := hid (own_below V11.out hb)
    have F12 := hid (own_below F11.out hb)
    have R12 := hid (R11.out.below hb)
    have b12 := hid (below_next b11.out hb)
    have y12 := hid (Nat.le_trans y11.out hb.size)
    clear hb hb1 U11 V11 F11 R11
    go_wp2_with fail
    refine (new9 _).mono ?_
    rintro e w13 ⟨rfl, hl, hb⟩
    obtain ⟨kb, hkb⟩ : ∃ x, (w12.alloc (.cells #[.int .u8 1, .int .i64 32, .int .i64 64, .int .u8 1, .int .i64 64, .func (.func 37) #[] #[], .func (.func 38) #[] #[]] 61)).heap.size = x := ⟨_, rfl⟩
    rw [hkb] at hl
    rw [hkb]
    have L13 := hid hl
    have C13 := hid (C12.out.below hb)
    have U13 := hid (own_below U12.out hb)
    have V13 := hid (own_below V12.out hb)
    have F13 := hid (own_below F12.out hb)
    have R13 := hid (R12.out.below hb)
    have zk := hid (show w.heap.size ≤ kb from by rw [← hkb]; exact b12.out.size)
    have b13 := hid (below_next b12.out hb)
    have y13 := hid (Nat.le_trans y12.out hb.size)
    clear hl hb hkb C12 U12 V12 F12 R12
    have q6 := C13.out.cell 6 (.func (.func 38) #[] #[]) rfl
    have k0 := hid (show ¬ (0 = kb) ∧ ¬ (1 = kb) from by have := zk.out; have := H1.out; omega)
    have HC := hid (fun W (hb : Below w13.heap.size w13 W) => dsumF false n (.slice (some ⟨gf, 0, none⟩) n cf) (lent n f) (some kb) [] (fun j => j = kb) W (HK.out.below (below_next b13.out hb)) k0.out.1 k0.out.2 ⟨rfl, _, L13.out.below hb, fun g hg _ => by simp [Value.ownBlock] at hg⟩ Sg.pos_nil' (fun w' hk' => (own_other (own_below F13.out hb) (L13.out.below hb).here (by decide) hk').reads.first n (by omega)) (by omega) (by decide))
    go_upto_region 16 with fail
    go_region_held3 (fun W => W.cell? ⟨w12.heap.size, 6, none⟩ = some (.func (.func 38) #[] #[])) (go_keep) (first | (go_at_call 38; go_must (refine (HC.out _ (below_drewN w13 1)).mono ?_; rintro e w14 ⟨u14, rfl, hu, hlg, hk14⟩; have U14 := hid hu; have LG14 := hid hlg; have K14 := hid hk14; have y6 := ((C13.out.drewN 1).kept hk14 (show ¬ (w12.heap.size = kb) from Sh.Blk.ne C13.out L13.out.here (by decide))).cell 6 (.func (.func 38) #[] #[]) rfl; clear hu hlg hk14)))
    clear y6 q6 HC
    obtain ⟨-, rv14, hl14, -⟩ := LG14.out
    have L14 := hid (show Led w14 kb rv14 [⟨1, 64, (Sh.blocks n : Int)⟩] from hN.out ▸ hl14)
    have W14 := hid (show By.Own w14 w13.heap.size u14 32 (Sh.dig n f) from by
      have := U14.out
      rw [show dig false n (lent n f) = Sh.dig n f from Sh.lent_dig n f] at this
      exact this)
    have d13 := below_drewN w13 1
    have hL := (L13.out.below d13).here
    have U15 := hid (own_other (own_below U13.out d13) hL (by decide) K14.out)
    have V15 := hid (own_other (own_below V13.out d13) hL (by decide) K14.out)
    have F15 := hid (own_other (own_below F13.out d13) hL (by decide) K14.out)
    have R15 := hid (rled_other (R13.out.below d13) hL K14.out)
    have b15 := hid (bel_one (below_next b13.out d13) K14.out zk.out)
    have ne := hid (show u5.ownBlock ≠ u14.ownBlock from fun e => by
      obtain ⟨g5, c5, e5, -⟩ := own_cells U15.out (by decide)
      have q5 : u5.ownBlock = some g5 := by rw [e5]; rfl
      have h1 := lt5.out g5 q5
      have h2 := own_row W14.out g5 (by rw [← e]; exact q5)
      have h3 := y13.out
      omega)
    clear d13 hL hl14 LG14 U14 K14 U13 V13 F13 R13 L13 C13
    go_wp2_with fail
    refine (same_true _ _ 32 _ _ _ W14.out.reads V15.out.reads (by decide) (fun _ _ => rfl)).mono ?_
    rintro e w15 ⟨rfl, d15, rfl⟩
    obtain ⟨X', hX⟩ : ∃ x, w14.drewN d15 = x := ⟨_, rfl⟩
    have hbx : Below w14.heap.size w14 X' := by rw [← hX]; exact below_drewN w14 d15
    rw [hX]
    clear hX
    have U16 := hid (own_below U15.out hbx)
    have W16 := hid (own_below W14.out hbx)
    have F16 := hid (own_below F15.out hbx)
    have L16 := hid (L14.out.below hbx)
    have R16 := hid (R15.out.below hbx)
    have b16 := hid (below_next b15.out hbx)
    have z13 := hid b13.out.size
    clear hbx U15 W14 V15 F15 L14 R15
    go_wp2_with fail
    refine (runs22 _ _ _ _ L16.out (by show 1 * 24 ≤ 140737488355328; decide)).mono ?_
    rintro e w17 ⟨r8, rfl, ho, hb⟩
    have O17 := hid ho
    have U17 := hid (own_below U16.out hb)
    have W17 := hid (own_below W16.out hb)
    have F17 := hid (own_below F16.out hb)
    have R17 := hid (R16.out.below hb)
    have b17 := hid (below_next b16.out hb)
    clear ho hb U16 W16 F16 L16 R16
    go_wp2_with fail
    refine (refRuns20 _ _ _ _ R17.out (by show 1 * 24 ≤ 140737488355328; decide)).mono ?_
    rintro e w18 ⟨r9, rfl, ho, hb⟩
    have P18 := hid ho
    have O18 := hid (O17.out.below hb)
    have U18 := hid (own_below U17.out hb)
    have W18 := hid (own_below W17.out hb)
    have F18 := hid (own_below F17.out hb)
    have b18 := hid (below_next b17.out hb)
    clear ho hb O17 U17 W17 F17 R17
    go_wp2_with fail
    refine (same14 _ _ [⟨1, 64, (Sh.blocks n : Int)⟩] [⟨1, 64, (Sh.blocks n : Int)⟩] _ O18.out.reads P18.out.reads (by show 1 < 1000000000000000000; decide) (by show 1 < 1000000000000000000; decide)).mono ?_
    rw [decide_eq_true (show ([⟨1, 64, (Sh.blocks n : Int)⟩] : List Rn) = [⟨1, 64, (Sh.blocks n : Int)⟩] from rfl)]
    rintro e w19 ⟨rfl, d19, rfl⟩
    obtain ⟨Y', hY⟩ : ∃ x, w18.drewN d19 = x := ⟨_, rfl⟩
    have hby : Below w18.heap.size w18 Y' := by rw [← hY]; exact below_drewN w18 d19
    rw [hY]
    clear hY
    have U19 := hid (own_below U18.out hby)
    have W19 := hid (own_below W18.out hby)
    have F19 := hid (own_below F18.out hby)
    have b19 := hid (below_next b18.out hby)
    clear hby O18 P18 U18 W18 F18
    go_wp2_with fail
    refine (kept17 _ _ n f _ F19.out.reads (HR.out.below b19.out) (by omega)).mono ?_
    rintro e w20 ⟨rfl, hb⟩
    have U20 := hid (own_below U19.out hb)
    have W20 := hid (Sg.own_mono (own_below W19.out hb) z13.out)
    have b20 := hid (below_next b19.out hb)
    clear hb U19 W19 F19
    obtain ⟨g5, c5, rfl, -⟩ := own_cells U20.out (by decide)
    obtain ⟨g6, c6, rfl, -⟩ := own_cells W20.out (by decide)
    go_wp2_with fail
    refine (apart2 w.heap.size 32 (by decide) _ _ _ _ w20 U20.out W20.out ne.out b20.out.size).mono ?_
    rintro e w21 ⟨rfl, hb⟩
    have bE := hid ((b20.out.trans ((below_alloc w20 (.cells #[.slice (some ⟨g5, 0, none⟩) 32 c5, .slice (some ⟨g6, 0, none⟩) 32 c6] 41)).mono b20.out.size)).trans hb)
    clear hb
    go_wp2
    go_ret
    exact ⟨rfl, bE.out⟩
set_option maxRecDepth 8000 in
set_option maxHeartbeats 4000000 in
theorem sums512 (A : Option Addr) (n cap : Nat) (f : Nat → Int) (w : World) (hr : By.RB w (.slice A n cap) n f) (hk : KT w) :
    Calls Tryz.prog 4 #[.int .u8 2, .slice A n cap] w fun e w' => e = .returned (.bool true) ∧ Below w.heap.size w w' := by
  have HR := hid hr
  have HK := hid hk
  have H1 := hid hk.lt
  clear hr hk
  go_enter Tryz.func4, Tryz.ntmps4
  go_wp2_with fail
  refine (lives1 _ HK.out).mono ?_
  rintro e w1 ⟨rfl, hb⟩
  have b1 := hid hb
  clear hb
  by_cases hn : 8192 < n
  · go_wp2
    go_ret
    exact ⟨rfl, b1.out⟩
  · go_wp2_with fail
    refine (lent14 _ n f _ (HR.out.below b1.out) (by omega)).mono ?_
    rintro e w2 ⟨v2, rfl, hu, hb⟩
    obtain ⟨gf, cf, rfl, -⟩ := own_cells hu (by omega)
    have F2 := hid (Sg.own_mono hu b1.out.size)
    have hcf := rb_cap hu.reads
    have hcf' : (n : Int) ≤ cf := by omega
    have b2 := hid (below_next b1.out hb)
    clear hu hb
    go_wp2_with fail
    refine (new9 _).mono ?_
    rintro e w3 ⟨rfl, hl, hb⟩
    have F3 := hid (own_below F2.out hb)
    have L3 := hid hl
    have z2 := hid b2.out.size
    have b3 := hid (below_next b2.out hb)
    clear hl hb F2
    go_wp2_with fail
    refine (refNew10 _).mono ?_
    rintro e w4 ⟨rfl, hl, hb⟩
    have F4 := hid (own_below F3.out hb)
    have L4 := hid (L3.out.below hb)
    have R4 := hid hl
    have z3 := hid b3.out.size
    have b4 := hid (below_next b3.out hb)
    clear hl hb F3 L3
    go_wp2_with fail
    refine (sumf512 n _ (lent n f) (some w2.heap.size) [] (fun j => j = w2.heap.size) _ (HK.out.below b4.out) (by have := z2.out; have := H1.out; omega) (by have := z2.out; have := H1.out; omega) ⟨rfl, _, L4.out, fun g hg _ => by simp [Value.ownBlock] at hg⟩ Sg.pos_nil' (fun w' hk' => (own_other F4.out L4.out.here (by decide) hk').reads.first n (by omega)) (by omega) (by decide)).mono ?_
    rintro e w5 ⟨u5, rfl, hu, ⟨-, rv5, hl, -⟩, hk5⟩
    rw [Sg.lent_dig] at hu
    have hN := hid (show Sg.evs512 [] (n / 128 + Sg.last n) = [⟨2, 128, (Sg.blocks n : Int)⟩] from by
      have h1 := Sg.blocks_pos n
      rw [Sg.blocks_last, show Sg.blocks n = Sg.blocks n - 1 + 1 from by omega, Sg.evs_one _ (by unfold Sg.blocks Sg.zs; omega)])
    rw [hN.out] at hl
    have U5 := hid (Sg.own_mono hu b4.out.size)
    have U5' := hid hu
    have L5 := hid hl
    have F5 := hid (own_other F4.out L4.out.here (by decide) hk5)
    have R5 := hid (rled_other R4.out L4.out.here hk5)
    have b5 := hid (bel_one b4.out hk5 z2.out)
    clear hu hl hk5 F4 L4 R4
    go_wp2_with fail
    refine (rsumf512 w3.heap.size n _ f _ R5.out (fun w' hk' => HR.out.below (bel_one b5.out hk' z3.out)) (by omega)).mono ?_
    rintro e w6 ⟨u6, rv6, rfl, hu, hl, -, hk6⟩
    have V6 := hid hu
    have R6 := hid hl
    have U6 := hid (own_other U5.out R5.out.here (by decide) hk6)
    have F6 := hid (own_other F5.out R5.out.here (by decide) hk6)
    have L6 := hid (led_other L5.out R5.out.here hk6)
    have b6 := hid (bel_one b5.out hk6 z3.out)
    have lt5 := hid (show ∀ g, u5.ownBlock = some g → g < w6.heap.size from fun g hg => by
      obtain ⟨c, hc⟩ := Sg.own8_type U6.out hg
      exact (Array.getElem?_eq_some_iff.1 hc).1)
    clear hu hl hk6 U5 U5' F5 L5 R5
    go_wp2_with fail
    refine (same_true _ _ 64 _ _ _ U6.out.reads V6.out.reads (by decide) (fun _ _ => rfl)).mono ?_
    rintro e w7 ⟨rfl, d7, rfl⟩
    obtain ⟨X, hX⟩ : ∃ x, w6.drewN d7 = x := ⟨_, rfl⟩
    have hbx : Below w6.heap.size w6 X := by rw [← hX]; exact below_drewN w6 d7
    rw [hX]
    clear hX
    have U7 := hid (own_below U6.out hbx)
    have V7 := hid (own_below V6.out hbx)
    have F7 := hid (own_below F6.out hbx)
    have L7 := hid (L6.out.below hbx)
    have R7 := hid (R6.out.below hbx)
    have b7 := hid (below_next b6.out hbx)
    have y7 := hid hbx.size
    clear hbx U6 V6 F6 L6 R6
    go_wp2_with fail
    refine (runs22 _ _ _ _ L7.out (by show 1 * 24 ≤ 140737488355328; decide)).mono ?_
    rintro e w8 ⟨r8, rfl, ho, hb⟩
    have O8 := hid ho
    have U8 := hid (own_below U7.out hb)
    have V8 := hid (own_below V7.out hb)
    have F8 := hid (own_below F7.out hb)
    have R8 := hid (R7.out.below hb)
    have b8 := hid (below_next b7.out hb)
    have y8 := hid (Nat.le_trans y7.out hb.size)
    clear ho hb U7 V7 F7 L7 R7
    go_wp2_with fail
    refine (refRuns20 _ _ _ _ R8.out (by show 1 * 24 ≤ 140737488355328; decide)).mono ?_
    rintro e w9 ⟨r9, rfl, ho, hb⟩
    have P9 := hid ho
    have O9 := hid (O8.out.below hb)
    have U9 := hid (own_below U8.out hb)
    have V9 := hid (own_below V8.out hb)
    have F9 := hid (own_below F8.out hb)
    have R9 := hid (R8.out.below hb)
    have b9 := hid (below_next b8.out hb)
    have y9 := hid (Nat.le_trans y8.out hb.size)
    clear ho hb O8 U8 V8 F8 R8
    go_wp2_with fail
    refine (same14 _ _ [⟨2, 128, (Sg.blocks n : Int)⟩] [⟨2, 128, (Sg.blocks n : Int)⟩] _ O9.out.reads P9.out.reads (by show 1 < 1000000000000000000; decide) (by show 1 < 1000000000000000000; decide)).mono ?_
    rw [decide_eq_true (show ([⟨2, 128, (Sg.blocks n : Int)⟩] : List Rn) = [⟨2, 128, (Sg.blocks n : Int)⟩] from rfl)]
    rintro e w10 ⟨rfl, d10, rfl⟩
    obtain ⟨Y, hY⟩ : ∃ x, w9.drewN d10 = x := ⟨_, rfl⟩
    have hby : Below w9.heap.size w9 Y := by rw [← hY]; exact below_drewN w9 d10
    rw [hY]
    clear hY
    have U10 := hid (own_below U9.out hby)
    have V10 := hid (own_below V9.out hby)
    have F10 := hid (own_below F9.out hby)
    have R10 := hid (R9.out.below hby)
    have b10 := hid (below_next b9.out hby)
    have y10 := hid (Nat.le_trans y9.out hby.size)
    clear hby O9 P9 U9 V9 F9 R9
    go_wp2_with fail
    refine (kept17 _ _ n f _ F10.out.reads (HR.out.below b10.out) (by omega)).mono ?_
    rintro e w11 ⟨rfl, hb⟩
    have U11 := hid (own_below U10.out hb)
    have V11 := hid (own_below V10.out hb)
    have F11 := hid (own_below F10.out hb)
    have R11 := hid (R10.out.below hb)
    have b11 := hid (below_next b10.out hb)
    have y11 := hid (Nat.le_trans y10.out hb.size)
    clear hb U10 V10 F10 R10
    go_wp2_with fail
    refine (of512 _).mono ?_
    rintro e w12 ⟨rfl, hb1⟩
    have hb := below_next hb1 (below_alloc w12 (.cells #[.int .u8 2, .int .i64 64, .int .i64 128, .int .u8 2, .int .i64 128, .func (.func 39) #[] #[], .func (.func 40) #[] #[]] 61))
    have C12 := hid (Sh.Blk.new w12 [.int .u8 2, .int .i64 64, .int .i64 128, .int .u8 2, .int .i64 128, .func (.func 39) #[] #[], .func (.func 40) #[] #[]] 61)
    have U12 := hid (own_below U11.out hb)
    have V12 := hid (own_below V11.out hb)
    have F12 := hid (own_below F11.out hb)
    have R12 := hid (R11.out.below hb)
    have b12 := hid (below_next b11.out hb)
    have y12 := hid (Nat.le_trans y11.out hb.size)
    clear hb hb1 U11 V11 F11 R11
    go_wp2_with fail
    refine (new9 _).mono ?_
    rintro e w13 ⟨rfl, hl, hb⟩
    obtain ⟨kb, hkb⟩ : ∃ x, (w12.alloc (.cells #[.int .u8 2, .int .i64 64, .int .i64 128, .int .u8 2, .int .i64 128, .func (.func 39) #[] #[], .func (.func 40) #[] #[]] 61)).heap.size = x := ⟨_, rfl⟩
    rw [hkb] at hl
    rw [hkb]
    have L13 := hid hl
    have C13 := hid (C12.out.below hb)
    have U13 := hid (own_below U12.out hb)
    have V13 := hid (own_below V12.out hb)
    have F13 := hid (own_below F12.out hb)
    have R13 := hid (R12.out.below hb)
    have zk := hid (show w.heap.size ≤ kb from by rw [← hkb]; exact b12.out.size)
    have b13 := hid (below_next b12.out hb)
    have y13 := hid (Nat.le_trans y12.out hb.size)
    clear hl hb hkb C12 U12 V12 F12 R12
    have q6 := C13.out.cell 6 (.func (.func 40) #[] #[]) rfl
    have k0 := hid (show ¬ (0 = kb) ∧ ¬ (1 = kb) from by have := zk.out; have := H1.out; omega)
    have HC := hid (fun W (hb : Below w13.heap.size w13 W) => dsumF true n (.slice (some ⟨gf, 0, none⟩) n cf) (lent n f) (some kb) [] (fun j => j = kb) W (HK.out.below (below_next b13.out hb)) k0.out.1 k0.out.2 ⟨rfl, _, L13.out.below hb, fun g hg _ => by simp [Value.ownBlock] at hg⟩ Sg.pos_nil' (fun w' hk' => (own_other (own_below F13.out hb) (L13.out.below hb).here (by decide) hk').reads.first n (by omega)) (by omega) (by decide))
    go_upto_region 16 with fail
    go_region_held3 (fun W => W.cell? ⟨w12.heap.size, 6, none⟩ = some (.func (.func 40) #[] #[])) (go_keep) (first | (go_at_call 40; go_must (refine (HC.out _ (below_drewN w13 1)).mono ?_; rintro e w14 ⟨u14, rfl, hu, hlg, hk14⟩; have U14 := hid hu; have LG14 := hid hlg; have K14 := hid hk14; have y6 := ((C13.out.drewN 1).kept hk14 (show ¬ (w12.heap.size = kb) from Sh.Blk.ne C13.out L13.out.here (by decide))).cell 6 (.func (.func 40) #[] #[]) rfl; clear hu hlg hk14)))
    clear y6 q6 HC
    obtain ⟨-, rv14, hl14, -⟩ := LG14.out
    have L14 := hid (show Led w14 kb rv14 [⟨2, 128, (Sg.blocks n : Int)⟩] from hN.out ▸ hl14)
    have W14 := hid (show By.Own w14 w13.heap.size u14 64 (Sg.dig n f) from by
      have := U14.out
      rw [show dig true n (lent n f) = Sg.dig n f from Sg.lent_dig n f] at this
      exact this)
    have d13 := below_drewN w13 1
    have hL := (L13.out.below d13).here
    have U15 := hid (own_other (own_below U13.out d13) hL (by decide) K14.out)
    have V15 := hid (own_other (own_below V13.out d13) hL (by decide) K14.out)
    have F15 := hid (own_other (own_below F13.out d13) hL (by decide) K14.out)
    have R15 := hid (rled_other (R13.out.below d13) hL K14.out)
    have b15 := hid (bel_one (below_next b13.out d13) K14.out zk.out)
    have ne := hid (show u5.ownBlock ≠ u14.ownBlock from fun e => by
      obtain ⟨g5, c5, e5, -⟩ := own_cells U15.out (by decide)
      have q5 : u5.ownBlock = some g5 := by rw [e5]; rfl
      have h1 := lt5.out g5 q5
      have h2 := own_row W14.out g5 (by rw [← e]; exact q5)
      have h3 := y13.out
      omega)
    clear d13 hL hl14 LG14 U14 K14 U13 V13 F13 R13 L13 C13
    go_wp2_with fail
    refine (same_true _ _ 64 _ _ _ W14.out.reads V15.out.reads (by decide) (fun _ _ => rfl)).mono ?_
    rintro e w15 ⟨rfl, d15, rfl⟩
    obtain ⟨X', hX⟩ : ∃ x, w14.drewN d15 = x := ⟨_, rfl⟩
    have hbx : Below w14.heap.size w14 X' := by rw [← hX]; exact below_drewN w14 d15
    rw [hX]
    clear hX
    have U16 := hid (own_below U15.out hbx)
    have W16 := hid (own_below W14.out hbx)
    have F16 := hid (own_below F15.out hbx)
    have L16 := hid (L14.out.below hbx)
    have R16 := hid (R15.out.below hbx)
    have b16 := hid (below_next b15.out hbx)
    have z13 := hid b13.out.size
    clear hbx U15 W14 V15 F15 L14 R15
    go_wp2_with fail
    refine (runs22 _ _ _ _ L16.out (by show 1 * 24 ≤ 140737488355328; decide)).mono ?_
    rintro e w17 ⟨r8, rfl, ho, hb⟩
    have O17 := hid ho
    have U17 := hid (own_below U16.out hb)
    have W17 := hid (own_below W16.out hb)
    have F17 := hid (own_below F16.out hb)
    have R17 := hid (R16.out.below hb)
    have b17 := hid (below_next b16.out hb)
    clear ho hb U16 W16 F16 L16 R16
    go_wp2_with fail
    refine (refRuns20 _ _ _ _ R17.out (by show 1 * 24 ≤ 140737488355328; decide)).mono ?_
    rintro e w18 ⟨r9, rfl, ho, hb⟩
    have P18 := hid ho
    have O18 := hid (O17.out.below hb)
    have U18 := hid (own_below U17.out hb)
    have W18 := hid (own_below W17.out hb)
    have F18 := hid (own_below F17.out hb)
    have b18 := hid (below_next b17.out hb)
    clear ho hb O17 U17 W17 F17 R17
    go_wp2_with fail
    refine (same14 _ _ [⟨2, 128, (Sg.blocks n : Int)⟩] [⟨2, 128, (Sg.blocks n : Int)⟩] _ O18.out.reads P18.out.reads (by show 1 < 1000000000000000000; decide) (by show 1 < 1000000000000000000; decide)).mono ?_
    rw [decide_eq_true (show ([⟨2, 128, (Sg.blocks n : Int)⟩] : List Rn) = [⟨2, 128, (Sg.blocks n : Int)⟩] from rfl)]
    rintro e w19 ⟨rfl, d19, rfl⟩
    obtain ⟨Y', hY⟩ : ∃ x, w18.drewN d19 = x := ⟨_, rfl⟩
    have hby : Below w18.heap.size w18 Y' := by rw [← hY]; exact below_drewN w18 d19
    rw [hY]
    clear hY
    have U19 := hid (own_below U18.out hby)
    have W19 := hid (own_below W18.out hby)
    have F19 := hid (own_below F18.out hby)
    have b19 := hid (below_next b18.out hby)
    clear hby O18 P18 U18 W18 F18
    go_wp2_with fail
    refine (kept17 _ _ n f _ F19.out.reads (HR.out.below b19.out) (by omega)).mono ?_
    rintro e w20 ⟨rfl, hb⟩
    have U20 := hid (own_below U19.out hb)
    have W20 := hid (Sg.own_mono (own_below W19.out hb) z13.out)
    have b20 := hid (below_next b19.out hb)
    clear hb U19 W19 F19
    obtain ⟨g5, c5, rfl, -⟩ := own_cells U20.out (by decide)
    obtain ⟨g6, c6, rfl, -⟩ := own_cells W20.out (by decide)
    go_wp2_with fail
    refine (apart2 w.heap.size 64 (by decide) _ _ _ _ w20 U20.out W20.out ne.out b20.out.size).mono ?_
    rintro e w21 ⟨rfl, hb⟩
    have bE := hid ((b20.out.trans ((below_alloc w20 (.cells #[.slice (some ⟨g5, 0, none⟩) 64 c5, .slice (some ⟨g6, 0, none⟩) 64 c6] 41)).mono b20.out.size)).trans hb)
    clear hb
    go_wp2
    go_ret
    exact ⟨rfl, bE.out⟩
set_option maxRecDepth 8000 in
set_option maxHeartbeats 4000000 in
theorem sums_no (a : Int) (h1 : ¬ a = 1) (h2 : ¬ a = 2) (A : Option Addr) (n cap : Nat) (f : Nat → Int) (w : World) (hr : By.RB w (.slice A n cap) n f) (hk : KT w) :
    Calls Tryz.prog 4 #[.int .u8 a, .slice A n cap] w fun e w' => e = .returned (.bool true) ∧ Below w.heap.size w w' := by
  have HR := hid hr
  have HK := hid hk
  have H1 := hid hk.lt
  clear hr hk
  go_enter Tryz.func4, Tryz.ntmps4
  go_wp2_with fail
  refine (lives1 _ HK.out).mono ?_
  rintro e w1 ⟨rfl, hb⟩
  have b1 := hid hb
  clear hb
  by_cases hn : 8192 < n
  · go_wp2
    go_ret
    exact ⟨rfl, b1.out⟩
  · go_wp2_with fail
    refine (lent14 _ n f _ (HR.out.below b1.out) (by omega)).mono ?_
    rintro e w2 ⟨v2, rfl, hu, hb⟩
    obtain ⟨gf, cf, rfl, -⟩ := own_cells hu (by omega)
    have F2 := hid (Sg.own_mono hu b1.out.size)
    have hcf := rb_cap hu.reads
    have hcf' : (n : Int) ≤ cf := by omega
    have b2 := hid (below_next b1.out hb)
    clear hu hb
    go_wp2_with fail
    refine (new9 _).mono ?_
    rintro e w3 ⟨rfl, hl, hb⟩
    have F3 := hid (own_below F2.out hb)
    have L3 := hid hl
    have z2 := hid b2.out.size
    have b3 := hid (below_next b2.out hb)
    clear hl hb F2
    go_wp2_with fail
    refine (refNew10 _).mono ?_
    rintro e w4 ⟨rfl, hl, hb⟩
    have F4 := hid (own_below F3.out hb)
    have L4 := hid (L3.out.below hb)
    have R4 := hid hl
    have z3 := hid b3.out.size
    have b4 := hid (below_next b3.out hb)
    clear hl hb F3 L3
    go_wp2_with fail
    refine (sumf_no a _ _ _ h1 h2).mono ?_
    rintro e w5 ⟨rfl, hb⟩
    have L5 := hid (L4.out.below hb)
    have F5 := hid (own_below F4.out hb)
    have R5 := hid (R4.out.below hb)
    have b5 := hid (below_next b4.out hb)
    clear hb F4 L4 R4
    go_wp2_with fail
    refine (rsumf_no a _ _ _ h1 h2).mono ?_
    rintro e w6 ⟨rfl, hb⟩
    have L6 := hid (L5.out.below hb)
    have F6 := hid (own_below F5.out hb)
    have R6 := hid (R5.out.below hb)
    have b6 := hid (below_next b5.out hb)
    clear hb F5 L5 R5
    have hz : ∀ i : Nat, (0 : Int) ≤ (fun _ : Nat => (0 : Int)) i ∧ (fun _ : Nat => (0 : Int)) i < 256 := fun _ => (by show (0 : Int) ≤ 0 ∧ (0 : Int) < 256; decide)
    have HZ := hid (fun W => (own_nil W 0 (fun _ => (0 : Int)) hz).reads)
    clear hz
    go_wp2_with fail
    refine (same_true _ _ 0 _ _ _ (HZ.out _) (HZ.out _) (by decide) (fun _ _ => rfl)).mono ?_
    rintro e w7 ⟨rfl, d7, rfl⟩
    obtain ⟨X, hX⟩ : ∃ x, w6.drewN d7 = x := ⟨_, rfl⟩
    have hbx : Below w6.heap.size w6 X := by rw [← hX]; exact below_drewN w6 d7
    rw [hX]
    clear hX
    have F7 := hid (own_below F6.out hbx)
    have L7 := hid (L6.out.below hbx)
    have R7 := hid (R6.out.below hbx)
    have b7 := hid (below_next b6.out hbx)
    clear hbx F6 L6 R6
    go_wp2_with fail
    refine (runs22 _ _ _ _ L7.out (by decide)).mono ?_
    rintro e w8 ⟨r8, rfl, ho, hb⟩
    have O8 := hid ho
    have F8 := hid (own_below F7.out hb)
    have R8 := hid (R7.out.below hb)
    have b8 := hid (below_next b7.out hb)
    clear ho hb F7 L7 R7
    go_wp2_with fail
    refine (refRuns20 _ _ _ _ R8.out (by decide)).mono ?_
    rintro e w9 ⟨r9, rfl, ho, hb⟩
    have P9 := hid ho
    have O9 := hid (O8.out.below hb)
    have F9 := hid (own_below F8.out hb)
    have b9 := hid (below_next b8.out hb)
    clear ho hb O8 F8 R8
    go_wp2_with fail
    refine (same14 _ _ [] [] _ O9.out.reads P9.out.reads (by decide) (by decide)).mono ?_
    rw [decide_eq_true (show ([] : List Rn) = [] from rfl)]
    rintro e w10 ⟨rfl, d10, rfl⟩
    obtain ⟨Y, hY⟩ : ∃ x, w9.drewN d10 = x := ⟨_, rfl⟩
    have hby : Below w9.heap.size w9 Y := by rw [← hY]; exact below_drewN w9 d10
    rw [hY]
    clear hY
    have F10 := hid (own_below F9.out hby)
    have b10 := hid (below_next b9.out hby)
    clear hby O9 P9 F9
    go_wp2_with fail
    refine (kept17 _ _ n f _ F10.out.reads (HR.out.below b10.out) (by omega)).mono ?_
    rintro e w11 ⟨rfl, hb⟩
    have b11 := hid (below_next b10.out hb)
    clear hb F10
    go_wp2_with fail
    refine (of_zero a _ h1 h2).mono ?_
    rintro e w12 ⟨rfl, hb1⟩
    have b12 := hid (below_next (below_next b11.out hb1) (below_alloc w12 (.cells #[.int .u8 0, .int .i64 0, .int .i64 0, .int .u8 0, .int .i64 0, .nilFunc, .nilFunc] 61)))
    clear hb1
    go_wp2
    go_ret
    exact ⟨rfl, b12.out⟩
end Go.Proofs.YtojldjckpjokcaaGreatDoor.Dg
