/- The program's Of: a hash function's numbers and what makes its states. A state of either hash function, by its algorithm: what it is, and what its calls answer. -/
import Derived.Test.YtkmkbofokoimkaaDoorZhd
import Derived.Test.YtkmkbofokoimkaaDoorZjd
import Derived.Laws.EntriesVeiled
namespace Go.Proofs.YtkmkbofokoimkaaDoor.Dg
open Go.ChangeShapes Go.WideShapes Go.ChangeAt Go.RowKit
open Go.Proofs.YtkmkbofokoimkaaDoor.By
open Go.Proofs.YtkmkbofokoimkaaDoor.Sh (Blk)
/-- The number of an algorithm; bytes of its digest, of its block, of its form. -/
def an : Bool → Int | false => 1 | true => 2
def sz : Bool → Nat | false => 32 | true => 64
def bk : Bool → Nat | false => 64 | true => 128
def fmn : Bool → Nat | false => 104 | true => 200
def fNew : Bool → FuncId | false => 29 | true => 31
def fSum : Bool → FuncId | false => 30 | true => 32
/-- A Hash's cells. -/
def hc (a : Bool) : List Value := [.int .u8 (an a), .int .i64 (sz a), .int .i64 (bk a), .int .u8 (an a), .int .i64 (bk a), .func (.func (fNew a)) #[] #[], .func (.func (fSum a)) #[] #[]]
def hz : List Value := [.int .u8 0, .int .i64 0, .int .i64 0, .int .u8 0, .int .i64 0, .nilFunc, .nilFunc]
theorem results_cell2 {P : Program} {fn : Func} {p q : Tmp} {ty : TypeId} {tmps : Array Value} {w : World} {a : Addr} {v u : Value} (h : fn.results = #[.cell p ty, .tmp q]) (ha : tmps.getD p undef = .pointer (some a)) (hq : tmps.getD q undef = u) (hl : (loadVar ty a).run P w = .ok v w) :
    (results fn tmps).run P w = .ok (.tuple #[v, u]) w := by
  have e1 : tmps[p]?.getD undef = .pointer (some a) := by rw [← ha]; simp [Array.getD_eq_getD_getElem?]
  have e2 : tmps[q]?.getD undef = u := by rw [← hq]; simp [Array.getD_eq_getD_getElem?]
  simp only [results, h]
  simp [e1, e2, asAddr, hl]
theorem infoHs : (Tryd.prog.info? 52).map (·.size) = some 7 := by kernel_rfl
def LDH (a : Addr) : Sem Value := loadVar 52 a
@[go_sem ↓ high] theorem ldh (a : Addr) : loadVar 52 a = LDH a := rfl
theorem ldH {w : World} {g : Nat} {cs : List Value} (h : w.rangeAt g 0 cs) (hl : cs.length = 7) : (LDH ⟨g, 0, none⟩).run Tryd.prog w = .ok (.agg cs.toArray) w :=
  run_loadVar_mid w g 0 _ cs _ h Tryd.underlying52 rfl (by rw [hl]; exact infoHs)
theorem range0 {w : World} {g : Nat} {cs : List Value} {t : TypeId} (h : Blk w g cs t) : w.rangeAt g 0 cs := h.range 0 _ (fun j v h => by rw [Nat.zero_add]; exact h)
theorem of_is (a : Bool) (w : World) : Calls Tryd.prog 20 #[.int .u8 (an a)] w fun e w' => e = .returned (.tuple #[.agg (hc a).toArray, .int .i64 0]) ∧ Below w.heap.size w w' := by
  have L := hid (ldH (range0 (Sh.Blk.new w (hc a) 52)) rfl)
  cases a
  · show Calls Tryd.prog 20 #[.int .u8 1] w _
    go_enter Tryd.func20, Tryd.ntmps20
    go_wp2
    refine bodyPost_ret ?_ rfl ⟨rfl, below_alloc w _⟩
    exact results_cell2 Tryd.results20 rfl rfl L.out
  · show Calls Tryd.prog 20 #[.int .u8 2] w _
    go_enter Tryd.func20, Tryd.ntmps20
    go_wp2
    refine bodyPost_ret ?_ rfl ⟨rfl, below_alloc w _⟩
    exact results_cell2 Tryd.results20 rfl rfl L.out
set_option maxRecDepth 4000 in
theorem of_no (a : Int) (w : World) (h1 : ¬ a = 1) (h2 : ¬ a = 2) : Calls Tryd.prog 20 #[.int .u8 a] w fun e w' => e = .returned (.tuple #[.agg hz.toArray, .int .i64 4]) ∧ Below w.heap.size w w' := by
  have L := hid (ldH (range0 (Sh.Blk.new w hz 52)) rfl)
  go_enter Tryd.func20, Tryd.ntmps20
  go_wp2
  refine bodyPost_ret ?_ rfl ⟨rfl, below_alloc w _⟩
  exact results_cell2 Tryd.results20 rfl rfl L.out
theorem of256 (w : World) : Calls Tryd.prog 20 #[.int .u8 1] w fun e w' => e = .returned (.tuple #[.agg #[.int .u8 1, .int .i64 32, .int .i64 64, .int .u8 1, .int .i64 64, .func (.func 29) #[] #[], .func (.func 30) #[] #[]], .int .i64 0]) ∧ Below w.heap.size w w' := of_is false w
theorem of512 (w : World) : Calls Tryd.prog 20 #[.int .u8 2] w fun e w' => e = .returned (.tuple #[.agg #[.int .u8 2, .int .i64 64, .int .i64 128, .int .u8 2, .int .i64 128, .func (.func 31) #[] #[], .func (.func 32) #[] #[]], .int .i64 0]) ∧ Below w.heap.size w w' := of_is true w
@[go_sem ↓ high] theorem fn_neqA (w : World) (f : Fn) (c d : Array Value) : (binOp .neq 49 (.func f c d) .nilFunc).run Tryd.prog w = .ok (.bool true) w := by kernel_rfl
@[go_sem ↓ high] theorem fn_eqlA (w : World) (f : Fn) (c d : Array Value) : (binOp .eql 49 (.func f c d) .nilFunc).run Tryd.prog w = .ok (.bool false) w := by kernel_rfl
@[go_sem ↓ high] theorem fn_eqlzA (w : World) : (binOp .eql 49 .nilFunc .nilFunc).run Tryd.prog w = .ok (.bool true) w := by kernel_rfl
@[go_sem ↓ high] theorem fn_neqB (w : World) (f : Fn) (c d : Array Value) : (binOp .neq 50 (.func f c d) .nilFunc).run Tryd.prog w = .ok (.bool true) w := by kernel_rfl
@[go_sem ↓ high] theorem fn_eqlB (w : World) (f : Fn) (c d : Array Value) : (binOp .eql 50 (.func f c d) .nilFunc).run Tryd.prog w = .ok (.bool false) w := by kernel_rfl
@[go_sem ↓ high] theorem fn_eqlzB (w : World) : (binOp .eql 50 .nilFunc .nilFunc).run Tryd.prog w = .ok (.bool true) w := by kernel_rfl
end Go.Proofs.YtkmkbofokoimkaaDoor.Dg
namespace Go.Proofs.YtkmkbofokoimkaaDoor.Dg
open Go.ChangeShapes Go.WideShapes Go.ChangeAt Go.RowKit
open Go.Proofs.YtkmkbofokoimkaaDoor.By
open Go.Proofs.YtkmkbofokoimkaaDoor.Sh (Blk size_alloc)
/-- What a state is: none, or one with a message. -/
abbrev SK := Option (Nat × (Nat → Int))
def IsD (W : World) (b : Nat) : Bool → SK → Prop
  | false, none => Sh.NoSt W b
  | false, some (m, f) => Sh.St W b m f
  | true, none => Sg.NoSt W b
  | true, some (m, f) => Sg.St W b m f
def tyS : Bool → TypeId | false => 89 | true => 97
def tyI : Bool → TypeId | false => 76 | true => 81
/-- The interface value that holds a state. -/
def iv (a : Bool) (b : Nat) : Value := .iface (tyI a) (.agg #[.pointer (some ⟨b, 0, none⟩)])
theorem IsD.blk {W : World} {b : Nat} {a : Bool} {k : SK} (h : IsD W b a k) : ∃ cs, Blk W b cs (tyS a) := by
  match a, k, h with
  | false, none, h => obtain ⟨cs, h, _⟩ := h; exact ⟨_, h⟩
  | false, some (m, f), h => exact ⟨_, (show Sh.St W b m f from h).here⟩
  | true, none, h => obtain ⟨cs, h, _⟩ := h; exact ⟨_, h⟩
  | true, some (m, f), h => exact ⟨_, (show Sg.St W b m f from h).here⟩
theorem IsD.kept {W W' : World} {b : Nat} {a : Bool} {k : SK} {S : Nat → Prop} (h : IsD W b a k) (hk : Kp S W W') (hn : ¬ S b) : IsD W' b a k := by
  match a, k, h with
  | false, none, h => obtain ⟨cs, h, hl⟩ := h; exact ⟨cs, h.kept hk hn, hl⟩
  | false, some (m, f), h => exact Sh.St.kept h hk hn
  | true, none, h => obtain ⟨cs, h, hl⟩ := h; exact ⟨cs, h.kept hk hn, hl⟩
  | true, some (m, f), h => exact Sg.St.kept h hk hn
theorem IsD.below {W W' : World} {b : Nat} {a : Bool} {k : SK} (h : IsD W b a k) (hb : Below W.heap.size W W') : IsD W' b a k := h.kept (Kp.of_below (fun _ => False) hb) id
/-- Both tables lie in their places. -/
structure KT (W : World) : Prop where
  h : Sh.KT W
  g : Sg.KT W
theorem KT.below {W W' : World} (h : KT W) (hb : Below W.heap.size W W') : KT W' := ⟨h.h.below hb, h.g.below hb⟩
theorem KT.kept {W W' : World} {S : Nat → Prop} (h : KT W) (hk : Kp S W W') (h0 : ¬ S 0) (h1 : ¬ S 1) : KT W' := ⟨h.h.kept hk h0, h.g.kept hk h1⟩
theorem KT.lt {W : World} (h : KT W) : 1 < W.heap.size := h.g.lt
/-- A ledger or none, by the blocks that it may turn. -/
abbrev LG := @Sg.LG
abbrev lpv := Sg.lpv
theorem lpvH (lo : Option Nat) : Sh.lpv lo = Sg.lpv lo := by cases lo <;> rfl
theorem lgH {S : Nat → Prop} {w0 w : World} {lo : Option Nat} {L : List Rn} : Sh.LG S w0 w lo L ↔ LG S w0 w lo L := by cases lo <;> exact Iff.rfl
/-- What is recorded of n blocks; how many blocks Sum works on; the digest; the form. -/
def evs : Bool → List Rn → Nat → List Rn | false => Sh.evs256 | true => Sg.evs512
def last : Bool → Nat → Nat | false => Sh.last | true => Sg.last
def dig : Bool → Nat → (Nat → Int) → Nat → Int | false => Sh.dig | true => Sg.dig
def formf : Bool → Nat → (Nat → Int) → Nat → Int | false => Sh.formf | true => Sg.formf
abbrev cat := Sg.cat
theorem catH (m : Nat) (f g : Nat → Int) : Sh.cat m f g = cat m f g := rfl
theorem len_tot {L : List Rn} (_ : Pos L) : (L.length : Int) ≤ tq L := tq_len L
theorem big_of {L : List Rn} (h : Pos L) (ht : tq L ≤ 5000000000000) : Sg.Big L := ⟨by have := tq_tot L; omega, by have := len_tot h; omega⟩
theorem wide_of {L : List Rn} (h : Pos L) (ht : tq L ≤ 5000000000000) : Sg.Wide L := ⟨by have := tq_tot L; omega, by have := len_tot h; omega⟩
def fWrite : Bool → FuncId | false => 95 | true => 101
def fSumS : Bool → FuncId | false => 40 | true => 43
def fCopy : Bool → FuncId | false => 96 | true => 102
theorem dwrite (a : Bool) (b m n : Nat) (v : Value) (f g : Nat → Int) (lo : Option Nat) (L : List Rn) (S : Nat → Prop) (w : World) (hst : IsD w b a (some (m, f))) (hk : KT w) (hS0 : ¬ S 0) (hS1 : ¬ S 1) (hSb : S b) (hl : LG S w w lo L) (hp : Pos L)
    (hr : ∀ w', Kp S w w' → By.RB w' v n g) (hmn : m + n ≤ 140737488354328) (hroom : tq L + (n / 64 : Nat) ≤ 5000000000000) :
    Calls Tryd.prog (fWrite a) #[.pointer (some ⟨b, 0, none⟩), lpv lo, v] w fun e w' => e = .returned (.int .i64 0) ∧ IsD w' b a (some (m + n, cat m f g)) ∧ LG S w w' lo (evs a L ((m + n) / bk a - m / bk a)) ∧ Kp S w w' := by
  cases a
  · have := Sh.write26 b m n v f g lo L S w hst hk.h hS0 hSb (lgH.2 hl) hp hr hmn hroom
    rw [lpvH] at this
    refine this.mono ?_
    rintro e w' ⟨h1, h2, h3, h4⟩
    exact ⟨h1, h2, lgH.1 h3, h4⟩
  · exact Sg.write26 b m n v f g lo L S w hst hk.g hS1 hSb hl hp hr (by omega) (big_of hp (by omega))
theorem dwriteN (a : Bool) (b : Nat) (v lp : Value) (w : World) (h : IsD w b a none) : Calls Tryd.prog (fWrite a) #[.pointer (some ⟨b, 0, none⟩), lp, v] w fun e w' => e = .returned (.int .i64 1) ∧ w' = w := by
  cases a
  · exact Sh.write26n b v lp w h
  · exact Sg.write26n b v lp w h
theorem dsum (a : Bool) (b m : Nat) (f : Nat → Int) (lo : Option Nat) (L : List Rn) (S : Nat → Prop) (w : World) (h : IsD w b a (some (m, f))) (hk : KT w) (hS0 : ¬ S 0) (hS1 : ¬ S 1) (hl : LG S w w lo L) (hp : Pos L) (hm : m ≤ 140737488353328) (hroom : tq L ≤ 4400000000000) :
    Calls Tryd.prog (fSumS a) #[.pointer (some ⟨b, 0, none⟩), lpv lo] w fun e w' => ∃ v, e = .returned (.tuple #[v, .int .i64 0]) ∧ By.Own w' w.heap.size v (sz a) (dig a m f) ∧ LG S w w' lo (evs a L (last a m)) ∧ Kp S w w' := by
  cases a
  · have := Sh.sum32 b m f lo L S w h hk.h hS0 (lgH.2 hl) hp hm hroom
    rw [lpvH] at this
    refine this.mono ?_
    rintro e w' ⟨v, h1, h2, h3, h4⟩
    exact ⟨v, h1, h2, lgH.1 h3, h4⟩
  · exact Sg.sum32 b m f lo L S w h hk.g hS1 hl hp (by omega) (big_of hp (by omega))
theorem dsumN (a : Bool) (b : Nat) (lp : Value) (w : World) (h : IsD w b a none) : Calls Tryd.prog (fSumS a) #[.pointer (some ⟨b, 0, none⟩), lp] w fun e w' => e = .returned (.tuple #[.slice none 0 0, .int .i64 1]) ∧ w' = w := by
  cases a
  · exact Sh.sum32n b lp w h
  · exact Sg.sum32n b lp w h
theorem dsumF (a : Bool) (n : Nat) (v : Value) (g : Nat → Int) (lo : Option Nat) (L : List Rn) (S : Nat → Prop) (w : World) (hk : KT w) (hS0 : ¬ S 0) (hS1 : ¬ S 1) (hl : LG S w w lo L) (hp : Pos L)
    (hr : ∀ w', Kp S w w' → By.RB w' v n g) (hn : n ≤ 140737488353328) (hroom : tq L ≤ 2200000000000) :
    Calls Tryd.prog (fSum a) #[lpv lo, v] w fun e w' => ∃ u, e = .returned u ∧ By.Own w' w.heap.size u (sz a) (dig a n g) ∧ LG S w w' lo (evs a L (n / bk a + last a n)) ∧ Kp S w w' := by
  cases a
  · have := Sh.sum23 n v g lo L S w hk.h hS0 (lgH.2 hl) hp hr hn hroom
    rw [lpvH] at this
    refine this.mono ?_
    rintro e w' ⟨v, h1, h2, h3, h4⟩
    exact ⟨v, h1, h2, lgH.1 h3, h4⟩
  · exact Sg.sum23 n v g lo L S w hk.g hS1 hl hp hr (by omega) (wide_of hp (by omega))
theorem dnew (a : Bool) (w : World) : Calls Tryd.prog (fNew a) #[] w fun e w' => ∃ b, w.heap.size ≤ b ∧ e = .returned (iv a b) ∧ IsD w' b a (some (0, fun _ => 0)) ∧ Below w.heap.size w w' := by
  cases a
  · show Calls Tryd.prog 29 #[] w _
    go_enter Tryd.func29, Tryd.ntmps29
    go_wp2_with (go_at_call 38; refine (Sh.new12 _).mono ?_; rintro e w' ⟨rfl, h1, h2⟩)
    go_ret
    exact ⟨_, Nat.le_refl _, rfl, h1, h2⟩
  · show Calls Tryd.prog 31 #[] w _
    go_enter Tryd.func31, Tryd.ntmps31
    go_wp2_with (go_at_call 41; refine (Sg.new12 _).mono ?_; rintro e w' ⟨rfl, h1, h2⟩)
    go_ret
    exact ⟨_, Nat.le_refl _, rfl, h1, h2⟩
theorem dcopy256 (b m : Nat) (f : Nat → Int) (w : World) (h : IsD w b false (some (m, f))) : Calls Tryd.prog 96 #[.agg #[.pointer (some ⟨b, 0, none⟩)]] w fun e w' => ∃ c, w.heap.size ≤ c ∧ e = .returned (iv false c) ∧ IsD w' c false (some (m, f)) ∧ Below w.heap.size w w' := by
  have HS := hid (show Sh.St (w.alloc (.cells #[Value.pointer (some ⟨b, 0, none⟩)] 76)) b m f from Sh.St.below h (below_alloc _ _))
  clear h
  go_enter Tryd.func96, Tryd.ntmps96
  go_wp2_with (go_at_call 97; refine (Sh.clone28 _ m f _ HS.out).mono ?_; rintro e w' ⟨rfl, h1, h2⟩)
  go_ret
  rw [size_alloc] at h1
  exact ⟨_, Nat.le_succ _, rfl, h1, below_next (below_alloc w _) h2⟩
theorem dcopyN256 (b : Nat) (w : World) (h : IsD w b false none) : Calls Tryd.prog 96 #[.agg #[.pointer (some ⟨b, 0, none⟩)]] w fun e w' => e = .returned .nilIface ∧ Below w.heap.size w w' := by
  have HS := hid (show Sh.NoSt (w.alloc (.cells #[Value.pointer (some ⟨b, 0, none⟩)] 76)) b from IsD.below (a := false) (k := none) h (below_alloc _ _))
  clear h
  go_enter Tryd.func96, Tryd.ntmps96
  go_wp2_with (go_at_call 97; refine (Sh.clone28n _ _ HS.out).mono ?_; rintro e w' ⟨rfl, rfl⟩)
  go_ret
  exact ⟨rfl, below_alloc w _⟩
theorem dcopy512 (b m : Nat) (f : Nat → Int) (w : World) (h : IsD w b true (some (m, f))) : Calls Tryd.prog 102 #[.agg #[.pointer (some ⟨b, 0, none⟩)]] w fun e w' => ∃ c, w.heap.size ≤ c ∧ e = .returned (iv true c) ∧ IsD w' c true (some (m, f)) ∧ Below w.heap.size w w' := by
  have HS := hid (show Sg.St (w.alloc (.cells #[Value.pointer (some ⟨b, 0, none⟩)] 81)) b m f from Sg.St.below h (below_alloc _ _))
  clear h
  go_enter Tryd.func102, Tryd.ntmps102
  go_wp2_with (go_at_call 103; refine (Sg.clone28 _ m f _ HS.out).mono ?_; rintro e w' ⟨rfl, h1, h2⟩)
  go_ret
  rw [size_alloc] at h1
  exact ⟨_, Nat.le_succ _, rfl, h1, below_next (below_alloc w _) h2⟩
theorem dcopyN512 (b : Nat) (w : World) (h : IsD w b true none) : Calls Tryd.prog 102 #[.agg #[.pointer (some ⟨b, 0, none⟩)]] w fun e w' => e = .returned .nilIface ∧ Below w.heap.size w w' := by
  have HS := hid (show Sg.NoSt (w.alloc (.cells #[Value.pointer (some ⟨b, 0, none⟩)] 81)) b from IsD.below (a := true) (k := none) h (below_alloc _ _))
  clear h
  go_enter Tryd.func102, Tryd.ntmps102
  go_wp2_with (go_at_call 103; refine (Sg.clone28n _ _ HS.out).mono ?_; rintro e w' ⟨rfl, rfl⟩)
  go_ret
  exact ⟨rfl, below_alloc w _⟩
theorem dcopy (a : Bool) (b m : Nat) (f : Nat → Int) (w : World) (h : IsD w b a (some (m, f))) : Calls Tryd.prog (fCopy a) #[.agg #[.pointer (some ⟨b, 0, none⟩)]] w fun e w' => ∃ c, w.heap.size ≤ c ∧ e = .returned (iv a c) ∧ IsD w' c a (some (m, f)) ∧ Below w.heap.size w w' := by
  cases a
  · exact dcopy256 b m f w h
  · exact dcopy512 b m f w h
theorem dcopyN (a : Bool) (b : Nat) (w : World) (h : IsD w b a none) : Calls Tryd.prog (fCopy a) #[.agg #[.pointer (some ⟨b, 0, none⟩)]] w fun e w' => e = .returned .nilIface ∧ Below w.heap.size w w' := by
  cases a
  · exact dcopyN256 b w h
  · exact dcopyN512 b w h
end Go.Proofs.YtkmkbofokoimkaaDoor.Dg
