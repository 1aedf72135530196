/- The program's Of: a hash function's numbers and what makes its states. A state of either hash function, by its algorithm: what it is, and what its calls answer. HMAC as numbers: the block key, the masked keys, the tag, the form; no function of the program in it. Which function a call through the interface comes to. A call through the interface: its receiver is there. Several macs and ledgers at once: what one call leaves of the others. A ledger or none, by its own blocks: what a call that records leaves of all else. -/
import Derived.Test.YtpohogpkfdebdaaGreatDoorZhc
import Derived.Test.YtpohogpkfdebdaaGreatDoorZjc
import Derived.Laws.EntriesVeiled
import Derived.WideLaws
import Derived.Test.YtpohogpkfdebdaaGreatDoorZrr
namespace Go.Proofs.YtpohogpkfdebdaaGreatDoor.Dg
open Go.ChangeShapes Go.WideShapes Go.ChangeAt Go.RowKit
open Go.Proofs.YtpohogpkfdebdaaGreatDoor.By
open Go.Proofs.YtpohogpkfdebdaaGreatDoor.Sh (Blk)
/-- The number of an algorithm; bytes of its digest, of its block, of its form. -/
def an : Bool → Int | false => 1 | true => 2
def sz : Bool → Nat | false => 32 | true => 64
def bk : Bool → Nat | false => 64 | true => 128
def fmn : Bool → Nat | false => 104 | true => 200
def fNew : Bool → FuncId | false => 188 | true => 190
def fSum : Bool → FuncId | false => 189 | true => 191
/-- A Hash's cells. -/
def hc (a : Bool) : List Value := [.int .u8 (an a), .int .i64 (sz a), .int .i64 (bk a), .int .u8 (an a), .int .i64 (bk a), .func (.func (fNew a)) #[] #[], .func (.func (fSum a)) #[] #[]]
def hz : List Value := [.int .u8 0, .int .i64 0, .int .i64 0, .int .u8 0, .int .i64 0, .nilFunc, .nilFunc]
theorem results_cell2 {P : Program} {fn : Func} {p q : Tmp} {ty : TypeId} {tmps : Array Value} {w : World} {a : Addr} {v u : Value} (h : fn.results = #[.cell p ty, .tmp q]) (ha : tmps.getD p undef = .pointer (some a)) (hq : tmps.getD q undef = u) (hl : (loadVar ty a).run P w = .ok v w) :
    (results fn tmps).run P w = .ok (.tuple #[v, u]) w := by
  have e1 : tmps[p]?.getD undef = .pointer (some a) := by rw [← ha]; simp [Array.getD_eq_getD_getElem?]
  have e2 : tmps[q]?.getD undef = u := by rw [← hq]; simp [Array.getD_eq_getD_getElem?]
  simp only [results, h]
  simp [e1, e2, asAddr, hl]
theorem infoHs : (Tryz.prog.info? 184).map (·.size) = some 7 := by kernel_rfl
def LDH (a : Addr) : Sem Value := loadVar 184 a
@[go_sem ↓ high] theorem ldh (a : Addr) : loadVar 184 a = LDH a := rfl
theorem ldH {w : World} {g : Nat} {cs : List Value} (h : w.rangeAt g 0 cs) (hl : cs.length = 7) : (LDH ⟨g, 0, none⟩).run Tryz.prog w = .ok (.agg cs.toArray) w :=
  run_loadVar_mid w g 0 _ cs _ h Tryz.underlying184 rfl (by rw [hl]; exact infoHs)
theorem range0 {w : World} {g : Nat} {cs : List Value} {t : TypeId} (h : Blk w g cs t) : w.rangeAt g 0 cs := h.range 0 _ (fun j v h => by rw [Nat.zero_add]; exact h)
theorem of_is (a : Bool) (w : World) : Calls Tryz.prog 140 #[.int .u8 (an a)] w fun e w' => e = .returned (.tuple #[.agg (hc a).toArray, .int .i64 0]) ∧ Below w.heap.size w w' := by
  have L := hid (ldH (range0 (Sh.Blk.new w (hc a) 184)) rfl)
  cases a
  · show Calls Tryz.prog 140 #[.int .u8 1] w _
    go_enter Tryz.func140, Tryz.ntmps140
    go_wp2
    refine bodyPost_ret ?_ rfl ⟨rfl, below_alloc w _⟩
    exact results_cell2 Tryz.results140 rfl rfl L.out
  · show Calls Tryz.prog 140 #[.int .u8 2] w _
    go_enter Tryz.func140, Tryz.ntmps140
    go_wp2
    refine bodyPost_ret ?_ rfl ⟨rfl, below_alloc w _⟩
    exact results_cell2 Tryz.results140 rfl rfl L.out
theorem of256 (w : World) : Calls Tryz.prog 140 #[.int .u8 1] w fun e w' => e = .returned (.tuple #[.agg #[.int .u8 1, .int .i64 32, .int .i64 64, .int .u8 1, .int .i64 64, .func (.func 188) #[] #[], .func (.func 189) #[] #[]], .int .i64 0]) ∧ Below w.heap.size w w' := of_is false w
theorem of512 (w : World) : Calls Tryz.prog 140 #[.int .u8 2] w fun e w' => e = .returned (.tuple #[.agg #[.int .u8 2, .int .i64 64, .int .i64 128, .int .u8 2, .int .i64 128, .func (.func 190) #[] #[], .func (.func 191) #[] #[]], .int .i64 0]) ∧ Below w.heap.size w w' := of_is true w
@[go_sem ↓ high] theorem fn_neqA (w : World) (f : Fn) (c d : Array Value) : (binOp .neq 181 (.func f c d) .nilFunc).run Tryz.prog w = .ok (.bool true) w := by kernel_rfl
@[go_sem ↓ high] theorem fn_eqlA (w : World) (f : Fn) (c d : Array Value) : (binOp .eql 181 (.func f c d) .nilFunc).run Tryz.prog w = .ok (.bool false) w := by kernel_rfl
@[go_sem ↓ high] theorem fn_eqlzA (w : World) : (binOp .eql 181 .nilFunc .nilFunc).run Tryz.prog w = .ok (.bool true) w := by kernel_rfl
@[go_sem ↓ high] theorem fn_neqB (w : World) (f : Fn) (c d : Array Value) : (binOp .neq 182 (.func f c d) .nilFunc).run Tryz.prog w = .ok (.bool true) w := by kernel_rfl
@[go_sem ↓ high] theorem fn_eqlB (w : World) (f : Fn) (c d : Array Value) : (binOp .eql 182 (.func f c d) .nilFunc).run Tryz.prog w = .ok (.bool false) w := by kernel_rfl
@[go_sem ↓ high] theorem fn_eqlzB (w : World) : (binOp .eql 182 .nilFunc .nilFunc).run Tryz.prog w = .ok (.bool true) w := by kernel_rfl
end Go.Proofs.YtpohogpkfdebdaaGreatDoor.Dg
namespace Go.Proofs.YtpohogpkfdebdaaGreatDoor.Dg
open Go.ChangeShapes Go.WideShapes Go.ChangeAt Go.RowKit
open Go.Proofs.YtpohogpkfdebdaaGreatDoor.By
open Go.Proofs.YtpohogpkfdebdaaGreatDoor.Sh (Blk size_alloc)
/-- What a state is: none, or one with a message. -/
abbrev SK := Option (Nat × (Nat → Int))
def IsD (W : World) (b : Nat) : Bool → SK → Prop
  | false, none => Sh.NoSt W b
  | false, some (m, f) => Sh.St W b m f
  | true, none => Sg.NoSt W b
  | true, some (m, f) => Sg.St W b m f
def tyS : Bool → TypeId | false => 282 | true => 286
def tyI : Bool → TypeId | false => 261 | true => 266
/-- The interface value that holds a state. -/
def iv (a : Bool) (b : Nat) : Value := .iface (tyI a) (.agg #[.pointer (some ⟨b, 0, none⟩)])
theorem IsD.blk {W : World} {b : Nat} {a : Bool} {k : SK} (h : IsD W b a k) : ∃ cs, Blk W b cs (tyS a) := by
  match a, k, h with
  | false, none, h => obtain ⟨cs, h, _⟩ := h; exact ⟨_, h⟩
  | false, some (m, f), h => exact ⟨_, (show Sh.St W b m f from h).here⟩
  | true, none, h => obtain ⟨cs, h, _⟩ := h; exact ⟨_, h⟩
  | true, some (m, f), h => exact ⟨_, (show Sg.St W b m f from h).here⟩
theorem IsD.kept {W W' : World} {b : Nat} {a : Bool} {k : SK} {S : Nat → Prop} (h : IsD W b a k) (hk : Kp S W W') (hn : ¬ S b) : IsD W' b a k := by
  match a, k, h with
  | false, none, h => obtain ⟨cs, h, hl⟩ := h; exact ⟨cs, h.kept hk hn, hl⟩
  | false, some (m, f), h => exact Sh.St.kept h hk hn
  | true, none, h => obtain ⟨cs, h, hl⟩ := h; exact ⟨cs, h.kept hk hn, hl⟩
  | true, some (m, f), h => exact Sg.St.kept h hk hn
theorem IsD.below {W W' : World} {b : Nat} {a : Bool} {k : SK} (h : IsD W b a k) (hb : Below W.heap.size W W') : IsD W' b a k := h.kept (Kp.of_below (fun _ => False) hb) id
/-- Both tables lie in their places. -/
structure KT (W : World) : Prop where
  h : Sh.KT W
  g : Sg.KT W
theorem KT.below {W W' : World} (h : KT W) (hb : Below W.heap.size W W') : KT W' := ⟨h.h.below hb, h.g.below hb⟩
theorem KT.kept {W W' : World} {S : Nat → Prop} (h : KT W) (hk : Kp S W W') (h0 : ¬ S 1) (h1 : ¬ S 3) : KT W' := ⟨h.h.kept hk h0, h.g.kept hk h1⟩
theorem KT.lt {W : World} (h : KT W) : 3 < W.heap.size := h.g.lt
/-- A ledger or none, by the blocks that it may turn. -/
abbrev LG := @Sg.LG
abbrev lpv := Sg.lpv
theorem lpvH (lo : Option Nat) : Sh.lpv lo = Sg.lpv lo := by cases lo <;> rfl
theorem lgH {S : Nat → Prop} {w0 w : World} {lo : Option Nat} {L : List Rn} : Sh.LG S w0 w lo L ↔ LG S w0 w lo L := by cases lo <;> exact Iff.rfl
/-- What is recorded of n blocks; how many blocks Sum works on; the digest; the form. -/
def evs : Bool → List Rn → Nat → List Rn | false => Sh.evs256 | true => Sg.evs512
def last : Bool → Nat → Nat | false => Sh.last | true => Sg.last
def dig : Bool → Nat → (Nat → Int) → Nat → Int | false => Sh.dig | true => Sg.dig
def formf : Bool → Nat → (Nat → Int) → Nat → Int | false => Sh.formf | true => Sg.formf
abbrev cat := Sg.cat
theorem catH (m : Nat) (f g : Nat → Int) : Sh.cat m f g = cat m f g := rfl
theorem len_tot {L : List Rn} (_ : Pos L) : (L.length : Int) ≤ tq L := tq_len L
theorem big_of {L : List Rn} (h : Pos L) (ht : tq L ≤ 5000000000000) : Sg.Big L := ⟨by have := tq_tot L; omega, by have := len_tot h; omega⟩
theorem wide_of {L : List Rn} (h : Pos L) (ht : tq L ≤ 5000000000000) : Sg.Wide L := ⟨by have := tq_tot L; omega, by have := len_tot h; omega⟩
def fWrite : Bool → FuncId | false => 334 | true => 340
def fSumS : Bool → FuncId | false => 238 | true => 241
def fWipe : Bool → FuncId | false => 333 | true => 339
def fForm : Bool → FuncId | false => 331 | true => 337
def fCopy : Bool → FuncId | false => 335 | true => 341
theorem dwrite (a : Bool) (b m n : Nat) (v : Value) (f g : Nat → Int) (lo : Option Nat) (L : List Rn) (S : Nat → Prop) (w : World) (hst : IsD w b a (some (m, f))) (hk : KT w) (hS0 : ¬ S 1) (hS1 : ¬ S 3) (hSb : S b) (hl : LG S w w lo L) (hp : Pos L)
    (hr : ∀ w', Kp S w w' → By.RB w' v n g) (hmn : m + n ≤ 140737488354328) (hroom : tq L + (n / 64 : Nat) ≤ 5000000000000) :
    Calls Tryz.prog (fWrite a) #[.pointer (some ⟨b, 0, none⟩), lpv lo, v] w fun e w' => e = .returned (.int .i64 0) ∧ IsD w' b a (some (m + n, cat m f g)) ∧ LG S w w' lo (evs a L ((m + n) / bk a - m / bk a)) ∧ Kp S w w' := by
  cases a
  · have := Sh.write26 b m n v f g lo L S w hst hk.h hS0 hSb (lgH.2 hl) hp hr hmn hroom
    rw [lpvH] at this
    refine this.mono ?_
    rintro e w' ⟨h1, h2, h3, h4⟩
    exact ⟨h1, h2, lgH.1 h3, h4⟩
  · exact Sg.write26 b m n v f g lo L S w hst hk.g hS1 hSb hl hp hr (by omega) (big_of hp (by omega))
theorem dsum (a : Bool) (b m : Nat) (f : Nat → Int) (lo : Option Nat) (L : List Rn) (S : Nat → Prop) (w : World) (h : IsD w b a (some (m, f))) (hk : KT w) (hS0 : ¬ S 1) (hS1 : ¬ S 3) (hl : LG S w w lo L) (hp : Pos L) (hm : m ≤ 140737488353328) (hroom : tq L ≤ 4400000000000) :
    Calls Tryz.prog (fSumS a) #[.pointer (some ⟨b, 0, none⟩), lpv lo] w fun e w' => ∃ v, e = .returned (.tuple #[v, .int .i64 0]) ∧ By.Own w' w.heap.size v (sz a) (dig a m f) ∧ LG S w w' lo (evs a L (last a m)) ∧ Kp S w w' := by
  cases a
  · have := Sh.sum32 b m f lo L S w h hk.h hS0 (lgH.2 hl) hp hm hroom
    rw [lpvH] at this
    refine this.mono ?_
    rintro e w' ⟨v, h1, h2, h3, h4⟩
    exact ⟨v, h1, h2, lgH.1 h3, h4⟩
  · exact Sg.sum32 b m f lo L S w h hk.g hS1 hl hp (by omega) (big_of hp (by omega))
theorem dwipe (a : Bool) (b m : Nat) (f : Nat → Int) (lo : Option Nat) (L : List Rn) (S : Nat → Prop) (w : World) (h : IsD w b a (some (m, f))) (hSb : S b) (hl : LG S w w lo L) (hp : Pos L) (hroom : tq L ≤ 4400000000000) :
    Calls Tryz.prog (fWipe a) #[.pointer (some ⟨b, 0, none⟩), lpv lo] w fun e w' => e = .returned (.int .i64 0) ∧ IsD w' b a none ∧ LG S w w' lo (putL L ⟨8, fmn a, 1⟩) ∧ Kp S w w' := by
  cases a
  · have := Sh.wipe29 b m f lo L S w h hSb (lgH.2 hl) hroom
    rw [lpvH] at this
    refine this.mono ?_
    rintro e w' ⟨h1, h2, h3, h4⟩
    exact ⟨h1, h2, lgH.1 h3, h4⟩
  · exact Sg.wipe29 b m f lo L S w h hSb hl (big_of hp (by omega)).room
theorem dform (a : Bool) (b m : Nat) (f : Nat → Int) (w : World) (h : IsD w b a (some (m, f))) :
    Calls Tryz.prog (fForm a) #[.pointer (some ⟨b, 0, none⟩)] w fun e w' => ∃ v, e = .returned v ∧ By.Own w' w.heap.size v (fmn a) (formf a m f) ∧ Below w.heap.size w w' := by
  cases a
  · exact Sh.form30 b m f w h
  · exact Sg.form30 b m f w h
theorem dsumF (a : Bool) (n : Nat) (v : Value) (g : Nat → Int) (lo : Option Nat) (L : List Rn) (S : Nat → Prop) (w : World) (hk : KT w) (hS0 : ¬ S 1) (hS1 : ¬ S 3) (hl : LG S w w lo L) (hp : Pos L)
    (hr : ∀ w', Kp S w w' → By.RB w' v n g) (hn : n ≤ 140737488353328) (hroom : tq L ≤ 2200000000000) :
    Calls Tryz.prog (fSum a) #[lpv lo, v] w fun e w' => ∃ u, e = .returned u ∧ By.Own w' w.heap.size u (sz a) (dig a n g) ∧ LG S w w' lo (evs a L (n / bk a + last a n)) ∧ Kp S w w' := by
  cases a
  · have := Sh.sum23 n v g lo L S w hk.h hS0 (lgH.2 hl) hp hr hn hroom
    rw [lpvH] at this
    refine this.mono ?_
    rintro e w' ⟨v, h1, h2, h3, h4⟩
    exact ⟨v, h1, h2, lgH.1 h3, h4⟩
  · exact Sg.sum23 n v g lo L S w hk.g hS1 hl hp hr (by omega) (wide_of hp (by omega))
theorem dnew (a : Bool) (w : World) : Calls Tryz.prog (fNew a) #[] w fun e w' => ∃ b, w.heap.size ≤ b ∧ e = .returned (iv a b) ∧ IsD w' b a (some (0, fun _ => 0)) ∧ Below w.heap.size w w' := by
  cases a
  · show Calls Tryz.prog 188 #[] w _
    go_enter Tryz.func188, Tryz.ntmps188
    go_wp2_with (go_at_call 236; refine (Sh.new12 _).mono ?_; rintro e w' ⟨rfl, h1, h2⟩)
    go_ret
    exact ⟨_, Nat.le_refl _, rfl, h1, h2⟩
  · show Calls Tryz.prog 190 #[] w _
    go_enter Tryz.func190, Tryz.ntmps190
    go_wp2_with (go_at_call 239; refine (Sg.new12 _).mono ?_; rintro e w' ⟨rfl, h1, h2⟩)
    go_ret
    exact ⟨_, Nat.le_refl _, rfl, h1, h2⟩
theorem dcopy256 (b m : Nat) (f : Nat → Int) (w : World) (h : IsD w b false (some (m, f))) : Calls Tryz.prog 335 #[.agg #[.pointer (some ⟨b, 0, none⟩)]] w fun e w' => ∃ c, w.heap.size ≤ c ∧ e = .returned (iv false c) ∧ IsD w' c false (some (m, f)) ∧ Below w.heap.size w w' := by
  have HS := hid (show Sh.St (w.alloc (.cells #[Value.pointer (some ⟨b, 0, none⟩)] 261)) b m f from Sh.St.below h (below_alloc _ _))
  clear h
  go_enter Tryz.func335, Tryz.ntmps335
  go_wp2_with (go_at_call 336; refine (Sh.clone28 _ m f _ HS.out).mono ?_; rintro e w' ⟨rfl, h1, h2⟩)
  go_ret
  rw [size_alloc] at h1
  exact ⟨_, Nat.le_succ _, rfl, h1, below_next (below_alloc w _) h2⟩
theorem dcopy512 (b m : Nat) (f : Nat → Int) (w : World) (h : IsD w b true (some (m, f))) : Calls Tryz.prog 341 #[.agg #[.pointer (some ⟨b, 0, none⟩)]] w fun e w' => ∃ c, w.heap.size ≤ c ∧ e = .returned (iv true c) ∧ IsD w' c true (some (m, f)) ∧ Below w.heap.size w w' := by
  have HS := hid (show Sg.St (w.alloc (.cells #[Value.pointer (some ⟨b, 0, none⟩)] 266)) b m f from Sg.St.below h (below_alloc _ _))
  clear h
  go_enter Tryz.func341, Tryz.ntmps341
  go_wp2_with (go_at_call 342; refine (Sg.clone28 _ m f _ HS.out).mono ?_; rintro e w' ⟨rfl, h1, h2⟩)
  go_ret
  rw [size_alloc] at h1
  exact ⟨_, Nat.le_succ _, rfl, h1, below_next (below_alloc w _) h2⟩
theorem dcopy (a : Bool) (b m : Nat) (f : Nat → Int) (w : World) (h : IsD w b a (some (m, f))) : Calls Tryz.prog (fCopy a) #[.agg #[.pointer (some ⟨b, 0, none⟩)]] w fun e w' => ∃ c, w.heap.size ≤ c ∧ e = .returned (iv a c) ∧ IsD w' c a (some (m, f)) ∧ Below w.heap.size w w' := by
  cases a
  · exact dcopy256 b m f w h
  · exact dcopy512 b m f w h
end Go.Proofs.YtpohogpkfdebdaaGreatDoor.Dg
namespace Go.Proofs.YtpohogpkfdebdaaGreatDoor.Dg
open Go.ChangeShapes Go.WideShapes Go.ChangeAt Go.RowKit
open Go.Proofs.YtpohogpkfdebdaaGreatDoor.By
abbrev BB (f : Nat → Int) : Prop := ∀ i, 0 ≤ f i ∧ f i < 256
def bx (a b : Int) : Int := bits .xor .u8 a b
theorem bx_b (a b : Int) : 0 ≤ bx a b ∧ bx a b < 256 := by
  unfold bx bits
  split <;> rw [IntKind.wrap_u8] <;> omega
theorem dig_b (a : Bool) (n : Nat) (f : Nat → Int) : BB (dig a n f) := by
  intro i
  cases a
  · exact Sh.lf_bound _ i
  · exact Sg.lf_bound _ i
theorem dig_congr (a : Bool) (m : Nat) (f g : Nat → Int) (h : ∀ i, i < m → f i = g i) : dig a m f = dig a m g := by
  cases a
  · exact Sh.dig_congr m f g h
  · exact Sg.dig_congr m f g h
/-- The block key of a key of n bytes. -/
def kb (a : Bool) (n : Nat) (key : Nat → Int) (i : Nat) : Int :=
  if bk a < n then (if i < sz a then dig a n key i else 0) else (if i < n then key i else 0)
theorem kb_b {a : Bool} {n : Nat} {key : Nat → Int} (h : BB key) : BB (kb a n key) := by
  intro i
  unfold kb
  split <;> split
  · exact dig_b a n key i
  · decide
  · exact h i
  · decide
/-- Each byte xored. -/
def msk (x : Int) (k : Nat → Int) (i : Nat) : Int := bx (k i) x
theorem msk_b (x : Int) (k : Nat → Int) : BB (msk x k) := fun _ => bx_b _ _
/-- The inner key and the message; the tag; the form. -/
def inr (a : Bool) (K f : Nat → Int) : Nat → Int := cat (bk a) (msk 54 K) f
theorem inr_b {a : Bool} {K f : Nat → Int} (h : BB f) : BB (inr a K f) := fun i => Sg.cat_bound (msk_b _ _) h i
def hm (a : Bool) (K : Nat → Int) (m : Nat) (f : Nat → Int) : Nat → Int :=
  dig a (bk a + sz a) (cat (bk a) (msk 92 K) (dig a (bk a + m) (inr a K f)))
theorem hm_b (a : Bool) (K : Nat → Int) (m : Nat) (f : Nat → Int) : BB (hm a K m f) := dig_b _ _ _
theorem inr_congr (a : Bool) (K f g : Nat → Int) (m : Nat) (h : ∀ i, i < m → f i = g i) (i : Nat) (hi : i < bk a + m) : inr a K f i = inr a K g i := by
  show (if i < bk a then _ else _) = (if i < bk a then _ else _)
  split
  · rfl
  · exact h _ (by omega)
theorem hm_congr (a : Bool) (K : Nat → Int) (m : Nat) (f g : Nat → Int) (h : ∀ i, i < m → f i = g i) : hm a K m f = hm a K m g := by
  unfold hm
  rw [dig_congr a (bk a + m) _ _ (fun i hi => inr_congr a K f g m h i hi)]
def mfm (a : Bool) (K : Nat → Int) (m : Nat) (f : Nat → Int) : Nat → Int :=
  cat (fmn a + fmn a) (cat (fmn a) (formf a (bk a + m) (inr a K f)) (formf a (bk a) (msk 92 K))) (formf a (bk a) (msk 54 K))
/-- What New records of a key of n bytes; what Sum records behind m bytes. -/
def ke (a : Bool) (L : List Rn) (n : Nat) : List Rn := if bk a < n then evs a L (n / bk a + last a n) else L
def kev (a : Bool) (L : List Rn) (n : Nat) : List Rn := evs a (ke a L n) 2
def sev (a : Bool) (L : List Rn) (m : Nat) : List Rn := evs a L (last a m + 1)
theorem evs_add (a : Bool) (L : List Rn) (p q : Nat) : evs a (evs a L p) q = evs a L (p + q) := by
  induction q with
  | zero => cases a <;> rfl
  | succ q ih =>
    cases a
    · show Sh.evs256 (Sh.evs256 L p) (q + 1) = Sh.evs256 L (p + q + 1)
      have ih' : Sh.evs256 (Sh.evs256 L p) q = Sh.evs256 L (p + q) := ih
      simp only [Sh.evs256]
      rw [ih']
    · show Sg.evs512 (Sg.evs512 L p) (q + 1) = Sg.evs512 L (p + q + 1)
      have ih' : Sg.evs512 (Sg.evs512 L p) q = Sg.evs512 L (p + q) := ih
      simp only [Sg.evs512]
      rw [ih']
theorem evs_zero (a : Bool) (L : List Rn) : evs a L 0 = L := by cases a <;> rfl
theorem last_bk (a : Bool) (m : Nat) : last a (bk a + m) = last a m := by
  cases a
  · show Sh.last (64 + m) = Sh.last m
    unfold Sh.last Sh.zs; omega
  · show Sg.last (128 + m) = Sg.last m
    unfold Sg.last Sg.zs; omega
theorem last_sz (a : Bool) : last a (bk a + sz a) = 1 := by cases a <;> rfl
theorem last_le (a : Bool) (m : Nat) : last a m ≤ 2 ∧ 1 ≤ last a m := by
  cases a
  · show Sh.last m ≤ 2 ∧ 1 ≤ Sh.last m
    unfold Sh.last Sh.zs; omega
  · show Sg.last m ≤ 2 ∧ 1 ≤ Sg.last m
    unfold Sg.last Sg.zs; omega
end Go.Proofs.YtpohogpkfdebdaaGreatDoor.Dg
namespace Go.Proofs.YtpohogpkfdebdaaGreatDoor.Dg
open Go.ChangeShapes Go.WideShapes Go.ChangeAt Go.RowKit
@[go_sem ↓ high] theorem mWrite256 (b : Nat) (w : World) : (method 428 261 (.agg #[.pointer (some ⟨b, 0, none⟩)]) "Write").run Tryz.prog w = .ok (334, .pointer (some ⟨b, 0, none⟩)) w := by kernel_rfl
@[go_sem ↓ high] theorem mSum256 (b : Nat) (w : World) : (method 428 261 (.agg #[.pointer (some ⟨b, 0, none⟩)]) "Sum").run Tryz.prog w = .ok (238, .pointer (some ⟨b, 0, none⟩)) w := by kernel_rfl
@[go_sem ↓ high] theorem mWipe256 (b : Nat) (w : World) : (method 428 261 (.agg #[.pointer (some ⟨b, 0, none⟩)]) "Wipe").run Tryz.prog w = .ok (333, .pointer (some ⟨b, 0, none⟩)) w := by kernel_rfl
@[go_sem ↓ high] theorem mForm256 (b : Nat) (w : World) : (method 428 261 (.agg #[.pointer (some ⟨b, 0, none⟩)]) "Form").run Tryz.prog w = .ok (331, .pointer (some ⟨b, 0, none⟩)) w := by kernel_rfl
@[go_sem ↓ high] theorem mCopy256 (b : Nat) (w : World) : (method 428 261 (.agg #[.pointer (some ⟨b, 0, none⟩)]) "Copy").run Tryz.prog w = .ok (335, .agg #[.pointer (some ⟨b, 0, none⟩)]) w := by kernel_rfl
@[go_sem ↓ high] theorem mWrite512 (b : Nat) (w : World) : (method 428 266 (.agg #[.pointer (some ⟨b, 0, none⟩)]) "Write").run Tryz.prog w = .ok (340, .pointer (some ⟨b, 0, none⟩)) w := by kernel_rfl
@[go_sem ↓ high] theorem mSum512 (b : Nat) (w : World) : (method 428 266 (.agg #[.pointer (some ⟨b, 0, none⟩)]) "Sum").run Tryz.prog w = .ok (241, .pointer (some ⟨b, 0, none⟩)) w := by kernel_rfl
@[go_sem ↓ high] theorem mWipe512 (b : Nat) (w : World) : (method 428 266 (.agg #[.pointer (some ⟨b, 0, none⟩)]) "Wipe").run Tryz.prog w = .ok (339, .pointer (some ⟨b, 0, none⟩)) w := by kernel_rfl
@[go_sem ↓ high] theorem mForm512 (b : Nat) (w : World) : (method 428 266 (.agg #[.pointer (some ⟨b, 0, none⟩)]) "Form").run Tryz.prog w = .ok (337, .pointer (some ⟨b, 0, none⟩)) w := by kernel_rfl
@[go_sem ↓ high] theorem mCopy512 (b : Nat) (w : World) : (method 428 266 (.agg #[.pointer (some ⟨b, 0, none⟩)]) "Copy").run Tryz.prog w = .ok (341, .agg #[.pointer (some ⟨b, 0, none⟩)]) w := by kernel_rfl
end Go.Proofs.YtpohogpkfdebdaaGreatDoor.Dg
namespace Go.Proofs.YtpohogpkfdebdaaGreatDoor.Dg
open Go.ChangeShapes Go.WideShapes Go.ChangeAt Go.RowKit
@[go_sem ↓ high] theorem nWrite256 (b : Nat) (w : World) : (nilAhead 428 261 (.agg #[.pointer (some ⟨b, 0, none⟩)]) "Write").run Tryz.prog w = .ok (some false) w := by kernel_rfl
@[go_sem ↓ high] theorem nSum256 (b : Nat) (w : World) : (nilAhead 428 261 (.agg #[.pointer (some ⟨b, 0, none⟩)]) "Sum").run Tryz.prog w = .ok (some false) w := by kernel_rfl
@[go_sem ↓ high] theorem nWipe256 (b : Nat) (w : World) : (nilAhead 428 261 (.agg #[.pointer (some ⟨b, 0, none⟩)]) "Wipe").run Tryz.prog w = .ok (some false) w := by kernel_rfl
@[go_sem ↓ high] theorem nForm256 (b : Nat) (w : World) : (nilAhead 428 261 (.agg #[.pointer (some ⟨b, 0, none⟩)]) "Form").run Tryz.prog w = .ok (some false) w := by kernel_rfl
@[go_sem ↓ high] theorem nCopy256 (b : Nat) (w : World) : (nilAhead 428 261 (.agg #[.pointer (some ⟨b, 0, none⟩)]) "Copy").run Tryz.prog w = .ok (some false) w := by kernel_rfl
@[go_sem ↓ high] theorem nWrite512 (b : Nat) (w : World) : (nilAhead 428 266 (.agg #[.pointer (some ⟨b, 0, none⟩)]) "Write").run Tryz.prog w = .ok (some false) w := by kernel_rfl
@[go_sem ↓ high] theorem nSum512 (b : Nat) (w : World) : (nilAhead 428 266 (.agg #[.pointer (some ⟨b, 0, none⟩)]) "Sum").run Tryz.prog w = .ok (some false) w := by kernel_rfl
@[go_sem ↓ high] theorem nWipe512 (b : Nat) (w : World) : (nilAhead 428 266 (.agg #[.pointer (some ⟨b, 0, none⟩)]) "Wipe").run Tryz.prog w = .ok (some false) w := by kernel_rfl
@[go_sem ↓ high] theorem nForm512 (b : Nat) (w : World) : (nilAhead 428 266 (.agg #[.pointer (some ⟨b, 0, none⟩)]) "Form").run Tryz.prog w = .ok (some false) w := by kernel_rfl
@[go_sem ↓ high] theorem nCopy512 (b : Nat) (w : World) : (nilAhead 428 266 (.agg #[.pointer (some ⟨b, 0, none⟩)]) "Copy").run Tryz.prog w = .ok (some false) w := by kernel_rfl
end Go.Proofs.YtpohogpkfdebdaaGreatDoor.Dg
namespace Go.Proofs.YtpohogpkfdebdaaGreatDoor.Dg
open Go.ChangeShapes Go.WideShapes Go.ChangeAt Go.RowKit
open Go.Proofs.YtpohogpkfdebdaaGreatDoor.By
open Go.Proofs.YtpohogpkfdebdaaGreatDoor.Sh (Blk size_alloc)
/-- What a mac is: its algorithm, block key and message, and the blocks of its three states. -/
structure MB where
  a : Bool
  K : Nat → Int
  m : Nat
  f : Nat → Int
  b0 : Nat
  b1 : Nat
  b2 : Nat
def nm4 : List Value := [.int .i64 0, .nilIface, .nilIface, .nilIface]
def mc4 (x : MB) : List Value := [.int .i64 (sz x.a), iv x.a x.b0, iv x.a x.b1, iv x.a x.b2]
structure IsMk (W : World) (b : Nat) (x : MB) : Prop where
  here : Blk W b (mc4 x) 192
  s0 : IsD W x.b0 x.a (some (bk x.a + x.m, inr x.a x.K x.f))
  s1 : IsD W x.b1 x.a (some (bk x.a, msk 92 x.K))
  s2 : IsD W x.b2 x.a (some (bk x.a, msk 54 x.K))
  n01 : x.b0 ≠ x.b1
  n02 : x.b0 ≠ x.b2
  n12 : x.b1 ≠ x.b2
  fb : BB x.f
def IsM (W : World) (b : Nat) : Option MB → Prop
  | none => Blk W b nm4 192
  | some x => IsMk W b x
abbrev EM := Nat × Option MB
/-- A mac's blocks. -/
def FM (p : EM) (j : Nat) : Prop := j = p.1 ∨ ∃ x, p.2 = some x ∧ (j = x.b0 ∨ j = x.b1 ∨ j = x.b2)
/-- A kind of block that no mac and no ledger has. -/
abbrev Oth (t : TypeId) : Prop := t ≠ 192 ∧ t ≠ 282 ∧ t ≠ 286 ∧ t ≠ 78 ∧ t ≠ 89 ∧ t ≠ 91
abbrev Mty (t : TypeId) : Prop := t = 192 ∨ t = 282 ∨ t = 286
theorem tyS_m (a : Bool) : Mty (tyS a) := by cases a; exact .inr (.inl rfl); exact .inr (.inr rfl)
theorem IsM.kind {W : World} {p : EM} (h : IsM W p.1 p.2) {j : Nat} (hj : FM p j) : ∃ cs t, Blk W j cs t ∧ Mty t := by
  obtain ⟨b, k⟩ := p
  match k, h with
  | none, h =>
    rcases hj with e | ⟨x, e, _⟩
    · rw [e]; exact ⟨_, _, h, .inl rfl⟩
    · cases e
  | some x, h =>
    have h' : IsMk W b x := h
    rcases hj with e | ⟨y, e, hy⟩
    · rw [e]; exact ⟨_, _, h'.here, .inl rfl⟩
    · cases e
      rcases hy with rfl | rfl | rfl
      · obtain ⟨cs, hc⟩ := h'.s0.blk; exact ⟨cs, _, hc, tyS_m _⟩
      · obtain ⟨cs, hc⟩ := h'.s1.blk; exact ⟨cs, _, hc, tyS_m _⟩
      · obtain ⟨cs, hc⟩ := h'.s2.blk; exact ⟨cs, _, hc, tyS_m _⟩
theorem IsMk.kept {W W' : World} {b : Nat} {x : MB} {S : Nat → Prop} (h : IsMk W b x) (hk : Kp S W W') (h1 : ¬ S b) (h2 : ¬ S x.b0) (h3 : ¬ S x.b1) (h4 : ¬ S x.b2) : IsMk W' b x :=
  ⟨h.here.kept hk h1, h.s0.kept hk h2, h.s1.kept hk h3, h.s2.kept hk h4, h.n01, h.n02, h.n12, h.fb⟩
theorem IsM.kept {W W' : World} {p : EM} {S : Nat → Prop} (h : IsM W p.1 p.2) (hk : Kp S W W') (hn : ∀ j, FM p j → ¬ S j) : IsM W' p.1 p.2 := by
  obtain ⟨b, k⟩ := p
  match k, h with
  | none, h => exact Blk.kept (show Blk W b nm4 _ from h) hk (hn b (.inl rfl))
  | some x, h => exact IsMk.kept (show IsMk W b x from h) hk (hn _ (.inl rfl)) (hn _ (.inr ⟨x, rfl, .inl rfl⟩)) (hn _ (.inr ⟨x, rfl, .inr (.inl rfl)⟩)) (hn _ (.inr ⟨x, rfl, .inr (.inr rfl)⟩))
theorem IsMk.below {W W' : World} {b : Nat} {x : MB} (h : IsMk W b x) (hb : Below W.heap.size W W') : IsMk W' b x := h.kept (Kp.of_below (fun _ => False) hb) id id id id
theorem IsM.below {W W' : World} {p : EM} (h : IsM W p.1 p.2) (hb : Below W.heap.size W W') : IsM W' p.1 p.2 := h.kept (Kp.of_below (fun _ => False) hb) (fun _ _ => id)
theorem IsM.lt {W : World} {p : EM} (h : IsM W p.1 p.2) {j : Nat} (hj : FM p j) : j < W.heap.size := by
  obtain ⟨cs, t, hb, _⟩ := h.kind hj; exact hb.lt
theorem IsMk.ne {W : World} {b : Nat} {x : MB} (h : IsMk W b x) : b ≠ x.b0 ∧ b ≠ x.b1 ∧ b ≠ x.b2 := by
  have t : ∀ a, 192 ≠ tyS a := fun a => by cases a <;> decide
  obtain ⟨c0, h0⟩ := h.s0.blk
  obtain ⟨c1, h1⟩ := h.s1.blk
  obtain ⟨c2, h2⟩ := h.s2.blk
  exact ⟨Blk.ne h.here h0 (t _), Blk.ne h.here h1 (t _), Blk.ne h.here h2 (t _)⟩
/-- A ledger: the program's or the document's, its block, its runs' slice, its runs. -/
structure LE where
  own : Bool
  blk : Nat
  rv : Value
  runs : List Rn
def tl (b : Bool) : TypeId := match b with | true => 89 | false => 91
def IsLed (W : World) (q : LE) : Prop := match q.own with | true => Led W q.blk q.rv q.runs | false => RLed W q.blk q.rv q.runs
theorem IsLed.blk {W : World} {q : LE} (h : IsLed W q) : ∃ cs, Blk W q.blk cs (tl q.own) := by
  obtain ⟨o, b, rv, L⟩ := q
  cases o with
  | true => exact ⟨_, (show Led W b rv L from h).here⟩
  | false => exact ⟨_, (show RLed W b rv L from h).here⟩
theorem IsLed.run {W : World} {q : LE} (h : IsLed W q) {g : Nat} (hg : q.rv.ownBlock = some g) : ∃ cs, Blk W g cs 78 := by
  obtain ⟨o, b, rv, L⟩ := q
  have key : ∀ x, Own W 0 rv x → ∃ cs, Blk W g cs 78 := fun x hx => by
    obtain ⟨c, hc⟩ := Sg.own_type hx hg
    exact ⟨c.toList, by show W.heap[g]? = _; rw [hc]⟩
  cases o with
  | true => exact key _ (show Led W b rv L from h).own
  | false => exact key _ (show RLed W b rv L from h).own
theorem IsLed.kept {W W' : World} {q : LE} {S : Nat → Prop} (h : IsLed W q) (hk : Kp S W W') (h1 : ¬ S q.blk) (h2 : ∀ g, q.rv.ownBlock = some g → ¬ S g) : IsLed W' q := by
  obtain ⟨o, b, rv, L⟩ := q
  cases o with
  | true => exact (show Led W b rv L from h).kept hk h1 h2
  | false => exact (show RLed W b rv L from h).kept hk h1 h2
abbrev Lty (t : TypeId) : Prop := t = 78 ∨ t = 89 ∨ t = 91
theorem tl_l (o : Bool) : Lty (tl o) := by cases o; exact .inr (.inr rfl); exact .inr (.inl rfl)
theorem ml_ne {s t : TypeId} (h : Mty s) (h' : Lty t) : s ≠ t := by
  rcases h with rfl | rfl | rfl <;> rcases h' with rfl | rfl | rfl <;> decide
theorem oth_m {s t : TypeId} (h : Oth s) (h' : Mty t) : s ≠ t := by
  rcases h' with rfl | rfl | rfl
  · exact h.1
  · exact h.2.1
  · exact h.2.2.1
theorem oth_l {s t : TypeId} (h : Oth s) (h' : Lty t) : s ≠ t := by
  rcases h' with rfl | rfl | rfl
  · exact h.2.2.2.1
  · exact h.2.2.2.2.1
  · exact h.2.2.2.2.2
/-- A ledger's blocks. -/
def SE (e : LE) (j : Nat) : Prop := j = e.blk ∨ e.rv.ownBlock = some j
theorem IsLed.kind {W : World} {q : LE} (h : IsLed W q) {j : Nat} (hj : SE q j) : ∃ cs t, Blk W j cs t ∧ Lty t := by
  rcases hj with e | e
  · obtain ⟨c, hc⟩ := h.blk; rw [e]; exact ⟨c, _, hc, tl_l _⟩
  · obtain ⟨c, hc⟩ := h.run e; exact ⟨c, _, hc, .inl rfl⟩
theorem IsLed.lt {W : World} {q : LE} (h : IsLed W q) {j : Nat} (hj : SE q j) : j < W.heap.size := by
  obtain ⟨cs, t, hb, _⟩ := h.kind hj; exact hb.lt
theorem IsLed.kept' {W W' : World} {q : LE} {S : Nat → Prop} (h : IsLed W q) (hk : Kp S W W') (hn : ∀ j, SE q j → ¬ S j) : IsLed W' q := h.kept hk (hn _ (.inl rfl)) (fun g hg => hn g (.inr hg))
structure GM (w0 : World) (B : Nat) (sts : List EM) (leds : List LE) (W : World) : Prop where
  st : ∀ p ∈ sts, IsM W p.1 p.2 ∧ ∀ j, FM p j → B ≤ j
  stn : sts.Pairwise (fun p q => ∀ j, FM p j → ¬ FM q j)
  led : ∀ q ∈ leds, IsLed W q ∧ ∀ j, SE q j → B ≤ j
  ledn : leds.Pairwise (fun p q => ∀ j, SE p j → ¬ SE q j)
  bel : Below B w0 W
  kt : KT W
  h1 : 3 < B
  hB : B ≤ W.heap.size
/-- Blocks of other kinds stay. -/
def Ko (W W' : World) : Prop := ∀ g cs t, Blk W g cs t → Oth t → Blk W' g cs t
section
variable {w0 W W' : World} {B : Nat} {sts s1 s2 : List EM} {leds l1 l2 : List LE} {p p' : EM} {e e' : LE}
theorem GM.below (h : GM w0 B sts leds W) (hb : Below W.heap.size W W') : GM w0 B sts leds W' := by
  have hk := Kp.of_below (fun _ => False) hb
  exact ⟨fun p hp => ⟨(h.st p hp).1.kept hk (fun _ _ => id), (h.st p hp).2⟩, h.stn, fun q hq => ⟨(h.led q hq).1.kept' hk (fun _ _ => id), (h.led q hq).2⟩, h.ledn, h.bel.trans (hb.mono h.hB), h.kt.below hb, h.h1, Nat.le_trans h.hB hb.size⟩
theorem Ko.below (hb : Below W.heap.size W W') : Ko W W' := fun _ _ _ h _ => h.below hb
theorem Ko.trans {W2 : World} (h : Ko W W') (h' : Ko W' W2) : Ko W W2 := fun g cs t hg ht => h' g cs t (h g cs t hg ht) ht
theorem mid_ne {α : Type} {R : α → α → Prop} {l1 l2 : List α} {x : α} (h : (l1 ++ x :: l2).Pairwise R) (hs : ∀ a b, R a b → R b a) (q : α) (hq : q ∈ l1 ∨ q ∈ l2) : R q x := by
  have h1 := List.pairwise_append.1 h
  rcases hq with hq | hq
  · exact h1.2.2 q hq x (by simp)
  · exact hs _ _ ((List.pairwise_cons.1 h1.2.1).1 q hq)
theorem mid_new {α : Type} {R : α → α → Prop} {l1 l2 : List α} {x y : α} (h : (l1 ++ x :: l2).Pairwise R) (hs : ∀ a b, R a b → R b a) (hy : ∀ q, q ∈ l1 ∨ q ∈ l2 → R q y) : (l1 ++ y :: l2).Pairwise R := by
  have h1 := List.pairwise_append.1 h
  have h2 := List.pairwise_cons.1 h1.2.1
  refine List.pairwise_append.2 ⟨h1.1, List.pairwise_cons.2 ⟨fun a ha => hs _ _ (hy a (.inr ha)), h2.2⟩, fun a ha c hc => ?_⟩
  rcases List.mem_cons.1 hc with rfl | hc
  · exact hy a (.inl ha)
  · exact h1.2.2 a ha c (by simp [hc])
theorem fm_symm (a b : EM) (h : ∀ j, FM a j → ¬ FM b j) : ∀ j, FM b j → ¬ FM a j := fun j hb ha => h j ha hb
theorem se_symm (a b : LE) (h : ∀ j, SE a j → ¬ SE b j) : ∀ j, SE b j → ¬ SE a j := fun j hb ha => h j ha hb
/-- One mac and one ledger are turned. -/
theorem GM.turn (h : GM w0 B (s1 ++ p :: s2) (l1 ++ e :: l2) W) {S : Nat → Prop} (hk : Kp S W W') (hS : ∀ j, S j → j < W.heap.size → FM p j ∨ SE e j) (hp : IsM W' p'.1 p'.2) (hpf : ∀ j, FM p' j → FM p j ∨ W.heap.size ≤ j) (hn : IsLed W' e') (hr : ∀ j, SE e' j → SE e j ∨ W.heap.size ≤ j) :
    GM w0 B (s1 ++ p' :: s2) (l1 ++ e' :: l2) W' ∧ Ko W W' := by
  obtain ⟨hpw, hpB⟩ := h.st p (by simp)
  obtain ⟨hew, heB⟩ := h.led e (by simp)
  have nS : ∀ j cs t, Blk W j cs t → ¬ FM p j → ¬ SE e j → ¬ S j := fun j cs t hb h1 h2 hs => (hS j hs hb.lt).elim h1 h2
  have ms : ∀ q, q ∈ s1 ∨ q ∈ s2 → ∀ j, FM q j → ¬ S j := fun q hq j hj => by
    have hq1 := (h.st q (by rcases hq with hq | hq <;> simp [hq])).1
    obtain ⟨cs, t, hb, ht⟩ := hq1.kind hj
    refine nS j cs t hb (mid_ne h.stn fm_symm q hq j hj) (fun he => ?_)
    obtain ⟨c', t', hb', ht'⟩ := hew.kind he
    exact Blk.ne hb hb' (ml_ne ht ht') rfl
  have ls : ∀ q, q ∈ l1 ∨ q ∈ l2 → ∀ j, SE q j → ¬ S j := fun q hq j hj => by
    have hq1 := (h.led q (by rcases hq with hq | hq <;> simp [hq])).1
    obtain ⟨cs, t, hb, ht⟩ := hq1.kind hj
    refine nS j cs t hb (fun he => ?_) (mid_ne h.ledn se_symm q hq j hj)
    obtain ⟨c', t', hb', ht'⟩ := hpw.kind he
    exact Blk.ne hb' hb (ml_ne ht' ht) rfl
  have hSB : ∀ j, j < W.heap.size → S j → B ≤ j := fun j hj hs => (hS j hs hj).elim (hpB j) (heB j)
  have hlt := h.kt.lt
  have h1 := h.h1
  refine ⟨⟨fun q hq => ?_, mid_new h.stn fm_symm (fun q hq j hj hf => ?_), fun q hq => ?_, mid_new h.ledn se_symm (fun q hq j hj hf => ?_), h.bel.trans (hk.below h.hB (fun j hj hs => by have := h.hB; have := hSB j (by omega) hs; omega)), h.kt.kept hk (fun hs => by have := hSB 1 (by omega) hs; omega) (fun hs => by have := hSB 3 (by omega) hs; omega), h.h1, Nat.le_trans h.hB hk.size⟩, fun g cs t hg ht => hg.kept hk (nS g cs t hg (fun hf => ?_) (fun hf => ?_))⟩
  · have old : ∀ q, q ∈ s1 ∨ q ∈ s2 → IsM W' q.1 q.2 ∧ ∀ j, FM q j → B ≤ j := fun q hq => by
      have h1 := h.st q (by rcases hq with hq | hq <;> simp [hq])
      exact ⟨h1.1.kept hk (ms q hq), h1.2⟩
    rcases List.mem_append.1 hq with hq | hq
    · exact old q (.inl hq)
    · rcases List.mem_cons.1 hq with rfl | hq
      · exact ⟨hp, fun j hj => (hpf j hj).elim (hpB j) (fun h' => by have := h.hB; omega)⟩
      · exact old q (.inr hq)
  · have hq1 := (h.st q (by rcases hq with hq | hq <;> simp [hq])).1
    rcases hpf j hf with h' | h'
    · exact mid_ne h.stn fm_symm q hq j hj h'
    · have := hq1.lt hj; omega
  · have old : ∀ q, q ∈ l1 ∨ q ∈ l2 → IsLed W' q ∧ ∀ j, SE q j → B ≤ j := fun q hq => by
      have h1 := h.led q (by rcases hq with hq | hq <;> simp [hq])
      exact ⟨h1.1.kept' hk (ls q hq), h1.2⟩
    rcases List.mem_append.1 hq with hq | hq
    · exact old q (.inl hq)
    · rcases List.mem_cons.1 hq with rfl | hq
      · exact ⟨hn, fun j hj => (hr j hj).elim (heB j) (fun h' => by have := h.hB; omega)⟩
      · exact old q (.inr hq)
  · have hq1 := (h.led q (by rcases hq with hq | hq <;> simp [hq])).1
    rcases hr j hf with h' | h'
    · exact mid_ne h.ledn se_symm q hq j hj h'
    · have := hq1.lt hj; omega
  · obtain ⟨c', t', hb', ht'⟩ := hpw.kind hf
    exact Blk.ne hg hb' (oth_m ht ht') rfl
  · obtain ⟨c', t', hb', ht'⟩ := hew.kind hf
    exact Blk.ne hg hb' (oth_l ht ht') rfl
/-- One ledger is turned, blocks of other kinds, and no mac. -/
theorem GM.turnL (h : GM w0 B sts (l1 ++ e :: l2) W) {S : Nat → Prop} (hk : Kp S W W') (hS : ∀ j, S j → j < W.heap.size → SE e j ∨ (B ≤ j ∧ ∃ cs t, Blk W j cs t ∧ Oth t)) (hn : IsLed W' e') (hr : ∀ j, SE e' j → SE e j ∨ W.heap.size ≤ j) :
    GM w0 B sts (l1 ++ e' :: l2) W' := by
  obtain ⟨hew, heB⟩ := h.led e (by simp)
  have hSB : ∀ j, j < W.heap.size → S j → B ≤ j := fun j hj hs => (hS j hs hj).elim (heB j) (fun h' => h'.1)
  have hlt := h.kt.lt
  have h1 := h.h1
  refine ⟨fun q hq => ⟨(h.st q hq).1.kept hk (fun j hj hs => ?_), (h.st q hq).2⟩, h.stn, fun q hq => ?_, mid_new h.ledn se_symm (fun q hq j hj hf => ?_), h.bel.trans (hk.below h.hB (fun j hj hs => by have := h.hB; have := hSB j (by omega) hs; omega)), h.kt.kept hk (fun hs => by have := hSB 1 (by omega) hs; omega) (fun hs => by have := hSB 3 (by omega) hs; omega), h.h1, Nat.le_trans h.hB hk.size⟩
  · obtain ⟨cs, t, hb, ht⟩ := (h.st q hq).1.kind hj
    rcases hS j hs hb.lt with he | ⟨_, c', t', hb', ht'⟩
    · obtain ⟨c', t', hb', ht'⟩ := hew.kind he
      exact Blk.ne hb hb' (ml_ne ht ht') rfl
    · exact Blk.ne hb' hb (oth_m ht' ht) rfl
  · have old : ∀ q, q ∈ l1 ∨ q ∈ l2 → IsLed W' q ∧ ∀ j, SE q j → B ≤ j := fun q hq => by
      have h1 := h.led q (by rcases hq with hq | hq <;> simp [hq])
      refine ⟨h1.1.kept' hk (fun j hj hs => ?_), h1.2⟩
      obtain ⟨cs, t, hb, ht⟩ := h1.1.kind hj
      rcases hS j hs hb.lt with he | ⟨_, c', t', hb', ht'⟩
      · exact mid_ne h.ledn se_symm q hq j hj he
      · exact Blk.ne hb' hb (oth_l ht' ht) rfl
    rcases List.mem_append.1 hq with hq | hq
    · exact old q (.inl hq)
    · rcases List.mem_cons.1 hq with rfl | hq
      · exact ⟨hn, fun j hj => (hr j hj).elim (heB j) (fun h' => by have := h.hB; omega)⟩
      · exact old q (.inr hq)
  · have hq1 := (h.led q (by rcases hq with hq | hq <;> simp [hq])).1
    rcases hr j hf with h' | h'
    · exact mid_ne h.ledn se_symm q hq j hj h'
    · have := hq1.lt hj; omega
/-- A mac more: its blocks are new. -/
theorem GM.add (h : GM w0 B sts leds W) {V : World} (hold : ∀ q ∈ sts, IsM V q.1 q.2) (hBV : B ≤ V.heap.size) (hp : IsM W p.1 p.2) (hn : ∀ j, FM p j → V.heap.size ≤ j) : GM w0 B (sts ++ [p]) leds W := by
  refine ⟨fun q hq => ?_, List.pairwise_append.2 ⟨h.stn, List.pairwise_singleton _ _, fun q hq c hc j hj hf => ?_⟩, h.led, h.ledn, h.bel, h.kt, h.h1, h.hB⟩
  · rcases List.mem_append.1 hq with hq | hq
    · exact h.st q hq
    · rw [List.mem_singleton.1 hq]; exact ⟨hp, fun j hj => by have := hn j hj; omega⟩
  · rw [List.mem_singleton.1 hc] at hf
    have := hn j hf
    have := (hold q hq).lt hj
    omega
theorem Ko.own (h : Ko W W') {base n : Nat} {v : Value} {f : Nat → Int} (ho : By.Own W base v n f) : By.Own W' base v n f := by
  obtain ⟨hf, hl, h' | ⟨g, cap, cur, rfl, hb, hc, h1, h2, h3, h4⟩⟩ := ho
  · exact ⟨hf, hl, .inl h'⟩
  · refine ⟨hf, hl, .inr ⟨g, cap, cur, rfl, hb, ?_, h1, h2, h3, h4⟩⟩
    have := h g cur.toList 5 (by show W.heap[g]? = _; rw [hc]) (by decide)
    exact this
theorem Ko.row (h : Ko W W') {base n : Nat} {v : Value} {xs : List Value} {t : TypeId} (ht : Oth t) (ho : W.ownsRow base t 1 v n xs) : W'.ownsRow base t 1 v n xs := by
  obtain ⟨hl, h' | ⟨g, cap, cur, rfl, hb, hc, h1, h2, h3, h4⟩⟩ := ho
  · exact ⟨hl, .inl h'⟩
  · refine ⟨hl, .inr ⟨g, cap, cur, rfl, hb, ?_, h1, h2, h3, h4⟩⟩
    have := h g cur.toList t (by show W.heap[g]? = _; rw [hc]) ht
    exact this
end
end Go.Proofs.YtpohogpkfdebdaaGreatDoor.Dg
namespace Go.Proofs.YtpohogpkfdebdaaGreatDoor.Dg
open Go.ChangeShapes Go.WideShapes Go.ChangeAt Go.RowKit
open Go.Proofs.YtpohogpkfdebdaaGreatDoor.By
open Go.Proofs.YtpohogpkfdebdaaGreatDoor.Sh (Blk size_alloc)
abbrev Lt (t : TypeId) : Prop := t = 89 ∨ t = 78
/-- Blocks of a ledger. -/
def Tl (W : World) (T : Nat → Prop) : Prop := ∀ j, T j → ∃ cs t, Blk W j cs t ∧ Lt t
theorem LG.own {S : Nat → Prop} {w W : World} {lo : Option Nat} {L : List Rn} (h : LG S w W lo L) : ∃ T, LG T W W lo L ∧ Tl W T ∧ ∀ j, j < w.heap.size → T j → S j := by
  cases lo with
  | none => exact ⟨fun _ => False, trivial, fun _ e => e.elim, fun _ _ e => e.elim⟩
  | some lb =>
    obtain ⟨hs, rv, hl, ho⟩ := h
    refine ⟨fun j => j = lb ∨ rv.ownBlock = some j, ⟨.inl rfl, rv, hl, fun g hg _ => .inr hg⟩, fun j hj => ?_, fun j hj e => ?_⟩
    · rcases hj with rfl | e
      · exact ⟨_, _, hl.here, .inl rfl⟩
      · obtain ⟨c, hc⟩ := Sg.own_type hl.own e
        exact ⟨c.toList, _, (by show W.heap[j]? = _; rw [hc]), .inr rfl⟩
    · rcases e with rfl | e
      · exact hs
      · exact ho j e hj
/-- All but a ledger's blocks stays. -/
def Kl (W W' : World) : Prop := ∃ T, Kp T W W' ∧ Tl W T
section
variable {W W' W2 : World}
theorem Tl.no {T : Nat → Prop} (h : Tl W T) {j : Nat} {cs : List Value} {t : TypeId} (hb : Blk W j cs t) (ht : ¬ Lt t) : ¬ T j := fun e => by
  obtain ⟨c', t', hb', ht'⟩ := h j e
  exact Blk.ne hb hb' (fun e => ht (e ▸ ht')) rfl
theorem Kl.of_below (h : Below W.heap.size W W') : Kl W W' := ⟨fun _ => False, Kp.of_below _ h, fun _ e => e.elim⟩
theorem Kl.blk (h : Kl W W') {j : Nat} {cs : List Value} {t : TypeId} (hb : Blk W j cs t) (ht : ¬ Lt t) : Blk W' j cs t := by
  obtain ⟨T, hk, hT⟩ := h
  exact hb.kept hk (hT.no hb ht)
theorem tyS_l (a : Bool) : ¬ Lt (tyS a) := by cases a <;> decide
theorem Kl.isd (h : Kl W W') {b : Nat} {a : Bool} {k : SK} (hb : IsD W b a k) : IsD W' b a k := by
  obtain ⟨T, hk, hT⟩ := h
  obtain ⟨cs, hc⟩ := hb.blk
  exact hb.kept hk (hT.no hc (tyS_l a))
theorem Kl.own (h : Kl W W') {base n : Nat} {v : Value} {f : Nat → Int} (ho : By.Own W base v n f) : By.Own W' base v n f := by
  obtain ⟨hf, hl, h' | ⟨g, cap, cur, rfl, hb, hc, h1, h2, h3, h4⟩⟩ := ho
  · exact ⟨hf, hl, .inl h'⟩
  · refine ⟨hf, hl, .inr ⟨g, cap, cur, rfl, hb, ?_, h1, h2, h3, h4⟩⟩
    exact h.blk (cs := cur.toList) (t := 5) (by show W.heap[g]? = _; rw [hc]) (by decide)
theorem Kl.mk (h : Kl W W') {b : Nat} {x : MB} (hb : IsMk W b x) : IsMk W' b x :=
  ⟨h.blk hb.here (by decide), h.isd hb.s0, h.isd hb.s1, h.isd hb.s2, hb.n01, hb.n02, hb.n12, hb.fb⟩
theorem Kl.size (h : Kl W W') : W.heap.size ≤ W'.heap.size := by obtain ⟨T, hk, _⟩ := h; exact hk.size
theorem Kl.trans (h : Kl W W') (h' : Kl W' W2) : Kl W W2 := by
  obtain ⟨T, hk, hT⟩ := h
  obtain ⟨T', hk', hT'⟩ := h'
  refine ⟨fun j => j < W.heap.size ∧ (T j ∨ T' j), (hk.mono (fun j hj e => ⟨hj, .inl e⟩)).trans hk' (fun i hi e => ⟨hi, .inr e⟩), fun j hj => ?_⟩
  rcases hj with ⟨hj, e | e⟩
  · exact hT j e
  · by_cases ht : T j
    · exact hT j ht
    · obtain ⟨cs, t, hb, hl⟩ := hT' j e
      exact ⟨cs, t, (hk.block j hj ht).symm.trans hb, hl⟩
end
end Go.Proofs.YtpohogpkfdebdaaGreatDoor.Dg
