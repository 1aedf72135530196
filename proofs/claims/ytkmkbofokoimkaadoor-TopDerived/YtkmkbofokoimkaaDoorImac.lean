/- Macs of either algorithm: each call that HKDF makes, for lists of any size. -/
import Derived.Test.YtkmkbofokoimkaaDoorZmd
namespace Go.Proofs.YtkmkbofokoimkaaDoor.Dg
open Go.ChangeShapes Go.WideShapes Go.ChangeAt Go.RowKit
open Go.Proofs.YtkmkbofokoimkaaDoor.By
open Go.Proofs.YtkmkbofokoimkaaDoor.Sh (Blk size_alloc)
theorem newM (a : Bool) (n : Nat) (v : Value) (g : Nat → Int) (lo : Option Nat) (L : List Rn) (S : Nat → Prop) (w : World) (hk : KT w) (hS0 : ¬ S 0) (hS1 : ¬ S 1) (hl : LG S w w lo L) (hp : Pos L)
    (hr : ∀ w', Kp S w w' → By.RB w' v n g) (hn : n ≤ 140737488353328) (hroom : tq L ≤ 2200000000000) :
    Calls Tryd.prog 11 #[lpv lo, .int .u8 (an a), v] w fun e w' => ∃ b b0 b1 b2, e = .returned (.tuple #[.pointer (some ⟨b, 0, none⟩), .int .i64 0]) ∧ IsMk w' b ⟨a, kb a n g, 0, nof, b0, b1, b2⟩ ∧ (w.heap.size ≤ b ∧ w.heap.size ≤ b0 ∧ w.heap.size ≤ b1 ∧ w.heap.size ≤ b2) ∧ LG S w w' lo (kev a L n) ∧ Kp S w w' := by
  cases a
  · exact new256 n v g lo L S w hk hS0 hS1 hl hp hr (by omega) (by omega)
  · exact new512 n v g lo L S w hk hS0 hS1 hl hp hr (by omega) (by omega)
theorem writeM (b : Nat) (x : MB) (n : Nat) (v : Value) (g : Nat → Int) (lo : Option Nat) (L : List Rn) (S : Nat → Prop) (w : World) (h : IsMk w b x) (hk : KT w) (hS0 : ¬ S 0) (hS1 : ¬ S 1) (hSb : S x.b0) (hnb : ¬ S b) (hn1 : ¬ S x.b1) (hn2 : ¬ S x.b2) (hl : LG S w w lo L) (hp : Pos L)
    (hr : ∀ w', Kp S w w' → By.RB w' v n g) (hmn : x.m + n ≤ 140737488353828) (hroom : tq L + (n / 64 : Nat) ≤ 5000000000000) :
    Calls Tryd.prog 12 #[.pointer (some ⟨b, 0, none⟩), lpv lo, v] w fun e w' => e = .returned (.int .i64 0) ∧ IsMk w' b ⟨x.a, x.K, x.m + n, cat x.m x.f g, x.b0, x.b1, x.b2⟩ ∧ LG S w w' lo (evs x.a L ((x.m + n) / bk x.a - x.m / bk x.a)) ∧ Kp S w w' := by
  obtain ⟨a, K, m, f, b0, b1, b2⟩ := x
  cases a
  · exact write256 b K f g m n b0 b1 b2 v lo L S w h hk hS0 hS1 hSb hnb hn1 hn2 hl hp hr hmn hroom
  · exact write512 b K f g m n b0 b1 b2 v lo L S w h hk hS0 hS1 hSb hnb hn1 hn2 hl hp hr hmn hroom
theorem sumM (b : Nat) (x : MB) (lo : Option Nat) (L : List Rn) (S : Nat → Prop) (w : World) (h : IsMk w b x) (hk : KT w) (hS0 : ¬ S 0) (hS1 : ¬ S 1) (hl : LG S w w lo L) (hp : Pos L) (hmm : x.m ≤ 140737488352328) (hroom : tq L ≤ 4399500000000) :
    Calls Tryd.prog 13 #[.pointer (some ⟨b, 0, none⟩), lpv lo] w fun e w' => ∃ v, e = .returned (.tuple #[v, .int .i64 0]) ∧ By.Own w' w.heap.size v (sz x.a) (hm x.a x.K x.m x.f) ∧ LG S w w' lo (sev x.a L x.m) ∧ Kp S w w' ∧ Kl w w' := by
  obtain ⟨a, K, m, f, b0, b1, b2⟩ := x
  cases a
  · exact sum256 b K f m b0 b1 b2 lo L S w h hk hS0 hS1 hl hp hmm hroom
  · exact sum512 b K f m b0 b1 b2 lo L S w h hk hS0 hS1 hl hp hmm hroom
theorem resetM (b : Nat) (x : MB) (w : World) (h : IsMk w b x) :
    Calls Tryd.prog 44 #[.pointer (some ⟨b, 0, none⟩)] w fun e w' => e = .returned (.int .i64 0) ∧ (∃ c, w.heap.size ≤ c ∧ IsMk w' b ⟨x.a, x.K, 0, nof, c, x.b1, x.b2⟩) ∧ Kp (fun j => j = b) w w' := by
  obtain ⟨a, K, m, f, b0, b1, b2⟩ := x
  cases a
  · exact reset256 b K f m b0 b1 b2 w h
  · exact reset512 b K f m b0 b1 b2 w h
theorem tagM (a : Bool) (n np : Nat) (v v2 : Value) (g f : Nat → Int) (lo : Option Nat) (L : List Rn) (S : Nat → Prop) (w : World) (hk : KT w) (hS0 : ¬ S 0) (hS1 : ¬ S 1) (hl : LG S w w lo L) (hp : Pos L)
    (hr : ∀ w', Kp S w w' → By.RB w' v n g) (hr2 : ∀ w', Kp S w w' → By.RB w' v2 np f) (hn : n ≤ 140737488352328) (hnp : np ≤ 140737488352328) (hroom : tq L ≤ 900000000) :
    Calls Tryd.prog 7 #[lpv lo, .int .u8 (an a), v, v2] w fun e w' => ∃ u, e = .returned (.tuple #[u, .int .i64 0]) ∧ By.Own w' w.heap.size u (sz a) (hm a (kb a n g) np f) ∧ LG S w w' lo (sev a (evs a (kev a L n) (np / bk a)) np) ∧ Kp S w w' := by
  cases a
  · exact tag256 n np v v2 g f lo L S w hk hS0 hS1 hl hp hr hr2 hn hnp hroom
  · exact tag512 n np v v2 g f lo L S w hk hS0 hS1 hl hp hr hr2 hn hnp hroom
end Go.Proofs.YtkmkbofokoimkaaDoor.Dg
