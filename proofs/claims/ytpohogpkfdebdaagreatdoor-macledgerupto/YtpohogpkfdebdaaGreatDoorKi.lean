/- Several sponges and ledgers at once: what one call leaves of the others. Several sponges and ledgers at once: the calls. The permutation reckoned by the kernel: the same numbers, each reckoned once. The kernel permutes: SHAKE128 and SHA3-256 of nothing; what the statements' helper lives answers. -/
import Derived.Test.YtpohogpkfdebdaaGreatDoorKh
import Derived.Test.YtpohogpkfdebdaaGreatDoorZrr
import Derived.Test.YtpohogpkfdebdaaGreatDoorKa
namespace Go.Proofs.YtpohogpkfdebdaaGreatDoor.Kc
open Go.ChangeShapes Go.WideShapes Go.ChangeAt Go.RowKit
open Go.Proofs.YtpohogpkfdebdaaGreatDoor.By Go.Proofs.YtpohogpkfdebdaaGreatDoor.Wd

/-- What a sponge is: none, or one with its numbers. -/
abbrev SK := Option (Nat × Int × Z × Bool)
def IsSt (W : World) (b : Nat) : SK → Prop
  | none => NoSp W b
  | some (r, sf, z, sh) => Sp W b r sf z sh
theorem IsSt.blk {W : World} {b : Nat} {k : SK} (h : IsSt W b k) : ∃ cs, Blk W b cs 241 := by
  match k, h with
  | none, h => obtain ⟨cs, h⟩ := h; exact ⟨_, h⟩
  | some (r, sf, z, sh), h => exact ⟨_, h.here⟩
theorem IsSt.kept {W W' : World} {b : Nat} {k : SK} {S : Nat → Prop} (h : IsSt W b k) (hk : Kp S W W') (hn : ¬ S b) : IsSt W' b k := by
  match k, h with
  | none, h => obtain ⟨cs, h⟩ := h; exact ⟨cs, h.kept hk hn⟩
  | some (r, sf, z, sh), h => exact Sp.kept h hk hn
/-- A ledger: the program's or the document's, its block, its runs' slice, its runs. -/
structure LE where
  own : Bool
  blk : Nat
  rv : Value
  runs : List Rn
def tl (b : Bool) : TypeId := match b with | true => 89 | false => 91
def IsLed (W : World) (q : LE) : Prop := match q.own with | true => Led W q.blk q.rv q.runs | false => RLed W q.blk q.rv q.runs
theorem IsLed.blk {W : World} {q : LE} (h : IsLed W q) : ∃ cs, Blk W q.blk cs (tl q.own) := by
  obtain ⟨o, b, rv, L⟩ := q
  cases o with
  | true => exact ⟨_, (show Led W b rv L from h).here⟩
  | false => exact ⟨_, (show RLed W b rv L from h).here⟩
theorem IsLed.run {W : World} {q : LE} (h : IsLed W q) {g : Nat} (hg : q.rv.ownBlock = some g) : ∃ cs, Blk W g cs 78 := by
  obtain ⟨o, b, rv, L⟩ := q
  have key : ∀ x, Own W 0 rv x → ∃ cs, Blk W g cs 78 := fun x hx => by
    obtain ⟨c, hc⟩ := own_type hx hg
    exact ⟨c.toList, by show W.heap[g]? = _; rw [hc]⟩
  cases o with
  | true => exact key _ (show Led W b rv L from h).own
  | false => exact key _ (show RLed W b rv L from h).own
theorem IsLed.kept {W W' : World} {q : LE} {S : Nat → Prop} (h : IsLed W q) (hk : Kp S W W') (h1 : ¬ S q.blk) (h2 : ∀ g, q.rv.ownBlock = some g → ¬ S g) : IsLed W' q := by
  obtain ⟨o, b, rv, L⟩ := q
  cases o with
  | true => exact (show Led W b rv L from h).kept hk h1 h2
  | false => exact (show RLed W b rv L from h).kept hk h1 h2
theorem tl_ne (o : Bool) : 241 ≠ tl o ∧ 78 ≠ tl o := by cases o <;> decide
/-- Two ledgers have no block in common. -/
def LApart (p q : LE) : Prop := p.blk ≠ q.blk ∧ ∀ g, p.rv.ownBlock = some g → q.rv.ownBlock ≠ some g
theorem LApart.symm {p q : LE} (h : LApart p q) : LApart q p := ⟨fun e => h.1 e.symm, fun g hg e => h.2 g e hg⟩
structure GS (w0 : World) (B : Nat) (sts : List (Nat × SK)) (leds : List LE) (W : World) : Prop where
  st : ∀ p ∈ sts, IsSt W p.1 p.2 ∧ B ≤ p.1
  stn : sts.Pairwise (fun p q => p.1 ≠ q.1)
  led : ∀ q ∈ leds, IsLed W q ∧ B ≤ q.blk ∧ ∀ g, q.rv.ownBlock = some g → B ≤ g
  ledn : leds.Pairwise LApart
  bel : Below B w0 W
  kt : KT W
  h0 : 4 < B
  hB : B ≤ W.heap.size
/-- Blocks of other kinds stay. -/
def Ko (W W' : World) : Prop := ∀ g cs t, Blk W g cs t → t ≠ 241 → t ≠ 78 → t ≠ 89 → t ≠ 91 → Blk W' g cs t
/-- A ledger's blocks. -/
def SE (e : LE) (j : Nat) : Prop := j = e.blk ∨ e.rv.ownBlock = some j
section
variable {w0 W W' : World} {B : Nat} {sts : List (Nat × SK)} {leds : List LE}
theorem GS.below (h : GS w0 B sts leds W) (hb : Below W.heap.size W W') : GS w0 B sts leds W' := by
  have hk := Kp.of_below (fun _ => False) hb
  exact ⟨fun p hp => ⟨(h.st p hp).1.kept hk id, (h.st p hp).2⟩, h.stn, fun q hq => ⟨(h.led q hq).1.kept hk id (fun _ _ => id), (h.led q hq).2⟩, h.ledn, h.bel.trans (hb.mono h.hB), h.kt.below hb, h.h0, Nat.le_trans h.hB hb.size⟩
theorem Ko.below (hb : Below W.heap.size W W') : Ko W W' := fun _ _ _ h _ _ _ _ => h.below hb
/-- A block of another kind is written. -/
theorem GS.other (h : GS w0 B sts leds W) {g : Nat} {cs : List Value} {t : TypeId} (hg : Blk W g cs t) (h1 : t ≠ 241) (h2 : t ≠ 78) (h3 : t ≠ 89) (h4 : t ≠ 91) (hk : Kp (fun k => k = g) W W') (hB : B ≤ g) : GS w0 B sts leds W' := by
  have n1 : ∀ x cs' t', Blk W x cs' t' → t' ≠ t → ¬ (x = g) := fun x cs' t' hx ht e => Blk.ne hx hg ht e
  refine ⟨fun p hp => ⟨(h.st p hp).1.kept hk ?_, (h.st p hp).2⟩, h.stn, fun q hq => ⟨(h.led q hq).1.kept hk ?_ (fun x hx => ?_), (h.led q hq).2⟩, h.ledn, h.bel.trans (hk.below h.hB (fun k hk e => by have : k = g := e; omega)), h.kt.kept hk (by have := h.h0; omega) (by have := h.h0; omega), h.h0, Nat.le_trans h.hB hk.size⟩
  · obtain ⟨c, hc⟩ := (h.st p hp).1.blk; exact n1 _ _ _ hc (fun e => h1 e.symm)
  · obtain ⟨c, hc⟩ := (h.led q hq).1.blk
    refine n1 _ _ _ hc (fun e => ?_)
    cases ho : q.own with
    | true => rw [ho] at e; exact h3 e.symm
    | false => rw [ho] at e; exact h4 e.symm
  · obtain ⟨c, hc⟩ := (h.led q hq).1.run hx; exact n1 _ _ _ hc (fun e => h2 e.symm)
variable {sts1 sts2 : List (Nat × SK)} {leds1 leds2 : List LE} {b : Nat} {k k' : SK} {e e' : LE}
theorem GS.mid (h : GS w0 B (sts1 ++ (b, k) :: sts2) leds W) : IsSt W b k ∧ B ≤ b ∧ ∀ p, p ∈ sts1 ∨ p ∈ sts2 → p.1 ≠ b := by
  refine ⟨(h.st (b, k) (by simp)).1, (h.st (b, k) (by simp)).2, ?_⟩
  have := List.pairwise_append.1 h.stn
  rintro p (hp | hp)
  · exact this.2.2 p hp (b, k) (by simp)
  · exact fun e => (List.pairwise_cons.1 this.2.1).1 p hp e.symm
theorem GS.midL (h : GS w0 B sts (leds1 ++ e :: leds2) W) : IsLed W e ∧ B ≤ e.blk ∧ (∀ g, e.rv.ownBlock = some g → B ≤ g) ∧ ∀ q, q ∈ leds1 ∨ q ∈ leds2 → LApart q e := by
  have h1 := h.led e (by simp)
  refine ⟨h1.1, h1.2.1, h1.2.2, ?_⟩
  have := List.pairwise_append.1 h.ledn
  rintro p (hp | hp)
  · exact this.2.2 p hp e (by simp)
  · exact ((List.pairwise_cons.1 this.2.1).1 p hp).symm
theorem GS.lednL (h : GS w0 B sts (leds1 ++ e :: leds2) W) (h1 : ∀ q, q ∈ leds1 ∨ q ∈ leds2 → LApart q e') : (leds1 ++ e' :: leds2).Pairwise LApart := by
  have g1 := List.pairwise_append.1 h.ledn
  have g2 := List.pairwise_cons.1 g1.2.1
  refine List.pairwise_append.2 ⟨g1.1, List.pairwise_cons.2 ⟨fun q hq => (h1 q (.inr hq)).symm, g2.2⟩, fun a ha c hc => ?_⟩
  rcases List.mem_cons.1 hc with rfl | hc
  · exact h1 a (.inl ha)
  · exact g1.2.2 a ha c (by simp [hc])
/-- A set of blocks that one ledger and perhaps one state have. -/
theorem GS.apartL (h : GS w0 B sts (leds1 ++ e :: leds2) W) {S : Nat → Prop} (hS : ∀ j, S j → (∃ cs, Blk W j cs 241) ∨ SE e j) : ∀ q, q ∈ leds1 ∨ q ∈ leds2 → ¬ S q.blk ∧ ∀ g, q.rv.ownBlock = some g → ¬ S g := by
  obtain ⟨he, _, _, hap⟩ := h.midL
  obtain ⟨ce, hce⟩ := he.blk
  intro q hq
  have hq1 : IsLed W q := (h.led q (by rcases hq with hq | hq <;> simp [hq])).1
  obtain ⟨cq, hcq⟩ := hq1.blk
  refine ⟨fun hs => ?_, fun g hg hs => ?_⟩
  · rcases hS _ hs with ⟨c, hc⟩ | e1 | e1
    · exact Blk.ne hcq hc (fun e => (tl_ne q.own).1 e.symm) rfl
    · exact (hap q hq).1 e1
    · obtain ⟨c, hc⟩ := he.run e1
      exact Blk.ne hcq hc (fun e => (tl_ne q.own).2 e.symm) rfl
  · obtain ⟨cg, hcg⟩ := hq1.run hg
    rcases hS _ hs with ⟨c, hc⟩ | e1 | e1
    · exact Blk.ne hcg hc (by decide) rfl
    · rw [e1] at hcg
      exact Blk.ne hcg hce (tl_ne e.own).2 rfl
    · exact (hap q hq).2 g hg e1
theorem GS.newL (h : GS w0 B sts (leds1 ++ e :: leds2) W) {S : Nat → Prop} (hS : ∀ j, S j → (∃ cs, Blk W j cs 241) ∨ SE e j) (hb : e'.blk = e.blk) (hn : ∀ g, e'.rv.ownBlock = some g → g < W.heap.size → S g) : ∀ q, q ∈ leds1 ∨ q ∈ leds2 → LApart q e' := by
  intro q hq
  have hq1 : IsLed W q := (h.led q (by rcases hq with hq | hq <;> simp [hq])).1
  refine ⟨fun e1 => (h.midL.2.2.2 q hq).1 (e1.trans hb), fun g hg e1 => ?_⟩
  obtain ⟨c, hc⟩ := hq1.run hg
  exact ((h.apartL hS q hq).2 g hg) (hn g e1 hc.lt)
/-- One ledger is turned, and no state. -/
theorem GS.turnL (h : GS w0 B sts (leds1 ++ e :: leds2) W) {S : Nat → Prop} (hS : ∀ j, S j → SE e j) (hk : Kp S W W') (hn : IsLed W' e') (hb : e'.blk = e.blk) (hr : ∀ g, e'.rv.ownBlock = some g → g < W.heap.size → S g) : GS w0 B sts (leds1 ++ e' :: leds2) W' ∧ Ko W W' := by
  obtain ⟨he, hB1, hB2, hap⟩ := h.midL
  obtain ⟨ce, hce⟩ := he.blk
  have hS' : ∀ j, S j → (∃ cs, Blk W j cs 241) ∨ SE e j := fun j hj => .inr (hS j hj)
  have hSB : ∀ j, S j → B ≤ j := fun j hj => by
    rcases hS j hj with e1 | e1
    · rw [e1]; exact hB1
    · exact hB2 j e1
  have n1 : ∀ x cs t, Blk W x cs t → t ≠ 78 → t ≠ tl e.own → ¬ S x := fun x cs t hx h1 h2 hs => by
    rcases hS x hs with e1 | e1
    · rw [e1] at hx; exact Blk.ne hx hce h2 rfl
    · obtain ⟨c, hc⟩ := he.run e1; exact Blk.ne hx hc h1 rfl
  refine ⟨⟨fun p hp => ⟨(h.st p hp).1.kept hk ?_, (h.st p hp).2⟩, h.stn, fun q hq => ?_, h.lednL (h.newL hS' hb hr), h.bel.trans (hk.below h.hB (fun j hj hs => by have := hSB j hs; omega)), h.kt.kept hk (fun hs => by have := hSB 2 hs; have := h.h0; omega) (fun hs => by have := hSB 4 hs; have := h.h0; omega), h.h0, Nat.le_trans h.hB hk.size⟩, fun g cs t hg h1 h2 h3 h4 => hg.kept hk (n1 _ _ _ hg h2 ?_)⟩
  · obtain ⟨c, hc⟩ := (h.st p hp).1.blk; exact n1 _ _ _ hc (by decide) (tl_ne e.own).1
  · have old : ∀ q, q ∈ leds1 ∨ q ∈ leds2 → IsLed W' q ∧ B ≤ q.blk ∧ ∀ g, q.rv.ownBlock = some g → B ≤ g := fun q hq => by
      have h1 := h.led q (by rcases hq with hq | hq <;> simp [hq])
      exact ⟨h1.1.kept hk (h.apartL hS' q hq).1 (h.apartL hS' q hq).2, h1.2⟩
    rcases List.mem_append.1 hq with hq | hq
    · exact old q (.inl hq)
    · rcases List.mem_cons.1 hq with rfl | hq
      · refine ⟨hn, by rw [hb]; exact hB1, fun g hg => ?_⟩
        by_cases hlt : g < W.heap.size
        · exact hSB g (hr g hg hlt)
        · have := h.hB; omega
      · exact old q (.inr hq)
  · cases ho : e.own with
    | true => exact h3
    | false => exact h4
end
end Go.Proofs.YtpohogpkfdebdaaGreatDoor.Kc
namespace Go.Proofs.YtpohogpkfdebdaaGreatDoor.Kc
open Go.ChangeShapes Go.WideShapes Go.ChangeAt Go.RowKit
open Go.Proofs.YtpohogpkfdebdaaGreatDoor.By Go.Proofs.YtpohogpkfdebdaaGreatDoor.Wd

theorem Ko.own {W W' : World} (h : Ko W W') {base n : Nat} {v : Value} {f : Nat → Int} (ho : By.Own W base v n f) : By.Own W' base v n f := by
  obtain ⟨hf, hl, h' | ⟨g, cap, cur, rfl, hb, hc, h1, h2, h3, h4⟩⟩ := ho
  · exact ⟨hf, hl, .inl h'⟩
  · refine ⟨hf, hl, .inr ⟨g, cap, cur, rfl, hb, ?_, h1, h2, h3, h4⟩⟩
    have := h g cur.toList 5 (by show W.heap[g]? = _; rw [hc]) (by decide) (by decide) (by decide) (by decide)
    exact this
theorem Ko.trans {W W' W2 : World} (h : Ko W W') (h' : Ko W' W2) : Ko W W2 := fun g cs t hg h1 h2 h3 h4 => h' g cs t (h g cs t hg h1 h2 h3 h4) h1 h2 h3 h4
theorem Ko.row {W W' : World} (h : Ko W W') {base n : Nat} {v : Value} {xs : List Value} (ho : W.ownsRow base 23 1 v n xs) : W'.ownsRow base 23 1 v n xs := by
  obtain ⟨hl, h' | ⟨g, cap, cur, rfl, hb, hc, h1, h2, h3, h4⟩⟩ := ho
  · exact ⟨hl, .inl h'⟩
  · refine ⟨hl, .inr ⟨g, cap, cur, rfl, hb, ?_, h1, h2, h3, h4⟩⟩
    have := h g cur.toList 23 (by show W.heap[g]? = _; rw [hc]) (by decide) (by decide) (by decide) (by decide)
    exact this
section
variable {w0 W W' : World} {B : Nat} {sts sts1 sts2 : List (Nat × SK)} {leds leds1 leds2 : List LE} {b lb : Nat} {k : SK} {e : LE} {rv : Value} {L : List Rn} {r : Nat} {sf : Int} {z : Z}
theorem GS.no0 (h : GS w0 B sts (leds1 ++ e :: leds2) W) : ¬ SE e 2 := by
  obtain ⟨_, hB1, hB2, _⟩ := h.midL
  have := h.h0
  rintro (e1 | e1)
  · omega
  · have := hB2 2 e1; omega
/-- A state more. -/
theorem GS.add (h : GS w0 B sts leds W) (hk : IsSt W b k) (hb : B ≤ b) (hn : ∀ p ∈ sts, p.1 ≠ b) : GS w0 B (sts ++ [(b, k)]) leds W := by
  refine ⟨fun p hp => ?_, List.pairwise_append.2 ⟨h.stn, List.pairwise_singleton _ _, fun a ha c hc => by rw [List.mem_singleton.1 hc]; exact hn a ha⟩, h.led, h.ledn, h.bel, h.kt, h.h0, h.hB⟩
  rcases List.mem_append.1 hp with hp | hp
  · exact h.st p hp
  · rw [List.mem_singleton.1 hp]; exact ⟨hk, hb⟩
end
end Go.Proofs.YtpohogpkfdebdaaGreatDoor.Kc
namespace Go.Proofs.YtpohogpkfdebdaaGreatDoor.Kc
open Go.Proofs.YtpohogpkfdebdaaGreatDoor.Wd

/-- A number that is reckoned ahead of what is done with it. -/
def frc {α : Type} (x : Int) (k : Int → α) : α :=
  match x with
  | .ofNat n => Nat.rec (motive := fun _ => α) (k 0) (fun m _ => k (Int.ofNat (m + 1))) n
  | .negSucc n => k (.negSucc n)
/-- g 0 to g (n - 1), each reckoned ahead. -/
def frcA {α : Type} (g : Nat → Int) : Nat → List Int → (List Int → α) → α
  | 0, acc, k => k acc
  | n + 1, acc, k => frc (g n) fun x => frcA g n (x :: acc) k
def tb (n : Nat) (g : Nat → Int) : List Int := (List.range n).map g
def rdL {α : Type} (c : Int) (l : List Int) (k : List Int → α) : α :=
  frcA (fun x => xr (xr (xr (xr (l.getD x 0) (l.getD (x + 5) 0)) (l.getD (x + 10) 0)) (l.getD (x + 15) 0)) (l.getD (x + 20) 0)) 5 [] fun C =>
  frcA (fun x => xr (C.getD ((x + 4) % 5) 0) (rl (C.getD ((x + 1) % 5) 0) 1)) 5 [] fun D =>
  frcA (fun i => xr (l.getD i 0) (D.getD (i % 5) 0)) 25 [] fun M =>
  frcA (fun i => if i = 0 then M.getD 0 0 else rl (M.getD (srl.getD i 0) 0) (aml.getD i 0 : Nat)) 25 [] fun B =>
  frcA (fun i => if i = 0 then xr (xr (B.getD 0 0) (dn (B.getD 2 0) (B.getD 1 0))) c else xr (B.getD i 0) (dn (B.getD (n2 i) 0) (B.getD (n1 i) 0))) 25 [] k
def rdsL {α : Type} : List Int → List Int → (List Int → α) → α
  | [], l, k => k l
  | c :: cs, l, k => rdL c l fun l' => rdsL cs l' k
def P1 : List Int := [17376452488221285863, 9571781953733019530, 15391093639620504046, 13624874521033984333, 10027350355371872343, 18417369716475457492, 10448040663659726788, 10113917136857017974, 12479658147685402012, 3500241080921619556, 16959053435453822517, 12224711289652453635, 9342009439668884831, 4879704952849025062, 140226327413610143, 424854978622500449, 7259519967065370866, 7004910057750291985, 13293599522548616907, 10105770293752443592, 10668034807192757780, 1747952066141424100, 1654286879329379778, 8500057116360352059, 16929593379567477321]
def P2 : List Int := [3268651591693945660, 7652509465582220653, 665843430262795116, 9953194536449200276, 5736547547768942934, 17967033347517840184, 9617223347116289805, 18083344793841701111, 2241559954380719961, 16500850453531636773, 7552081062576154785, 16062764016099891023, 3730174026076631541, 16142682291168730073, 9005134303344136805, 18254296170158835523, 10943093107769035584, 5254247195150641012, 16409086168290275388, 10493424989303096041, 10380288247186775419, 2317839531386326248, 6571880257221836214, 6962369734508286041, 2364509455356247900]
def z0 (_ : Nat) : Int := 0
end Go.Proofs.YtpohogpkfdebdaaGreatDoor.Kc
namespace Go.Proofs.YtpohogpkfdebdaaGreatDoor.Kc
open Go.ChangeShapes Go.WideShapes Go.ChangeAt Go.RowKit
open Go.Proofs.YtpohogpkfdebdaaGreatDoor.By Go.Proofs.YtpohogpkfdebdaaGreatDoor.Wd
def zz : Z := ⟨fun _ => 0, 0, 0⟩
def fA : Nat → Int := mx (mx (fun _ => 0) 0 31) 167 128
def fB : Nat → Int := mx (mx (fun _ => 0) 0 6) 135 128
def lA : List Int := [127, 156, 43, 164, 232, 143, 130, 125]
def lB : List Int := [167, 255, 198, 248, 191, 30, 215, 102, 81, 193, 71, 86, 160, 97, 214, 98, 245, 128, 255, 77, 228, 59, 73, 250, 130, 216, 10, 75, 128, 248, 67, 74]
theorem zz_ok (r : Nat) (h : 0 < r) : zz.Ok r false := ⟨fun _ => by show (0 : Int) ≤ 0 ∧ (0 : Int) < 256; decide, Nat.zero_le _, fun _ => h⟩
end Go.Proofs.YtpohogpkfdebdaaGreatDoor.Kc
