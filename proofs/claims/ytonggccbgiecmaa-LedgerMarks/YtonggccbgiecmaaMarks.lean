/- LedgerMarks' walk: two lists of notes recorded one after the other, and what is told at the marks between them; the helper 'gone' is taken as a premise here. -/
import Derived.Test.YtonggccbgiecmaaRuns
import Derived.Test.YtonggccbgiecmaaLives
import Derived.Deep.RegionWith
import Derived.OpenShut
import Derived.ChangeOld
import Derived.Carry
import Derived.Deep.Slices
namespace Go.Proofs.Ytonggccbgiecmaa
open Go.ChangeShapes Go.WideShapes Go.ChangeAt Go.RowKit
/-- What the statement's helper 'gone' is: true for a ledger and its runs. -/
def Gone34 : Prop := ∀ (b : Nat) (rv v : Value) (L : List Rn) (w : World), Led w b rv L → RB w v L → L.length * 24 ≤ 140737488355328 → Calls Try.prog 34 #[.pointer (some ⟨b, 0, none⟩), v] w fun e w' => e = .returned (.bool true) ∧ Below w.heap.size w w'

/-- The slice v reads as the notes X: event and number. -/
def NB (w : World) (v : Value) (X : List Rn) : Prop :=
  (∀ r ∈ X, r.Ok ∧ 0 ≤ r.c ∧ r.c ≤ 65535) ∧ ∃ a cap, v = .slice a X.length cap ∧ (a = none → X = []) ∧ ∀ i r, X[i]? = some r → ∃ b off, a = some ⟨b, off, none⟩ ∧ w.cell? ⟨b, off + i * 3, none⟩ = some (.int .u8 r.k) ∧ w.cell? ⟨b, off + i * 3 + 1, none⟩ = some (.int .i64 r.s) ∧ w.cell? ⟨b, off + i * 3 + 2, none⟩ = some (.int .u16 r.c)
theorem NB.below {w w' : World} {v : Value} {X : List Rn} (h : NB w v X) (hb : Below w.heap.size w w') : NB w' v X := by
  obtain ⟨h1, a, cap, rfl, h2, h3⟩ := h
  refine ⟨h1, a, cap, rfl, h2, fun i r hi => ?_⟩
  obtain ⟨b, off, rfl, c1, c2, c3⟩ := h3 i r hi
  have hlt := block_lt_of_cell c1
  exact ⟨b, off, rfl, (hb.cell (p := ⟨b, off + i * 3, none⟩) hlt).trans c1, (hb.cell (p := ⟨b, off + i * 3 + 1, none⟩) hlt).trans c2, (hb.cell (p := ⟨b, off + i * 3 + 2, none⟩) hlt).trans c3⟩

/-- A ledger that the call owns, from block 'base' on. -/
structure LO (w : World) (base b : Nat) (rv : Value) (L : List Rn) : Prop where
  led : Led w b rv L
  low : base ≤ b
  far : ∀ g, rv.ownBlock = some g → base ≤ g
theorem LO.below {w w' : World} {base b : Nat} {rv : Value} {L : List Rn} (h : LO w base b rv L) (hb : Below w.heap.size w w') : LO w' base b rv L := ⟨h.led.below hb, h.low, h.far⟩

theorem LO.kept {w w' : World} {base b : Nat} {rv : Value} {L : List Rn} {S : Nat → Prop} (h : LO w base b rv L) (hk : Kp S w w') (h1 : ¬ S b) (h2 : ∀ g, rv.ownBlock = some g → ¬ S g) : LO w' base b rv L := ⟨h.led.kept hk h1 h2, h.low, h.far⟩
/-- An event recorded n times, n from 0 on: what stays beside it. -/
theorem noteLO {w : World} {base b : Nat} {rv : Value} {L : List Rn} {r : Rn} (h : LO w base b rv L) (hr : r.Ok) (hb : tot L + max r.c 0 ≤ 9223372036854775807) (hN : (L.length + 1) * 24 ≤ 140737488355328) (hbase : base ≤ w.heap.size) :
    Calls Try.prog 17 #[.pointer (some ⟨b, 0, none⟩), .agg #[.int .u8 r.k, .int .i64 r.s], .int .i64 r.c] w fun e w' => e = .returned (.tuple #[]) ∧ ∃ rv', LO w' base b rv' (putL L r) ∧ Kp (fun q => q = b ∨ rv.ownBlock = some q) w w' ∧ (∀ g, rv'.ownBlock = some g → rv.ownBlock = some g ∨ w.heap.size ≤ g) := by
  by_cases hc : r.c < 1
  · refine (noteTimes17z b r.k r.s r.c w hc).mono ?_
    rintro e w' ⟨rfl, hb'⟩
    exact ⟨rfl, rv, by rw [putL_none hc]; exact h.below hb', Kp.of_below _ hb', fun g hg => .inl hg⟩
  · refine (noteTimes17 b rv L r.k r.s r.c w h.led hr (by omega) (by omega) hN).mono ?_
    rintro e w' ⟨rfl, rv', hl, hk, hs⟩
    refine ⟨rfl, rv', ⟨hl, h.low, fun g hg => ?_⟩, hk, fun g hg => ?_⟩
    · rcases hs with e | e
      · exact h.far g (by rw [← e]; exact hg)
      · have := e g hg; omega
    · rcases hs with e | e
      · exact .inl (by rw [← e]; exact hg)
      · exact .inr (e g hg)
theorem NB.at {w : World} {a : Option Addr} {n cap k : Nat} {X : List Rn} {r : Rn} (h : NB w (.slice a n cap) X) (hk : X[k]? = some r) :
    ∃ b off, a = some ⟨b, off, none⟩ ∧ w.cell? ⟨b, off + k * 3, none⟩ = some (.int .u8 r.k) ∧ w.cell? ⟨b, off + k * 3 + 1, none⟩ = some (.int .i64 r.s) ∧ w.cell? ⟨b, off + k * 3 + 2, none⟩ = some (.int .u16 r.c) := by
  obtain ⟨_, a', cap', he, _, h3⟩ := h
  simp only [Value.slice.injEq] at he
  obtain ⟨rfl, _, _⟩ := he
  exact h3 k r hk

theorem net_bound {X : List Rn} (h : ∀ r ∈ X, r.Ok ∧ 0 ≤ r.c ∧ r.c ≤ 65535) : net X ≤ 65535 * X.length := by
  induction X with
  | nil => simp [net, tot]
  | cons r X ih =>
    have h1 := h r (by simp)
    have h2 := ih (fun q hq => h q (by simp [hq]))
    rw [net_cons]
    simp only [List.length_cons]
    omega
theorem fold_room {X A : List Rn} {k : Nat} (hk : k ≤ 300) (hA : A.length ≤ 300) : (((X.take k).foldl putL A).length + 1) * 24 ≤ 140737488355328 := by
  have h := fold_len (X.take k) A
  rw [List.length_take] at h
  omega
theorem fold_tot {X A : List Rn} {k : Nat} {r : Rn} (hA : Pos A) (h : ∀ r ∈ X, r.Ok ∧ 0 ≤ r.c ∧ r.c ≤ 65535) (hr : X[k]? = some r) (hk : k ≤ 300) (hAt : tot A ≤ 65535 * 300) : tot ((X.take k).foldl putL A) + max r.c 0 ≤ 9223372036854775807 := by
  have h1 := net_bound (X := X.take k) (fun q hq => h q (List.mem_of_mem_take hq))
  have h2 := h r (List.mem_of_getElem? hr)
  have hl : (X.take k).length ≤ 300 := by rw [List.length_take]; omega
  rw [tot_fold hA (by omega)]
  omega
theorem cntTo_bound {L : List Rn} (h : Pos L) (k : Nat) : 0 ≤ cntTo L k ∧ cntTo L k ≤ (k : Int) * tot L := by
  induction k with
  | zero => simp [cntTo]
  | succ k ih =>
    have h1 := cnt_bound (k : Int) h
    simp only [cntTo]
    have e : ((k + 1 : Nat) : Int) * tot L = (k : Int) * tot L + tot L := by rw [Int.natCast_add, Int.add_mul]; simp
    rw [e]
    omega
theorem net_append (X Y : List Rn) : net (X ++ Y) = net X + net Y := by simp [net, tot_append]

/-- What stands beside, behind an event put into the first ledger. -/
theorem stepL {w W1 W2 wa w' wr w2 : World} {r1 r2 q1 was : Value} {A LA LK : List Rn} (P1 : LO wr W1.heap.size W1.heap.size r1 LA) (P2 : LO wr W1.heap.size W2.heap.size r2 LK) (P3 : r1.ownBlock ≠ some W2.heap.size) (P4 : r2.ownBlock ≠ some W1.heap.size)
    (P5 : ∀ g, r1.ownBlock = some g → r2.ownBlock ≠ some g ∧ (g < wa.heap.size ∨ w'.heap.size ≤ g)) (_P6 : ∀ g, r2.ownBlock = some g → w'.heap.size ≤ g) (P7 : Own wr wa.heap.size was A) (P8 : ∀ g, was.ownBlock = some g → g < w'.heap.size) (P9 : Below w.heap.size w wr)
    (K2 : Kp (fun q => q = W1.heap.size ∨ r1.ownBlock = some q) wr.drew w2) (N2 : ∀ g, q1.ownBlock = some g → r1.ownBlock = some g ∨ wr.drew.heap.size ≤ g) (z01 : w.heap.size ≤ W1.heap.size) (hb1 : W1.heap.size ≤ wr.heap.size) (kl2 : W2.heap.size < wa.heap.size) (z4 : wa.heap.size ≤ w'.heap.size) (hz2 : w'.heap.size ≤ wr.heap.size) (z12 : W1.heap.size < W2.heap.size) :
    LO w2 W1.heap.size W2.heap.size r2 LK ∧ q1.ownBlock ≠ some W2.heap.size ∧ (∀ g, q1.ownBlock = some g → r2.ownBlock ≠ some g ∧ (g < wa.heap.size ∨ w'.heap.size ≤ g)) ∧ Own w2 wa.heap.size was A ∧ Below w.heap.size w w2 ∧ (∀ g, r2.ownBlock = some g → g < w2.heap.size) ∧ w'.heap.size ≤ w2.heap.size := by
  have hsz : wr.heap.size ≤ w2.heap.size := K2.size
  refine ⟨(P2.below (Below.refl _ _).drew).kept K2 (fun e => ?_) (fun g hg e => ?_), fun e => ?_, fun g hg => ?_, (show Own wr.drew wa.heap.size was A from P7).kept K2 (fun g hg e => ?_), P9.drew.trans (K2.below (by show w.heap.size ≤ wr.heap.size; omega) (fun q hq e => ?_)), fun g hg => ?_, by omega⟩
  · rcases e with e | e
    · omega
    · exact P3 e
  · rcases e with e | e
    · subst e; exact P4 hg
    · exact (P5 g e).1 hg
  · rcases N2 _ e with h | h
    · exact P3 h
    · have h : wr.heap.size ≤ W2.heap.size := h
      omega
  · rcases N2 g hg with h | h
    · exact P5 g h
    · have h : wr.heap.size ≤ g := h
      refine ⟨fun e => ?_, .inr (by omega)⟩
      have := (P2.led.own.lt g e).2
      omega
  · have h1 := (P7.lt g hg).1
    have h2 := P8 g hg
    rcases e with e | e
    · omega
    · rcases (P5 g e).2 with h | h <;> omega
  · rcases e with e | e
    · omega
    · have := P1.far q e; omega
  · have := (P2.led.own.lt g hg).2; omega
/-- What stands beside, behind an event put into the second ledger. -/
theorem stepK {w W1 W2 W3 wa w' w2 w3 : World} {r2 q1 q2 was : Value} {A LA LK : List Rn} (L2 : LO w2 W1.heap.size W1.heap.size q1 LA) (Q1 : LO w2 W1.heap.size W2.heap.size r2 LK) (Q2 : q1.ownBlock ≠ some W2.heap.size) (Q3 : ∀ g, q1.ownBlock = some g → r2.ownBlock ≠ some g ∧ (g < wa.heap.size ∨ w'.heap.size ≤ g)) (Q4 : Own w2 wa.heap.size was A)
    (P4 : r2.ownBlock ≠ some W1.heap.size) (P6 : ∀ g, r2.ownBlock = some g → w'.heap.size ≤ g) (Q5 : Below w.heap.size w w2) (P8 : ∀ g, was.ownBlock = some g → g < w'.heap.size)
    (KM : Kp (fun q => q = W2.heap.size ∨ r2.ownBlock = some q) w2.drew w3) (NM : ∀ g, q2.ownBlock = some g → r2.ownBlock = some g ∨ w2.drew.heap.size ≤ g) (z01 : w.heap.size ≤ W1.heap.size) (hb2 : W1.heap.size ≤ w2.heap.size) (kl2 : W2.heap.size < wa.heap.size) (_z4 : wa.heap.size ≤ w'.heap.size) (s7 : w'.heap.size ≤ w2.heap.size) (z12 : W1.heap.size < W2.heap.size) (_z23 : W2.heap.size < W3.heap.size) :
    LO w3 W1.heap.size W1.heap.size q1 LA ∧ (q1.ownBlock ≠ some W2.heap.size ∧ q2.ownBlock ≠ some W1.heap.size ∧ (∀ g, q1.ownBlock = some g → q2.ownBlock ≠ some g ∧ (g < wa.heap.size ∨ w'.heap.size ≤ g)) ∧ (∀ g, q2.ownBlock = some g → w'.heap.size ≤ g)) ∧ Own w3 wa.heap.size was A ∧ (∀ g, was.ownBlock = some g → g < w'.heap.size) ∧ Below w.heap.size w w3 ∧ w'.heap.size ≤ w3.heap.size := by
  have hsz : w2.heap.size ≤ w3.heap.size := KM.size
  refine ⟨(L2.below (Below.refl _ _).drew).kept KM (fun e => ?_) (fun g hg e => ?_), ⟨Q2, fun e => ?_, fun g hg => ⟨fun e => ?_, (Q3 g hg).2⟩, fun g hg => ?_⟩, (show Own w2.drew wa.heap.size was A from Q4).kept KM (fun g hg e => ?_), P8, Q5.drew.trans (KM.below (by show w.heap.size ≤ w2.heap.size; omega) (fun q hq e => ?_)), by omega⟩
  · rcases e with e | e
    · omega
    · exact P4 e
  · rcases e with e | e
    · subst e; exact Q2 hg
    · exact (Q3 g hg).1 e
  · rcases NM _ e with h | h
    · exact P4 h
    · have h : w2.heap.size ≤ W1.heap.size := h
      have := L2.led.lt
      omega
  · rcases NM g e with h | h
    · exact (Q3 g hg).1 h
    · have h : w2.heap.size ≤ g := h
      have := (L2.led.own.lt g hg).2
      omega
  · rcases NM g hg with h | h
    · exact P6 g h
    · have h : w2.heap.size ≤ g := h
      omega
  · have h1 := (Q4.lt g hg).1
    have h2 := P8 g hg
    rcases e with e | e
    · omega
    · have := P6 g e; omega
  · rcases e with e | e
    · omega
    · have := Q1.far q e; omega

set_option maxRecDepth 100000 in
set_option maxHeartbeats 3000000 in
theorem marksWalk (gone34 : Gone34) (v0 v1 : Value) (X Y : List Rn) (w : World) (h0 : NB w v0 X) (h1 : NB w v1 Y) (hX : X.length < 1000000000000000000) (hY : Y.length < 1000000000000000000) :
    Calls Try.prog 6 #[v0, v1] w fun e w' => e = .returned (.bool true) ∧ Below w.heap.size w w' := by
  obtain ⟨n, hn⟩ : ∃ n, X.length = n := ⟨_, rfl⟩
  obtain ⟨m, hm⟩ : ∃ n, Y.length = n := ⟨_, rfl⟩
  obtain ⟨a, capa, rfl⟩ : ∃ a cap, v0 = .slice a n cap := by
    obtain ⟨_, a, cap, e, _⟩ := h0
    exact ⟨a, cap, by rw [← hn]; exact e⟩
  obtain ⟨b, capb, rfl⟩ : ∃ a cap, v1 = .slice a m cap := by
    obtain ⟨_, a, cap, e, _⟩ := h1
    exact ⟨a, cap, by rw [← hm]; exact e⟩
  have HA := hid h0
  have HB := hid h1
  have Hn := hid hn
  have Hm := hid hm
  rw [hn] at hX
  rw [hm] at hY
  have hw0 : IntKind.i64.wrap ((n : Int) + m) = (n : Int) + m := by rw [IntKind.wrap_i64]; omega
  clear h0 h1 hn hm
  go_enter Try.func6, Try.ntmps6
  go_wp2_with fail
  refine (lives8 _).mono ?_
  rintro e W1 ⟨rfl, hb⟩
  have B1 := hid hb
  clear hb
  by_cases h300 : n + m > 300
  · have h3 : (300 : Int) < (n : Int) + m := by omega
    go_wp2
    go_ret
    exact ⟨rfl, B1.out⟩
  · have h3 : ¬ (300 : Int) < (n : Int) + m := by omega
    go_wp2_with fail
    refine (new9 _).mono ?_
    rintro e W2 ⟨rfl, hl, hb⟩
    have L2 : Hid (LO W2 W1.heap.size W1.heap.size (.slice none 0 0) []) := ⟨hl, Nat.le_refl _, fun g hg => by simp [Value.ownBlock] at hg⟩
    have B2 := hid (below_next B1.out hb)
    have z12 : W1.heap.size < W2.heap.size := hl.lt
    clear hl hb
    go_wp2_with fail
    refine (new9 _).mono ?_
    rintro e W3 ⟨rfl, hl, hb⟩
    have K3 : Hid (LO W3 W1.heap.size W2.heap.size (.slice none 0 0) []) := ⟨hl, by omega, fun g hg => by simp [Value.ownBlock] at hg⟩
    have L3 := hid (L2.out.below hb)
    have B3 := hid (below_next B2.out hb)
    have z23 : W2.heap.size < W3.heap.size := hl.lt
    have z01 : w.heap.size ≤ W1.heap.size := B1.out.size
    clear hl hb L2 B1 B2
    go_wp2
    go_loopw [7] (fun x wr => ∃ k : Nat, k ≤ n ∧ x = .int .i64 k ∧ (∃ rv, LO wr W1.heap.size W1.heap.size rv ((X.take k).foldl putL []) ∧ rv.ownBlock ≠ some W2.heap.size) ∧ LO wr W1.heap.size W2.heap.size (.slice none 0 0) [] ∧ Below w.heap.size w wr ∧ W1.heap.size ≤ wr.heap.size) (fun x _ => n - (intOf x).toNat)
    case atStart => exact ⟨0, Nat.zero_le _, rfl, ⟨_, L3.out, by simp [Value.ownBlock]⟩, K3.out, B3.out, by omega⟩
    case round =>
      obtain ⟨k, hk, rfl, ⟨rv, hl, hne⟩, hkk, hb, hz⟩ := hrel
      clear L3 K3 B3
      have LL := hid hl
      have KK := hid hkk
      have BB := hid hb
      have HNE := hid hne
      clear hl hkk hb hne
      by_cases hlt : k < n
      · obtain ⟨r, hr⟩ := get_of_lt (L := X) (k := k) (by rw [Hn.out]; exact hlt)
        obtain ⟨ba, off, rfl, c1, c2, c3⟩ := (HA.out.below BB.out).at hr
        have hr1 := HA.out.1 r (List.mem_of_getElem? hr)
        have l1 : (k : Int) < n := by omega
        have hwr : IntKind.i64.wrap r.c = r.c := by rw [IntKind.wrap_i64]; omega
        have e1 := hid (show (X.take (k + 1)).foldl putL [] = putL ((X.take k).foldl putL []) r by rw [take_snoc hr]; simp)
        have T1 := hid (fold_tot (X := X) (k := k) pos_nil HA.out.1 hr (by omega) (by simp [tot]))
        have R1 := hid (fold_room (X := X) (A := []) (k := k) (by omega) (by simp))
        have Hr1 := hid hr1.1
        have LD := hid (LL.out.below (Below.refl _ _).drew)
        clear hr hr1
        go_wp2
        go_region_with (first | (go_at_call 17; refine (noteLO (r := r) LD.out Hr1.out T1.out R1.out hz).mono ?_; rintro e w2 ⟨rfl, rv2, hl2, hk2, hn2⟩; have L2 := hid hl2; have K2 := hid hk2; have N2 := hid hn2; clear hl2 hk2 hn2))
        all_goals go_wp2
        all_goals
          have KK2 : LO w2 W1.heap.size W2.heap.size (.slice none 0 0) [] := (KK.out.below (Below.refl _ _).drew).kept K2.out (fun e => by rcases e with e | e; omega; exact HNE.out e) (fun g hg => by simp [Value.ownBlock] at hg)
          have BB2 : Below w.heap.size w w2 := BB.out.drew.trans (K2.out.below (by show w.heap.size ≤ wr.heap.size; omega) (fun q hq e => by rcases e with e | e; omega; have := LL.out.far q e; omega))
          have NE2 : rv2.ownBlock ≠ some W2.heap.size := fun e => by
            rcases N2.out _ e with h | h
            · exact HNE.out h
            · have h2 : wr.heap.size ≤ W2.heap.size := h
              have := KK.out.led.lt
              omega
          have Z2 : W1.heap.size ≤ w2.heap.size := Nat.le_trans hz K2.out.size
          have KB := hid KK2
          have BBB := hid BB2
          have NEE := hid NE2
          clear KK2 BB2 NE2
        all_goals go_roundw
        all_goals first
          | exact ⟨k + 1, by omega, by go_num, ⟨rv2, by rw [e1.out]; exact L2.out, NEE.out⟩, KB.out, BBB.out, Z2⟩
          | (simp [intOf]; omega)
      · have e : k = n := by omega
        subst e
        have e3 : Hid (X.take k = X) := List.take_of_length_le (by rw [Hn.out]; exact Nat.le_refl _)
        have LA : Hid (LO wr W1.heap.size W1.heap.size rv (X.foldl putL [])) := by have := LL.out; rw [e3.out] at this; exact this
        obtain ⟨A, hA⟩ : ∃ A, X.foldl putL [] = A := ⟨_, rfl⟩
        rw [hA] at LA
        have HAe := hid hA
        have Aroom : Hid (A.length ≤ 300) := by show _ ≤ _; rw [← hA]; have := fold_len X []; rw [Hn.out] at this; simp at this; omega
        have Apos : Hid (Pos A) := by rw [← hA]; exact fold_pos X [] pos_nil
        have Atot : Hid (tot A = net X) := by show _ = _; rw [← hA, tot_fold pos_nil (by simp only [tot]; have := net_bound HA.out.1; rw [Hn.out] at this; omega)]; simp [tot]
        have Anet : Hid (net X ≤ 65535 * 300) := by show _ ≤ _; have := net_bound HA.out.1; rw [Hn.out] at this; omega
        clear LL hA
        obtain ⟨wa, hwa⟩ : ∃ x, x = wr := ⟨_, rfl⟩
        subst hwa
        go_wp2_with fail
        refine (runs22 _ rv A _ LA.out.led (by have := Aroom.out; omega)).mono ?_
        rintro e W4 ⟨was, rfl, ho, hb⟩
        have WAS := hid ho
        have LB := hid (LA.out.below hb)
        have KB := hid (KK.out.below hb)
        have BB4 := hid (below_next BB.out hb)
        have z4 : wa.heap.size ≤ W4.heap.size := hb.size
        have zr : Hid (∀ g, rv.ownBlock = some g → g < wa.heap.size) := fun g hg => (LA.out.led.own.lt g hg).2
        have kl2 : W2.heap.size < wa.heap.size := KK.out.led.lt
        clear ho hb LA KK BB
        go_wp2_with fail
        refine (mark21 _ rv A _ LB.out.led).mono ?_
        rintro e w' ⟨rfl, rfl⟩
        go_wp2
        go_loopw [10] (fun x wr => ∃ k : Nat, k ≤ m ∧ x = .int .i64 k ∧ (∃ r1 r2, LO wr W1.heap.size W1.heap.size r1 ((Y.take k).foldl putL A) ∧ LO wr W1.heap.size W2.heap.size r2 ((Y.take k).foldl putL []) ∧ r1.ownBlock ≠ some W2.heap.size ∧ r2.ownBlock ≠ some W1.heap.size ∧ (∀ g, r1.ownBlock = some g → r2.ownBlock ≠ some g ∧ (g < wa.heap.size ∨ w'.heap.size ≤ g)) ∧ (∀ g, r2.ownBlock = some g → w'.heap.size ≤ g)) ∧ Own wr wa.heap.size was A ∧ (∀ g, was.ownBlock = some g → g < w'.heap.size) ∧ Below w.heap.size w wr ∧ w'.heap.size ≤ wr.heap.size) (fun x _ => m - (intOf x).toNat)
        case atStart => exact ⟨0, Nat.zero_le _, rfl, ⟨rv, _, LB.out, KB.out, HNE.out, by simp [Value.ownBlock], fun g hg => ⟨by simp [Value.ownBlock], .inl (zr.out g hg)⟩, fun g hg => by simp [Value.ownBlock] at hg⟩, WAS.out, fun g hg => (WAS.out.lt g hg).2, BB4.out, Nat.le_refl _⟩
        case round =>
          obtain ⟨k2, hk2, rfl, ⟨r1, r2, hl1, hl2, hn1, hn2, hg1, hg2⟩, hwas, hwl, hb, hz2⟩ := hrel
          clear LB KB WAS BB4
          have P1 := hid hl1
          have P2 := hid hl2
          have P3 := hid hn1
          have P4 := hid hn2
          have P5 := hid hg1
          have P6 := hid hg2
          have P7 := hid hwas
          have P8 := hid hwl
          have P9 := hid hb
          clear hl1 hl2 hn1 hn2 hg1 hg2 hwas hwl hb
          by_cases hlt2 : k2 < m
          · obtain ⟨r, hr⟩ := get_of_lt (L := Y) (k := k2) (by rw [Hm.out]; exact hlt2)
            obtain ⟨ba, off, rfl, c1, c2, c3⟩ := (HB.out.below P9.out).at hr
            have hr1 := HB.out.1 r (List.mem_of_getElem? hr)
            have l1 : (k2 : Int) < m := by omega
            have hwr : IntKind.i64.wrap r.c = r.c := by rw [IntKind.wrap_i64]; omega
            have e1 := hid (show (Y.take (k2 + 1)).foldl putL A = putL ((Y.take k2).foldl putL A) r by rw [take_snoc hr]; simp)
            have e2 := hid (show (Y.take (k2 + 1)).foldl putL [] = putL ((Y.take k2).foldl putL []) r by rw [take_snoc hr]; simp)
            have T1 := hid (fold_tot (X := Y) (k := k2) Apos.out HB.out.1 hr (by omega) (by rw [Atot.out]; exact Anet.out))
            have T2 := hid (fold_tot (X := Y) (k := k2) pos_nil HB.out.1 hr (by omega) (by simp [tot]))
            have R1 := hid (fold_room (X := Y) (A := A) (k := k2) (by omega) Aroom.out)
            have R2 := hid (fold_room (X := Y) (A := []) (k := k2) (by omega) (by simp))
            have Hr1 := hid hr1.1
            have HRR := hid hr
            have LD := hid (P1.out.below (Below.refl _ _).drew)
            have hb1 : W1.heap.size ≤ wr.heap.size := by omega
            clear hr hr1
            go_wp2
            go_region_with (first | (go_at_call 17; refine (noteLO (r := r) LD.out Hr1.out T1.out R1.out hb1).mono ?_; rintro e w2 ⟨rfl, q1, hl2, hk3, hn3⟩; have L2 := hid hl2; have K2 := hid hk3; have N2 := hid hn3; clear hl2 hk3 hn3))
            all_goals
              have S1 := stepL P1.out P2.out P3.out P4.out P5.out P6.out P7.out P8.out P9.out K2.out N2.out z01 (by omega) kl2 z4 hz2 z12
              obtain ⟨s1, s2, s3, s4, s5, s6, s7⟩ := S1
              obtain ⟨ba', off', hbb, x1, x2, x3⟩ := (HB.out.below s5).at HRR.out
              simp only [Option.some.injEq, Addr.mk.injEq, and_true] at hbb
              obtain ⟨rfl, rfl⟩ := hbb
              have Q1 := hid s1
              have Q2 := hid s2
              have Q3 := hid s3
              have Q4 := hid s4
              have Q5 := hid s5
              have Q6 := hid s6
              have LD2 := hid (s1.below (Below.refl _ _).drew)
              have hb2 : W1.heap.size ≤ w2.heap.size := by omega
              clear s1 s2 s3 s4 s5 s6 c1 c2 c3
            all_goals go_wp2
            all_goals go_region_with (first | (go_at_call 17; refine (noteLO (r := r) LD2.out Hr1.out T2.out R2.out hb2).mono ?_; rintro e w3 ⟨rfl, q2, hl2, hk3, hn3⟩; have M2 := hid hl2; have KM := hid hk3; have NM := hid hn3; clear hl2 hk3 hn3))
            all_goals
              have F1 := stepK L2.out Q1.out Q2.out Q3.out Q4.out P4.out P6.out Q5.out P8.out KM.out NM.out z01 (by omega) kl2 z4 s7 z12 z23
              have FF := hid F1
              clear F1
            all_goals go_wp2
            all_goals go_roundw
            all_goals first
              | exact ⟨k2 + 1, by omega, by go_num, ⟨q1, q2, by rw [e1.out]; exact FF.out.1, by rw [e2.out]; exact M2.out, FF.out.2.1⟩, FF.out.2.2⟩
              | (simp [intOf]; omega)
          · have e : k2 = m := by omega
            subst e
            have e4 : Hid (Y.take k2 = Y) := List.take_of_length_le (by rw [Hm.out]; exact Nat.le_refl _)
            obtain ⟨B, hB⟩ : ∃ B, Y.foldl putL A = B := ⟨_, rfl⟩
            obtain ⟨C, hC⟩ : ∃ C, Y.foldl putL [] = C := ⟨_, rfl⟩
            have LB : Hid (Led wr W1.heap.size r1 B) := by have := P1.out.led; rw [e4.out, hB] at this; exact this
            have LC : Hid (Led wr W2.heap.size r2 C) := by have := P2.out.led; rw [e4.out, hC] at this; exact this
            have hny := net_bound HB.out.1
            rw [Hm.out] at hny
            have hA300 := Anet.out
            have hAt := Atot.out
            have hbnd : tot A + net Y ≤ 9223372036854775807 := by omega
            have Btot : Hid (tot B = tot A + net Y) := by show _ = _; rw [← hB, tot_fold Apos.out hbnd]
            have Bpos : Hid (Pos B) := by rw [← hB]; exact fold_pos Y A Apos.out
            have Achk : Hid (Chk A) := by rw [← HAe.out]; exact chk_fold X [] chk_nil
            have Bchk : Hid (Chk B) := by rw [← hB]; exact chk_fold Y A Achk.out
            have Since1 : Hid (sinceL B (tot A) = C) := by show _ = _; rw [← hB, ← hC]; exact marks_since Apos.out hbnd
            have Join1 : Hid (joinL A C = B) := by
              show C.foldl putL (A.foldl putL []) = B
              have h1 : A.foldl putL [] = [] ++ A := fold_self (by simpa using Achk.out)
              rw [h1, List.nil_append, ← hC, fold_fold Apos.out pos_nil (by simp only [tot]; omega)]
              exact hB
            have Bl : Hid (B.length ≤ 600) := by
              show _ ≤ _
              rw [← hB]
              have h1 := fold_len Y A
              have h2 := Aroom.out
              rw [Hm.out] at h1
              omega
            have Cl : Hid (C.length ≤ 300) := by
              show _ ≤ _
              rw [← hC]
              have h1 := fold_len Y []
              rw [Hm.out] at h1
              simp at h1
              omega
            have Bts : Hid (totS B = tot B) := totS_pos Bpos.out (by rw [Btot.out]; omega)
            have Ats : Hid (totS A = tot A) := totS_pos Apos.out (by omega)
            have hAr : Hid (-9223372036854775808 ≤ tot A ∧ tot A ≤ 9223372036854775807) := by have := tot_pos Apos.out; constructor <;> omega
            have hB0 : Hid (tot B ≤ 65535 * 600) := by show _ ≤ _; rw [Btot.out]; omega
            have WS := hid P7.out
            have WB := hid P9.out
            obtain ⟨wb, hwb⟩ : ∃ x, x = wr := ⟨_, rfl⟩
            subst hwb
            clear P1 P2 P3 P4 P5 P6 P7 P8 P9 hB hC hny hA300 hAt hbnd hlt2
            have hal := Aroom.out
            have hbl := Bl.out
            have hcl := Cl.out
            go_wp2_with fail
            refine (runs22 _ r1 B _ LB.out (by omega)).mono ?_
            rintro e W5 ⟨now, rfl, ho, hb⟩
            have NOW5 := hid ho
            have D5 := hid hb
            clear ho hb
            go_wp2_with fail
            refine (since23 _ r1 B (tot A) _ (LB.out.below D5.out) (by omega) hAr.out).mono ?_
            rintro e W6 ⟨tail, rfl, ho, hb⟩
            rw [Since1.out] at ho
            have TAIL6 := hid ho
            have NOW6 := hid (NOW5.out.below hb)
            have D6 := hid (below_next D5.out hb)
            clear ho hb NOW5 D5
            go_wp2_with fail
            refine (check32 _ B _ NOW6.out.reads (by omega)).mono ?_
            rintro e W7 ⟨z, rfl, hz7, hb⟩
            obtain rfl : z = 0 := by
              rcases hz7 with ⟨h, _⟩ | ⟨_, h⟩
              · exact h
              · exact absurd Bchk.out h
            have N7 := hid hb
            clear hb hz7
            go_wp2_with fail
            refine (total33 _ B _ (NOW6.out.reads.below N7.out) (by omega)).mono ?_
            rintro e W8 ⟨rfl, hb⟩
            rw [Bts.out]
            have N8 := hid (below_next N7.out hb)
            clear hb N7
            go_wp2_with fail
            refine (len20 _ r1 B _ (LB.out.below (below_next D6.out N8.out))).mono ?_
            rintro e w9 ⟨rfl, rfl⟩
            go_wp2_with fail
            refine (runs22 _ r2 C _ (LC.out.below (below_next D6.out N8.out)) (by omega)).mono ?_
            rintro e W10 ⟨kr, rfl, ho, hb⟩
            have KR := hid ho
            have N10 := hid (below_next N8.out hb)
            clear ho hb N8
            go_wp2_with fail
            refine (same14 _ _ C C _ (TAIL6.out.reads.below N10.out) KR.out.reads (by omega) (by omega)).mono ?_
            rintro e w9 ⟨rfl, d1, rfl⟩
            rw [show decide (C = C) = true from decide_eq_true rfl]
            have N11 := hid (below_drew' N10.out d1)
            clear N10 KR
            go_wp2_with fail
            refine (join26 _ _ A C _ (WS.out.reads.below (below_next D6.out N11.out)) (TAIL6.out.reads.below N11.out) (by omega)).mono ?_
            rintro e W12 ⟨jn, rfl, ho, hb⟩
            rw [Join1.out] at ho
            have JN := hid ho
            have N12 := hid (below_next N11.out hb)
            clear ho hb N11
            go_wp2_with fail
            refine (same14 _ _ B B _ JN.out.reads (NOW6.out.reads.below N12.out) (by omega) (by omega)).mono ?_
            rintro e w9 ⟨rfl, d2, rfl⟩
            rw [show decide (B = B) = true from decide_eq_true rfl]
            have N13 := hid (below_drew' N12.out d2)
            clear N12 JN
            go_wp2_with fail
            refine (since23 _ r1 B 0 _ (LB.out.below (below_next D6.out N13.out)) (by omega) (by omega)).mono ?_
            rintro e W14 ⟨s0, rfl, ho, hb⟩
            rw [since_low (Int.le_refl 0)] at ho
            have S0 := hid ho
            have N14 := hid (below_next N13.out hb)
            clear ho hb N13
            go_wp2_with fail
            refine (same14 _ _ B B _ S0.out.reads (NOW6.out.reads.below N14.out) (by omega) (by omega)).mono ?_
            rintro e w9 ⟨rfl, d3, rfl⟩
            rw [show decide (B = B) = true from decide_eq_true rfl]
            have N15 := hid (below_drew' N14.out d3)
            clear N14 S0
            go_wp2_with fail
            refine (total33 _ A _ (WS.out.reads.below (below_next D6.out N15.out)) (by omega)).mono ?_
            rintro e W16 ⟨rfl, hb⟩
            rw [Ats.out]
            have N16 := hid (below_next N15.out hb)
            clear hb N15
            have B16 := hid (below_next WB.out (below_next D6.out N16.out))
            have L16 := hid (LB.out.below (below_next D6.out N16.out))
            have NW16 := hid (NOW6.out.reads.below N16.out)
            clear N16 NOW6 TAIL6 D6 LB LC WS WB
            go_wp2
            go_loopw [13, 14] (fun s x wr => ∃ k : Nat, k ≤ 256 ∧ x = .int .i64 k ∧ s = .int .i64 (cntTo B k) ∧ Below W16.heap.size W16 wr) (fun _ x _ => 256 - (intOf x).toNat)
            case atStart => exact ⟨0, Nat.zero_le _, rfl, rfl, Below.refl _ _⟩
            case round =>
              obtain ⟨k3, hk3, rfl, rfl, hb3⟩ := hrel
              have H3 := hid hb3
              clear hb3
              have cb := cntTo_bound Bpos.out k3
              have hB6 := hB0.out
              by_cases hlt3 : k3 < 256
              · have l3 : (k3 : Int) < 256 := by omega
                have cc := cnt_bound (k3 : Int) Bpos.out
                have hw3 : IntKind.u8.wrap (k3 : Int) = (k3 : Int) := by rw [IntKind.wrap_u8]; omega
                have hcb : cntTo B k3 ≤ 256 * (65535 * 600) := Int.le_trans cb.2 (by
                  have h1 : (k3 : Int) * tot B ≤ 256 * tot B := Int.mul_le_mul_of_nonneg_right (by omega) (by omega)
                  omega)
                have hw4 : IntKind.i64.wrap (cntTo B k3 + cnt (k3 : Int) B) = cntTo B k3 + cnt (k3 : Int) B := by rw [IntKind.wrap_i64]; omega
                have L17 := hid (L16.out.below H3.out)
                clear cb cc hcb hB6
                go_wp2_with (go_at_call 24; refine (count24 _ r1 B (k3 : Int) _ L17.out (by omega)).mono ?_; rintro e w18 ⟨rfl, hb18⟩; have H18 := hid (below_next H3.out hb18); clear hb18)
                go_roundw
                case rel => exact ⟨k3 + 1, by omega, by go_num, rfl, H18.out⟩
                case measure => simp [intOf]; omega
              · have e : k3 = 256 := by omega
                subst e
                have ec := hid (cntTo_all L16.out.own.1)
                rw [ec.out]
                clear cb hB6
                go_wp2_with fail
                refine (len20 _ r1 B _ (L16.out.below H3.out)).mono ?_
                rintro e w19 ⟨rfl, rfl⟩
                go_wp2_with fail
                refine (gone34 _ r1 now B _ (L16.out.below H3.out) (NW16.out.below H3.out) (by omega)).mono ?_
                rintro e w20 ⟨rfl, hb⟩
                have H20 := hid (below_next B16.out (below_next H3.out hb))
                clear hb
                go_wp2
                go_ret
                exact ⟨rfl, H20.out⟩
end Go.Proofs.Ytonggccbgiecmaa
