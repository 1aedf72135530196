/- The law DigestWiped. -/
import Derived.Test.YtojldjckpjokcaaDoorGsm
import Derived.Test.YtojldjckpjokcaaDoorRlen
import Derived.Test.YtojldjckpjokcaaDoorGmt
namespace Go.Proofs.YtojldjckpjokcaaDoor.Dg
open Go.ChangeShapes Go.WideShapes Go.ChangeAt Go.RowKit
open Go.Proofs.YtojldjckpjokcaaDoor.By
open Go.Proofs.YtojldjckpjokcaaDoor.Sh (Blk size_alloc)
theorem new256 (w : World) : Calls Tryd.prog 18 #[] w fun e w' => ∃ b, w.heap.size ≤ b ∧ e = .returned (.iface 69 (.agg #[.pointer (some ⟨b, 0, none⟩)])) ∧ IsD w' b false (some (0, fun _ => 0)) ∧ Below w.heap.size w w' := dnew false w
theorem copy256 (b m : Nat) (f : Nat → Int) (w : World) (h : IsD w b false (some (m, f))) : Calls Tryd.prog 105 #[.agg #[.pointer (some ⟨b, 0, none⟩)]] w fun e w' => ∃ c, w.heap.size ≤ c ∧ e = .returned (.iface 69 (.agg #[.pointer (some ⟨c, 0, none⟩)])) ∧ IsD w' c false (some (m, f)) ∧ Below w.heap.size w w' := dcopy false b m f w h
set_option maxRecDepth 8000 in
set_option maxHeartbeats 4000000 in
theorem wiped256 (A : Option Addr) (n cap : Nat) (f : Nat → Int) (w : World) (hr : By.RB w (.slice A n cap) n f) (hk : KT w) :
    Calls Tryd.prog 4 #[.bool false, .slice A n cap] w fun e w' => e = .returned (.bool true) ∧ Below w.heap.size w w' := by
  have HR := hid hr
  have HK := hid hk
  have H1 := hid hk.lt
  clear hr hk
  go_enter Tryd.func4, Tryd.ntmps4
  go_wp2_with fail
  refine (lives1 _ HK.out).mono ?_
  rintro e w1 ⟨rfl, hb⟩
  have b1 := hid hb
  clear hb
  by_cases hn : 8192 < n
  · go_wp2
    go_ret
    exact ⟨rfl, b1.out⟩
  · go_wp2_with fail
    refine (of256 _).mono ?_
    rintro e w2 ⟨rfl, hb⟩
    have b2 := hid (below_next (below_next b1.out hb) (below_alloc w2 (.cells #[.int .u8 1, .int .i64 32, .int .i64 64, .int .u8 1, .int .i64 64, .func (.func 18) #[] #[], .func (.func 19) #[] #[]] 31)))
    have h2 := hid (Sh.Blk.new w2 [.int .u8 1, .int .i64 32, .int .i64 64, .int .u8 1, .int .i64 64, .func (.func 18) #[] #[], .func (.func 19) #[] #[]] 31)
    clear hb b1
    go_wp2_with fail
    refine (new256 _).mono ?_
    rintro e w3 ⟨b, hbb, rfl, hs, hb⟩
    have s3 := hid hs
    have b3 := hid (below_next b2.out hb)
    have h3 := hid (h2.out.below hb)
    have hbb' := hid (Nat.le_trans b2.out.size hbb)
    clear hs hb hbb h2 b2
    go_wp2_with fail
    refine (new9 _).mono ?_
    rintro e w4 ⟨rfl, hl, hb⟩
    have l4 := hid hl
    have s4 := hid (s3.out.below hb)
    have b4 := hid (below_next b3.out hb)
    have h4 := hid (h3.out.below hb)
    have z4 := hid b3.out.size
    clear hl hb s3 b3 h3
    go_wp2_with fail
    have kb := hid (fun (w' : World) (hk' : Kp (fun j => j = b) w4 w') => show Below w.heap.size w w' from b4.out.trans (hk'.below b4.out.size (fun k hk e => by have : k = b := e; have := hbb'.out; omega)))
    refine (dwrite false b 0 n _ (fun _ => 0) f none [] (fun j => j = b) _ s4.out (HK.out.below b4.out) (by have := hbb'.out; have := H1.out; omega) (by have := hbb'.out; have := H1.out; omega) rfl trivial Sg.pos_nil' (fun w' h' => HR.out.below (kb.out w' h')) (by omega) (by decide)).mono ?_
    rintro e w5 ⟨rfl, hs, -, hk5⟩
    have s5 := hid (show IsD w5 b false (some (n, f)) from by rw [Nat.zero_add, show cat 0 (fun _ => 0) f = f from Sg.cat0 _ _] at hs; exact hs)
    have nb := hid (show b ≠ w2.heap.size ∧ b ≠ w3.heap.size from by
      obtain ⟨cs, hcs⟩ := s4.out.blk
      exact ⟨Sh.Blk.ne hcs h4.out (by decide), Sh.Blk.ne hcs l4.out.here (by decide)⟩)
    have h5 := hid (h4.out.kept hk5 (fun e => nb.out.1 e.symm))
    have l5 := hid (l4.out.kept hk5 (fun e => nb.out.2 e.symm) (fun g hg => by simp [Value.ownBlock] at hg))
    have b5 := hid (kb.out w5 hk5)
    clear hs hk5 kb s4 h4 l4 b4
    go_wp2_with fail
    refine (copy256 b n f _ s5.out).mono ?_
    rintro e w6 ⟨c, hcc, rfl, hc, hb⟩
    have c6 := hid hc
    have s6 := hid (s5.out.below hb)
    have h6 := hid (h5.out.below hb)
    have l6 := hid (l5.out.below hb)
    have b6 := hid (below_next b5.out hb)
    have ncb := hid (show c ≠ b ∧ c ≠ w2.heap.size ∧ c ≠ w3.heap.size from by
      obtain ⟨cs, hcs⟩ := s5.out.blk
      have e1 := hcs.lt
      have e2 := h5.out.lt
      have e3 : w3.heap.size < w5.heap.size := Sh.Blk.lt l5.out.here
      omega)
    clear hc hb hcc s5 h5 l5 b5
    go_wp2_with fail
    have kb := hid (fun (w' : World) (hk' : Kp (fun j => j = b ∨ j = w3.heap.size) w6 w') => show Below w.heap.size w w' from b6.out.trans (hk'.below b6.out.size (fun k hk e => by have := hbb'.out; have := z4.out; rcases e with e | e <;> omega)))
    refine (dwipe false b n f (some w3.heap.size) [] (fun j => j = b ∨ j = w3.heap.size) _ s6.out (.inl rfl) ⟨.inr rfl, _, l6.out, fun g hg _ => by simp [Value.ownBlock] at hg⟩ Sg.pos_nil' (by decide)).mono ?_
    rintro e w7 ⟨rfl, hs, ⟨-, rv, hl, -⟩, hk7⟩
    have s7 := hid hs
    have l7 := hid (show Led w7 w3.heap.size rv [⟨8, 104, 1⟩] from by rw [Sg.put_nil _ (by decide)] at hl; exact hl)
    have c7 := hid (c6.out.kept hk7 (by rintro (e | e); exact ncb.out.1 e; exact ncb.out.2.2 e))
    have h7 := hid (h6.out.kept hk7 (by rintro (e | e); exact nb.out.1 e.symm; exact Sh.Blk.ne h6.out l6.out.here (by decide) e))
    have b7 := hid (kb.out w7 hk7)
    clear hs hl hk7 kb s6 l6 c6 h6 b6
    go_wp2_with fail
    refine (runs22 _ _ _ _ l7.out (by show 1 * 24 ≤ 140737488355328; decide)).mono ?_
    rintro e w8 ⟨r8, rfl, hu, hb⟩
    have o8 := hid hu
    have s8 := hid (s7.out.below hb)
    have l8 := hid (l7.out.below hb)
    have c8 := hid (c7.out.below hb)
    have h8 := hid (h7.out.below hb)
    have b8 := hid (below_next b7.out hb)
    clear hu hb s7 l7 c7 h7 b7
    go_wp2_with fail
    have ol := own_lit w8 [⟨8, 104, 1⟩] #[.int .u8 8, .int .i64 104, .int .i64 1] (fun r hr => by simp at hr; subst hr; exact ⟨by decide, by decide, by decide⟩) rfl (by decide)
    refine (same14 _ _ [⟨8, 104, 1⟩] [⟨8, 104, 1⟩] _ ((o8.out.alloc _).reads) ol.reads (by decide) (by decide)).mono ?_
    rintro e w9 ⟨rfl, d9, rfl⟩
    clear ol o8
    obtain ⟨X, hX⟩ : ∃ x, (w8.alloc (.cells #[.int .u8 8, .int .i64 104, .int .i64 1] 50)).drewN d9 = x := ⟨_, rfl⟩
    have hb : Below w8.heap.size w8 X := by rw [← hX]; exact below_drew' (below_alloc w8 _) d9
    rw [hX]
    have s9 := hid (s8.out.below hb)
    have l9 := hid (l8.out.below hb)
    have c9 := hid (c8.out.below hb)
    have h9 := hid (h8.out.below hb)
    have b9 := hid (below_next b8.out hb)
    clear hX hb s8 l8 c8 h8 b8
    go_wp2_with fail
    refine (dsumN false b _ _ s9.out).mono ?_
    rintro e w10 ⟨rfl, rfl⟩
    go_wp2_with fail
    refine (dwriteN false b _ _ _ s9.out).mono ?_
    rintro e w10 ⟨rfl, rfl⟩
    go_wp2_with fail
    refine (dwipeN false b _ _ s9.out).mono ?_
    rintro e w10 ⟨rfl, rfl⟩
    go_wp2_with fail
    refine (dcopyN false b _ s9.out).mono ?_
    rintro e w10 ⟨rfl, hb⟩
    have s10 := hid (s9.out.below hb)
    have l10 := hid (l9.out.below hb)
    have c10 := hid (c9.out.below hb)
    have h10 := hid (h9.out.below hb)
    have b10 := hid (below_next b9.out hb)
    clear hb s9 l9 c9 h9 b9
    go_wp2_with fail
    refine (dformN false b _ s10.out).mono ?_
    rintro e w11 ⟨rfl, rfl⟩
    go_wp2_with fail
    refine (len20 _ _ _ _ l10.out).mono ?_
    rintro e w11 ⟨rfl, rfl⟩
    have et : tot [⟨8, 104, 1⟩] = 1 := rfl
    rw [et]
    clear et
    go_wp2_with fail
    refine (dsum false c n f none [] (fun _ => False) _ c10.out (HK.out.below b10.out) id id trivial Sg.pos_nil' (by omega) (by decide)).mono ?_
    rintro e w12 ⟨u, rfl, hu, -, hk12⟩
    have hb := Sg.below_kp hk12
    have u12 := hid (show By.Own w12 w11.heap.size u 32 (Sh.dig n f) from hu)
    have c12 := hid (c10.out.below hb)
    have h12 := hid (h10.out.below hb)
    have b12 := hid (below_next b10.out hb)
    have q6 := h12.out.cell 6 (.func (.func 19) #[] #[]) rfl
    clear hu hk12 hb s10 l10 c10 h10 b10
    go_wp2_with fail
    refine (dsumF false n _ f none [] (fun _ => False) _ (HK.out.below b12.out) id id trivial Sg.pos_nil' (fun w' h' => HR.out.below (below_next b12.out (Sg.below_kp h'))) (by omega) (by decide)).mono ?_
    rintro e w13 ⟨u', rfl, hu, -, hk13⟩
    have hb := Sg.below_kp hk13
    have v13 := hid (own_below u12.out hb).reads
    have u13 := hid (show By.Own w13 w12.heap.size u' 32 (Sh.dig n f) from hu).reads
    have c13 := hid (c12.out.below hb)
    have b13 := hid (below_next b12.out hb)
    clear hu hk13 hb u12 c12 h12 b12 q6
    go_wp2_with fail
    refine (same_true _ _ 32 _ _ _ v13.out u13.out (by decide) (fun _ _ => rfl)).mono ?_
    rintro e w14 ⟨rfl, d14, rfl⟩
    have c14 := hid (c13.out.below (below_drewN w13 d14))
    have b14 := hid (below_drew' b13.out d14)
    clear v13 u13 c13 b13
    go_wp2_with fail
    refine (dform false c n f _ c14.out).mono ?_
    rintro e w15 ⟨u', rfl, hu, hb⟩
    obtain ⟨gg, gc, rfl, -⟩ := own_cells (show By.Own w15 _ u' 104 _ from hu) (by decide)
    have b15 := hid (below_next b14.out hb)
    clear hu hb
    go_wp2
    go_ret
    exact ⟨rfl, b15.out⟩
theorem new512 (w : World) : Calls Tryd.prog 20 #[] w fun e w' => ∃ b, w.heap.size ≤ b ∧ e = .returned (.iface 74 (.agg #[.pointer (some ⟨b, 0, none⟩)])) ∧ IsD w' b true (some (0, fun _ => 0)) ∧ Below w.heap.size w w' := dnew true w
theorem copy512 (b m : Nat) (f : Nat → Int) (w : World) (h : IsD w b true (some (m, f))) : Calls Tryd.prog 111 #[.agg #[.pointer (some ⟨b, 0, none⟩)]] w fun e w' => ∃ c, w.heap.size ≤ c ∧ e = .returned (.iface 74 (.agg #[.pointer (some ⟨c, 0, none⟩)])) ∧ IsD w' c true (some (m, f)) ∧ Below w.heap.size w w' := dcopy true b m f w h
set_option maxRecDepth 8000 in
set_option maxHeartbeats 4000000 in
theorem wiped512 (A : Option Addr) (n cap : Nat) (f : Nat → Int) (w : World) (hr : By.RB w (.slice A n cap) n f) (hk : KT w) :
    Calls Tryd.prog 4 #[.bool true, .slice A n cap] w fun e w' => e = .returned (.bool true) ∧ Below w.heap.size w w' := by
  have HR := hid hr
  have HK := hid hk
  have H1 := hid hk.lt
  clear hr hk
  go_enter Tryd.func4, Tryd.ntmps4
  go_wp2_with fail
  refine (lives1 _ HK.out).mono ?_
  rintro e w1 ⟨rfl, hb⟩
  have b1 := hid hb
  clear hb
  by_cases hn : 8192 < n
  · go_wp2
    go_ret
    exact ⟨rfl, b1.out⟩
  · go_wp2_with fail
    refine (of512 _).mono ?_
    rintro e w2 ⟨rfl, hb⟩
    have b2 := hid (below_next (below_next b1.out hb) (below_alloc w2 (.cells #[.int .u8 2, .int .i64 64, .int .i64 128, .int .u8 2, .int .i64 128, .func (.func 20) #[] #[], .func (.func 21) #[] #[]] 31)))
    have h2 := hid (Sh.Blk.new w2 [.int .u8 2, .int .i64 64, .int .i64 128, .int .u8 2, .int .i64 128, .func (.func 20) #[] #[], .func (.func 21) #[] #[]] 31)
    clear hb b1
    go_wp2_with fail
    refine (new512 _).mono ?_
    rintro e w3 ⟨b, hbb, rfl, hs, hb⟩
    have s3 := hid hs
    have b3 := hid (below_next b2.out hb)
    have h3 := hid (h2.out.below hb)
    have hbb' := hid (Nat.le_trans b2.out.size hbb)
    clear hs hb hbb h2 b2
    go_wp2_with fail
    refine (new9 _).mono ?_
    rintro e w4 ⟨rfl, hl, hb⟩
    have l4 := hid hl
    have s4 := hid (s3.out.below hb)
    have b4 := hid (below_next b3.out hb)
    have h4 := hid (h3.out.below hb)
    have z4 := hid b3.out.size
    clear hl hb s3 b3 h3
    go_wp2_with fail
    have kb := hid (fun (w' : World) (hk' : Kp (fun j => j = b) w4 w') => show Below w.heap.size w w' from b4.out.trans (hk'.below b4.out.size (fun k hk e => by have : k = b := e; have := hbb'.out; omega)))
    refine (dwrite true b 0 n _ (fun _ => 0) f none [] (fun j => j = b) _ s4.out (HK.out.below b4.out) (by have := hbb'.out; have := H1.out; omega) (by have := hbb'.out; have := H1.out; omega) rfl trivial Sg.pos_nil' (fun w' h' => HR.out.below (kb.out w' h')) (by omega) (by decide)).mono ?_
    rintro e w5 ⟨rfl, hs, -, hk5⟩
    have s5 := hid (show IsD w5 b true (some (n, f)) from by rw [Nat.zero_add, show cat 0 (fun _ => 0) f = f from Sg.cat0 _ _] at hs; exact hs)
    have nb := hid (show b ≠ w2.heap.size ∧ b ≠ w3.heap.size from by
      obtain ⟨cs, hcs⟩ := s4.out.blk
      exact ⟨Sh.Blk.ne hcs h4.out (by decide), Sh.Blk.ne hcs l4.out.here (by decide)⟩)
    have h5 := hid (h4.out.kept hk5 (fun e => nb.out.1 e.symm))
    have l5 := hid (l4.out.kept hk5 (fun e => nb.out.2 e.symm) (fun g hg => by simp [Value.ownBlock] at hg))
    have b5 := hid (kb.out w5 hk5)
    clear hs hk5 kb s4 h4 l4 b4
    go_wp2_with fail
    refine (copy512 b n f _ s5.out).mono ?_
    rintro e w6 ⟨c, hcc, rfl, hc, hb⟩
    have c6 := hid hc
    have s6 := hid (s5.out.below hb)
    have h6 := hid (h5.out.below hb)
    have l6 := hid (l5.out.below hb)
    have b6 := hid (below_next b5.out hb)
    have ncb := hid (show c ≠ b ∧ c ≠ w2.heap.size ∧ c ≠ w3.heap.size from by
      obtain ⟨cs, hcs⟩ := s5.out.blk
      have e1 := hcs.lt
      have e2 := h5.out.lt
      have e3 : w3.heap.size < w5.heap.size := Sh.Blk.lt l5.out.here
      omega)
    clear hc hb hcc s5 h5 l5 b5
    go_wp2_with fail
    have kb := hid (fun (w' : World) (hk' : Kp (fun j => j = b ∨ j = w3.heap.size) w6 w') => show Below w.heap.size w w' from b6.out.trans (hk'.below b6.out.size (fun k hk e => by have := hbb'.out; have := z4.out; rcases e with e | e <;> omega)))
    refine (dwipe true b n f (some w3.heap.size) [] (fun j => j = b ∨ j = w3.heap.size) _ s6.out (.inl rfl) ⟨.inr rfl, _, l6.out, fun g hg _ => by simp [Value.ownBlock] at hg⟩ Sg.pos_nil' (by decide)).mono ?_
    rintro e w7 ⟨rfl, hs, ⟨-, rv, hl, -⟩, hk7⟩
    have s7 := hid hs
    have l7 := hid (show Led w7 w3.heap.size rv [⟨8, 200, 1⟩] from by rw [Sg.put_nil _ (by decide)] at hl; exact hl)
    have c7 := hid (c6.out.kept hk7 (by rintro (e | e); exact ncb.out.1 e; exact ncb.out.2.2 e))
    have h7 := hid (h6.out.kept hk7 (by rintro (e | e); exact nb.out.1 e.symm; exact Sh.Blk.ne h6.out l6.out.here (by decide) e))
    have b7 := hid (kb.out w7 hk7)
    clear hs hl hk7 kb s6 l6 c6 h6 b6
    go_wp2_with fail
    refine (runs22 _ _ _ _ l7.out (by show 1 * 24 ≤ 140737488355328; decide)).mono ?_
    rintro e w8 ⟨r8, rfl, hu, hb⟩
    have o8 := hid hu
    have s8 := hid (s7.out.below hb)
    have l8 := hid (l7.out.below hb)
    have c8 := hid (c7.out.below hb)
    have h8 := hid (h7.out.below hb)
    have b8 := hid (below_next b7.out hb)
    clear hu hb s7 l7 c7 h7 b7
    go_wp2_with fail
    have ol := own_lit w8 [⟨8, 200, 1⟩] #[.int .u8 8, .int .i64 200, .int .i64 1] (fun r hr => by simp at hr; subst hr; exact ⟨by decide, by decide, by decide⟩) rfl (by decide)
    refine (same14 _ _ [⟨8, 200, 1⟩] [⟨8, 200, 1⟩] _ ((o8.out.alloc _).reads) ol.reads (by decide) (by decide)).mono ?_
    rintro e w9 ⟨rfl, d9, rfl⟩
    clear ol o8
    obtain ⟨X, hX⟩ : ∃ x, (w8.alloc (.cells #[.int .u8 8, .int .i64 200, .int .i64 1] 50)).drewN d9 = x := ⟨_, rfl⟩
    have hb : Below w8.heap.size w8 X := by rw [← hX]; exact below_drew' (below_alloc w8 _) d9
    rw [hX]
    have s9 := hid (s8.out.below hb)
    have l9 := hid (l8.out.below hb)
    have c9 := hid (c8.out.below hb)
    have h9 := hid (h8.out.below hb)
    have b9 := hid (below_next b8.out hb)
    clear hX hb s8 l8 c8 h8 b8
    go_wp2_with fail
    refine (dsumN true b _ _ s9.out).mono ?_
    rintro e w10 ⟨rfl, rfl⟩
    go_wp2_with fail
    refine (dwriteN true b _ _ _ s9.out).mono ?_
    rintro e w10 ⟨rfl, rfl⟩
    go_wp2_with fail
    refine (dwipeN true b _ _ s9.out).mono ?_
    rintro e w10 ⟨rfl, rfl⟩
    go_wp2_with fail
    refine (dcopyN true b _ s9.out).mono ?_
    rintro e w10 ⟨rfl, hb⟩
    have s10 := hid (s9.out.below hb)
    have l10 := hid (l9.out.below hb)
    have c10 := hid (c9.out.below hb)
    have h10 := hid (h9.out.below hb)
    have b10 := hid (below_next b9.out hb)
    clear hb s9 l9 c9 h9 b9
    go_wp2_with fail
    refine (dformN true b _ s10.out).mono ?_
    rintro e w11 ⟨rfl, rfl⟩
    go_wp2_with fail
    refine (len20 _ _ _ _ l10.out).mono ?_
    rintro e w11 ⟨rfl, rfl⟩
    have et : tot [⟨8, 200, 1⟩] = 1 := rfl
    rw [et]
    clear et
    go_wp2_with fail
    refine (dsum true c n f none [] (fun _ => False) _ c10.out (HK.out.below b10.out) id id trivial Sg.pos_nil' (by omega) (by decide)).mono ?_
    rintro e w12 ⟨u, rfl, hu, -, hk12⟩
    have hb := Sg.below_kp hk12
    have u12 := hid (show By.Own w12 w11.heap.size u 64 (Sg.dig n f) from hu)
    have c12 := hid (c10.out.below hb)
    have h12 := hid (h10.out.below hb)
    have b12 := hid (below_next b10.out hb)
    have q6 := h12.out.cell 6 (.func (.func 21) #[] #[]) rfl
    clear hu hk12 hb s10 l10 c10 h10 b10
    go_wp2_with fail
    refine (dsumF true n _ f none [] (fun _ => False) _ (HK.out.below b12.out) id id trivial Sg.pos_nil' (fun w' h' => HR.out.below (below_next b12.out (Sg.below_kp h'))) (by omega) (by decide)).mono ?_
    rintro e w13 ⟨u', rfl, hu, -, hk13⟩
    have hb := Sg.below_kp hk13
    have v13 := hid (own_below u12.out hb).reads
    have u13 := hid (show By.Own w13 w12.heap.size u' 64 (Sg.dig n f) from hu).reads
    have c13 := hid (c12.out.below hb)
    have b13 := hid (below_next b12.out hb)
    clear hu hk13 hb u12 c12 h12 b12 q6
    go_wp2_with fail
    refine (same_true _ _ 64 _ _ _ v13.out u13.out (by decide) (fun _ _ => rfl)).mono ?_
    rintro e w14 ⟨rfl, d14, rfl⟩
    have c14 := hid (c13.out.below (below_drewN w13 d14))
    have b14 := hid (below_drew' b13.out d14)
    clear v13 u13 c13 b13
    go_wp2_with fail
    refine (dform true c n f _ c14.out).mono ?_
    rintro e w15 ⟨u', rfl, hu, hb⟩
    obtain ⟨gg, gc, rfl, -⟩ := own_cells (show By.Own w15 _ u' 200 _ from hu) (by decide)
    have b15 := hid (below_next b14.out hb)
    clear hu hb
    go_wp2
    go_ret
    exact ⟨rfl, b15.out⟩
end Go.Proofs.YtojldjckpjokcaaDoor.Dg
