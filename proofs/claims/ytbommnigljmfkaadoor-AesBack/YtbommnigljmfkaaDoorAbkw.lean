/- The statement AesBack, walked, whatever the key is. -/
import Derived.Test.YtbommnigljmfkaaDoorAbk16
import Derived.Test.YtbommnigljmfkaaDoorAbk24
import Derived.Test.YtbommnigljmfkaaDoorAbk32
namespace Go.Proofs.YtbommnigljmfkaaDoor.Ae
open Go.ChangeShapes Go.WideShapes Go.ChangeAt Go.RowKit
open Go.Proofs.YtbommnigljmfkaaDoor.By Go.Proofs.YtbommnigljmfkaaDoor.Gf
theorem back_walk (a v p : Value) (na nv np : Nat) (fa fv fp : Nat → Int) (w : World) (hk : KM w ∧ KU w) (ha : By.RB w a na fa) (hv : By.RB w v nv fv) (hp : By.RB w p np fp) (hnv : nv ≤ 140737488355999) (hnp : np ≤ 140737488355999) :
    Calls Tryd.prog 5 #[a, v, p] w fun e w' => e = .returned (.bool true) ∧ Below w.heap.size w w' := by
  by_cases h1 : na = 16
  · subst h1
    obtain ⟨g, off, cap, rfl, hc, hcell⟩ := rb_at ha (by omega)
    exact back_ok16 fa (kf_lt ha.1) g off cap hc v p nv np fv fp w hk.1 hk.2 hcell hv hp hnv hnp
  · by_cases h2 : na = 24
    · subst h2
      obtain ⟨g, off, cap, rfl, hc, hcell⟩ := rb_at ha (by omega)
      exact back_ok24 fa (kf_lt ha.1) g off cap hc v p nv np fv fp w hk.1 hk.2 hcell hv hp hnv hnp
    · by_cases h3 : na = 32
      · subst h3
        obtain ⟨g, off, cap, rfl, hc, hcell⟩ := rb_at ha (by omega)
        exact back_ok32 fa (kf_lt ha.1) g off cap hc v p nv np fv fp w hk.1 hk.2 hcell hv hp hnv hnp
      · obtain ⟨_, ad, cap, rfl, _⟩ := ha
        exact back_bad ad na cap v p w hk.1 h1 h2 h3
end Go.Proofs.YtbommnigljmfkaaDoor.Ae
