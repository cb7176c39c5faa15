/- What each call of the document's answer to chapter 1 (package gessoref1) does: one contract a function. -/
import Derived.Test.YtgggmdanpdggpacRows
import Derived.Test.YtgggmdanpdggpacPlain
import Derived.WalkKit
import Derived.WalkSpells
import Derived.WalkLawsBesides
import Derived.Test.YtgggmdanpdggpacWord
namespace Go.Proofs.Ytgggmdanpdggpac

theorem tmod_odd {o : Int} (h : o % 2 = 1) : (o.tmod 2 != 0) = true := by
  have : o.tmod 2 ≠ 0 := fun e => by
    obtain ⟨k, hk⟩ := Int.dvd_of_tmod_eq_zero e
    omega
  simpa using this
theorem tmod_even {o : Int} (h : o % 2 = 0) : (o.tmod 2 != 0) = false := by
  have : o.tmod 2 = 0 := Int.tmod_eq_zero_of_dvd ⟨o / 2, by omega⟩
  simp [this]
theorem mod_odd {o : Int} (h : o % 2 = 1) : (o % 2 != 0) = true := by simp [h]
theorem mod_even {o : Int} (h : o % 2 = 0) : (o % 2 != 0) = false := by simp [h]

end Go.Proofs.Ytgggmdanpdggpac
