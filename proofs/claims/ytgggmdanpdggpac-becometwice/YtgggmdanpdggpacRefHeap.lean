/- What each call of the document's answer to chapter 2 (package gessoref2) does that only reads: one contract a function. -/
import Derived.Test.YtgggmdanpdggpacMem
import Derived.Test.YtgggmdanpdggpacRef
import Derived.Deep.QuietTactic
import Derived.BigQuiet
namespace Go.Proofs.Ytgggmdanpdggpac
open Go.RowKit
theorem next_num {W : List Int} {p : Nat} (h : 0 ≤ wd W (p + 2)) : (p : Int) + 3 + wd W (p + 2) / 4 = (nextAt W p : Nat) := by
  unfold nextAt slotsAt; omega
theorem ret_bool {a b : Bool} (h : a = b) : Ending.returned (.bool a) = .returned (.bool b) := by rw [h]
theorem kind_three {o : Int} (h : kindOf o = 3) : o % 2 = 0 ∧ 4 ≤ o ∧ o ≤ 3998 := by
  unfold kindOf at h
  split at h
  · cases h
  · split at h
    · cases h
    · split at h
      · assumption
      · cases h
theorem thing_no {W : List Int} {o : Int} (h : kindOf o ≠ 3) : thingB W o = false := by
  unfold thingB
  have : (kindOf o == 3) = false := by simpa using h
  rw [this]; rfl
theorem thing_yes {W : List Int} {o : Int} (h : kindOf o = 3) : thingB W o = beginB W (o / 2).toNat := by
  unfold thingB; rw [h]; rfl

theorem kind_two {o : Int} (h : kindOf o = 2) : o = 0 := by
  unfold kindOf at h
  split at h
  · assumption
  · split at h
    · cases h
    · split at h <;> cases h
theorem nil_zero {W : List Int} : nilB W 0 = true := rfl
theorem nil_else {W : List Int} {o : Int} (h : o ≠ 0) : nilB W o = thingB W o := by
  unfold nilB
  have : (kindOf o == 2) = false := by
    have : kindOf o ≠ 2 := fun e => h (kind_two e)
    simpa using this
  rw [this]; rfl

/-- A small reference, nil, or of a thing. -/
def fitsRef (W : List Int) (o : Int) : Bool := kindOf o == 1 || nilB W o
theorem stand_bytes {W : List Int} {what : Int} : standB W 1 what = decide (0 ≤ what ∧ what ≤ 255) := rfl
theorem stand_else {W : List Int} {form what : Int} (h : form ≠ 1) : standB W form what = fitsRef W what := by
  unfold standB; rw [if_neg h]; rfl
end Go.Proofs.Ytgggmdanpdggpac
