/- The words with a thing more. No Go in sight. -/
import Derived.Test.YtabniplgibfgeaaKeepPlain
namespace Go.Proofs.Ytabniplgibfgeaa

/-- The words with one thing more. -/
def newWords (W : List Int) (cl fo si : Int) : List Int := (W ++ [cl, wd W 1, 4 * si + fo] ++ List.replicate si.toNat 0).set 1 (wd W 1 + 1)

theorem new_length (W : List Int) (cl fo : Int) (m : Nat) : (newWords W cl fo m).length = W.length + 3 + m := by
  simp [newWords]; omega
/-- The words that New makes are those that were, and a thing more. -/
theorem one_moreN (W : List Int) (cl fo : Int) (m : Nat) (h : 2 ≤ W.length) : OneMore W (newWords W cl fo m) cl fo m := by
  have hl : 1 < (W ++ [cl, wd W 1, 4 * (m : Int) + fo] ++ List.replicate m 0).length := by simp; omega
  have e : newWords W cl fo m = (W ++ [cl, wd W 1, 4 * (m : Int) + fo] ++ List.replicate m 0).set 1 (wd W 1 + 1) := by simp [newWords]
  have A : ∀ i, i < 3 → wd (W ++ [cl, wd W 1, 4 * (m : Int) + fo] ++ List.replicate m 0) (W.length + i) = wd [cl, wd W 1, 4 * (m : Int) + fo] i := fun i hi => by
    unfold wd
    rw [List.getD_eq_getElem?_getD, List.getElem?_append_left (by simp; omega), List.getElem?_append_right (by omega), Nat.add_sub_cancel_left]
    simp [List.getD_eq_getElem?_getD]
  refine ⟨new_length W cl fo m, fun i hi h1 => ?_, ?_, ?_, ?_, ?_, fun j hj => ?_⟩
  · rw [e, wd_set_other (by omega)]
    unfold wd
    rw [List.getD_eq_getElem?_getD, List.getElem?_append_left (by simp; omega), List.getElem?_append_left hi, List.getD_eq_getElem?_getD]
  · rw [e, wd_set_same hl]
  · rw [e, wd_set_other (by omega)]; exact A 0 (by omega)
  · rw [e, wd_set_other (by omega)]; exact A 1 (by omega)
  · rw [e, wd_set_other (by omega)]; exact A 2 (by omega)
  · rw [e, wd_set_other (by omega)]
    unfold wd
    rw [List.getD_eq_getElem?_getD, List.getElem?_append_right (by simp <;> omega)]
    have : W.length + 3 + j - (W ++ [cl, W.getD 1 0, 4 * (m : Int) + fo]).length = j := by simp <;> omega
    rw [this, List.getElem?_replicate, if_pos hj]; rfl

end Go.Proofs.Ytabniplgibfgeaa
