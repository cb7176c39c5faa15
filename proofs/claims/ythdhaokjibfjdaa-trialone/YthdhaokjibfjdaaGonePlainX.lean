/- Those that are not reached. No Go in sight. -/
import Derived.Test.YthdhaokjibfjdaaGd
namespace Go.Proofs.Ythdhaokjibfjdaa

open Classical in
/-- The places of those that are not reached, rising. -/
noncomputable def goneP (W R : List Int) : List Nat := (places W 2).filter fun p => decide (¬ Reached W R (2 * (p : Int)))
noncomputable def goneL (W R : List Int) : List Int := (goneP W R).map fun p : Nat => 2 * (p : Int)
theorem gone_seen {W R : List Int} {A : List Bool} (h : Tells W R A) : goneP W R = (places W 2).filter fun p => !bt A p := by
  unfold goneP
  refine List.filter_congr fun p _ => ?_
  rw [Bool.eq_iff_iff]
  simp only [decide_eq_true_eq, Bool.not_eq_true']
  rw [← h.2 p]
  simp
theorem gone_length (W R : List Int) : (goneL W R).length = (goneP W R).length := by unfold goneL; rw [List.length_map]
theorem sizesP (W : List Int) (hu : unfit W 2 = none) (h2 : 2 ≤ W.length) : (places W 2).length ≤ W.length := by
  have h1 := places_sum (W := W) _ 2 (Nat.le_refl _) h2 hu
  have h3 : ∀ l : List Nat, l.length ≤ roomSum W l := fun l => by
    induction l with
    | nil => exact Nat.zero_le _
    | cons a r ih => rw [roomSum, roomAt, List.length_cons]; omega
  have := h3 (places W 2)
  omega
/-- No more things than a third of the words. -/
theorem places_third {W : List Int} (hu : unfit W 2 = none) (h2 : 2 ≤ W.length) : 2 + 3 * (places W 2).length ≤ W.length := by
  have h1 := places_sum (W := W) _ 2 (Nat.le_refl _) h2 hu
  have h3 : ∀ l : List Nat, 3 * l.length ≤ roomSum W l := fun l => by
    induction l with
    | nil => exact Nat.zero_le _
    | cons a r ih => rw [roomSum, roomAt, List.length_cons]; omega
  have := h3 (places W 2)
  omega
open Classical in
/-- Those that are reached and those that are not are all. -/
theorem reach_gone (W R : List Int) : (reachList W R).length + (goneL W R).length = (places W 2).length := by
  have hp : (stayP W R).Perm ((places W 2).filter fun p => decide (Reached W R (2 * (p : Int)))) := by
    refine (List.perm_ext_iff_of_nodup ((stay_rises W R).imp fun h e => by omega) (List.Nodup.sublist (List.filter_sublist ..) (places_nodup _ 2 (Nat.le_refl _)))).2 fun p => ?_
    rw [mem_stay, List.mem_filter]
    refine ⟨fun h => ⟨?_, decide_eq_true h⟩, fun h => of_decide_eq_true h.2⟩
    have := (reached_place h).1; rwa [pl2_two] at this
  have e : (reachList W R).length = (stayP W R).length := by unfold stayP; rw [List.length_map]
  rw [e, hp.length_eq, gone_length]
  unfold goneP
  generalize places W 2 = l
  induction l with
  | nil => rfl
  | cons a r ih =>
    rw [List.filter_cons, List.filter_cons, List.length_cons, ← ih]
    by_cases h : Reached W R (2 * (a : Int))
    · rw [if_pos (decide_eq_true h), if_neg (by simp [h])]; simp only [List.length_cons]; omega
    · rw [if_neg (by simp [h]), if_pos (by simp [h])]; simp only [List.length_cons]; omega
end Go.Proofs.Ythdhaokjibfjdaa
