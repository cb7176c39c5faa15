/- What was laid anew: its numbers are numbers of the machine; the program and the document find it alike. -/
import Derived.Test.YthdhaokjibfjdaaMovePlain
import Derived.Test.YthdhaokjibfjdaaMem
namespace Go.Proofs.Ythdhaokjibfjdaa
open Go.RowKit

open Classical in
theorem tells_ex (W R : List Int) : ∃ A, Tells W R A := by
  refine ⟨(List.range W.length).map (fun k : Nat => decide (Reached W R (2 * (k : Int)))), by simp, fun k => ?_⟩
  unfold bt
  rw [List.getD_eq_getElem?_getD, List.getElem?_map]
  by_cases hk : k < W.length
  · rw [List.getElem?_range hk]; simp
  · rw [List.getElem?_eq_none (by simpa using hk)]
    constructor
    · intro h; cases h
    · intro h
      have := (place_ge (reached_place h).1).2
      rw [pl2_two] at this; omega
theorem Moves.holds {W R : List Int} {ps : List Nat} (M : Moves W R ps) : holdP W (movedW W ps) R (R.map (turnP W ps)) = true := by
  obtain ⟨A, hA⟩ := tells_ex W R
  obtain ⟨B, hB⟩ := tells_ex (movedW W ps) (R.map (turnP W ps))
  rw [(M.together hA hB).one_mind]; exact M.alike hA hB

/-- Numbers of the machine. -/
def AllWf (xs : List Int) : Prop := ∀ k, (Lit.int .i64 (wd xs k)).wf = true
theorem wf_mk {xs : List Int} (h : ∀ x ∈ xs, (Lit.int .i64 x).wf = true) : AllWf xs := fun k => by
  by_cases hk : k < xs.length
  · exact h _ (wd_mem hk)
  · have : wd xs k = 0 := by unfold wd; rw [List.getD_eq_getElem?_getD, List.getElem?_eq_none (by omega)]; rfl
    rw [this]; decide
theorem wf_mem {xs : List Int} (h : AllWf xs) {x : Int} (hx : x ∈ xs) : (Lit.int .i64 x).wf = true := by
  obtain ⟨i, _, rfl⟩ := wd_index hx; exact h i
theorem Moves.turn_wf {W R : List Int} {ps : List Nat} (M : Moves W R ps) {o : Int} (h : (Lit.int .i64 o).wf = true) : (Lit.int .i64 (turnP W ps o)).wf = true := by
  unfold turnP
  split
  · by_cases hm : pl2 o ∈ ps
    · have := (place_ge (M.begins hm)).2
      have := M.few
      go_wf
    · rw [newAt_none hm]; decide
  · exact h
theorem Moves.wf {W R : List Int} {ps : List Nat} (M : Moves W R ps) (h : AllWf W) : AllWf (movedW W ps) := by
  refine wf_mk fun x hx => ?_
  unfold movedW at hx
  rcases List.mem_cons.1 hx with rfl | hx
  · exact h 0
  rcases List.mem_cons.1 hx with rfl | hx
  · exact h 1
  obtain ⟨p, hp, hx⟩ := List.mem_flatMap.1 hx
  unfold thingW at hx
  rcases List.mem_cons.1 hx with rfl | hx
  · exact M.turn_wf (h p)
  rcases List.mem_cons.1 hx with rfl | hx
  · exact h (p + 1)
  rcases List.mem_cons.1 hx with rfl | hx
  · exact h (p + 2)
  have hs : ∀ y ∈ slotList W p, (Lit.int .i64 y).wf = true := fun y hy => by
    unfold slotList at hy
    exact wf_mem h (List.mem_of_mem_drop (List.mem_of_mem_take hy))
  unfold slotsW at hx
  split at hx
  · exact hs x hx
  · obtain ⟨y, hy, rfl⟩ := List.mem_map.1 hx
    exact M.turn_wf (hs y hy)
theorem Moves.wf_roots {W R : List Int} {ps : List Nat} (M : Moves W R ps) (h : AllWf R) : AllWf (R.map (turnP W ps)) := by
  refine wf_mk fun x hx => ?_
  obtain ⟨y, hy, rfl⟩ := List.mem_map.1 hx
  exact M.turn_wf (wf_mem h hy)
theorem swept_wf {W R : List Int} (M : Moves W R (stayP W R)) (h : AllWf W) : AllWf (sweptW W R) := M.wf h
theorem sweptR_wf {W R : List Int} (M : Moves W R (stayP W R)) (h : AllWf R) : AllWf (sweptR W R) := M.wf_roots h

end Go.Proofs.Ythdhaokjibfjdaa
