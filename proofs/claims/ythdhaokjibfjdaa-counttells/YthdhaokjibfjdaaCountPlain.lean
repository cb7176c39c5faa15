/- What chapter 19 says of counts, as plain functions on lists of numbers. No Go in sight. -/
import Derived.Test.YthdhaokjibfjdaaToPlain
namespace Go.Proofs.Ythdhaokjibfjdaa

/-- How many of some references are of the thing at k. -/
def cntL (L : List Int) (k : Nat) : Nat := (L.filter fun o => kindOf o == 3).count (2 * (k : Int))
/-- What all things lead to. -/
def allLeads (W : List Int) : List Int := (places W 2).flatMap (leadsAt W)
/-- By how many each thing is held. -/
def countsP (W R : List Int) : List Int := (places W 2).map fun p => (cntL (R ++ allLeads W) p : Int)
theorem cntL_nil (k : Nat) : cntL [] k = 0 := rfl
theorem cntL_append (L M : List Int) (k : Nat) : cntL (L ++ M) k = cntL L k + cntL M k := by
  unfold cntL; rw [List.filter_append, List.count_append]
theorem cntL_one (o : Int) (k : Nat) : cntL [o] k = if kindOf o = 3 ∧ pl2 o = k then 1 else 0 := by
  unfold cntL
  by_cases hk : kindOf o = 3
  · have := kind3 hk
    rw [List.filter_cons, if_pos (by simpa using hk), List.filter_nil, List.count_singleton]
    by_cases e : pl2 o = k
    · have : o = 2 * (k : Int) := by unfold pl2 at e; omega
      rw [if_pos (by simp [this]), if_pos ⟨hk, e⟩]
    · have : o ≠ 2 * (k : Int) := fun h => e (by unfold pl2; omega)
      rw [if_neg (by simpa using this), if_neg (fun h => e h.2)]
  · rw [List.filter_cons, if_neg (by simpa using hk), if_neg (fun h => hk h.1)]; rfl
theorem cntL_le (L : List Int) (k : Nat) : cntL L k ≤ L.length := by
  unfold cntL
  exact Nat.le_trans List.count_le_length (List.length_filter_le ..)
theorem cntL_pos {L : List Int} {k : Nat} : 0 < cntL L k ↔ kindOf (2 * (k : Int)) = 3 ∧ 2 * (k : Int) ∈ L := by
  unfold cntL
  rw [List.count_pos_iff, List.mem_filter]
  simp [and_comm]
/-- A list of counts. -/
def NOk (N W L : List Int) : Prop := N.length = W.length + 1 ∧ ∀ k, k ≤ W.length → wd N k = (cntL L k : Int)
theorem NOk.start (W : List Int) : NOk (List.replicate (W.length + 1) 0) W [] :=
  ⟨by simp, fun k _ => by unfold wd; rw [List.getD_eq_getElem?_getD, List.getElem?_replicate]; split <;> rfl⟩
theorem NOk.more {N W L : List Int} {o : Int} (h : NOk N W L) (hk : kindOf o = 3) (hp : pl2 o ≤ W.length) : NOk (N.set (pl2 o) (wd N (pl2 o) + 1)) W (L ++ [o]) := by
  refine ⟨by rw [List.length_set]; exact h.1, fun k hkl => ?_⟩
  rw [cntL_append, cntL_one]
  by_cases e : pl2 o = k
  · subst e
    rw [wd_set_same (by rw [h.1]; omega), if_pos ⟨hk, rfl⟩, h.2 _ hp]; omega
  · rw [wd_set_other e, if_neg (fun h => e h.2), h.2 k hkl]; omega
theorem NOk.pass {N W L : List Int} {o : Int} (h : NOk N W L) (hk : kindOf o ≠ 3) : NOk N W (L ++ [o]) := by
  refine ⟨h.1, fun k hkl => ?_⟩
  rw [cntL_append, cntL_one, if_neg (fun h => hk h.1), h.2 k hkl]; omega
theorem leads_lenC (W : List Int) (p : Nat) : (leadsAt W p).length ≤ 1 + slotsAt W p := by
  unfold leadsAt
  split
  · simp only [List.length_cons, List.length_take]; omega
  · simp
theorem leads_sum (W : List Int) : ∀ ps : List Nat, (ps.flatMap (leadsAt W)).length ≤ roomSum W ps
  | [] => Nat.le_refl _
  | p :: r => by
    have := leads_sum W r
    have := leads_lenC W p
    rw [List.flatMap_cons, List.length_append, roomSum, roomAt]; omega
end Go.Proofs.Ythdhaokjibfjdaa
