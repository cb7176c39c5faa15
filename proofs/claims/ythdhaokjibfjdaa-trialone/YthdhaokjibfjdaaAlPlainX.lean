/- TriAlone: the constant heap, and rows of scans. No Go in sight. -/
import Derived.Test.YthdhaokjibfjdaaTriScanX
import Derived.Test.YthdhaokjibfjdaaSeeRootsX
namespace Go.Proofs.Ythdhaokjibfjdaa

/-- The constant heap. -/
abbrev W9 : List Int := [0, 3, 0, 1, 0, 0, 2, 4, 0]
theorem roots9 : (rootsOf W9 [10]).1 = 0 := by decide +kernel
theorem check9 : (checkOf W9).1 = 0 := by decide +kernel
theorem places9 : places W9 2 = [2, 5] := by decide +kernel
theorem ok9 : ∀ x ∈ ([10] : List Int), okRef W9 x := by
  intro x hx
  rw [List.mem_singleton] at hx
  subst hx
  unfold okRef; decide +kernel
theorem reached9 {o : Int} (h : Reached W9 [10] o) : o = 10 := by
  induction h with
  | root hm _ => simpa using hm
  | @step x o hx hm ht ih =>
    subst ih
    have e : leadsAt W9 5 = [0, 0] := by decide +kernel
    have hm' : o ∈ leadsAt W9 5 := hm
    rw [e] at hm'
    have h0 : o = 0 := by simpa using hm'
    subst h0
    exact absurd ht (by decide +kernel)
theorem gone9 : goneL W9 [10] = [4] := by
  unfold goneL goneP
  rw [places9]
  have h1 : ¬ Reached W9 [10] (2 * ((2 : Nat) : Int)) := fun h => by have := reached9 h; omega
  have h2 : Reached W9 [10] (2 * ((5 : Nat) : Int)) := .root (by decide) (by decide +kernel)
  rw [List.filter_cons, if_pos (by simp only [decide_eq_true_eq]; exact h1), List.filter_cons, if_neg (by simp only [decide_eq_true_eq]; exact fun h => h h2)]
  rfl
/-- Scans alone. -/
abbrev scan1 : OpT := ⟨1, 0, 0, 0, 0, 0⟩
theorem scans_kind (n : Nat) : ∀ o ∈ List.replicate n scan1, o.kind = 1 := fun o ho => by rw [List.eq_of_mem_replicate ho]
theorem play9 (n : Nat) (hn : 2 ≤ n) : doneT (playT W9 [10] (List.replicate n scan1)) = true ∧ freedT (playT W9 [10] (List.replicate n scan1)) = [4] := by
  have hl : (places W9 2).length ≤ (List.replicate n scan1).length := by rw [places9, List.length_replicate]; exact hn
  exact ⟨alone_done (scans_kind n) hl, by rw [alone_gone check9 ok9 (scans_kind n) hl, gone9]⟩
end Go.Proofs.Ythdhaokjibfjdaa
