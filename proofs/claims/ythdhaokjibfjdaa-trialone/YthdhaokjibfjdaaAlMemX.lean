/- TriAlone: scans in memory. -/
import Derived.Test.YthdhaokjibfjdaaAlPlainX
import Derived.Test.YthdhaokjibfjdaaTriGoX
namespace Go.Proofs.Ythdhaokjibfjdaa
open Go.RowKit

/-- The cells of a scan, and of many. -/
abbrev opCells : List Value := [.int .i64 1, .int .i64 0, .int .i64 0, .int .i64 0, .int .i64 0, .int .i64 0]
def scansV (n : Nat) : List Value := (List.replicate n opCells).flatten
theorem scans_succ (n : Nat) : scansV (n + 1) = scansV n ++ opCells := by
  unfold scansV; rw [List.replicate_succ', List.flatten_append]; simp
theorem scans_length (n : Nat) : (scansV n).length = n * 6 := by
  induction n with
  | zero => rfl
  | succ n ih => rw [scans_succ, List.length_append, ih]; simp; omega
theorem scans_get : ∀ (n i j : Nat), i < n → j < 6 → (scansV n)[i * 6 + j]? = opCells[j]?
  | n + 1, i, j, hi, hj => by
    rw [scans_succ]
    by_cases h : i < n
    · rw [List.getElem?_append_left (by rw [scans_length]; omega)]; exact scans_get n i j h hj
    · have e : i = n := by omega
      subst e
      rw [List.getElem?_append_right (by rw [scans_length]; omega), scans_length, show i * 6 + j - i * 6 = j by omega]
theorem scans_at {w : World} {B g c n : Nat} {t : TypeId} (h : w.ownsRow B t 6 (sl g n c) n (scansV n)) : OpsAt (some ⟨g, 0, none⟩) (List.replicate n scan1) w := fun _ => by
  refine ⟨g, 0, rfl, (h.lt g rfl).2, fun i hi => ?_⟩
  rw [List.length_replicate] at hi
  have key : ∀ j u, j < 6 → opCells[j]? = some u → w.cell? ⟨g, 0 + i * 6 + j, none⟩ = some u := fun j u hj hu => by
    have h1 := h.cells (g := g) rfl (i * 6 + j) u (by rw [scans_get n i j hi hj]; exact hu)
    have e : (⟨g, 0, none⟩ : Addr).add (i * 6 + j) = ⟨g, 0 + (i * 6 + j), none⟩ := by
      unfold Addr.add
      split
      · rename_i h0; rw [h0]
      · rfl
    rw [e, ← Nat.add_assoc] at h1; exact h1
  simp only [List.getElem_replicate]
  exact ⟨key 0 _ (by decide) rfl, key 1 _ (by decide) rfl, key 2 _ (by decide) rfl, key 3 _ (by decide) rfl, key 4 _ (by decide) rfl, key 5 _ (by decide) rfl⟩
theorem tyOps : Try.prog.underlying 26 = some (.slice 28) := by kernel_rfl
theorem infoOp0 : (Try.prog.info? 28).map (fun i => (i.zero, i.size, i.bytes)) = some (some (.agg #[.int .i64 0, .int .i64 0, .int .i64 0, .int .i64 0, .int .i64 0, .int .i64 0]), 6, 48) := by kernel_rfl
theorem infoOp : ∃ i z, Try.prog.info? 28 = some i ∧ i.zero = some z ∧ i.size = 6 ∧ i.bytes = 48 ∧ z.cells.size = 6 := by
  have h := infoOp0
  cases hi : Try.prog.info? 28 with
  | none => rw [hi] at h; cases h
  | some i =>
    rw [hi] at h
    simp only [Option.map_some, Option.some.injEq, Prod.mk.injEq] at h
    exact ⟨i, _, rfl, h.1, h.2.1, h.2.2, by kernel_rfl⟩
theorem row9 (w : World) : Row (w.alloc (.cells #[.int .i64 0, .int .i64 3, .int .i64 0, .int .i64 1, .int .i64 0, .int .i64 0, .int .i64 2, .int .i64 4, .int .i64 0] 3)) w.heap.size 0 W9 := by
  refine ⟨by simp, fun k hk => ?_, fun k => ?_⟩
  · have hk' : k < 9 := hk
    rw [Nat.zero_add, cell_at2 rfl]
    rcases k with _ | _ | _ | _ | _ | _ | _ | _ | _ | k
    all_goals first | rfl | omega
  · rcases k with _ | _ | _ | _ | _ | _ | _ | _ | _ | k
    all_goals first | decide | (rw [wd_past (by simp)]; decide)
end Go.Proofs.Ythdhaokjibfjdaa
