/- What gessoref2.Things and gessoref1.Ints answer. -/
import Derived.Test.YtgggmdanpdggpacView3
namespace Go.Proofs.Ytgggmdanpdggpac
open Go.RowKit

/-- A slice that reads as those numbers. -/
def Reads (w : World) (v : Value) (xs : List Int) : Prop :=
  ∃ ad c, v = .slice ad xs.length c ∧ (0 < xs.length → ∃ b off, ad = some ⟨b, off, none⟩ ∧ b < w.heap.size ∧ ∀ k, k < xs.length → w.cell? ⟨b, off + k, none⟩ = some (.int .i64 (wd xs k)))

theorem Reads.of_row {w : World} {b off c : Nat} {xs : List Int} (h : Row w b off xs) : Reads w (.slice (some ⟨b, off, none⟩) xs.length c) xs :=
  ⟨_, _, rfl, fun _ => ⟨b, off, rfl, h.lt, h.cell⟩⟩
theorem Reads.of_own {w : World} {B : Nat} {v : Value} {xs : List Int} (h : w.ownsRow B 3 1 v xs.length (vals xs)) : Reads w v xs := by
  rcases h.2 with ⟨rfl, h0⟩ | ⟨g, cap, cur, rfl, hg, r⟩
  · exact ⟨none, 0, by rw [h0], fun h => by omega⟩
  · have h0 := own_mono (Nat.zero_le _) h
    exact ⟨_, _, rfl, fun _ => ⟨g, 0, rfl, own_lt h0, fun k hk => by rw [Nat.zero_add]; exact own_cell h0 hk⟩⟩
theorem Reads.below {w w' : World} {v : Value} {xs : List Int} (h : Reads w v xs) (hb : Below w.heap.size w w') : Reads w' v xs := by
  obtain ⟨ad, c, hv, hr⟩ := h
  refine ⟨ad, c, hv, fun h0 => ?_⟩
  obtain ⟨b, off, he, hlt, hc⟩ := hr h0
  exact ⟨b, off, he, by have := hb.size; omega, fun k hk => by rw [hb.cell (p := ⟨b, off + k, none⟩) hlt]; exact hc k hk⟩

/-- The first k numbers are the same. -/
def sameTo (xs ys : List Int) (k : Nat) : Prop := ∀ j, j < k → wd xs j = wd ys j
theorem same_all {xs ys : List Int} (hl : xs.length = ys.length) (h : sameTo xs ys xs.length) : (xs == ys) = true := by
  rw [beq_iff_eq]
  apply List.ext_getElem hl
  intro j h1 h2
  have := h j h1
  simpa [wd, List.getElem?_eq_getElem h1, List.getElem?_eq_getElem h2] using this
theorem same_not {xs ys : List Int} {j : Nat} (h : wd xs j ≠ wd ys j) : (xs == ys) = false := by
  rw [beq_eq_false_iff_ne]
  intro e; rw [e] at h; exact h rfl

theorem box_one {w wr : World} {a : Value} {t : TypeId} (hb : Below (w.alloc (.cells #[a] t)).heap.size (w.alloc (.cells #[a] t)) wr) : wr.cell? ⟨w.heap.size, 0, none⟩ = some a := by
  rw [hb.cell (p := ⟨w.heap.size, 0, none⟩) (by simp)]; simp

end Go.Proofs.Ytgggmdanpdggpac
