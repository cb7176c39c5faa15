/- Rows of one's own, roots, boxes: small facts on memory. -/
import Derived.Test.YthdhaokjibfjdaaLookX
import Derived.Test.YthdhaokjibfjdaaGrowX
import Derived.Test.YthdhaokjibfjdaaSeeRootsX
namespace Go.Proofs.Ythdhaokjibfjdaa
open Go.RowKit

/-- A row of one's own where all that lies below is as it was. -/
theorem own_same {w w' : World} {base n : Nat} {v : Value} {xs : List Value} (h : w.ownsRow base 3 1 v n xs) (hb : ∀ g, v.ownBlock = some g → w'.heap[g]? = w.heap[g]?) : w'.ownsRow base 3 1 v n xs := by
  obtain ⟨h1, h2⟩ := h
  refine ⟨h1, ?_⟩
  rcases h2 with h2 | ⟨g, cap, cur, rfl, hg, hh, r⟩
  · exact Or.inl h2
  · exact Or.inr ⟨g, cap, cur, rfl, hg, by rw [hb g rfl]; exact hh, r⟩

theorem Row.block {w w' : World} {b off : Nat} {xs : List Int} (h : Row w b off xs) (hb : w'.heap[b]? = w.heap[b]?) (hs : w.heap.size ≤ w'.heap.size) : Row w' b off xs :=
  ⟨by have := h.lt; omega, fun k hk => by rw [World.cell?_of_block (a := ⟨b, off + k, none⟩) hb]; exact h.cell k hk, h.wf⟩

theorem own_one (w : World) (x : Value) : (w.alloc (.cells #[x] 3)).ownsRow 0 3 1 (sl w.heap.size 1 1) 1 [x] :=
  ⟨rfl, Or.inr ⟨w.heap.size, 1, #[x], rfl, Nat.zero_le _, heap_alloc_new w _, Nat.le_refl _, by decide, rfl, rfl⟩⟩

theorem own_mono' {w : World} {B n g c : Nat} {xs : List Value} (h : w.ownsRow 0 3 1 (sl g n c) n xs) (hB : B ≤ g) : w.ownsRow B 3 1 (sl g n c) n xs := by
  obtain ⟨h1, h2⟩ := h
  refine ⟨h1, ?_⟩
  rcases h2 with ⟨h2, _⟩ | ⟨g', cap', cur, hv, _, r⟩
  · cases h2
  · have hv' := hv
    simp only [Value.slice.injEq, Option.some.injEq, Addr.mk.injEq, and_true, true_and] at hv
    obtain ⟨rfl, rfl⟩ := hv
    exact Or.inr ⟨g, c, cur, rfl, hB, r⟩

/-- What lies in three boxes of one, one and two cells. -/
theorem sweepBoxes {w w' : World} {a x y z : Value} {t t' t'' : TypeId} (hb : Below (((w.alloc (.cells #[a] t)).alloc (.cells #[x] t')).alloc (.cells #[y, z] t'')).heap.size (((w.alloc (.cells #[a] t)).alloc (.cells #[x] t')).alloc (.cells #[y, z] t'')) w') :
    (w'.cell? ⟨w.heap.size + 1, 0, none⟩ = some x ∧ w'.cell? ⟨w.heap.size + 1 + 1, 0, none⟩ = some y ∧ w'.cell? ⟨w.heap.size + 1 + 1, 1, none⟩ = some z) ∧
      (w'.frozen? ⟨w.heap.size + 1, 0, none⟩ = false ∧ w'.frozen? ⟨w.heap.size + 1 + 1, 0, none⟩ = false ∧ w'.frozen? ⟨w.heap.size + 1 + 1, 1, none⟩ = false) ∧ w.heap.size + 1 + 1 < w'.heap.size := by
  have hs := hb.size
  refine ⟨⟨?_, ?_, ?_⟩, ⟨?_, ?_, ?_⟩, by simp at hs; omega⟩
  · rw [hb.cell (p := ⟨w.heap.size + 1, 0, none⟩) (by simp), cell_past _ (by simp), cell_at2 (by simp)]; rfl
  · rw [hb.cell (p := ⟨w.heap.size + 1 + 1, 0, none⟩) (by simp), cell_at2 (by simp)]; rfl
  · rw [hb.cell (p := ⟨w.heap.size + 1 + 1, 1, none⟩) (by simp), cell_at2 (by simp)]; rfl
  · rw [hb.frozen (p := ⟨w.heap.size + 1, 0, none⟩) (by simp), frozen_past _ (by simp), frozen_at2 (by simp)]
  · rw [hb.frozen (p := ⟨w.heap.size + 1 + 1, 0, none⟩) (by simp), frozen_at2 (by simp)]
  · rw [hb.frozen (p := ⟨w.heap.size + 1 + 1, 1, none⟩) (by simp), frozen_at2 (by simp)]

theorem refs_at {ps : List Nat} {i : Nat} (h : i < ps.length) : wd (refs ps) i = 2 * ((ps.getD i 0 : Nat) : Int) := by
  unfold wd refs; rw [List.getD_eq_getElem?_getD, List.getElem?_map, List.getElem?_eq_getElem h, List.getD_eq_getElem?_getD, List.getElem?_eq_getElem h]; rfl
theorem getD_memN {ps : List Nat} {i : Nat} (h : i < ps.length) : ps.getD i 0 ∈ ps := by
  rw [List.getD_eq_getElem?_getD, List.getElem?_eq_getElem h]; exact List.getElem_mem h
theorem refs_wf {ps : List Nat} (h : ∀ p ∈ ps, p ≤ 2000) (k : Nat) : (Lit.int .i64 (wd (refs ps) k)).wf = true := by
  by_cases hk : k < ps.length
  · rw [refs_at hk]
    have := h _ (getD_memN hk)
    go_wf
  · have : wd (refs ps) k = 0 := by unfold wd; rw [List.getD_eq_getElem?_getD, List.getElem?_eq_none (by rw [refs_length]; omega)]; rfl
    rw [this]; decide
theorem own_roots {w : World} {B : Nat} {ad : Option Addr} {c : Nat} {xs : List Int} (h : w.ownsRow B 3 1 (.slice ad xs.length c) xs.length (vals xs)) (hw : ∀ k, (Lit.int .i64 (wd xs k)).wf = true) : RootsAt ad xs w := by
  intro h0
  obtain ⟨g, k, e, _, hown⟩ := own_shape h (fun e => by simp only [Value.slice.injEq] at e; omega)
  simp only [Value.slice.injEq, true_and] at e
  obtain ⟨rfl, rfl⟩ := e
  exact ⟨g, 0, rfl, own_reads hown hw⟩

/-- What Collect answers where there is no fault. -/
def CollectAns (K L : List Int) (B : Nat) (e : Ending) (w : World) : Prop :=
  ∃ g c g' c', e = .returned (.tuple #[.agg #[sl g K.length c], sl g' L.length c', .agg #[.int .i64 0, .int .i64 0]]) ∧ B ≤ g ∧ B ≤ g' ∧ w.ownsRow 0 3 1 (sl g K.length c) K.length (vals K) ∧ w.ownsRow 0 3 1 (sl g' L.length c') L.length (vals L)

end Go.Proofs.Ythdhaokjibfjdaa
