/- gessoref2.Look. -/
import Derived.Test.YtmgmbgacdjebgaaPut
namespace Go.Proofs.Ytmgmbgacdjebgaa
open Go.RowKit

set_option maxHeartbeats 1000000 in
theorem rlook_kind (W : List Int) (b off cap : Nat) (o : Int) (w : World) (hr : Row w b off W) (hu : unfit W 2 = none) (hl : W.length ≤ 2000) (ho : thingB W o = false) :
    Calls Try.prog 27 #[heapV (some ⟨b, off, none⟩) W.length cap, .int .i64 o] w fun e w' => e = lookErr 3 ∧ Below w.heap.size w w' := by
  have hr2 : Row ((w.alloc (.cells #[.slice (some ⟨b, off, none⟩) W.length cap] 24)).alloc (.cells #[.int .i64 0, .int .i64 0, .int .i64 0, .slice none 0 0] 60)) b off W := (hr.alloc _).alloc _
  go_enter Try.func27, Try.ntmps27
  go_wp2_with (go_at_call 24; refine (rthing_any W b off cap _ _ hr2 hu hl).mono ?_; rintro e w1 ⟨rfl, hw1⟩; rw [hw1]; clear hw1 w1)
  refine bodyPost_ret (v := .tuple #[noThing, .int .i64 3]) (by simp [results, Try.results27, go_sem]) rfl ⟨rfl, ?_⟩
  repeat (first | refine Below.setCell ?_ (by dsimp only; omega) _ | exact ((Below.refl _ _).alloc (Nat.le_refl _) _).alloc (by simp) _)

theorem slots_row' {w : World} {b off : Nat} {W : List Int} {p : Nat} (h : Row w b off W) (hp : p + 3 + slotsAt W p ≤ W.length) : Row w b (off + (p + 3)) (slotsOf W p) := by
  refine ⟨h.lt, fun k hk => ?_, fun k => ?_⟩
  · rw [slots_length hp] at hk
    have := h.cell (p + 3 + k) (by omega)
    rw [slots_at hk, ← this, Nat.add_assoc]
  · by_cases hk : k < slotsAt W p
    · rw [slots_at hk]; exact h.wf _
    · have : wd (slotsOf W p) k = 0 := by
        unfold wd
        rw [List.getD_eq_getElem?_getD, List.getElem?_eq_none (by rw [slots_length hp]; omega)]; rfl
      rw [this]; decide
theorem slots_own {w : World} {B n : Nat} {v : Value} {xs : List Int} (hn : xs.length = n) (h : w.ownsRow B 3 1 v (0 + n) ([] ++ vals xs)) : SlotsOwn B xs v w := by
  simp only [Nat.zero_add, List.nil_append] at h
  subst hn
  rcases h.2 with ⟨rfl, h0⟩ | ⟨g, cap, cur, rfl, hg, r⟩
  · exact ⟨none, 0, by rw [h0], fun h => by omega⟩
  · exact ⟨_, _, rfl, fun _ => ⟨g, rfl, hg, own_mono (Nat.zero_le _) h⟩⟩
theorem below3' {w w' : World} {o1 o2 o3 : Obj} (hb : Below (w.heap.size + 3) (((w.alloc o1).alloc o2).alloc o3) w') : Below w.heap.size w w' :=
  ((((Below.refl _ _).alloc (Nat.le_refl _) _).alloc (by simp) _).alloc (by simp; omega) _).trans (hb.mono (by omega))
theorem twoBoxes {w w' : World} {o : Obj} {x0 x1 x2 x3 z0 z1 z2 z3 : Value} {t : TypeId} (hb : Below (w.heap.size + 3) (((w.alloc o).alloc (.cells #[x0, x1, x2, x3] t)).alloc (.cells #[z0, z1, z2, z3] t)) w') :
    (w'.cell? ⟨w.heap.size + 1, 0, none⟩ = some x0 ∧ w'.cell? ⟨w.heap.size + 1, 1, none⟩ = some x1 ∧ w'.cell? ⟨w.heap.size + 1, 2, none⟩ = some x2 ∧ w'.cell? ⟨w.heap.size + 1, 3, none⟩ = some x3) ∧
      (w'.frozen? ⟨w.heap.size + 1, 0, none⟩ = false ∧ w'.frozen? ⟨w.heap.size + 1, 1, none⟩ = false ∧ w'.frozen? ⟨w.heap.size + 1, 2, none⟩ = false ∧ w'.frozen? ⟨w.heap.size + 1, 3, none⟩ = false) ∧
      (w'.cell? ⟨w.heap.size + 1 + 1, 0, none⟩ = some z0 ∧ w'.cell? ⟨w.heap.size + 1 + 1, 1, none⟩ = some z1 ∧ w'.cell? ⟨w.heap.size + 1 + 1, 2, none⟩ = some z2 ∧ w'.cell? ⟨w.heap.size + 1 + 1, 3, none⟩ = some z3) ∧
      (w'.frozen? ⟨w.heap.size + 1 + 1, 0, none⟩ = false ∧ w'.frozen? ⟨w.heap.size + 1 + 1, 1, none⟩ = false ∧ w'.frozen? ⟨w.heap.size + 1 + 1, 2, none⟩ = false ∧ w'.frozen? ⟨w.heap.size + 1 + 1, 3, none⟩ = false) ∧ w.heap.size + 3 ≤ w'.heap.size := by
  have hs := hb.size
  have A : ∀ j, w'.cell? ⟨w.heap.size + 1, j, none⟩ = #[x0, x1, x2, x3][j]? := fun j => by
    rw [hb.cell (p := ⟨w.heap.size + 1, j, none⟩) (by dsimp only; omega), cell_past _ (by simp)]; exact cell_at2 (by simp)
  have A' : ∀ j, w'.frozen? ⟨w.heap.size + 1, j, none⟩ = false := fun j => by
    rw [hb.frozen (p := ⟨w.heap.size + 1, j, none⟩) (by dsimp only; omega), frozen_past _ (by simp)]; exact frozen_at2 (by simp)
  have Z : ∀ j, w'.cell? ⟨w.heap.size + 1 + 1, j, none⟩ = #[z0, z1, z2, z3][j]? := fun j => by
    rw [hb.cell (p := ⟨w.heap.size + 1 + 1, j, none⟩) (by dsimp only; omega)]; exact cell_at2 (by simp)
  have Z' : ∀ j, w'.frozen? ⟨w.heap.size + 1 + 1, j, none⟩ = false := fun j => by
    rw [hb.frozen (p := ⟨w.heap.size + 1 + 1, j, none⟩) (by dsimp only; omega)]; exact frozen_at2 (by simp)
  exact ⟨⟨A 0, A 1, A 2, A 3⟩, ⟨A' 0, A' 1, A' 2, A' 3⟩, ⟨Z 0, Z 1, Z 2, Z 3⟩, ⟨Z' 0, Z' 1, Z' 2, Z' 3⟩, by simp at hs; omega⟩

end Go.Proofs.Ytmgmbgacdjebgaa
