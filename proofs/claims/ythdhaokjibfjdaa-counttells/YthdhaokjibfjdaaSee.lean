/- See, open, Check, Things: a heap that may be, or what is wrong first. -/
import Derived.Test.YthdhaokjibfjdaaFault
namespace Go.Proofs.Ythdhaokjibfjdaa
open Go.RowKit
open Go.Maps (Keyed keyOf_int_mk)

/-- A heap of those words as a value. -/
abbrev heapV (ad : Option Addr) (n cap : Nat) : Value := .agg #[.slice ad n cap]
/-- No view. -/
abbrev noView : Value := .agg #[.slice none 0 0, .map none]

/-- What See answers: the fault, and the view if there is none. -/
def SeeAns (W : List Int) (B : Nat) (e : Ending) (w' : World) : Prop :=
  if (checkOf W).1 = 0 then ∃ b cap bm, e = .returned (.tuple #[viewV b W.length cap bm, .agg #[.int .i64 0, .int .i64 0]]) ∧ IsView w' b cap bm W ∧ B ≤ b ∧ B ≤ bm ∧ b ≠ bm
  else e = .returned (.tuple #[noView, .agg #[.int .i64 (checkOf W).1, .int .i64 (checkOf W).2]])

theorem cell_past {w : World} (o : Obj) {a : Addr} (h : a.block < w.heap.size) : (w.alloc o).cell? a = w.cell? a := World.cell?_of_block (Below.heap_alloc _ _ _ h)
theorem frozen_past {w : World} (o : Obj) {a : Addr} (h : a.block < w.heap.size) : (w.alloc o).frozen? a = w.frozen? a := World.frozen?_of_block (Below.heap_alloc _ _ _ h)
theorem cell_at2 {w : World} {cs : Array Value} {t : TypeId} {g j : Nat} (h : g = w.heap.size) : (w.alloc (.cells cs t)).cell? ⟨g, j, none⟩ = cs[j]? := by
  subst h; exact cell_of_row _ _ _ cs t (0, 0) (heap_alloc_new w _)
theorem frozen_at2 {w : World} {cs : Array Value} {t : TypeId} {g j : Nat} (h : g = w.heap.size) : (w.alloc (.cells cs t)).frozen? ⟨g, j, none⟩ = false := by
  subst h; exact frozen_of_row _ _ _ cs t (heap_alloc_new w _)
theorem boxes3 {w w' : World} {a x y z v : Value} {t t' t'' : TypeId} (hb : Below (((w.alloc (.cells #[a] t)).alloc (.cells #[x, y] t')).alloc (.cells #[z, v] t'')).heap.size (((w.alloc (.cells #[a] t)).alloc (.cells #[x, y] t')).alloc (.cells #[z, v] t'')) w') :
    w'.cell? ⟨w.heap.size, 0, none⟩ = some a ∧ w'.cell? ⟨w.heap.size + 1, 0, none⟩ = some x ∧ w'.cell? ⟨w.heap.size + 1, 1, none⟩ = some y ∧ w'.cell? ⟨w.heap.size + 1 + 1, 0, none⟩ = some z ∧ w'.cell? ⟨w.heap.size + 1 + 1, 1, none⟩ = some v ∧
      w'.frozen? ⟨w.heap.size + 1, 0, none⟩ = false ∧ w'.frozen? ⟨w.heap.size + 1, 1, none⟩ = false ∧ w'.frozen? ⟨w.heap.size + 1 + 1, 0, none⟩ = false ∧ w'.frozen? ⟨w.heap.size + 1 + 1, 1, none⟩ = false ∧ w.heap.size + 1 + 1 + 1 ≤ w'.heap.size := by
  have hs := hb.size
  refine ⟨?_, ?_, ?_, ?_, ?_, ?_, ?_, ?_, ?_, by simpa using hs⟩
  · rw [hb.cell (p := ⟨w.heap.size, 0, none⟩) (by simp; omega), cell_past _ (by simp; omega)]; simp
  · rw [hb.cell (p := ⟨w.heap.size + 1, 0, none⟩) (by simp), cell_past _ (by simp)]; simp
  · rw [hb.cell (p := ⟨w.heap.size + 1, 1, none⟩) (by simp), cell_past _ (by simp)]; simp
  · rw [hb.cell (p := ⟨w.heap.size + 1 + 1, 0, none⟩) (by simp), cell_at2 (by simp)]; rfl
  · rw [hb.cell (p := ⟨w.heap.size + 1 + 1, 1, none⟩) (by simp), cell_at2 (by simp)]; rfl
  · rw [hb.frozen (p := ⟨w.heap.size + 1, 0, none⟩) (by simp), frozen_past _ (by simp)]; simp
  · rw [hb.frozen (p := ⟨w.heap.size + 1, 1, none⟩) (by simp), frozen_past _ (by simp)]; simp
  · rw [hb.frozen (p := ⟨w.heap.size + 1 + 1, 0, none⟩) (by simp)]; exact frozen_at2 (by simp)
  · rw [hb.frozen (p := ⟨w.heap.size + 1 + 1, 1, none⟩) (by simp)]; exact frozen_at2 (by simp)
theorem below3 {w w' : World} {o1 o2 o3 : Obj} (hb : Below (((w.alloc o1).alloc o2).alloc o3).heap.size (((w.alloc o1).alloc o2).alloc o3) w') : Below w.heap.size w w' :=
  ((((Below.refl _ _).alloc (Nat.le_refl _) _).alloc (by simp) _).alloc (by simp; omega) _).trans (hb.mono (by simp; omega))

set_option maxHeartbeats 1000000 in
theorem see_size (ad : Option Addr) (n cap : Nat) (w : World) (h : n < 2 ∨ 2000 < n) (hm : n ≤ maxLen) :
    Calls Try.prog 31 #[heapV ad n cap] w fun e w' => e = .returned (.tuple #[noView, .agg #[.int .i64 1, .int .i64 0]]) ∧ Below w.heap.size w w' := by
  go_enter Try.func31, Try.ntmps31
  go_wp2_with (go_at_call 56; refine (front_size_any _ _ _ _ h hm).mono ?_; rintro e w1 ⟨rfl, hb1⟩; have hz : w.heap.size + 1 + 1 < w1.heap.size := (by have := hb1.size; simp at this; omega); obtain ⟨c0, c1, c2, c3, c4, c5, c6, c7, c8, _⟩ := boxes3 hb1; obtain ⟨d0, d1, d2, d3, d4, d5, d6, d7, d8, _⟩ := boxes3 (hb1.alloc (by simp; omega) (Obj.cells #[Value.int IntKind.i64 1, Value.int IntKind.i64 0] 33)))
  go_region
  all_goals go_wp2_with fail
  all_goals refine bodyPost_ret (v := .tuple #[noView, .agg #[.int .i64 1, .int .i64 0]]) (by simp [results, Try.results31, go_sem, d1, d2, d3, d4]) rfl ⟨rfl, ?_⟩
  all_goals repeat (first | refine Below.drew ?_ | refine Below.setCell ?_ (by dsimp only; omega) _ | exact (below3 hb1).alloc (by omega) _)

set_option maxHeartbeats 2000000 in
theorem see_front (W : List Int) (b off cap : Nat) (w : World) (hr : Row w b off W) (h2 : 2 ≤ W.length) (hl : W.length ≤ 2000) (h : (frontOf W).1 ≠ 0) :
    Calls Try.prog 31 #[heapV (some ⟨b, off, none⟩) W.length cap] w fun e w' => e = .returned (.tuple #[noView, .agg #[.int .i64 (frontOf W).1, .int .i64 (frontOf W).2]]) ∧ Below w.heap.size w w' := by
  have hr1 : Row (((w.alloc (.cells #[.slice (some ⟨b, off, none⟩) W.length cap] 24)).alloc (.cells #[.slice none 0 0, .map none] 46)).alloc (.cells #[.int .i64 0, .int .i64 0] 33)) b off W := ((hr.alloc _).alloc _).alloc _
  generalize hF : frontOf W = F at h
  have HF : Hid (frontOf W = F) := hF
  clear hF
  have hb : (F.1 != 0) = true := by simpa using h
  clear h
  go_enter Try.func31, Try.ntmps31
  go_wp2_with (go_at_call 56; refine (front_else_any W b off cap _ hr1 h2 hl).mono ?_; rw [HF.out]; rintro e w1 ⟨rfl, hb1⟩; have hz : w.heap.size + 1 + 1 < w1.heap.size := (by have := hb1.size; simp at this; omega); obtain ⟨c0, c1, c2, c3, c4, c5, c6, c7, c8, _⟩ := boxes3 hb1; obtain ⟨d0, d1, d2, d3, d4, d5, d6, d7, d8, _⟩ := boxes3 (hb1.alloc (by simp; omega) (Obj.cells #[Value.int IntKind.i64 F.1, Value.int IntKind.i64 F.2] 33)))
  go_region
  all_goals go_wp2_with fail
  all_goals refine bodyPost_ret (v := .tuple #[noView, .agg #[.int .i64 F.1, .int .i64 F.2]]) (by simp [results, Try.results31, go_sem, d1, d2, d3, d4]) rfl ⟨rfl, ?_⟩
  all_goals repeat (first | refine Below.drew ?_ | refine Below.setCell ?_ (by dsimp only; omega) _ | exact (below3 hb1).alloc (by omega) _)

theorem after_found {w w' : World} {a c : Value} {t : TypeId} (h : ((w.alloc (.map #[] 0)).alloc (.cells #[a, c] t)).grownBy w' (some w.heap.size)) :
    Below w.heap.size w w' ∧ w'.cell? ⟨w.heap.size + 1, 0, none⟩ = some a ∧ w'.cell? ⟨w.heap.size + 1, 1, none⟩ = some c ∧ w.heap.size + 1 < w'.heap.size := by
  have h1 := h.block (w.heap.size + 1) (by simp) (by simp)
  have hs := h.size
  refine ⟨(((Below.refl _ _).alloc (Nat.le_refl _) _).alloc (by simp) _).grown h (by simp; omega) (fun k hk => by simp at hk; omega), ?_, ?_, by simp at hs; omega⟩
  · rw [World.cell?_of_block (a := ⟨w.heap.size + 1, 0, none⟩) h1]; exact cell_at2 (by simp)
  · rw [World.cell?_of_block (a := ⟨w.heap.size + 1, 1, none⟩) h1]; exact cell_at2 (by simp)

set_option maxHeartbeats 4000000 in
theorem see_unfit (W : List Int) (b off cap p : Nat) (w : World) (hr : Row w b off W) (h : (frontOf W).1 = 0) (hu : unfit W 2 = some p) :
    Calls Try.prog 31 #[heapV (some ⟨b, off, none⟩) W.length cap] w fun e w' => e = .returned (.tuple #[noView, .agg #[.int .i64 2, .int .i64 p]]) ∧ Below w.heap.size w w' := by
  obtain ⟨h2, hl, h0, h1, h1'⟩ := front_out h
  have hF : frontOf W = (0, 0) := front_ok (by omega) h0 (by omega)
  have HF : Hid (frontOf W = (0, 0)) := hF
  clear hF h0 h1 h1'
  have hmm := @run_makeMap Try.prog
  have hr1 : Row (((w.alloc (.cells #[.slice (some ⟨b, off, none⟩) W.length cap] 24)).alloc (.cells #[.slice none 0 0, .map none] 46)).alloc (.cells #[.int .i64 0, .int .i64 0] 33)) b off W := ((hr.alloc _).alloc _).alloc _
  go_enter Try.func31, Try.ntmps31
  go_wp2_with (first | (go_at_call 56; refine (front_else_any W b off cap _ hr1 h2 hl).mono ?_; rw [HF.out]; rintro e w1 ⟨rfl, hb1⟩; have hz : w.heap.size + 1 + 1 < w1.heap.size := (by have := hb1.size; simp at this; omega); have hz0 : w.heap.size < w1.heap.size := (by omega); obtain ⟨c0, c1, c2, c3, c4, c5, c6, c7, c8, _⟩ := boxes3 hb1) | (go_at_call 33; refine (clone_any W b off cap _ ((hr1.same hb1).alloc _) (by omega) hl).mono ?_; rintro e w2 ⟨⟨g, cap', rfl, hg, hown⟩, hb2⟩; have hA := (hb1.alloc (by simp; omega) _).trans (hb2.mono (by simp; omega)); have hgl := own_lt hown) | (go_at_call 57; refine (findThings_any W g cap' w2.heap.size _ (hown.alloc _ |>.alloc _) hr.wf ⟨0, .map [], by have := (World.ownsMap_made (H := Unit) w2 Try.prog 3 (plainElem Try.prog 3)); exact this.alloc _, Nat.zero_le _, fun _ => rfl, fun _ hk => by cases hk⟩ (by omega) hl).mono ?_; rintro e w4 hfound; unfold Found at hfound; rw [hu] at hfound; obtain ⟨rfl, hgr⟩ := hfound; obtain ⟨hbw4, v0, v1, hzv⟩ := after_found hgr; have hB := hA.trans (hbw4.mono hA.size); have hz4 : w.heap.size + 1 + 1 < w4.heap.size := (by have := hB.size; simp at this; omega); have hz40 : w.heap.size < w4.heap.size := (by omega); obtain ⟨d0, d1, d2, d3, d4, d5, d6, d7, d8, _⟩ := boxes3 (hB.alloc (by simp; omega) (Obj.cells #[Value.int IntKind.i64 2, Value.int IntKind.i64 p] 33))))
  go_region
  all_goals go_wp2_with fail
  all_goals refine bodyPost_ret (v := .tuple #[noView, .agg #[.int .i64 2, .int .i64 p]]) (by simp [results, Try.results31, go_sem, d1, d2, d3, d4]) rfl ⟨rfl, ?_⟩
  all_goals repeat (first | refine Below.drew ?_ | refine Below.setCell ?_ (by dsimp only; omega) _ | exact (below3 hB).alloc (by omega) _)

end Go.Proofs.Ythdhaokjibfjdaa
