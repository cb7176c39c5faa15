/- Several texts in one. -/
import Derived.Test.YthdhaokjibfjdaaFaultX
/- See, open, Check, Things: a heap that may be, or what is wrong first. -/
namespace Go.Proofs.Ythdhaokjibfjdaa
open Go.RowKit
open Go.Maps (Keyed keyOf_int_mk)

/-- A heap of those words as a value. -/
abbrev heapV (ad : Option Addr) (n cap : Nat) : Value := .agg #[.slice ad n cap]
/-- No view. -/
abbrev noView : Value := .agg #[.slice none 0 0, .map none]

/-- What See answers: the fault, and the view if there is none. -/
def SeeAns (W : List Int) (B : Nat) (e : Ending) (w' : World) : Prop :=
  if (checkOf W).1 = 0 then ∃ b cap bm, e = .returned (.tuple #[viewV b W.length cap bm, .agg #[.int .i64 0, .int .i64 0]]) ∧ IsView w' b cap bm W ∧ B ≤ b ∧ B ≤ bm ∧ b ≠ bm
  else e = .returned (.tuple #[noView, .agg #[.int .i64 (checkOf W).1, .int .i64 (checkOf W).2]])

theorem cell_past {w : World} (o : Obj) {a : Addr} (h : a.block < w.heap.size) : (w.alloc o).cell? a = w.cell? a := World.cell?_of_block (Below.heap_alloc _ _ _ h)
theorem frozen_past {w : World} (o : Obj) {a : Addr} (h : a.block < w.heap.size) : (w.alloc o).frozen? a = w.frozen? a := World.frozen?_of_block (Below.heap_alloc _ _ _ h)
theorem cell_at2 {w : World} {cs : Array Value} {t : TypeId} {g j : Nat} (h : g = w.heap.size) : (w.alloc (.cells cs t)).cell? ⟨g, j, none⟩ = cs[j]? := by
  subst h; exact cell_of_row _ _ _ cs t (0, 0) (heap_alloc_new w _)
theorem frozen_at2 {w : World} {cs : Array Value} {t : TypeId} {g j : Nat} (h : g = w.heap.size) : (w.alloc (.cells cs t)).frozen? ⟨g, j, none⟩ = false := by
  subst h; exact frozen_of_row _ _ _ cs t (heap_alloc_new w _)
theorem boxes3 {w w' : World} {a x y z v : Value} {t t' t'' : TypeId} (hb : Below (((w.alloc (.cells #[a] t)).alloc (.cells #[x, y] t')).alloc (.cells #[z, v] t'')).heap.size (((w.alloc (.cells #[a] t)).alloc (.cells #[x, y] t')).alloc (.cells #[z, v] t'')) w') :
    w'.cell? ⟨w.heap.size, 0, none⟩ = some a ∧ w'.cell? ⟨w.heap.size + 1, 0, none⟩ = some x ∧ w'.cell? ⟨w.heap.size + 1, 1, none⟩ = some y ∧ w'.cell? ⟨w.heap.size + 1 + 1, 0, none⟩ = some z ∧ w'.cell? ⟨w.heap.size + 1 + 1, 1, none⟩ = some v ∧
      w'.frozen? ⟨w.heap.size + 1, 0, none⟩ = false ∧ w'.frozen? ⟨w.heap.size + 1, 1, none⟩ = false ∧ w'.frozen? ⟨w.heap.size + 1 + 1, 0, none⟩ = false ∧ w'.frozen? ⟨w.heap.size + 1 + 1, 1, none⟩ = false ∧ w.heap.size + 1 + 1 + 1 ≤ w'.heap.size := by
  have hs := hb.size
  refine ⟨?_, ?_, ?_, ?_, ?_, ?_, ?_, ?_, ?_, by simpa using hs⟩
  · rw [hb.cell (p := ⟨w.heap.size, 0, none⟩) (by simp; omega), cell_past _ (by simp; omega)]; simp
  · rw [hb.cell (p := ⟨w.heap.size + 1, 0, none⟩) (by simp), cell_past _ (by simp)]; simp
  · rw [hb.cell (p := ⟨w.heap.size + 1, 1, none⟩) (by simp), cell_past _ (by simp)]; simp
  · rw [hb.cell (p := ⟨w.heap.size + 1 + 1, 0, none⟩) (by simp), cell_at2 (by simp)]; rfl
  · rw [hb.cell (p := ⟨w.heap.size + 1 + 1, 1, none⟩) (by simp), cell_at2 (by simp)]; rfl
  · rw [hb.frozen (p := ⟨w.heap.size + 1, 0, none⟩) (by simp), frozen_past _ (by simp)]; simp
  · rw [hb.frozen (p := ⟨w.heap.size + 1, 1, none⟩) (by simp), frozen_past _ (by simp)]; simp
  · rw [hb.frozen (p := ⟨w.heap.size + 1 + 1, 0, none⟩) (by simp)]; exact frozen_at2 (by simp)
  · rw [hb.frozen (p := ⟨w.heap.size + 1 + 1, 1, none⟩) (by simp)]; exact frozen_at2 (by simp)
theorem below3 {w w' : World} {o1 o2 o3 : Obj} (hb : Below (((w.alloc o1).alloc o2).alloc o3).heap.size (((w.alloc o1).alloc o2).alloc o3) w') : Below w.heap.size w w' :=
  ((((Below.refl _ _).alloc (Nat.le_refl _) _).alloc (by simp) _).alloc (by simp; omega) _).trans (hb.mono (by simp; omega))

set_option maxHeartbeats 1000000 in
theorem see_size (ad : Option Addr) (n cap : Nat) (w : World) (h : n < 2 ∨ 2000 < n) (hm : n ≤ maxLen) :
    Calls Try.prog 31 #[heapV ad n cap] w fun e w' => e = .returned (.tuple #[noView, .agg #[.int .i64 1, .int .i64 0]]) ∧ Below w.heap.size w w' := by
  go_enter Try.func31, Try.ntmps31
  go_wp2_with (go_at_call 56; refine (front_size_any _ _ _ _ h hm).mono ?_; rintro e w1 ⟨rfl, hb1⟩; have hz : w.heap.size + 1 + 1 < w1.heap.size := (by have := hb1.size; simp at this; omega); obtain ⟨c0, c1, c2, c3, c4, c5, c6, c7, c8, _⟩ := boxes3 hb1; obtain ⟨d0, d1, d2, d3, d4, d5, d6, d7, d8, _⟩ := boxes3 (hb1.alloc (by simp; omega) (Obj.cells #[Value.int IntKind.i64 1, Value.int IntKind.i64 0] 33)))
  go_region
  all_goals go_wp2_with fail
  all_goals refine bodyPost_ret (v := .tuple #[noView, .agg #[.int .i64 1, .int .i64 0]]) (by simp [results, Try.results31, go_sem, d1, d2, d3, d4]) rfl ⟨rfl, ?_⟩
  all_goals repeat (first | refine Below.drew ?_ | refine Below.setCell ?_ (by dsimp only; omega) _ | exact (below3 hb1).alloc (by omega) _)

set_option maxHeartbeats 2000000 in
theorem see_front (W : List Int) (b off cap : Nat) (w : World) (hr : Row w b off W) (h2 : 2 ≤ W.length) (hl : W.length ≤ 2000) (h : (frontOf W).1 ≠ 0) :
    Calls Try.prog 31 #[heapV (some ⟨b, off, none⟩) W.length cap] w fun e w' => e = .returned (.tuple #[noView, .agg #[.int .i64 (frontOf W).1, .int .i64 (frontOf W).2]]) ∧ Below w.heap.size w w' := by
  have hr1 : Row (((w.alloc (.cells #[.slice (some ⟨b, off, none⟩) W.length cap] 24)).alloc (.cells #[.slice none 0 0, .map none] 46)).alloc (.cells #[.int .i64 0, .int .i64 0] 33)) b off W := ((hr.alloc _).alloc _).alloc _
  generalize hF : frontOf W = F at h
  have HF : Hid (frontOf W = F) := hF
  clear hF
  have hb : (F.1 != 0) = true := by simpa using h
  clear h
  go_enter Try.func31, Try.ntmps31
  go_wp2_with (go_at_call 56; refine (front_else_any W b off cap _ hr1 h2 hl).mono ?_; rw [HF.out]; rintro e w1 ⟨rfl, hb1⟩; have hz : w.heap.size + 1 + 1 < w1.heap.size := (by have := hb1.size; simp at this; omega); obtain ⟨c0, c1, c2, c3, c4, c5, c6, c7, c8, _⟩ := boxes3 hb1; obtain ⟨d0, d1, d2, d3, d4, d5, d6, d7, d8, _⟩ := boxes3 (hb1.alloc (by simp; omega) (Obj.cells #[Value.int IntKind.i64 F.1, Value.int IntKind.i64 F.2] 33)))
  go_region
  all_goals go_wp2_with fail
  all_goals refine bodyPost_ret (v := .tuple #[noView, .agg #[.int .i64 F.1, .int .i64 F.2]]) (by simp [results, Try.results31, go_sem, d1, d2, d3, d4]) rfl ⟨rfl, ?_⟩
  all_goals repeat (first | refine Below.drew ?_ | refine Below.setCell ?_ (by dsimp only; omega) _ | exact (below3 hb1).alloc (by omega) _)

theorem after_found {w w' : World} {a c : Value} {t : TypeId} (h : ((w.alloc (.map #[] 0)).alloc (.cells #[a, c] t)).grownBy w' (some w.heap.size)) :
    Below w.heap.size w w' ∧ w'.cell? ⟨w.heap.size + 1, 0, none⟩ = some a ∧ w'.cell? ⟨w.heap.size + 1, 1, none⟩ = some c ∧ w.heap.size + 1 < w'.heap.size := by
  have h1 := h.block (w.heap.size + 1) (by simp) (by simp)
  have hs := h.size
  refine ⟨(((Below.refl _ _).alloc (Nat.le_refl _) _).alloc (by simp) _).grown h (by simp; omega) (fun k hk => by simp at hk; omega), ?_, ?_, by simp at hs; omega⟩
  · rw [World.cell?_of_block (a := ⟨w.heap.size + 1, 0, none⟩) h1]; exact cell_at2 (by simp)
  · rw [World.cell?_of_block (a := ⟨w.heap.size + 1, 1, none⟩) h1]; exact cell_at2 (by simp)

set_option maxHeartbeats 4000000 in
theorem see_unfit (W : List Int) (b off cap p : Nat) (w : World) (hr : Row w b off W) (h : (frontOf W).1 = 0) (hu : unfit W 2 = some p) :
    Calls Try.prog 31 #[heapV (some ⟨b, off, none⟩) W.length cap] w fun e w' => e = .returned (.tuple #[noView, .agg #[.int .i64 2, .int .i64 p]]) ∧ Below w.heap.size w w' := by
  obtain ⟨h2, hl, h0, h1, h1'⟩ := front_out h
  have hF : frontOf W = (0, 0) := front_ok (by omega) h0 (by omega)
  have HF : Hid (frontOf W = (0, 0)) := hF
  clear hF h0 h1 h1'
  have hmm := @run_makeMap Try.prog
  have hr1 : Row (((w.alloc (.cells #[.slice (some ⟨b, off, none⟩) W.length cap] 24)).alloc (.cells #[.slice none 0 0, .map none] 46)).alloc (.cells #[.int .i64 0, .int .i64 0] 33)) b off W := ((hr.alloc _).alloc _).alloc _
  go_enter Try.func31, Try.ntmps31
  go_wp2_with (first | (go_at_call 56; refine (front_else_any W b off cap _ hr1 h2 hl).mono ?_; rw [HF.out]; rintro e w1 ⟨rfl, hb1⟩; have hz : w.heap.size + 1 + 1 < w1.heap.size := (by have := hb1.size; simp at this; omega); have hz0 : w.heap.size < w1.heap.size := (by omega); obtain ⟨c0, c1, c2, c3, c4, c5, c6, c7, c8, _⟩ := boxes3 hb1) | (go_at_call 33; refine (clone_any W b off cap _ ((hr1.same hb1).alloc _) (by omega) hl).mono ?_; rintro e w2 ⟨⟨g, cap', rfl, hg, hown⟩, hb2⟩; have hA := (hb1.alloc (by simp; omega) _).trans (hb2.mono (by simp; omega)); have hgl := own_lt hown) | (go_at_call 57; refine (findThings_any W g cap' w2.heap.size _ (hown.alloc _ |>.alloc _) hr.wf ⟨0, .map [], by have := (World.ownsMap_made (H := Unit) w2 Try.prog 3 (plainElem Try.prog 3)); exact this.alloc _, Nat.zero_le _, fun _ => rfl, fun _ hk => by cases hk⟩ (by omega) hl).mono ?_; rintro e w4 hfound; unfold Found at hfound; rw [hu] at hfound; obtain ⟨rfl, hgr⟩ := hfound; obtain ⟨hbw4, v0, v1, hzv⟩ := after_found hgr; have hB := hA.trans (hbw4.mono hA.size); have hz4 : w.heap.size + 1 + 1 < w4.heap.size := (by have := hB.size; simp at this; omega); have hz40 : w.heap.size < w4.heap.size := (by omega); obtain ⟨d0, d1, d2, d3, d4, d5, d6, d7, d8, _⟩ := boxes3 (hB.alloc (by simp; omega) (Obj.cells #[Value.int IntKind.i64 2, Value.int IntKind.i64 p] 33))))
  go_region
  all_goals go_wp2_with fail
  all_goals refine bodyPost_ret (v := .tuple #[noView, .agg #[.int .i64 2, .int .i64 p]]) (by simp [results, Try.results31, go_sem, d1, d2, d3, d4]) rfl ⟨rfl, ?_⟩
  all_goals repeat (first | refine Below.drew ?_ | refine Below.setCell ?_ (by dsimp only; omega) _ | exact (below3 hB).alloc (by omega) _)

end Go.Proofs.Ythdhaokjibfjdaa

/- See, open, Check, Things: a heap that may be, or what is wrong first. -/
namespace Go.Proofs.Ythdhaokjibfjdaa
open Go.RowKit
open Go.Maps (Keyed keyOf_int_mk)

theorem fault_zero (W : List Int) : ∀ (ps : List Nat) (seen : List Int), (faultOf W seen ps).1 = 0 → faultOf W seen ps = (0, 0)
  | [], _, _ => rfl
  | p :: r, seen, h => by
    cases h1 : nilB W (wd W p) with
    | false => rw [fault_kind h1] at h; cases h
    | true =>
      cases h2 : twiceB W seen p with
      | true => rw [fault_twice h1 h2] at h; cases h
      | false =>
        cases h3 : badSlot W (formAt W p) (p + 3) (slotsAt W p) with
        | some k => rw [fault_slot h1 h2 h3] at h; cases h
        | none => rw [fault_next h1 h2 h3] at h ⊢; exact fault_zero W r _ h

set_option maxHeartbeats 4000000 in
theorem see_fault (W : List Int) (b off cap : Nat) (w : World) (hr : Row w b off W) (h : (frontOf W).1 = 0) (hu : unfit W 2 = none) (F : Int × Int) (HX : Hid (faultOf W [] (places W 2) = F)) (hx : (F.1 != 0) = true) :
    Calls Try.prog 31 #[heapV (some ⟨b, off, none⟩) W.length cap] w fun e w' => e = .returned (.tuple #[noView, .agg #[.int .i64 F.1, .int .i64 F.2]]) ∧ Below w.heap.size w w' := by
  obtain ⟨h2, hl, h0, h1, h1'⟩ := front_out h
  have hF : frontOf W = (0, 0) := front_ok (by omega) h0 (by omega)
  have HF : Hid (frontOf W = (0, 0)) := hF
  clear hF h0 h1 h1'
  have hmm := @run_makeMap Try.prog
  have hr1 : Row (((w.alloc (.cells #[.slice (some ⟨b, off, none⟩) W.length cap] 24)).alloc (.cells #[.slice none 0 0, .map none] 46)).alloc (.cells #[.int .i64 0, .int .i64 0] 33)) b off W := ((hr.alloc _).alloc _).alloc _
  go_enter Try.func31, Try.ntmps31
  go_wp2_with (first | (go_at_call 56; refine (front_else_any W b off cap _ hr1 h2 hl).mono ?_; rw [HF.out]; rintro e w1 ⟨rfl, hb1⟩; have hz : w.heap.size + 1 + 1 < w1.heap.size := (by have := hb1.size; simp at this; omega); have hz0 : w.heap.size < w1.heap.size := (by omega); obtain ⟨c0, c1, c2, c3, c4, c5, c6, c7, c8, _⟩ := boxes3 hb1) | (go_at_call 33; refine (clone_any W b off cap _ ((hr1.same hb1).alloc _) (by omega) hl).mono ?_; rintro e w2 ⟨⟨g, cap', rfl, hg, hown⟩, hb2⟩; have hA := (hb1.alloc (by simp; omega) _).trans (hb2.mono (by simp; omega)); have hgl := own_lt hown) | (go_at_call 57; refine (findThings_any W g cap' w2.heap.size _ (hown.alloc _ |>.alloc _) hr.wf ⟨0, .map [], by have := (World.ownsMap_made (H := Unit) w2 Try.prog 3 (plainElem Try.prog 3)); exact this.alloc _, Nat.zero_le _, fun _ => rfl, fun _ hk => by cases hk⟩ (by omega) hl).mono ?_; rintro e w4 hfound; unfold Found at hfound; rw [hu] at hfound; obtain ⟨⟨rfl, hv4⟩, hgr⟩ := hfound; obtain ⟨hbw4, v0, v1, hzv⟩ := after_found hgr; have hB := hA.trans (hbw4.mono hA.size); have hz4 : w.heap.size + 1 + 1 < w4.heap.size := (by have := hB.size; simp at this; omega); have hz40 : w.heap.size < w4.heap.size := (by omega)) | (go_at_call 58; refine (thingsFault_any W g cap' w2.heap.size _ (hv4.alloc _) hu hl h2).mono ?_; rw [HX.out]; rintro e w5 ⟨rfl, hb5⟩; have hb45 := below_call hb5; have hC := hB.trans (hb45.mono hB.size); have hz5 : w.heap.size + 1 + 1 < w5.heap.size := (by have := hC.size; simp at this; omega); have hz50 : w.heap.size < w5.heap.size := (by omega); have hz45 := hb45.size; have hzv5 : w2.heap.size + 1 < w5.heap.size := (by omega); have x0 := hb45.cell (p := ⟨w2.heap.size + 1, 0, none⟩) (by exact hzv); have x1 := hb45.cell (p := ⟨w2.heap.size + 1, 1, none⟩) (by exact hzv); rw [v0] at x0; rw [v1] at x1; obtain ⟨d0, d1, d2, d3, d4, d5, d6, d7, d8, _⟩ := boxes3 (hC.alloc (by simp; omega) (Obj.cells #[Value.int IntKind.i64 F.1, Value.int IntKind.i64 F.2] 33))))
  go_region
  all_goals go_wp2_with fail
  all_goals refine bodyPost_ret (v := .tuple #[noView, .agg #[.int .i64 F.1, .int .i64 F.2]]) (by simp [results, Try.results31, go_sem, d1, d2, d3, d4]) rfl ⟨rfl, ?_⟩
  all_goals repeat (first | refine Below.drew ?_ | refine Below.setCell ?_ (by dsimp only; omega) _ | exact (below3 hC).alloc (by omega) _)

theorem IsView.setCell {w : World} {b cap bm : Nat} {W : List Int} (h : IsView w b cap bm W) {a : Addr} (hb : b ≠ a.block) (hm : bm ≠ a.block) (x : Value) : IsView (w.setCell a x) b cap bm W := by
  have hg : w.grownBy (w.setCell a x) (some a.block) := ⟨rfl, rfl, rfl, by simp [World.setCell], fun k _ hk => Below.heap_setCell _ _ _ _ (fun e => hk (by rw [e]))⟩
  obtain ⟨n, D, ho, r⟩ := h.begun
  exact ⟨own_kept h.own hg hb, h.wf, n, D, ho.setCell hm x, r⟩

/-- A view that stands in memory from block B on, as an answer. -/
def ViewAns (W : List Int) (B : Nat) (e : Ending) (w' : World) : Prop :=
  ∃ b cap bm, e = .returned (.tuple #[viewV b W.length cap bm, .agg #[.int .i64 0, .int .i64 0]]) ∧ IsView w' b cap bm W ∧ B ≤ b ∧ B ≤ bm ∧ b ≠ bm

set_option maxHeartbeats 4000000 in
theorem see_good (W : List Int) (b off cap : Nat) (w : World) (hr : Row w b off W) (h : (frontOf W).1 = 0) (hu : unfit W 2 = none) (HX : Hid (faultOf W [] (places W 2) = (0, 0))) :
    Calls Try.prog 31 #[heapV (some ⟨b, off, none⟩) W.length cap] w fun e w' => ViewAns W w.heap.size e w' ∧ Below w.heap.size w w' := by
  obtain ⟨h2, hl, h0, h1, h1'⟩ := front_out h
  have hF : frontOf W = (0, 0) := front_ok (by omega) h0 (by omega)
  have HF : Hid (frontOf W = (0, 0)) := hF
  clear hF h0 h1 h1'
  have hmm := @run_makeMap Try.prog
  have hr1 : Row (((w.alloc (.cells #[.slice (some ⟨b, off, none⟩) W.length cap] 24)).alloc (.cells #[.slice none 0 0, .map none] 46)).alloc (.cells #[.int .i64 0, .int .i64 0] 33)) b off W := ((hr.alloc _).alloc _).alloc _
  go_enter Try.func31, Try.ntmps31
  go_wp2_with (first | (go_at_call 56; refine (front_else_any W b off cap _ hr1 h2 hl).mono ?_; rw [HF.out]; rintro e w1 ⟨rfl, hb1⟩; have hz : w.heap.size + 1 + 1 < w1.heap.size := (by have := hb1.size; simp at this; omega); have hz0 : w.heap.size < w1.heap.size := (by omega); obtain ⟨c0, c1, c2, c3, c4, c5, c6, c7, c8, _⟩ := boxes3 hb1) | (go_at_call 33; refine (clone_any W b off cap _ ((hr1.same hb1).alloc _) (by omega) hl).mono ?_; rintro e w2 ⟨⟨g, cap', rfl, hg, hown⟩, hb2⟩; have hA := (hb1.alloc (by simp; omega) _).trans (hb2.mono (by simp; omega)); have hgl := own_lt hown) | (go_at_call 57; refine (findThings_any W g cap' w2.heap.size _ (hown.alloc _ |>.alloc _) hr.wf ⟨0, .map [], by have := (World.ownsMap_made (H := Unit) w2 Try.prog 3 (plainElem Try.prog 3)); exact this.alloc _, Nat.zero_le _, fun _ => rfl, fun _ hk => by cases hk⟩ (by omega) hl).mono ?_; rintro e w4 hfound; unfold Found at hfound; rw [hu] at hfound; obtain ⟨⟨rfl, hv4⟩, hgr⟩ := hfound; obtain ⟨hbw4, v0, v1, hzv⟩ := after_found hgr; have hB := hA.trans (hbw4.mono hA.size); have hz4 : w.heap.size + 1 + 1 < w4.heap.size := (by have := hB.size; simp at this; omega); have hz40 : w.heap.size < w4.heap.size := (by omega)) | (go_at_call 58; refine (thingsFault_any W g cap' w2.heap.size _ (hv4.alloc _) hu hl h2).mono ?_; rw [HX.out]; rintro e w5 ⟨rfl, hb5⟩; have hb45 := below_call hb5; have hC := hB.trans (hb45.mono hB.size); have hz5 : w.heap.size + 1 + 1 < w5.heap.size := (by have := hC.size; simp at this; omega); have hz50 : w.heap.size < w5.heap.size := (by omega); have hz45 := hb45.size; have hzv5 : w2.heap.size + 1 < w5.heap.size := (by omega); have x0 := hb45.cell (p := ⟨w2.heap.size + 1, 0, none⟩) (by exact hzv); have x1 := hb45.cell (p := ⟨w2.heap.size + 1, 1, none⟩) (by exact hzv); rw [v0] at x0; rw [v1] at x1; obtain ⟨d0, d1, d2, d3, d4, d5, d6, d7, d8, _⟩ := boxes3 (hC.alloc (by simp; omega) (Obj.cells #[Value.int IntKind.i64 0, Value.int IntKind.i64 0] 33))))
  have hgw : w.heap.size + 1 + 1 < g := by have := hg; simp at this; omega
  refine bodyPost_ret (v := .tuple #[viewV g W.length cap' w2.heap.size, .agg #[.int .i64 0, .int .i64 0]]) (by simp [results, Try.results31, go_sem, d1, d2, d3, d4]) rfl ⟨⟨g, cap', w2.heap.size, rfl, ?_, by omega, by omega, by omega⟩, ?_⟩
  · repeat (first | refine IsView.setCell ?_ (by dsimp only; omega) (by dsimp only; omega) _ | exact (hv4.same hb45).alloc _)
  · repeat (first | refine Below.setCell ?_ (by dsimp only; omega) _ | exact (below3 hC).alloc (by omega) _)


/-- See of words that may not be. -/
theorem see_no (W : List Int) (ad : Option Addr) (cap : Nat) (w : World) (hm : W.length ≤ maxLen) (hr : 2 ≤ W.length → ∃ b off, ad = some ⟨b, off, none⟩ ∧ Row w b off W) (hc : (checkOf W).1 ≠ 0) :
    Calls Try.prog 31 #[heapV ad W.length cap] w fun e w' => e = .returned (.tuple #[noView, .agg #[.int .i64 (checkOf W).1, .int .i64 (checkOf W).2]]) ∧ Below w.heap.size w w' := by
  by_cases h : W.length < 2 ∨ 2000 < W.length
  · have e : checkOf W = (1, 0) := by rw [check_front (by rw [front_size h]; decide), front_size h]
    rw [e]
    exact see_size ad W.length cap w h hm
  · obtain ⟨b, off, rfl, hrow⟩ := hr (by omega)
    by_cases hf : (frontOf W).1 = 0
    · cases hu : unfit W 2 with
      | some p =>
        rw [check_unfit hf hu]
        exact see_unfit W b off cap p w hrow hf hu
      | none =>
        rw [check_things hf hu] at hc ⊢
        exact see_fault W b off cap w hrow hf hu _ rfl (by simpa using hc)
    · rw [check_front hf]
      exact see_front W b off cap w hrow (by omega) (by omega) hf
/-- See of words that may be. -/
theorem see_yes (W : List Int) (ad : Option Addr) (cap : Nat) (w : World) (hr : 2 ≤ W.length → ∃ b off, ad = some ⟨b, off, none⟩ ∧ Row w b off W) (hc : (checkOf W).1 = 0) :
    Calls Try.prog 31 #[heapV ad W.length cap] w fun e w' => ViewAns W w.heap.size e w' ∧ Below w.heap.size w w' := by
  obtain ⟨hf, hu⟩ := check_ok hc
  obtain ⟨h2, _⟩ := front_out hf
  obtain ⟨b, off, rfl, hrow⟩ := hr h2
  rw [check_things hf hu] at hc
  exact see_good W b off cap w hrow hf hu (fault_zero _ _ _ hc)

/-- open: the view, or ErrHeap. -/
def OpenAns (W : List Int) (B : Nat) (e : Ending) (w' : World) : Prop :=
  ∃ b cap bm, e = .returned (.tuple #[viewV b W.length cap bm, .int .i64 0]) ∧ IsView w' b cap bm W ∧ B ≤ b ∧ B ≤ bm ∧ b ≠ bm

theorem boxes1 {w w' : World} {a x y : Value} {t t' : TypeId} (hb : Below ((w.alloc (.cells #[a] t)).alloc (.cells #[x, y] t')).heap.size ((w.alloc (.cells #[a] t)).alloc (.cells #[x, y] t')) w') :
    w'.cell? ⟨w.heap.size, 0, none⟩ = some a ∧ w'.cell? ⟨w.heap.size + 1, 0, none⟩ = some x ∧ w'.cell? ⟨w.heap.size + 1, 1, none⟩ = some y ∧ w'.frozen? ⟨w.heap.size + 1, 0, none⟩ = false ∧ w'.frozen? ⟨w.heap.size + 1, 1, none⟩ = false ∧ w.heap.size + 1 < w'.heap.size := by
  have hs := hb.size
  refine ⟨?_, ?_, ?_, ?_, ?_, by simp at hs; omega⟩
  · rw [hb.cell (p := ⟨w.heap.size, 0, none⟩) (by simp; omega), cell_past _ (by simp)]; simp
  · rw [hb.cell (p := ⟨w.heap.size + 1, 0, none⟩) (by simp), cell_at2 (by simp)]; rfl
  · rw [hb.cell (p := ⟨w.heap.size + 1, 1, none⟩) (by simp), cell_at2 (by simp)]; rfl
  · rw [hb.frozen (p := ⟨w.heap.size + 1, 0, none⟩) (by simp)]; exact frozen_at2 (by simp)
  · rw [hb.frozen (p := ⟨w.heap.size + 1, 1, none⟩) (by simp)]; exact frozen_at2 (by simp)
theorem below2 {w w' : World} {o1 o2 : Obj} (hb : Below ((w.alloc o1).alloc o2).heap.size ((w.alloc o1).alloc o2) w') : Below w.heap.size w w' :=
  (((Below.refl _ _).alloc (Nat.le_refl _) _).alloc (by simp) _).trans (hb.mono (by simp; omega))

theorem reads2 {W : List Int} {ad : Option Addr} {w : World} {o1 o2 : Obj} (hr : 2 ≤ W.length → ∃ b off, ad = some ⟨b, off, none⟩ ∧ Row w b off W) : 2 ≤ W.length → ∃ b off, ad = some ⟨b, off, none⟩ ∧ Row ((w.alloc o1).alloc o2) b off W :=
  fun h => let ⟨b, off, e, r⟩ := hr h; ⟨b, off, e, (r.alloc _).alloc _⟩
theorem reads1 {W : List Int} {ad : Option Addr} {w : World} {o1 : Obj} (hr : 2 ≤ W.length → ∃ b off, ad = some ⟨b, off, none⟩ ∧ Row w b off W) : 2 ≤ W.length → ∃ b off, ad = some ⟨b, off, none⟩ ∧ Row (w.alloc o1) b off W :=
  fun h => let ⟨b, off, e, r⟩ := hr h; ⟨b, off, e, r.alloc _⟩

end Go.Proofs.Ythdhaokjibfjdaa
