/- heap.Check and heap.Things. -/
import Derived.Test.YtmgmbgacdjebgaaSee2
import Derived.Test.YtmgmbgacdjebgaaRefThings
namespace Go.Proofs.Ytmgmbgacdjebgaa
open Go.RowKit

theorem see_fst {W : List Int} (h : (checkOf W).1 = 0) : checkOf W = (0, 0) := by
  obtain ⟨hf, hu⟩ := check_ok h
  rw [check_things hf hu] at h ⊢
  exact fault_zero _ _ _ h

theorem box_two {w wr : World} {a x y : Value} {t t' : TypeId} (hb : Below ((w.alloc (.cells #[a] t)).alloc (.cells #[x, y] t')).heap.size ((w.alloc (.cells #[a] t)).alloc (.cells #[x, y] t')) wr) (o1 o2 : Obj) :
    ((wr.alloc o1).alloc o2).cell? ⟨w.heap.size + 1, 0, none⟩ = some x ∧ ((wr.alloc o1).alloc o2).cell? ⟨w.heap.size + 1, 1, none⟩ = some y ∧ ((wr.alloc o1).alloc o2).frozen? ⟨w.heap.size + 1, 0, none⟩ = false ∧ ((wr.alloc o1).alloc o2).frozen? ⟨w.heap.size + 1, 1, none⟩ = false := by
  have hs := hb.size
  have d := boxes1 ((hb.alloc (by simp at hs ⊢; omega) o1).alloc (by simp at hs ⊢; omega) o2)
  exact ⟨d.2.1, d.2.2.1, d.2.2.2.1, d.2.2.2.2.1⟩

set_option maxHeartbeats 1000000 in
theorem check_any (W : List Int) (ad : Option Addr) (cap : Nat) (w : World) (hm : W.length ≤ maxLen) (hr : 2 ≤ W.length → ∃ b off, ad = some ⟨b, off, none⟩ ∧ Row w b off W) :
    Calls Try.prog 22 #[heapV ad W.length cap] w fun e w' => e = .returned (.agg #[.int .i64 (checkOf W).1, .int .i64 (checkOf W).2]) ∧ Below w.heap.size w w' := by
  by_cases h : (checkOf W).1 = 0
  · have hs : Hid (∀ w0, (2 ≤ W.length → ∃ b off, ad = some ⟨b, off, none⟩ ∧ Row w0 b off W) → Calls Try.prog 34 #[heapV ad W.length cap] w0 fun e w' => ViewAns W w0.heap.size e w' ∧ Below w0.heap.size w0 w') :=
      fun w0 hr0 => see_yes W ad cap w0 hr0 h
    rw [see_fst h]
    have HR : Hid (2 ≤ W.length → ∃ b off, ad = some ⟨b, off, none⟩ ∧ Row w b off W) := hr
    clear h hr
    go_enter Try.func22, Try.ntmps22
    go_wp2_with (go_at_call 34; refine (hs.out _ (reads2 HR.out)).mono ?_; rintro e w1 ⟨⟨b, cap', bm, rfl, hv, hb, hbm, hne⟩, hb1⟩; have hz : w.heap.size + 1 < w1.heap.size := (boxes1 hb1).2.2.2.2.2; have d1 := (fun o1 o2 => (box_two hb1 o1 o2).1); have d2 := (fun o1 o2 => (box_two hb1 o1 o2).2.1); have d3 := (fun o1 o2 => (box_two hb1 o1 o2).2.2.1); have d4 := (fun o1 o2 => (box_two hb1 o1 o2).2.2.2))
    refine bodyPost_ret (v := .agg #[.int .i64 0, .int .i64 0]) (by simp [results, Try.results22, go_sem, d1, d2]) rfl ⟨rfl, ?_⟩
    repeat (first | refine Below.setCell ?_ (by dsimp only; omega) _ | exact ((below2 hb1).alloc (by omega) _).alloc (by simp; omega) _)
  · have hs : Hid (∀ w0, (2 ≤ W.length → ∃ b off, ad = some ⟨b, off, none⟩ ∧ Row w0 b off W) → Calls Try.prog 34 #[heapV ad W.length cap] w0 fun e w' => e = .returned (.tuple #[noView, .agg #[.int .i64 (checkOf W).1, .int .i64 (checkOf W).2]]) ∧ Below w0.heap.size w0 w') :=
      fun w0 hr0 => see_no W ad cap w0 hm hr0 h
    generalize checkOf W = F at h hs ⊢
    have HR : Hid (2 ≤ W.length → ∃ b off, ad = some ⟨b, off, none⟩ ∧ Row w b off W) := hr
    clear h hr
    go_enter Try.func22, Try.ntmps22
    go_wp2_with (go_at_call 34; refine (hs.out _ (reads2 HR.out)).mono ?_; rintro e w1 ⟨rfl, hb1⟩; have hz : w.heap.size + 1 < w1.heap.size := (boxes1 hb1).2.2.2.2.2; have d1 := (fun o1 o2 => (box_two hb1 o1 o2).1); have d2 := (fun o1 o2 => (box_two hb1 o1 o2).2.1); have d3 := (fun o1 o2 => (box_two hb1 o1 o2).2.2.1); have d4 := (fun o1 o2 => (box_two hb1 o1 o2).2.2.2))
    refine bodyPost_ret (v := .agg #[.int .i64 F.1, .int .i64 F.2]) (by simp [results, Try.results22, go_sem, d1, d2]) rfl ⟨rfl, ?_⟩
    repeat (first | refine Below.setCell ?_ (by dsimp only; omega) _ | exact ((below2 hb1).alloc (by omega) _).alloc (by simp; omega) _)

/-- Things of no view. -/
theorem things_none (w : World) : Calls Try.prog 61 #[noView] w fun e w' => e = .returned (.slice none 0 0) ∧ Below w.heap.size w w' := by
  go_enter Try.func61, Try.ntmps61
  go_wp2
  refine wp_loop_rounds 1 ?_
  rw [rounds_succ]
  go_wp2
  go_ret
  exact ⟨rfl, (Below.refl _ _).alloc (Nat.le_refl _) _⟩

/-- The answer of Things: references, and no error. -/
def ThingsAns (B : Nat) (xs : List Int) (e : Ending) (w : World) : Prop := ∃ ad c, e = .returned (.tuple #[.slice ad xs.length c, .int .i64 0]) ∧ w.ownsRow B 3 1 (.slice ad xs.length c) xs.length (vals xs)

end Go.Proofs.Ytmgmbgacdjebgaa
