/- heap.Check and heap.Things. -/
import Derived.Test.YthdhaokjibfjdaaGm
import Derived.Test.YthdhaokjibfjdaaRefThingsX
namespace Go.Proofs.Ythdhaokjibfjdaa
open Go.RowKit

theorem see_fst {W : List Int} (h : (checkOf W).1 = 0) : checkOf W = (0, 0) := by
  obtain ⟨hf, hu⟩ := check_ok h
  rw [check_things hf hu] at h ⊢
  exact fault_zero _ _ _ h

theorem box_two {w wr : World} {a x y : Value} {t t' : TypeId} (hb : Below ((w.alloc (.cells #[a] t)).alloc (.cells #[x, y] t')).heap.size ((w.alloc (.cells #[a] t)).alloc (.cells #[x, y] t')) wr) (o1 o2 : Obj) :
    ((wr.alloc o1).alloc o2).cell? ⟨w.heap.size + 1, 0, none⟩ = some x ∧ ((wr.alloc o1).alloc o2).cell? ⟨w.heap.size + 1, 1, none⟩ = some y ∧ ((wr.alloc o1).alloc o2).frozen? ⟨w.heap.size + 1, 0, none⟩ = false ∧ ((wr.alloc o1).alloc o2).frozen? ⟨w.heap.size + 1, 1, none⟩ = false := by
  have hs := hb.size
  have d := boxes1 ((hb.alloc (by simp at hs ⊢; omega) o1).alloc (by simp at hs ⊢; omega) o2)
  exact ⟨d.2.1, d.2.2.1, d.2.2.2.1, d.2.2.2.2.1⟩

/-- Things of no view. -/
theorem things_none (w : World) : Calls Try.prog 26 #[noView] w fun e w' => e = .returned (.slice none 0 0) ∧ Below w.heap.size w w' := by
  go_enter Try.func26, Try.ntmps26
  go_wp2
  refine wp_loop_rounds 1 ?_
  rw [rounds_succ]
  go_wp2
  go_ret
  exact ⟨rfl, (Below.refl _ _).alloc (Nat.le_refl _) _⟩

/-- The answer of Things: references, and no error. -/
def ThingsAns (B : Nat) (xs : List Int) (e : Ending) (w : World) : Prop := ∃ ad c, e = .returned (.tuple #[.slice ad xs.length c, .int .i64 0]) ∧ w.ownsRow B 3 1 (.slice ad xs.length c) xs.length (vals xs)

end Go.Proofs.Ythdhaokjibfjdaa
