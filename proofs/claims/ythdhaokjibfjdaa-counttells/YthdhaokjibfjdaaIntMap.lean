/- Maps of numbers by numbers. -/
import Derived.Test.YthdhaokjibfjdaaView3
import Derived.OwnWalk
namespace Go.Proofs.Ythdhaokjibfjdaa
open Go.RowKit
open Go.Maps (Keyed keyOf_int_mk)

/-- A map of numbers by numbers in memory of its own. -/
def IntMap (w : World) (bm top : Nat) (f : Int → Option Int) : Prop :=
  ∃ (n : Nat) (D : DataW Unit), w.ownsMap Try.prog 3 (plainElem Try.prog 3) bm n D ∧ n ≤ top ∧
    (∀ o : Int, Go.Maps.has D (.int .i64 o) = (f o).isSome) ∧ (∀ (o x : Int), f o = some x → D.atKey (.int .i64 o) (.lit (.int .i64 0)) = .lit (.int .i64 x))
theorem IntMap.lt {w : World} {bm top : Nat} {f : Int → Option Int} (h : IntMap w bm top f) : bm < w.heap.size := by obtain ⟨n, D, ho, _⟩ := h; exact ho.lt
theorem IntMap.below {w w' : World} {bm top B : Nat} {f : Int → Option Int} (h : IntMap w bm top f) (hb : Below B w w') (hB : bm < B) : IntMap w' bm top f := by
  obtain ⟨n, D, ho, r⟩ := h; exact ⟨n, D, ownsMap_below ho hb hB, r⟩
theorem IntMap.new (w : World) : IntMap (w.alloc (.map #[] 0)) w.heap.size 0 (fun _ => none) :=
  ⟨0, .map [], World.ownsMap_made (H := Unit) w Try.prog 3 (plainElem Try.prog 3), Nat.le_refl _, fun _ => rfl, fun _ _ h => by cases h⟩
theorem IntMap.put {w' : World} {bm n top : Nat} {f : Int → Option Int} {D : DataW Unit} {o x : Int} {w : World} (hD : w.ownsMap Try.prog 3 (plainElem Try.prog 3) bm n D) (hn : n ≤ top)
    (hh : ∀ o : Int, Go.Maps.has D (.int .i64 o) = (f o).isSome) (ha : ∀ (o x : Int), f o = some x → D.atKey (.int .i64 o) (.lit (.int .i64 0)) = .lit (.int .i64 x))
    (ho : w'.ownsMap Try.prog 3 (plainElem Try.prog 3) bm (n + 1) (D.put (.int .i64 o) (.lit (.int .i64 x)))) : IntMap w' bm (top + 1) (fun k => if k = o then some x else f k) := by
  have hM := hD.isMap
  refine ⟨n + 1, _, ho, by omega, fun k => ?_, fun k y hk => ?_⟩
  · by_cases e : k = o
    · subst e
      rw [Go.Maps.has_put_same hM (show WideAt.IsKeyLit (.int .i64 _) from trivial)]; simp
    · rw [Go.Maps.has_put_other (fun h => e (by simp at h; omega)), hh k]
      simp [e]
  · by_cases e : k = o
    · subst e
      rw [Go.Maps.atKey_put_same hM (show WideAt.IsKeyLit (.int .i64 _) from trivial)]
      simp at hk; rw [hk]
    · rw [Go.Maps.atKey_put_other (fun h => e (by simp at h; omega))]
      exact ha k y (by simpa [e] using hk)

end Go.Proofs.Ythdhaokjibfjdaa
