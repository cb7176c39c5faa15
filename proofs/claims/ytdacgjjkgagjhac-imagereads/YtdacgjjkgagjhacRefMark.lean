/- gessoref3.mark and gessoref3.Reach: what is marked. -/
import Derived.Test.YtdacgjjkgagjhacRefHeap
import Derived.Test.YtdacgjjkgagjhacReachPlain
import Derived.Test.YtdacgjjkgagjhacView
import Derived.OwnWalk
import Derived.WalkSmall
namespace Go.Proofs.Ytdacgjjkgagjhac
open Go.RowKit

/-- Marks as values. -/
abbrev bvals (B : List Bool) : List Value := B.map Value.bool
/-- The marks B lie in block ob. -/
abbrev Marks (w : World) (ob n oc : Nat) (B : List Bool) : Prop := w.ownsRow 0 4 1 (sl ob n oc) n (bvals B)

theorem Marks.length {w : World} {ob n oc : Nat} {B : List Bool} (h : Marks w ob n oc B) : B.length = n := by
  have := h.1; simpa using this
theorem Marks.cell {w : World} {ob n oc : Nat} {B : List Bool} (h : Marks w ob n oc B) {k : Nat} (hk : k < n) : w.cell? ⟨ob, k, none⟩ = some (.bool (bt B k)) := by
  have hl := h.length
  rw [h.cellAt k (by omega)]
  simp [bt, List.getElem?_eq_getElem (show k < B.length by omega)]
theorem Marks.set {w : World} {ob n oc : Nat} {B : List Bool} (h : Marks w ob n oc B) (k : Nat) : Marks (w.setCell ⟨ob, k, none⟩ (.bool true)) ob n oc (B.set k true) := by
  have := (h.stored k (.bool true)).1
  have e : bvals (B.set k true) = (bvals B).set k (.bool true) := by simp [bvals, List.map_set]
  unfold Marks; rw [e]; exact this
theorem Marks.below {w w' : World} {ob n oc B0 : Nat} {B : List Bool} (h : Marks w ob n oc B) (hb : Below B0 w w') (hB : ob < B0) : Marks w' ob n oc B := ownsRow_below h hb hB

/-- What mark does. -/
def MarkAns (W : List Int) (B : List Bool) (o : Int) (ob oc : Nat) (w : World) (e : Ending) (w' : World) : Prop :=
  e = .returned (.bool (newB W B o)) ∧ Marks w' ob W.length oc (markOf W B o) ∧ Below ob w w' ∧ w'.heap.size = w.heap.size

end Go.Proofs.Ytdacgjjkgagjhac
