/- Rows of numbers in memory, and what keeps them as they are. -/
import Derived.Test.YthdhaokjibfjdaaRows
import Derived.Test.YthdhaokjibfjdaaGh
import Derived.WalkKit
import Derived.WalkSpells
import Derived.WalkLawsBesides
import Derived.Below
import Derived.OpenShut
namespace Go.Proofs.Ythdhaokjibfjdaa
open Go.RowKit

/-- From the cell off of block b on the numbers xs stand. -/
structure Row (w : World) (b off : Nat) (xs : List Int) : Prop where
  lt : b < w.heap.size
  cell : ∀ k, k < xs.length → w.cell? ⟨b, off + k, none⟩ = some (.int .i64 (wd xs k))
  wf : ∀ k, (Lit.int .i64 (wd xs k)).wf = true

theorem Row.below {w w' : World} {b off B : Nat} {xs : List Int} (h : Row w b off xs) (hb : Below B w w') (hB : b < B) : Row w' b off xs :=
  ⟨by have := hb.size; have := h.lt; omega, fun k hk => by rw [hb.cell (p := ⟨b, off + k, none⟩) hB]; exact h.cell k hk, h.wf⟩
theorem Row.same {w w' : World} {b off : Nat} {xs : List Int} (h : Row w b off xs) (hb : Below w.heap.size w w') : Row w' b off xs := h.below hb h.lt
theorem Row.alloc {w : World} {b off : Nat} {xs : List Int} (h : Row w b off xs) (o : Obj) : Row (w.alloc o) b off xs :=
  h.same ((Below.refl _ _).alloc (Nat.le_refl _) o)
theorem Row.ub {w : World} {b off : Nat} {xs : List Int} (h : Row w b off xs) (k : Nat) : wd xs k ≤ 9223372036854775807 := (bounds_i64 (h.wf k)).2
theorem Row.lb {w : World} {b off : Nat} {xs : List Int} (h : Row w b off xs) (k : Nat) : -9223372036854775808 ≤ wd xs k := (bounds_i64 (h.wf k)).1
theorem bcell {W w1 : World} (hb : Below W.heap.size W w1) : (∀ b o, b < W.heap.size → w1.cell? ⟨b, o, none⟩ = W.cell? ⟨b, o, none⟩) ∧ (∀ b o, b < W.heap.size → w1.frozen? ⟨b, o, none⟩ = W.frozen? ⟨b, o, none⟩) :=
  ⟨fun b o h => hb.cell (p := ⟨b, o, none⟩) h, fun b o h => hb.frozen (p := ⟨b, o, none⟩) h⟩

/-- A slice of numbers that is the call's own, from cell 0 of a block on. -/
abbrev sl (b n cap : Nat) : Value := .slice (some ⟨b, 0, none⟩) n cap
theorem ownsRow_below {w w' : World} {base B : Nat} {e : TypeId} {size n cap b : Nat} {xs : List Value} (h : w.ownsRow base e size (sl b n cap) n xs) (hb : Below B w w') (hB : b < B) : w'.ownsRow base e size (sl b n cap) n xs := by
  obtain ⟨h1, h2⟩ := h
  refine ⟨h1, ?_⟩
  rcases h2 with ⟨h2, _⟩ | ⟨g, cap', cur, hv, hg, hh, r⟩
  · cases h2
  · simp only [Value.slice.injEq, Option.some.injEq, Addr.mk.injEq, and_true, true_and] at hv
    obtain ⟨rfl, rfl⟩ := hv
    exact Or.inr ⟨b, cap, cur, rfl, hg, by rw [hb.block b hB]; exact hh, r⟩
theorem own_lt {w : World} {base : Nat} {e : TypeId} {size n cap b : Nat} {xs : List Value} (h : w.ownsRow base e size (sl b n cap) n xs) : b < w.heap.size := (h.lt b rfl).2
theorem below_call {w w1 : World} {o : Obj} (hb : Below (w.alloc o).heap.size (w.alloc o) w1) : Below w.heap.size w w1 :=
  ((Below.refl _ _).alloc (Nat.le_refl _) _).trans (hb.mono (by simp))
theorem wrap_id {x : Int} (h1 : -9223372036854775808 ≤ x) (h2 : x ≤ 9223372036854775807) : IntKind.i64.wrap x = x := by
  rw [IntKind.wrap_i64]; omega
end Go.Proofs.Ythdhaokjibfjdaa
