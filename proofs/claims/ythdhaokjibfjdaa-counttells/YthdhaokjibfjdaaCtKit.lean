/- What CountTells asks: who is held by nobody. -/
import Derived.Test.YthdhaokjibfjdaaRef19
import Derived.Test.YthdhaokjibfjdaaLawKit
import Derived.Test.YthdhaokjibfjdaaGonePlain
namespace Go.Proofs.Ythdhaokjibfjdaa
open Go.RowKit

/-- What Counts and Trial answer. -/
def CtAns (L : List Int) (e : Ending) (w : World) : Prop := ∃ ad c, e = .returned (.tuple #[.slice ad L.length c, .agg #[.int .i64 0, .int .i64 0]]) ∧ Reads w (.slice ad L.length c) L
theorem box2c {w w' : World} {x y : Value} {t : TypeId} (hb : Below (w.alloc (.cells #[x, y] t)).heap.size (w.alloc (.cells #[x, y] t)) w') : w'.cell? ⟨w.heap.size, 0, none⟩ = some x ∧ w'.cell? ⟨w.heap.size, 1, none⟩ = some y ∧ w.heap.size < w'.heap.size := by
  have hs := hb.size
  simp at hs
  exact ⟨by rw [hb.cell (p := ⟨w.heap.size, 0, none⟩) (by simp)]; simp, by rw [hb.cell (p := ⟨w.heap.size, 1, none⟩) (by simp)]; simp, by omega⟩
theorem reads_at {w : World} {ad : Option Addr} {c : Nat} {xs : List Int} (h : Reads w (.slice ad xs.length c) xs) {k : Nat} (hk : k < xs.length) : ∃ b off, ad = some ⟨b, off, none⟩ ∧ b < w.heap.size ∧ w.cell? ⟨b, off + k, none⟩ = some (.int .i64 (wd xs k)) := by
  obtain ⟨ad', c', e, h2⟩ := h
  injection e with e1 _ e3
  subst e1
  obtain ⟨b, off, e, hl, hc⟩ := h2 (by omega)
  exact ⟨b, off, e, hl, hc k hk⟩
theorem gone_snoc {A : List Bool} {pre : List Nat} {p : Nat} (h : bt A p = false) : (pre ++ [p]).filter (fun q => !bt A q) = pre.filter (fun q => !bt A q) ++ [p] := by rw [List.filter_append]; simp [h]
theorem gone_skip {A : List Bool} {pre : List Nat} {p : Nat} (h : bt A p = true) : (pre ++ [p]).filter (fun q => !bt A q) = pre.filter (fun q => !bt A q) := by rw [List.filter_append]; simp [h]
/-- Where the next one stands. -/
theorem gone_next {W : List Int} {A : List Bool} {pre : List Nat} {p : Nat} (hall : pre ++ places W p = places W 2) (hp : p < W.length) (hb : bt A p = false) :
    (pre.filter fun q => !bt A q).length < ((places W 2).filter fun q => !bt A q).length ∧ wd (((places W 2).filter fun q => !bt A q).map fun q : Nat => 2 * (q : Int)) (pre.filter fun q => !bt A q).length = 2 * (p : Int) := by
  have e : (places W 2).filter (fun q => !bt A q) = pre.filter (fun q => !bt A q) ++ p :: (places W (nextAt W p)).filter (fun q => !bt A q) := by
    rw [← hall, places_in hp, List.filter_append, List.filter_cons, if_pos (by rw [hb]; rfl)]
  rw [e]
  refine ⟨by rw [List.length_append, List.length_cons]; omega, ?_⟩
  rw [List.map_append, List.map_cons]
  unfold wd
  rw [List.getD_eq_getElem?_getD, List.getElem?_append_right (by rw [List.length_map]; omega), List.length_map, Nat.sub_self]
  rfl
end Go.Proofs.Ythdhaokjibfjdaa
