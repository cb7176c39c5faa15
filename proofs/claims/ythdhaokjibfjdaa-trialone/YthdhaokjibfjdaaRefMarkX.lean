/- gessoref3.mark and gessoref3.Reach: what is marked. -/
import Derived.Test.YthdhaokjibfjdaaRefHeapX
import Derived.Test.YthdhaokjibfjdaaGh
import Derived.Test.YthdhaokjibfjdaaViewX
import Derived.OwnWalk
import Derived.WalkSmall
namespace Go.Proofs.Ythdhaokjibfjdaa
open Go.RowKit

/-- Marks as values. -/
abbrev bvals (B : List Bool) : List Value := B.map Value.bool
/-- The marks B lie in block ob. -/
abbrev Marks (w : World) (ob n oc : Nat) (B : List Bool) : Prop := w.ownsRow 0 4 1 (sl ob n oc) n (bvals B)

theorem Marks.length {w : World} {ob n oc : Nat} {B : List Bool} (h : Marks w ob n oc B) : B.length = n := by
  have := h.1; simpa using this
theorem Marks.cell {w : World} {ob n oc : Nat} {B : List Bool} (h : Marks w ob n oc B) {k : Nat} (hk : k < n) : w.cell? ⟨ob, k, none⟩ = some (.bool (bt B k)) := by
  have hl := h.length
  rw [h.cellAt k (by omega)]
  simp [bt, List.getElem?_eq_getElem (show k < B.length by omega)]
theorem Marks.set {w : World} {ob n oc : Nat} {B : List Bool} (h : Marks w ob n oc B) (k : Nat) : Marks (w.setCell ⟨ob, k, none⟩ (.bool true)) ob n oc (B.set k true) := by
  have := (h.stored k (.bool true)).1
  have e : bvals (B.set k true) = (bvals B).set k (.bool true) := by simp [bvals, List.map_set]
  unfold Marks; rw [e]; exact this
theorem Marks.below {w w' : World} {ob n oc B0 : Nat} {B : List Bool} (h : Marks w ob n oc B) (hb : Below B0 w w') (hB : ob < B0) : Marks w' ob n oc B := ownsRow_below h hb hB

/-- What mark does. -/
def MarkAns (W : List Int) (B : List Bool) (o : Int) (ob oc : Nat) (w : World) (e : Ending) (w' : World) : Prop :=
  e = .returned (.bool (newB W B o)) ∧ Marks w' ob W.length oc (markOf W B o) ∧ Below ob w w' ∧ w'.heap.size = w.heap.size

theorem mark_any (W : List Int) (B : List Bool) (b off cap ob oc : Nat) (o : Int) (w : World) (hr : Row w b off W) (hu : unfit W 2 = none) (hl : W.length ≤ 2000) (hown : Marks w ob W.length oc B) :
    Calls Try.prog 30 #[.slice (some ⟨b, off, none⟩) W.length cap, sl ob W.length oc, .int .i64 o] w (MarkAns W B o ob oc w) := by
  unfold MarkAns
  cases ht : thingB W o with
  | false =>
    have hn : newB W B o = false := by unfold newB; rw [ht]; rfl
    rw [hn, mark_old hn]
    go_enter Try.func30, Try.ntmps30
    go_wp2_with (go_at_call 53; refine (rthing_any W b off cap o w hr hu hl).mono ?_; rintro e w' ⟨rfl, rfl⟩)
    go_ret
    exact ⟨rfl, hown, Below.refl _ _, rfl⟩
  | true =>
    obtain ⟨p, rfl, hm, hp, he⟩ := thing_ref ht
    have h2p : 2 * (p : Int) / 2 = (p : Int) := by omega
    have hip : (p : Int) < (W.length : Int) := by omega
    have hc := hown.cell hp
    have hfz := hown.frozenAt p
    have hob := own_lt hown
    cases hb : bt B p with
    | true =>
      have hn : newB W B (2 * (p : Int)) = false := by unfold newB; rw [he, hb]; simp
      rw [hn, mark_old hn]
      rw [hb] at hc
      go_enter Try.func30, Try.ntmps30
      go_wp2_with (go_at_call 53; refine (rthing_any W b off cap _ w hr hu hl).mono ?_; rintro e w' ⟨rfl, rfl⟩)
      go_ret
      exact ⟨rfl, hown, Below.refl _ _, rfl⟩
    | false =>
      have hn : newB W B (2 * (p : Int)) = true := by unfold newB; rw [ht, he, hb]; rfl
      have hmk : markOf W B (2 * (p : Int)) = B.set p true := by unfold markOf; rw [if_pos hn, he]
      rw [hn, hmk]
      rw [hb] at hc
      clear hn hmk
      go_enter Try.func30, Try.ntmps30
      go_wp2_with (go_at_call 53; refine (rthing_any W b off cap _ w hr hu hl).mono ?_; rintro e w' ⟨rfl, rfl⟩)
      go_ret
      exact ⟨rfl, hown.set p, (Below.refl ob _).setCell (p := ⟨ob, p, none⟩) (Nat.le_refl ob) _, by simp [World.setCell]⟩

end Go.Proofs.Ythdhaokjibfjdaa
