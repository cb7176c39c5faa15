/- Where things lie that are laid one behind the other, and what becomes of their references. -/
import Derived.Test.YtfmapgbkajlfkaaRelaid
namespace Go.Proofs.Ytfmapgbkajlfkaa

/-- The references of those that are laid one behind the other, as they are then. -/
def refAt (W : List Int) : Nat → List Nat → Int → Option Int
  | _, [], _ => none
  | top, q :: r, o => if o = 2 * (q : Int) then some (2 * (top : Int)) else refAt W (top + roomAt W q) r o
theorem refAt_snoc (W : List Int) : ∀ (ps : List Nat) (top p : Nat), p ∉ ps → refAt W top (ps ++ [p]) = fun o => if o = 2 * (p : Int) then some (2 * ((top + roomSum W ps : Nat) : Int)) else refAt W top ps o
  | [], top, p, _ => by funext o; simp only [List.nil_append, refAt, roomSum, Nat.add_zero]
  | q :: r, top, p, h => by
    funext o
    have hq : p ≠ q := fun e => h (by rw [e]; exact List.mem_cons_self ..)
    rw [List.cons_append, refAt, refAt_snoc W r (top + roomAt W q) p (fun hm => h (List.mem_cons_of_mem _ hm)), refAt, roomSum]
    by_cases e : o = 2 * (q : Int)
    · rw [if_pos e, if_pos e, if_neg (by omega)]
    · rw [if_neg e, if_neg e, Nat.add_assoc]
theorem refAt_in {W : List Int} : ∀ {ps : List Nat} {top p : Nat}, p ∈ ps → refAt W top ps (2 * (p : Int)) = some (2 * (newAt W top ps p : Int))
  | q :: r, top, p, h => by
    rw [refAt, newAt]
    by_cases e : q = p
    · rw [if_pos (by omega), if_pos e]
    · rw [if_neg (by omega), if_neg e]
      rcases List.mem_cons.1 h with h | h
      · exact absurd h.symm e
      · exact refAt_in h
theorem refAt_out {W : List Int} : ∀ {ps : List Nat} {top : Nat} {o : Int}, (∀ p ∈ ps, o ≠ 2 * (p : Int)) → refAt W top ps o = none
  | [], _, _, _ => rfl
  | q :: r, top, o, h => by rw [refAt, if_neg (h q (List.mem_cons_self ..))]; exact refAt_out fun p hp => h p (List.mem_cons_of_mem _ hp)
/-- What turning says is what becomes of a reference. -/
theorem turn_refAt {W : List Int} {ps : List Nat} (hp : ∀ p ∈ ps, p ∈ places W 2) (hl : W.length ≤ 2000) (o : Int) :
    turnP W ps o = match refAt W 2 ps o with | some x => x | none => if thingB W o = true then 0 else o := by
  by_cases h : ∃ p ∈ ps, o = 2 * (p : Int)
  · obtain ⟨p, hm, rfl⟩ := h
    rw [refAt_in hm]
    unfold turnP
    rw [if_pos (ref_thing hl (hp p hm)), pl2_two]
  · have hn : ∀ p ∈ ps, o ≠ 2 * (p : Int) := fun p hp e => h ⟨p, hp, e⟩
    rw [refAt_out hn]
    unfold turnP
    by_cases ht : thingB W o = true
    · obtain ⟨p, e, _, _, hq⟩ := thing_ref ht
      have hq' : pl2 o = p := hq
      rw [if_pos ht, if_pos ht, hq', newAt_none (fun hm => hn p hm e)]; rfl
    · rw [if_neg ht, if_neg ht]
theorem roomSum_le {W : List Int} {ps : List Nat} (hn : ps.Nodup) (hp : ∀ p ∈ ps, p ∈ places W 2) (h2 : 2 ≤ W.length) (hu : unfit W 2 = none) : 2 + roomSum W ps ≤ W.length := by
  have h1 := roomSum_sub W ps (places W 2) hn hp
  have h2 := places_sum _ 2 (Nat.le_refl _) h2 hu
  omega

theorem refs_wd {ps : List Nat} {i : Nat} (h : i < ps.length) : wd (refs ps) i = 2 * ((ps.getD i 0 : Nat) : Int) := by
  unfold wd refs
  rw [List.getD_eq_getElem?_getD, List.getElem?_map, List.getElem?_eq_getElem h, List.getD_eq_getElem?_getD, List.getElem?_eq_getElem h]; rfl
theorem getD_mem' {ps : List Nat} {i : Nat} (h : i < ps.length) : ps.getD i 0 ∈ ps := by
  rw [List.getD_eq_getElem?_getD, List.getElem?_eq_getElem h]; exact List.getElem_mem h
theorem take_snocN {ps : List Nat} {i : Nat} (h : i < ps.length) : ps.take (i + 1) = ps.take i ++ [ps.getD i 0] := by
  rw [List.take_add_one, List.getElem?_eq_getElem h, List.getD_eq_getElem?_getD, List.getElem?_eq_getElem h]; rfl
theorem take_not {ps : List Nat} {i : Nat} (hn : ps.Nodup) (h : i < ps.length) : ps.getD i 0 ∉ ps.take i := by
  have := hn.sublist (List.take_sublist (i + 1) ps)
  rw [take_snocN h, List.nodup_append] at this
  exact fun hm => this.2.2 _ hm _ (List.mem_singleton_self _) rfl

theorem laid_length {W R : List Int} {ps : List Nat} (M : Moves W R ps) (i : Nat) : (laidT (turnP W ps) W ps i).length ≤ W.length := by
  have h1 := roomSum_le (M.once.sublist (List.take_sublist i _)) (fun p hm => M.place (List.mem_of_mem_take hm)) M.two M.fine.fit
  unfold laidT
  simp only [List.length_cons, flat_length _ fun p hm => M.room (List.mem_of_mem_take hm)]; omega

end Go.Proofs.Ytfmapgbkajlfkaa
