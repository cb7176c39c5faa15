/- Where things come to stand, as a list; a walk along all things. No Go in sight. -/
import Derived.Test.YthdhaokjibfjdaaMovePlain
namespace Go.Proofs.Ythdhaokjibfjdaa

/-- A list of new places. -/
def TOk (T W : List Int) (qs : List Nat) : Prop := T.length = W.length ∧ ∀ k, wd T k = (newAt W 2 qs k : Int)
theorem newAt_snoc (W : List Int) : ∀ (qs : List Nat) (top p k : Nat), p ∉ qs → newAt W top (qs ++ [p]) k = if k = p then top + roomSum W qs else newAt W top qs k
  | [], top, p, k, _ => by
    rw [List.nil_append, newAt, newAt, newAt, roomSum]
    by_cases e : p = k
    · rw [if_pos e, if_pos e.symm]; rfl
    · rw [if_neg e, if_neg (fun h => e h.symm)]
  | q :: r, top, p, k, h => by
    have hq : p ≠ q := fun e => h (by rw [e]; exact List.mem_cons_self ..)
    rw [List.cons_append, newAt, newAt_snoc W r _ p k (fun hm => h (List.mem_cons_of_mem _ hm)), newAt, roomSum]
    by_cases e : q = k
    · rw [if_pos e, if_pos e, if_neg (by omega)]
    · rw [if_neg e, if_neg e, Nat.add_assoc]
theorem TOk.start (W : List Int) : TOk (List.replicate W.length 0) W [] :=
  ⟨by simp, fun k => by unfold wd; rw [List.getD_eq_getElem?_getD, List.getElem?_replicate]; split <;> rfl⟩
theorem TOk.set {T W : List Int} {qs : List Nat} {p : Nat} (h : TOk T W qs) (hp : p < W.length) (hn : p ∉ qs) : TOk (T.set p ((2 + roomSum W qs : Nat) : Int)) W (qs ++ [p]) := by
  refine ⟨by rw [List.length_set]; exact h.1, fun k => ?_⟩
  rw [newAt_snoc W qs 2 p k hn]
  by_cases e : k = p
  · subst e; rw [if_pos rfl, wd_set_same (by rw [h.1]; exact hp)]
  · rw [if_neg e, wd_set_other (fun h => e h.symm)]; exact h.2 k
theorem newAt_le (W : List Int) : ∀ (qs : List Nat) (top k : Nat), newAt W top qs k ≤ top + roomSum W qs
  | [], top, k => by rw [newAt]; omega
  | q :: r, top, k => by
    rw [newAt, roomSum]
    split
    · omega
    · have := newAt_le W r (top + roomAt W q) k; omega
theorem TOk.bounds {T W : List Int} {qs : List Nat} (h : TOk T W qs) (hs : 2 + roomSum W qs ≤ 2000) (k : Nat) : 0 ≤ wd T k ∧ wd T k ≤ 2000 := by
  rw [h.2 k]; have := newAt_le W qs 2 k; omega

/-- What is known of where a walk along all things stands. -/
structure AtPlace (W : List Int) (A : List Bool) (pre : List Nat) (p : Nat) : Prop where
  all : pre ++ places W p = places W 2
  fit : unfit W p = none
  two : 2 ≤ p
  top : p ≤ W.length
theorem AtPlace.next {W : List Int} {A : List Bool} {pre : List Nat} {p : Nat} (h : AtPlace W A pre p) (hp : p < W.length) : AtPlace W A (pre ++ [p]) (nextAt W p) := by
  obtain ⟨hf, hu⟩ := unfit_head hp h.fit
  have := (fits_out hf).2.2.2.2
  exact ⟨by rw [← h.all, places_in hp]; simp, hu, by have := h.two; unfold nextAt; omega, by unfold nextAt; omega⟩
theorem AtPlace.mem {W : List Int} {A : List Bool} {pre : List Nat} {p : Nat} (h : AtPlace W A pre p) (hp : p < W.length) : p ∈ places W 2 ∧ p ∉ pre := by
  have hall := h.all
  rw [places_in hp] at hall
  have hn := places_nodup (W := W) _ 2 (Nat.le_refl _)
  refine ⟨by rw [← hall]; simp, fun hm => ?_⟩
  rw [← hall, List.nodup_append] at hn
  exact hn.2.2 p hm p (List.mem_cons_self ..) rfl
theorem AtPlace.sum {W : List Int} {A : List Bool} {pre : List Nat} {p : Nat} (h : AtPlace W A pre p) (hu : unfit W 2 = none) : p = 2 + roomSum W pre := by
  have h1 := places_sum (W := W) _ 2 (Nat.le_refl _) (by have := h.two; have := h.top; omega) hu
  have h2 := places_sum (W := W) _ p (Nat.le_refl _) h.top h.fit
  rw [← h.all, roomSum_append] at h1
  omega
end Go.Proofs.Ythdhaokjibfjdaa
