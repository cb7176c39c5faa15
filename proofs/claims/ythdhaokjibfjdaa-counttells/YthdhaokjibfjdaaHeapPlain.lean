/- What chapter 2 says of heaps, as plain functions on lists of numbers, and what is true of them. No Go in sight. -/
import Derived.Test.YthdhaokjibfjdaaPlain
namespace Go.Proofs.Ythdhaokjibfjdaa

/-- The word at k. -/
def wd (W : List Int) (k : Nat) : Int := W.getD k 0
/-- How many slots a thing at p has. -/
def slotsAt (W : List Int) (p : Nat) : Nat := (wd W (p + 2) / 4).toNat
/-- The form of a thing at p. -/
def formAt (W : List Int) (p : Nat) : Int := wd W (p + 2) % 4
/-- Where the next thing begins. -/
def nextAt (W : List Int) (p : Nat) : Nat := p + 3 + slotsAt W p
/-- A thing fits at p. -/
def fitsB (W : List Int) (p : Nat) : Bool :=
  decide (p + 3 ≤ W.length ∧ 0 ≤ wd W (p + 2) ∧ wd W (p + 2) % 4 ≤ 2 ∧ wd W (p + 2) / 4 ≤ 60 ∧ p + 3 + slotsAt W p ≤ W.length)
/-- Where things begin, from p on. -/
def places (W : List Int) (p : Nat) : List Nat := if p < W.length then p :: places W (nextAt W p) else []
  termination_by W.length - p
  decreasing_by simp [nextAt]; omega
/-- The first place, from p on, where a thing does not fit. -/
def unfit (W : List Int) (p : Nat) : Option Nat := if p < W.length then (if fitsB W p = true then unfit W (nextAt W p) else some p) else none
  termination_by W.length - p
  decreasing_by simp [nextAt]; omega

theorem fits_out {W : List Int} {p : Nat} (h : fitsB W p = true) :
    p + 3 ≤ W.length ∧ 0 ≤ wd W (p + 2) ∧ wd W (p + 2) % 4 ≤ 2 ∧ wd W (p + 2) / 4 ≤ 60 ∧ p + 3 + slotsAt W p ≤ W.length := by
  unfold fitsB at h; exact of_decide_eq_true h
theorem fits_not {W : List Int} {p : Nat} (h : fitsB W p = false) :
    ¬ (p + 3 ≤ W.length ∧ 0 ≤ wd W (p + 2) ∧ wd W (p + 2) % 4 ≤ 2 ∧ wd W (p + 2) / 4 ≤ 60 ∧ p + 3 + slotsAt W p ≤ W.length) := by
  unfold fitsB at h; exact of_decide_eq_false h
theorem fits_mk {W : List Int} {p : Nat}
    (h : p + 3 ≤ W.length ∧ 0 ≤ wd W (p + 2) ∧ wd W (p + 2) % 4 ≤ 2 ∧ wd W (p + 2) / 4 ≤ 60 ∧ p + 3 + slotsAt W p ≤ W.length) : fitsB W p = true := by
  unfold fitsB; exact decide_eq_true h
theorem fits_no {W : List Int} {p : Nat}
    (h : ¬ (p + 3 ≤ W.length ∧ 0 ≤ wd W (p + 2) ∧ wd W (p + 2) % 4 ≤ 2 ∧ wd W (p + 2) / 4 ≤ 60 ∧ p + 3 + slotsAt W p ≤ W.length)) : fitsB W p = false := by
  unfold fitsB; exact decide_eq_false h

theorem places_in {W : List Int} {p : Nat} (h : p < W.length) : places W p = p :: places W (nextAt W p) := by rw [places, if_pos h]
theorem places_end {W : List Int} {p : Nat} (h : ¬ p < W.length) : places W p = [] := by rw [places, if_neg h]
theorem unfit_in {W : List Int} {p : Nat} (h : p < W.length) (hf : fitsB W p = true) : unfit W p = unfit W (nextAt W p) := by rw [unfit, if_pos h, if_pos hf]
theorem unfit_no {W : List Int} {p : Nat} (h : p < W.length) (hf : fitsB W p = false) : unfit W p = some p := by rw [unfit, if_pos h, if_neg (by rw [hf]; decide)]
theorem unfit_end {W : List Int} {p : Nat} (h : ¬ p < W.length) : unfit W p = none := by rw [unfit, if_neg h]
theorem unfit_head {W : List Int} {p : Nat} (h : p < W.length) (hu : unfit W p = none) : fitsB W p = true ∧ unfit W (nextAt W p) = none := by
  cases hf : fitsB W p with
  | true => exact ⟨rfl, by rw [← unfit_in h hf]; exact hu⟩
  | false => rw [unfit_no h hf] at hu; cases hu

/-- Every place from p on is at least p, and lies within; a thing fits there, and at all that follow. -/
theorem places_fit {W : List Int} : ∀ (n p : Nat), W.length - p ≤ n → unfit W p = none → ∀ q ∈ places W p, p ≤ q ∧ q < W.length ∧ fitsB W q = true ∧ unfit W (nextAt W q) = none
  | 0, p, hn, _, q, hq => by rw [places_end (by omega)] at hq; cases hq
  | n + 1, p, hn, hu, q, hq => by
    by_cases h : p < W.length
    · obtain ⟨hf, hu'⟩ := unfit_head h hu
      rw [places_in h] at hq
      rcases List.mem_cons.1 hq with rfl | hq
      · exact ⟨Nat.le_refl _, h, hf, hu'⟩
      · have := places_fit n (nextAt W p) (by simp [nextAt]; omega) hu' q hq
        exact ⟨by have := this.1; simp [nextAt] at this; omega, this.2⟩
    · rw [places_end h] at hq; cases hq
theorem place_fit {W : List Int} {p q : Nat} (hu : unfit W p = none) (hq : q ∈ places W p) : p ≤ q ∧ q < W.length ∧ fitsB W q = true ∧ unfit W (nextAt W q) = none :=
  places_fit _ p (Nat.le_refl _) hu q hq
theorem places_ge {W : List Int} : ∀ (n p : Nat), W.length - p ≤ n → ∀ q ∈ places W p, p ≤ q ∧ q < W.length
  | 0, p, hn, q, hq => by rw [places_end (by omega)] at hq; cases hq
  | n + 1, p, hn, q, hq => by
    by_cases h : p < W.length
    · rw [places_in h] at hq
      rcases List.mem_cons.1 hq with rfl | hq
      · exact ⟨Nat.le_refl _, h⟩
      · have := places_ge n (nextAt W p) (by simp [nextAt]; omega) q hq
        simp [nextAt] at this; omega
    · rw [places_end h] at hq; cases hq
theorem place_ge {W : List Int} {p q : Nat} (hq : q ∈ places W p) : p ≤ q ∧ q < W.length := places_ge _ p (Nat.le_refl _) q hq

/-- There is a thing at q. -/
def beginB (W : List Int) (q : Nat) : Bool := (places W 2).contains q
/-- o is the reference of a thing. -/
def thingB (W : List Int) (o : Int) : Bool := kindOf o == 3 && beginB W (o / 2).toNat
/-- o is nil or the reference of a thing. -/
def nilB (W : List Int) (o : Int) : Bool := kindOf o == 2 || thingB W o
/-- what can stand in a slot of a form. -/
def standB (W : List Int) (form what : Int) : Bool := if form = 1 then decide (0 ≤ what ∧ what ≤ 255) else kindOf what == 1 || nilB W what
/-- The first slot from k to below e that holds what it can't. -/
def badSlot (W : List Int) (form : Int) (k : Nat) : Nat → Option Nat
  | 0 => none
  | n + 1 => if standB W form (wd W k) = true then badSlot W form (k + 1) n else some k
/-- The hash of the thing at p is none, or seen. -/
def twiceB (W : List Int) (seen : List Int) (p : Nat) : Bool := seen.contains (wd W (p + 1)) || decide (wd W (p + 1) < 1 ∨ wd W 1 ≤ wd W (p + 1))
/-- What is wrong first with classes, hashes and slots of the things at those places. -/
def faultOf (W : List Int) (seen : List Int) : List Nat → Int × Int
  | [] => (0, 0)
  | p :: r => if nilB W (wd W p) = true then
      (if twiceB W seen p = true then (5, (p : Int)) else
        match badSlot W (formAt W p) (p + 3) (slotsAt W p) with
        | some k => (3, (k : Int))
        | none => faultOf W (seen ++ [wd W (p + 1)]) r)
    else (3, (p : Int))
/-- What is wrong with how many words there are, or those ahead. -/
def frontOf (W : List Int) : Int × Int :=
  if W.length < 2 ∨ 2000 < W.length then (1, 0) else if wd W 0 = 0 then (if wd W 1 < 1 ∨ 10001 < wd W 1 then (2, 1) else (0, 0)) else (2, 0)
/-- What is wrong with W first. -/
def checkOf (W : List Int) : Int × Int :=
  if (frontOf W).1 = 0 then (match unfit W 2 with | some p => (2, (p : Int)) | none => faultOf W [] (places W 2)) else frontOf W

theorem front_size {W : List Int} (h : W.length < 2 ∨ 2000 < W.length) : frontOf W = (1, 0) := by unfold frontOf; rw [if_pos h]
theorem front_zero {W : List Int} (h : ¬ (W.length < 2 ∨ 2000 < W.length)) (h0 : wd W 0 ≠ 0) : frontOf W = (2, 0) := by unfold frontOf; rw [if_neg h, if_neg h0]
theorem front_hash {W : List Int} (h : ¬ (W.length < 2 ∨ 2000 < W.length)) (h0 : wd W 0 = 0) (h1 : wd W 1 < 1 ∨ 10001 < wd W 1) : frontOf W = (2, 1) := by
  unfold frontOf; rw [if_neg h, if_pos h0, if_pos h1]
theorem front_ok {W : List Int} (h : ¬ (W.length < 2 ∨ 2000 < W.length)) (h0 : wd W 0 = 0) (h1 : ¬ (wd W 1 < 1 ∨ 10001 < wd W 1)) : frontOf W = (0, 0) := by
  unfold frontOf; rw [if_neg h, if_pos h0, if_neg h1]
theorem front_out {W : List Int} (h : (frontOf W).1 = 0) : 2 ≤ W.length ∧ W.length ≤ 2000 ∧ wd W 0 = 0 ∧ 1 ≤ wd W 1 ∧ wd W 1 ≤ 10001 := by
  unfold frontOf at h
  by_cases h1 : W.length < 2 ∨ 2000 < W.length
  · rw [if_pos h1] at h; cases h
  · rw [if_neg h1] at h
    by_cases h0 : wd W 0 = 0
    · rw [if_pos h0] at h
      by_cases h2 : wd W 1 < 1 ∨ 10001 < wd W 1
      · rw [if_pos h2] at h; cases h
      · exact ⟨by omega, by omega, h0, by omega, by omega⟩
    · rw [if_neg h0] at h; cases h
theorem check_front {W : List Int} (h : (frontOf W).1 ≠ 0) : checkOf W = frontOf W := by unfold checkOf; rw [if_neg h]
theorem check_unfit {W : List Int} {p : Nat} (h : (frontOf W).1 = 0) (hu : unfit W 2 = some p) : checkOf W = (2, (p : Int)) := by unfold checkOf; rw [if_pos h, hu]
theorem check_things {W : List Int} (h : (frontOf W).1 = 0) (hu : unfit W 2 = none) : checkOf W = faultOf W [] (places W 2) := by unfold checkOf; rw [if_pos h, hu]
/-- A heap that may be. -/
theorem check_ok {W : List Int} (h : (checkOf W).1 = 0) : (frontOf W).1 = 0 ∧ unfit W 2 = none := by
  by_cases hf : (frontOf W).1 = 0
  · refine ⟨hf, ?_⟩
    cases hu : unfit W 2 with
    | none => rfl
    | some p => rw [check_unfit hf hu] at h; cases h
  · rw [check_front hf] at h; exact absurd h hf

/-- From a place ahead of q on: q is among those behind it. -/
theorem begin_next {W : List Int} {p q : Nat} (h : p < W.length) (hq : p ≠ q) : (places W p).contains q = (places W (nextAt W p)).contains q := by
  rw [places_in h, List.contains_cons]
  simp [Ne.symm hq]
theorem begin_here {W : List Int} {p : Nat} (h : p < W.length) : (places W p).contains p = true := by
  rw [places_in h, List.contains_cons]; simp
theorem begin_past {W : List Int} {p q : Nat} (hq : q < p) : (places W p).contains q = false := by
  rw [Bool.eq_false_iff]
  intro hc
  have := place_ge (List.contains_iff_mem.1 hc)
  omega
theorem begin_end {W : List Int} {p q : Nat} (h : ¬ p < W.length) : (places W p).contains q = false := by rw [places_end h]; rfl

theorem thing_out {W : List Int} {o : Int} (h : thingB W o = true) : kindOf o = 3 ∧ (o / 2).toNat ∈ places W 2 := by
  unfold thingB beginB at h
  simp only [Bool.and_eq_true, beq_iff_eq, List.contains_iff_mem] at h
  exact h

theorem fault_kind {W : List Int} {seen : List Int} {p : Nat} {r : List Nat} (h : nilB W (wd W p) = false) : faultOf W seen (p :: r) = (3, (p : Int)) := by
  unfold faultOf; rw [if_neg (by rw [h]; decide)]
theorem fault_twice {W : List Int} {seen : List Int} {p : Nat} {r : List Nat} (h : nilB W (wd W p) = true) (h2 : twiceB W seen p = true) : faultOf W seen (p :: r) = (5, (p : Int)) := by
  unfold faultOf; rw [if_pos h, if_pos h2]
theorem fault_slot {W : List Int} {seen : List Int} {p k : Nat} {r : List Nat} (h : nilB W (wd W p) = true) (h2 : twiceB W seen p = false) (h3 : badSlot W (formAt W p) (p + 3) (slotsAt W p) = some k) : faultOf W seen (p :: r) = (3, (k : Int)) := by
  unfold faultOf; rw [if_pos h, if_neg (by rw [h2]; decide), h3]
theorem fault_next {W : List Int} {seen : List Int} {p : Nat} {r : List Nat} (h : nilB W (wd W p) = true) (h2 : twiceB W seen p = false) (h3 : badSlot W (formAt W p) (p + 3) (slotsAt W p) = none) : faultOf W seen (p :: r) = faultOf W (seen ++ [wd W (p + 1)]) r := by
  conv => lhs; unfold faultOf
  rw [if_pos h, if_neg (by rw [h2]; decide), h3]

theorem bad_yes {W : List Int} {form : Int} {k n : Nat} (h : standB W form (wd W k) = true) : badSlot W form k (n + 1) = badSlot W form (k + 1) n := by
  conv => lhs; unfold badSlot
  rw [if_pos h]
theorem bad_no {W : List Int} {form : Int} {k n : Nat} (h : standB W form (wd W k) = false) : badSlot W form k (n + 1) = some k := by
  unfold badSlot; rw [if_neg (by rw [h]; decide)]

end Go.Proofs.Ythdhaokjibfjdaa
