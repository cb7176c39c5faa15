/- Several texts in one. -/
import Derived.Laws.BitsLemmas
import Derived.WalkKit
/- What chapter 1 says of words, as plain functions on numbers, and what is true of them. No Go in sight. -/
namespace Go.Proofs.YtkppdndbfedijadGreatDoor

/-- o & 1 of an int is what is left of o by 2. -/
theorem and_one_i64 (o : Int) : bits BinOp.and IntKind.i64 o 1 = o % 2 := by
  have e : ((BitVec.ofInt 64 o &&& 1#64).toNat : Int) = o % 2 := by
    rw [BitVec.toNat_and, BitVec.toNat_ofInt]
    show (((o % ((2 ^ 64 : Nat) : Int)).toNat &&& 1 : Nat) : Int) = o % 2
    rw [Nat.and_one_is_mod]
    omega
  have f : bits BinOp.and IntKind.i64 o 1 = IntKind.i64.wrap ((BitVec.ofInt 64 o &&& 1#64).toNat : Int) := rfl
  rw [f, e, IntKind.wrap_i64]
  omega

/-- The reference o is small. -/
def smallB (o : Int) : Bool := decide (o % 2 = 1 ∧ -2147483647 ≤ o ∧ o ≤ 2147483647)
/-- The kind of the reference o. -/
def kindOf (o : Int) : Int := if o = 0 then 2 else if smallB o = true then 1 else if o % 2 = 0 ∧ 4 ≤ o ∧ o ≤ 3998 then 3 else 0
/-- The number that o is of. -/
def valOf (o : Int) : Int := if smallB o = true then (o - 1) / 2 else 0
/-- The number n has a reference. -/
def fitB (n : Int) : Bool := decide (-1073741824 ≤ n ∧ n ≤ 1073741823)
/-- The reference of n. -/
def refOf (n : Int) : Int := if fitB n = true then 2 * n + 1 else 0
/-- What is reckoned of a and b by f has a reference. -/
def canB (f : Int → Int → Int) (a b : Int) : Bool := smallB a && smallB b && fitB (f (valOf a) (valOf b))
/-- The reference of what is reckoned of a and b by f. -/
def reck (f : Int → Int → Int) (a b : Int) : Int := if canB f a b = true then 2 * f (valOf a) (valOf b) + 1 else 0

theorem small_mk {o : Int} (h : o % 2 = 1) (h1 : -2147483647 ≤ o) (h2 : o ≤ 2147483647) : smallB o = true := by
  unfold smallB; exact decide_eq_true ⟨h, h1, h2⟩
theorem small_no {o : Int} (h : ¬ (o % 2 = 1 ∧ -2147483647 ≤ o ∧ o ≤ 2147483647)) : smallB o = false := by
  unfold smallB; exact decide_eq_false h
theorem small_out {o : Int} (h : smallB o = true) : o % 2 = 1 ∧ -2147483647 ≤ o ∧ o ≤ 2147483647 := by
  unfold smallB at h; exact of_decide_eq_true h
theorem small_not {o : Int} (h : smallB o = false) : ¬ (o % 2 = 1 ∧ -2147483647 ≤ o ∧ o ≤ 2147483647) := by
  unfold smallB at h; exact of_decide_eq_false h
theorem fit_mk {n : Int} (h1 : -1073741824 ≤ n) (h2 : n ≤ 1073741823) : fitB n = true := by
  unfold fitB; exact decide_eq_true ⟨h1, h2⟩
theorem fit_no {n : Int} (h : ¬ (-1073741824 ≤ n ∧ n ≤ 1073741823)) : fitB n = false := by
  unfold fitB; exact decide_eq_false h
theorem fit_out {n : Int} (h : fitB n = true) : -1073741824 ≤ n ∧ n ≤ 1073741823 := by
  unfold fitB at h; exact of_decide_eq_true h
theorem fit_not {n : Int} (h : fitB n = false) : ¬ (-1073741824 ≤ n ∧ n ≤ 1073741823) := by
  unfold fitB at h; exact of_decide_eq_false h

theorem kind_nil : kindOf 0 = 2 := rfl
theorem kind_small {o : Int} (h : smallB o = true) : kindOf o = 1 := by
  have := small_out h
  unfold kindOf
  rw [if_neg (by omega), if_pos h]
theorem kind_thing {o : Int} (h : o % 2 = 0) (h1 : 4 ≤ o) (h2 : o ≤ 3998) : kindOf o = 3 := by
  unfold kindOf
  rw [if_neg (by omega), if_neg (by rw [small_no (by omega)]; decide), if_pos ⟨h, h1, h2⟩]
theorem kind_none {o : Int} (h0 : o ≠ 0) (h : smallB o = false) (h1 : ¬ (o % 2 = 0 ∧ 4 ≤ o ∧ o ≤ 3998)) : kindOf o = 0 := by
  unfold kindOf
  rw [if_neg h0, if_neg (by rw [h]; decide), if_neg h1]
theorem kind_not {o : Int} (h : smallB o = false) : kindOf o ≠ 1 := by
  unfold kindOf
  rw [if_neg (c := smallB o = true) (by rw [h]; decide)]
  split
  · decide
  · split <;> decide

theorem val_small {o : Int} (h : smallB o = true) : valOf o = (o - 1) / 2 := by unfold valOf; rw [if_pos h]
theorem val_not {o : Int} (h : smallB o = false) : valOf o = 0 := by unfold valOf; rw [if_neg (by rw [h]; decide)]
theorem val_bd (o : Int) : -1073741824 ≤ valOf o ∧ valOf o ≤ 1073741823 := by
  cases h : smallB o
  · rw [val_not h]; omega
  · have := small_out h
    rw [val_small h]; omega
theorem ref_fit {n : Int} (h : fitB n = true) : refOf n = 2 * n + 1 := by unfold refOf; rw [if_pos h]
theorem ref_not {n : Int} (h : fitB n = false) : refOf n = 0 := by unfold refOf; rw [if_neg (by rw [h]; decide)]
/-- What is small is the reference of its number. -/
theorem small_ref {n : Int} (h : fitB n = true) : smallB (refOf n) = true := by
  have := fit_out h
  rw [ref_fit h]
  exact small_mk (by omega) (by omega) (by omega)
/-- .. which is its own. -/
theorem val_ref {n : Int} (h : fitB n = true) : valOf (refOf n) = n := by
  rw [val_small (small_ref h), ref_fit h]; omega
theorem reck_yes {f : Int → Int → Int} {a b : Int} (h : canB f a b = true) : reck f a b = 2 * f (valOf a) (valOf b) + 1 := by unfold reck; rw [if_pos h]
theorem reck_no {f : Int → Int → Int} {a b : Int} (h : canB f a b = false) : reck f a b = 0 := by unfold reck; rw [if_neg (by rw [h]; decide)]
theorem can_left {f : Int → Int → Int} {a b : Int} (h : smallB a = false) : canB f a b = false := by unfold canB; rw [h]; rfl
theorem can_right {f : Int → Int → Int} {a b : Int} (h : smallB b = false) : canB f a b = false := by unfold canB; rw [h, Bool.and_false]; rfl
theorem can_both {f : Int → Int → Int} {a b : Int} (h : smallB a = true) (g : smallB b = true) : canB f a b = fitB (f (valOf a) (valOf b)) := by unfold canB; rw [h, g]; rfl
theorem mul_bd (a b : Int) : -1152921504606846976 ≤ valOf a * valOf b ∧ valOf a * valOf b ≤ 1152921504606846976 := by
  have ha := val_bd a
  have hb := val_bd b
  have h1 : (valOf a).natAbs ≤ 1073741824 := by omega
  have h2 : (valOf b).natAbs ≤ 1073741824 := by omega
  have h3 : (valOf a * valOf b).natAbs ≤ 1152921504606846976 := by
    rw [Int.natAbs_mul]
    exact Nat.le_trans (Nat.mul_le_mul h1 h2) (by decide)
  omega
end Go.Proofs.YtkppdndbfedijadGreatDoor

/- What chapter 2 says of heaps, as plain functions on lists of numbers, and what is true of them. No Go in sight. -/
namespace Go.Proofs.YtkppdndbfedijadGreatDoor

/-- The word at k. -/
def wd (W : List Int) (k : Nat) : Int := W.getD k 0
/-- How many slots a thing at p has. -/
def slotsAt (W : List Int) (p : Nat) : Nat := (wd W (p + 2) / 4).toNat
/-- The form of a thing at p. -/
def formAt (W : List Int) (p : Nat) : Int := wd W (p + 2) % 4
/-- Where the next thing begins. -/
def nextAt (W : List Int) (p : Nat) : Nat := p + 3 + slotsAt W p
/-- A thing fits at p. -/
def fitsB (W : List Int) (p : Nat) : Bool :=
  decide (p + 3 ≤ W.length ∧ 0 ≤ wd W (p + 2) ∧ wd W (p + 2) % 4 ≤ 2 ∧ wd W (p + 2) / 4 ≤ 60 ∧ p + 3 + slotsAt W p ≤ W.length)
/-- Where things begin, from p on. -/
def places (W : List Int) (p : Nat) : List Nat := if p < W.length then p :: places W (nextAt W p) else []
  termination_by W.length - p
  decreasing_by simp [nextAt]; omega
/-- The first place, from p on, where a thing does not fit. -/
def unfit (W : List Int) (p : Nat) : Option Nat := if p < W.length then (if fitsB W p = true then unfit W (nextAt W p) else some p) else none
  termination_by W.length - p
  decreasing_by simp [nextAt]; omega

theorem fits_out {W : List Int} {p : Nat} (h : fitsB W p = true) :
    p + 3 ≤ W.length ∧ 0 ≤ wd W (p + 2) ∧ wd W (p + 2) % 4 ≤ 2 ∧ wd W (p + 2) / 4 ≤ 60 ∧ p + 3 + slotsAt W p ≤ W.length := by
  unfold fitsB at h; exact of_decide_eq_true h
theorem fits_not {W : List Int} {p : Nat} (h : fitsB W p = false) :
    ¬ (p + 3 ≤ W.length ∧ 0 ≤ wd W (p + 2) ∧ wd W (p + 2) % 4 ≤ 2 ∧ wd W (p + 2) / 4 ≤ 60 ∧ p + 3 + slotsAt W p ≤ W.length) := by
  unfold fitsB at h; exact of_decide_eq_false h
theorem fits_mk {W : List Int} {p : Nat}
    (h : p + 3 ≤ W.length ∧ 0 ≤ wd W (p + 2) ∧ wd W (p + 2) % 4 ≤ 2 ∧ wd W (p + 2) / 4 ≤ 60 ∧ p + 3 + slotsAt W p ≤ W.length) : fitsB W p = true := by
  unfold fitsB; exact decide_eq_true h
theorem fits_no {W : List Int} {p : Nat}
    (h : ¬ (p + 3 ≤ W.length ∧ 0 ≤ wd W (p + 2) ∧ wd W (p + 2) % 4 ≤ 2 ∧ wd W (p + 2) / 4 ≤ 60 ∧ p + 3 + slotsAt W p ≤ W.length)) : fitsB W p = false := by
  unfold fitsB; exact decide_eq_false h

theorem places_in {W : List Int} {p : Nat} (h : p < W.length) : places W p = p :: places W (nextAt W p) := by rw [places, if_pos h]
theorem places_end {W : List Int} {p : Nat} (h : ¬ p < W.length) : places W p = [] := by rw [places, if_neg h]
theorem unfit_in {W : List Int} {p : Nat} (h : p < W.length) (hf : fitsB W p = true) : unfit W p = unfit W (nextAt W p) := by rw [unfit, if_pos h, if_pos hf]
theorem unfit_no {W : List Int} {p : Nat} (h : p < W.length) (hf : fitsB W p = false) : unfit W p = some p := by rw [unfit, if_pos h, if_neg (by rw [hf]; decide)]
theorem unfit_end {W : List Int} {p : Nat} (h : ¬ p < W.length) : unfit W p = none := by rw [unfit, if_neg h]
theorem unfit_head {W : List Int} {p : Nat} (h : p < W.length) (hu : unfit W p = none) : fitsB W p = true ∧ unfit W (nextAt W p) = none := by
  cases hf : fitsB W p with
  | true => exact ⟨rfl, by rw [← unfit_in h hf]; exact hu⟩
  | false => rw [unfit_no h hf] at hu; cases hu

/-- Every place from p on is at least p, and lies within; a thing fits there, and at all that follow. -/
theorem places_fit {W : List Int} : ∀ (n p : Nat), W.length - p ≤ n → unfit W p = none → ∀ q ∈ places W p, p ≤ q ∧ q < W.length ∧ fitsB W q = true ∧ unfit W (nextAt W q) = none
  | 0, p, hn, _, q, hq => by rw [places_end (by omega)] at hq; cases hq
  | n + 1, p, hn, hu, q, hq => by
    by_cases h : p < W.length
    · obtain ⟨hf, hu'⟩ := unfit_head h hu
      rw [places_in h] at hq
      rcases List.mem_cons.1 hq with rfl | hq
      · exact ⟨Nat.le_refl _, h, hf, hu'⟩
      · have := places_fit n (nextAt W p) (by simp [nextAt]; omega) hu' q hq
        exact ⟨by have := this.1; simp [nextAt] at this; omega, this.2⟩
    · rw [places_end h] at hq; cases hq
theorem place_fit {W : List Int} {p q : Nat} (hu : unfit W p = none) (hq : q ∈ places W p) : p ≤ q ∧ q < W.length ∧ fitsB W q = true ∧ unfit W (nextAt W q) = none :=
  places_fit _ p (Nat.le_refl _) hu q hq
theorem places_ge {W : List Int} : ∀ (n p : Nat), W.length - p ≤ n → ∀ q ∈ places W p, p ≤ q ∧ q < W.length
  | 0, p, hn, q, hq => by rw [places_end (by omega)] at hq; cases hq
  | n + 1, p, hn, q, hq => by
    by_cases h : p < W.length
    · rw [places_in h] at hq
      rcases List.mem_cons.1 hq with rfl | hq
      · exact ⟨Nat.le_refl _, h⟩
      · have := places_ge n (nextAt W p) (by simp [nextAt]; omega) q hq
        simp [nextAt] at this; omega
    · rw [places_end h] at hq; cases hq
theorem place_ge {W : List Int} {p q : Nat} (hq : q ∈ places W p) : p ≤ q ∧ q < W.length := places_ge _ p (Nat.le_refl _) q hq

/-- There is a thing at q. -/
def beginB (W : List Int) (q : Nat) : Bool := (places W 2).contains q
/-- o is the reference of a thing. -/
def thingB (W : List Int) (o : Int) : Bool := kindOf o == 3 && beginB W (o / 2).toNat
/-- o is nil or the reference of a thing. -/
def nilB (W : List Int) (o : Int) : Bool := kindOf o == 2 || thingB W o
/-- what can stand in a slot of a form. -/
def standB (W : List Int) (form what : Int) : Bool := if form = 1 then decide (0 ≤ what ∧ what ≤ 255) else kindOf what == 1 || nilB W what
/-- The first slot from k to below e that holds what it can't. -/
def badSlot (W : List Int) (form : Int) (k : Nat) : Nat → Option Nat
  | 0 => none
  | n + 1 => if standB W form (wd W k) = true then badSlot W form (k + 1) n else some k
/-- The hash of the thing at p is none, or seen. -/
def twiceB (W : List Int) (seen : List Int) (p : Nat) : Bool := seen.contains (wd W (p + 1)) || decide (wd W (p + 1) < 1 ∨ wd W 1 ≤ wd W (p + 1))
/-- What is wrong first with classes, hashes and slots of the things at those places. -/
def faultOf (W : List Int) (seen : List Int) : List Nat → Int × Int
  | [] => (0, 0)
  | p :: r => if nilB W (wd W p) = true then
      (if twiceB W seen p = true then (5, (p : Int)) else
        match badSlot W (formAt W p) (p + 3) (slotsAt W p) with
        | some k => (3, (k : Int))
        | none => faultOf W (seen ++ [wd W (p + 1)]) r)
    else (3, (p : Int))
/-- What is wrong with how many words there are, or those ahead. -/
def frontOf (W : List Int) : Int × Int :=
  if W.length < 2 ∨ 2000 < W.length then (1, 0) else if wd W 0 = 0 then (if wd W 1 < 1 ∨ 10001 < wd W 1 then (2, 1) else (0, 0)) else (2, 0)
/-- What is wrong with W first. -/
def checkOf (W : List Int) : Int × Int :=
  if (frontOf W).1 = 0 then (match unfit W 2 with | some p => (2, (p : Int)) | none => faultOf W [] (places W 2)) else frontOf W

theorem front_size {W : List Int} (h : W.length < 2 ∨ 2000 < W.length) : frontOf W = (1, 0) := by unfold frontOf; rw [if_pos h]
theorem front_zero {W : List Int} (h : ¬ (W.length < 2 ∨ 2000 < W.length)) (h0 : wd W 0 ≠ 0) : frontOf W = (2, 0) := by unfold frontOf; rw [if_neg h, if_neg h0]
theorem front_hash {W : List Int} (h : ¬ (W.length < 2 ∨ 2000 < W.length)) (h0 : wd W 0 = 0) (h1 : wd W 1 < 1 ∨ 10001 < wd W 1) : frontOf W = (2, 1) := by
  unfold frontOf; rw [if_neg h, if_pos h0, if_pos h1]
theorem front_ok {W : List Int} (h : ¬ (W.length < 2 ∨ 2000 < W.length)) (h0 : wd W 0 = 0) (h1 : ¬ (wd W 1 < 1 ∨ 10001 < wd W 1)) : frontOf W = (0, 0) := by
  unfold frontOf; rw [if_neg h, if_pos h0, if_neg h1]
theorem front_out {W : List Int} (h : (frontOf W).1 = 0) : 2 ≤ W.length ∧ W.length ≤ 2000 ∧ wd W 0 = 0 ∧ 1 ≤ wd W 1 ∧ wd W 1 ≤ 10001 := by
  unfold frontOf at h
  by_cases h1 : W.length < 2 ∨ 2000 < W.length
  · rw [if_pos h1] at h; cases h
  · rw [if_neg h1] at h
    by_cases h0 : wd W 0 = 0
    · rw [if_pos h0] at h
      by_cases h2 : wd W 1 < 1 ∨ 10001 < wd W 1
      · rw [if_pos h2] at h; cases h
      · exact ⟨by omega, by omega, h0, by omega, by omega⟩
    · rw [if_neg h0] at h; cases h
theorem check_front {W : List Int} (h : (frontOf W).1 ≠ 0) : checkOf W = frontOf W := by unfold checkOf; rw [if_neg h]
theorem check_unfit {W : List Int} {p : Nat} (h : (frontOf W).1 = 0) (hu : unfit W 2 = some p) : checkOf W = (2, (p : Int)) := by unfold checkOf; rw [if_pos h, hu]
theorem check_things {W : List Int} (h : (frontOf W).1 = 0) (hu : unfit W 2 = none) : checkOf W = faultOf W [] (places W 2) := by unfold checkOf; rw [if_pos h, hu]
/-- A heap that may be. -/
theorem check_ok {W : List Int} (h : (checkOf W).1 = 0) : (frontOf W).1 = 0 ∧ unfit W 2 = none := by
  by_cases hf : (frontOf W).1 = 0
  · refine ⟨hf, ?_⟩
    cases hu : unfit W 2 with
    | none => rfl
    | some p => rw [check_unfit hf hu] at h; cases h
  · rw [check_front hf] at h; exact absurd h hf

/-- From a place ahead of q on: q is among those behind it. -/
theorem begin_next {W : List Int} {p q : Nat} (h : p < W.length) (hq : p ≠ q) : (places W p).contains q = (places W (nextAt W p)).contains q := by
  rw [places_in h, List.contains_cons]
  simp [Ne.symm hq]
theorem begin_here {W : List Int} {p : Nat} (h : p < W.length) : (places W p).contains p = true := by
  rw [places_in h, List.contains_cons]; simp
theorem begin_past {W : List Int} {p q : Nat} (hq : q < p) : (places W p).contains q = false := by
  rw [Bool.eq_false_iff]
  intro hc
  have := place_ge (List.contains_iff_mem.1 hc)
  omega
theorem begin_end {W : List Int} {p q : Nat} (h : ¬ p < W.length) : (places W p).contains q = false := by rw [places_end h]; rfl

theorem thing_out {W : List Int} {o : Int} (h : thingB W o = true) : kindOf o = 3 ∧ (o / 2).toNat ∈ places W 2 := by
  unfold thingB beginB at h
  simp only [Bool.and_eq_true, beq_iff_eq, List.contains_iff_mem] at h
  exact h

theorem fault_kind {W : List Int} {seen : List Int} {p : Nat} {r : List Nat} (h : nilB W (wd W p) = false) : faultOf W seen (p :: r) = (3, (p : Int)) := by
  unfold faultOf; rw [if_neg (by rw [h]; decide)]
theorem fault_twice {W : List Int} {seen : List Int} {p : Nat} {r : List Nat} (h : nilB W (wd W p) = true) (h2 : twiceB W seen p = true) : faultOf W seen (p :: r) = (5, (p : Int)) := by
  unfold faultOf; rw [if_pos h, if_pos h2]
theorem fault_slot {W : List Int} {seen : List Int} {p k : Nat} {r : List Nat} (h : nilB W (wd W p) = true) (h2 : twiceB W seen p = false) (h3 : badSlot W (formAt W p) (p + 3) (slotsAt W p) = some k) : faultOf W seen (p :: r) = (3, (k : Int)) := by
  unfold faultOf; rw [if_pos h, if_neg (by rw [h2]; decide), h3]
theorem fault_next {W : List Int} {seen : List Int} {p : Nat} {r : List Nat} (h : nilB W (wd W p) = true) (h2 : twiceB W seen p = false) (h3 : badSlot W (formAt W p) (p + 3) (slotsAt W p) = none) : faultOf W seen (p :: r) = faultOf W (seen ++ [wd W (p + 1)]) r := by
  conv => lhs; unfold faultOf
  rw [if_pos h, if_neg (by rw [h2]; decide), h3]

theorem bad_yes {W : List Int} {form : Int} {k n : Nat} (h : standB W form (wd W k) = true) : badSlot W form k (n + 1) = badSlot W form (k + 1) n := by
  conv => lhs; unfold badSlot
  rw [if_pos h]
theorem bad_no {W : List Int} {form : Int} {k n : Nat} (h : standB W form (wd W k) = false) : badSlot W form k (n + 1) = some k := by
  unfold badSlot; rw [if_neg (by rw [h]; decide)]

end Go.Proofs.YtkppdndbfedijadGreatDoor

/- What chapter 8 says of tokens, as plain functions on the bytes of a text, and what is true of them. No Go in sight. -/
namespace Go.Proofs.YtkppdndbfedijadGreatDoor

/-- A letter, a digit, either, a blank. -/
def letB (b : Int) : Bool := decide (97 ≤ b ∧ b ≤ 122) || decide (65 ≤ b ∧ b ≤ 90) || b == 95
def digB (b : Int) : Bool := decide (48 ≤ b ∧ b ≤ 57)
def alnB (b : Int) : Bool := letB b || digB b
def blankB (b : Int) : Bool := b == 32 || b == 10 || b == 9
/-- A byte of a note. -/
def noteB (b : Int) : Bool := b != 10
theorem let_not_dig {b : Int} (h : letB b = true) : digB b = false := by
  unfold letB at h; unfold digB
  simp only [Bool.or_eq_true, decide_eq_true_eq, beq_iff_eq] at h
  exact decide_eq_false (by omega)
theorem dig_not_let {b : Int} (h : digB b = true) : letB b = false := by
  cases hl : letB b with
  | false => rfl
  | true => rw [let_not_dig hl] at h; cases h

/-- The first place, from i on and at most m further, where p does not hold. -/
def stopAt (p : Int → Bool) (T : List Int) (i : Nat) : Nat → Nat
  | 0 => i
  | m + 1 => if p (wd T i) = true then stopAt p T (i + 1) m else i
/-- The first place, from i on, where p does not hold or the text ends. -/
def stopP (p : Int → Bool) (T : List Int) (i : Nat) : Nat := stopAt p T i (T.length - i)
theorem stop_end {p : Int → Bool} {T : List Int} {i : Nat} (h : T.length ≤ i) : stopP p T i = i := by
  unfold stopP; rw [show T.length - i = 0 by omega]; rfl
theorem stop_yes {p : Int → Bool} {T : List Int} {i : Nat} (h : i < T.length) (hp : p (wd T i) = true) : stopP p T i = stopP p T (i + 1) := by
  unfold stopP
  obtain ⟨m, hm⟩ : ∃ m, T.length - i = m + 1 := ⟨T.length - i - 1, by omega⟩
  rw [hm, show T.length - (i + 1) = m by omega]
  conv => lhs; unfold stopAt
  rw [if_pos hp]
theorem stop_no {p : Int → Bool} {T : List Int} {i : Nat} (hp : p (wd T i) = false) : stopP p T i = i := by
  unfold stopP
  cases T.length - i with
  | zero => rfl
  | succ m => unfold stopAt; rw [if_neg (by rw [hp]; decide)]
theorem stopAt_ge {p : Int → Bool} {T : List Int} : ∀ (m i : Nat), i ≤ stopAt p T i m ∧ stopAt p T i m ≤ i + m
  | 0, i => ⟨Nat.le_refl _, Nat.le_refl _⟩
  | m + 1, i => by
    unfold stopAt
    split
    · have := stopAt_ge (p := p) (T := T) m (i + 1); omega
    · omega
theorem stop_ge (p : Int → Bool) (T : List Int) (i : Nat) : i ≤ stopP p T i := (stopAt_ge _ i).1
theorem stop_le {p : Int → Bool} {T : List Int} {i : Nat} (h : i ≤ T.length) : stopP p T i ≤ T.length := by
  have := (stopAt_ge (p := p) (T := T) (T.length - i) i).2
  unfold stopP; omega
/-- The only place that is so. -/
theorem stop_is {p : Int → Bool} {T : List Int} {k : Nat} (hk : k ≤ T.length) (he : k = T.length ∨ p (wd T k) = false) : ∀ (d i : Nat), k - i ≤ d → i ≤ k → (∀ j, i ≤ j → j < k → p (wd T j) = true) → stopP p T i = k
  | 0, i, h1, h2, _ => by
    obtain rfl : i = k := by omega
    rcases he with he | he
    · exact stop_end (by omega)
    · exact stop_no he
  | d + 1, i, h1, h2, h => by
    by_cases hi : i = k
    · subst hi
      rcases he with he | he
      · exact stop_end (by omega)
      · exact stop_no he
    · rw [stop_yes (by omega) (h i (Nat.le_refl _) (by omega))]
      exact stop_is hk he d (i + 1) (by omega) (by omega) fun j h3 h4 => h j (by omega) h4
theorem stop_eq {p : Int → Bool} {T : List Int} {i k : Nat} (hk : k ≤ T.length) (hi : i ≤ k) (h : ∀ j, i ≤ j → j < k → p (wd T j) = true) (he : k = T.length ∨ p (wd T k) = false) : stopP p T i = k := stop_is hk he _ i (Nat.le_refl _) hi h
/-- What lies from i up to k. -/
def piece (T : List Int) (i k : Nat) : List Int := (T.drop i).take (k - i)
theorem piece_length {T : List Int} {i k : Nat} (h : k ≤ T.length) : (piece T i k).length = k - i := by
  unfold piece; rw [List.length_take, List.length_drop]; omega
theorem piece_at {T : List Int} {i k j : Nat} (h : j < k - i) : wd (piece T i k) j = wd T (i + j) := by
  unfold piece wd; rw [List.getD_eq_getElem?_getD, List.getD_eq_getElem?_getD, List.getElem?_take, if_pos h, List.getElem?_drop]

/-- The words. -/
def wordsL : List (List Int) := [[99, 108, 97, 115, 115], [116, 111], [115, 108, 111, 116], [109, 97, 105, 110], [118, 97, 114], [105, 102], [101, 108, 115, 101], [119, 104, 105, 108, 101], [114, 101, 116, 117, 114, 110], [112, 114, 105, 110, 116], [102, 111, 114, 107], [119, 97, 105, 116], [115, 105, 103, 110, 97, 108], [115, 119, 97, 112], [110, 101, 119], [103, 97, 116, 101], [110, 105, 108], [115, 101, 108, 102]]
def wordB (s : List Int) : Bool := wordsL.contains s
/-- The value of m digits from i on. -/
def decU (T : List Int) (i : Nat) : Nat → Int
  | 0 => 0
  | m + 1 => 10 * decU T i m + (wd T (i + m) - 48)
/-- The same, as long as it is at most Most. -/
def decC (T : List Int) (i : Nat) : Nat → Int
  | 0 => 0
  | m + 1 => if decC T i m ≤ 1073741823 then 10 * decC T i m + (wd T (i + m) - 48) else decC T i m
/-- Digits from i on, m of them. -/
def digs (T : List Int) (i m : Nat) : Prop := ∀ j, j < m → digB (wd T (i + j)) = true
theorem digs_of {T : List Int} {i m : Nat} (h : digs T i (m + 1)) : digs T i m ∧ 48 ≤ wd T (i + m) ∧ wd T (i + m) ≤ 57 := by
  have := h m (by omega)
  unfold digB at this
  exact ⟨fun j hj => h j (by omega), of_decide_eq_true this⟩
theorem decU_pos {T : List Int} {i : Nat} : ∀ m, digs T i m → 0 ≤ decU T i m
  | 0, _ => Int.le_refl _
  | m + 1, h => by
    obtain ⟨h1, h2, h3⟩ := digs_of h
    have := decU_pos m h1
    unfold decU; omega
theorem decU_mono {T : List Int} {i : Nat} {m : Nat} (h : digs T i (m + 1)) : decU T i m ≤ decU T i (m + 1) := by
  obtain ⟨h1, h2, h3⟩ := digs_of h
  have := decU_pos m h1
  have e : decU T i (m + 1) = 10 * decU T i m + (wd T (i + m) - 48) := rfl
  omega
theorem decC_is {T : List Int} {i : Nat} : ∀ m, digs T i m → (decU T i m ≤ 1073741823 → decC T i m = decU T i m) ∧ (1073741823 < decU T i m → 1073741823 < decC T i m) ∧ 0 ≤ decC T i m ∧ decC T i m ≤ 10737418239
  | 0, _ => ⟨fun _ => rfl, fun h => by unfold decU at h; omega, by unfold decC; omega, by unfold decC; omega⟩
  | m + 1, h => by
    obtain ⟨h1, h2, h3⟩ := digs_of h
    obtain ⟨c1, c2, c3, c4⟩ := decC_is m h1
    have hp := decU_pos m h1
    have hm := decU_mono h
    have eU : decU T i (m + 1) = 10 * decU T i m + (wd T (i + m) - 48) := rfl
    by_cases hc : decC T i m ≤ 1073741823
    · have hu : decU T i m ≤ 1073741823 := by
        by_cases hx : decU T i m ≤ 1073741823
        · exact hx
        · have := c2 (by omega); omega
      have e := c1 hu
      have eC : decC T i (m + 1) = 10 * decC T i m + (wd T (i + m) - 48) := by
        conv => lhs; unfold decC
        rw [if_pos hc]
      rw [eC, e, eU]
      exact ⟨fun _ => rfl, fun h => h, by omega, by omega⟩
    · have eC : decC T i (m + 1) = decC T i m := by
        conv => lhs; unfold decC
        rw [if_neg hc]
      rw [eC]
      refine ⟨fun hx => ?_, fun _ => by omega, c3, c4⟩
      have := c1 (by omega)
      omega
/-- What stands against digits from i up to k. -/
def numBad (T : List Int) (i k : Nat) : Bool := decide (1073741823 < decU T i (k - i)) || (decide (1 < k - i) && wd T i == 48) || (decide (k < T.length) && letB (wd T k))
/-- The signs of one byte. -/
def signsL : List Int := [43, 45, 42, 60, 61, 33, 46, 44, 59, 58, 40, 41, 123, 125]
/-- How long the sign is that begins at i. -/
def signLen (T : List Int) (i : Nat) : Nat := if i + 1 < T.length ∧ wd T i = 61 ∧ wd T (i + 1) = 61 then 2 else if signsL.contains (wd T i) = true then 1 else 0

/-- A token: its kind, its text, its first byte. -/
abbrev Tok := Int × List Int × Nat
/-- What comes at i: nothing, up to k; a token, up to k; a fault. -/
inductive Come8
  | skip (k : Nat)
  | tok (t : Tok) (k : Nat)
  | bad (code : Int) (at' : Nat)
def comeP (T : List Int) (i : Nat) : Come8 :=
  if blankB (wd T i) = true then .skip (i + 1)
  else if wd T i = 35 then .skip (stopP noteB T i)
  else if letB (wd T i) = true then .tok (if wordB (piece T i (stopP alnB T i)) = true then 3 else 1, piece T i (stopP alnB T i), i) (stopP alnB T i)
  else if digB (wd T i) = true then (if numBad T i (stopP digB T i) = true then .bad 2 i else .tok (2, piece T i (stopP digB T i), i) (stopP digB T i))
  else if signLen T i = 0 then .bad 11 i
  else .tok (4, piece T i (i + signLen T i), i) (i + signLen T i)
def Come8.fits (T : List Int) (i : Nat) : Come8 → Prop
  | .skip k => i < k ∧ k ≤ T.length
  | .tok _ k => i < k ∧ k ≤ T.length
  | .bad _ a => a = i
theorem stop_more {p : Int → Bool} {T : List Int} {i : Nat} (h : i < T.length) (hp : p (wd T i) = true) : i < stopP p T i ∧ stopP p T i ≤ T.length := by
  rw [stop_yes h hp]
  have := stop_ge p T (i + 1)
  have := stop_le (p := p) (T := T) (i := i + 1) (by omega)
  omega
theorem come_fits {T : List Int} {i : Nat} (h : i < T.length) : (comeP T i).fits T i := by
  unfold comeP
  split
  · exact ⟨by omega, by omega⟩
  · split
    · rename_i h1
      exact stop_more h (by unfold noteB; rw [h1]; decide)
    · split
      · rename_i h1
        exact stop_more h (by unfold alnB; rw [h1]; rfl)
      · split
        · rename_i h1
          split
          · exact rfl
          · exact stop_more h h1
        · split
          · exact rfl
          · rename_i h1
            refine ⟨by omega, ?_⟩
            unfold signLen
            split
            · omega
            · split <;> omega
/-- All that comes from i on, m of them at most. -/
def scanN (T : List Int) : Nat → Nat → Except (Int × Int) (List Tok)
  | 0, _ => .ok []
  | m + 1, i => if i < T.length then (match comeP T i with
      | .skip k => scanN T m k
      | .tok t k => (scanN T m k).map (t :: ·)
      | .bad c a => .error (c, (a : Int))) else .ok []
theorem scan_fuel {T : List Int} : ∀ (m m' i : Nat), T.length - i ≤ m → T.length - i ≤ m' → scanN T m i = scanN T m' i
  | 0, 0, _, _, _ => rfl
  | 0, m' + 1, i, h, _ => by unfold scanN; rw [if_neg (by omega)]
  | m + 1, 0, i, _, h => by unfold scanN; rw [if_neg (by omega)]
  | m + 1, m' + 1, i, h, h' => by
    unfold scanN
    by_cases hi : i < T.length
    · rw [if_pos hi, if_pos hi]
      have hf := come_fits hi
      cases hc : comeP T i with
      | skip k => rw [hc] at hf; obtain ⟨f1, f2⟩ := hf; exact scan_fuel m m' k (by omega) (by omega)
      | tok t k => rw [hc] at hf; obtain ⟨f1, f2⟩ := hf; simp only; rw [scan_fuel m m' k (by omega) (by omega)]
      | bad c a => rfl
    · rw [if_neg hi, if_neg hi]
/-- All that comes from i on. -/
def scanFrom (T : List Int) (i : Nat) : Except (Int × Int) (List Tok) := scanN T (T.length - i) i
theorem scan_end {T : List Int} {i : Nat} (h : T.length ≤ i) : scanFrom T i = .ok [] := by
  unfold scanFrom; rw [show T.length - i = 0 by omega]; rfl
theorem scan_come {T : List Int} {i : Nat} (h : i < T.length) : scanFrom T i = (match comeP T i with
      | .skip k => scanFrom T k
      | .tok t k => (scanFrom T k).map (t :: ·)
      | .bad c a => .error (c, (a : Int))) := by
  unfold scanFrom
  obtain ⟨m, hm⟩ : ∃ m, T.length - i = m + 1 := ⟨T.length - i - 1, by omega⟩
  rw [hm]
  conv => lhs; unfold scanN
  rw [if_pos h]
  have hf := come_fits h
  cases hc : comeP T i with
  | skip k => rw [hc] at hf; obtain ⟨f1, f2⟩ := hf; exact scan_fuel _ _ k (by omega) (by omega)
  | tok t k => rw [hc] at hf; obtain ⟨f1, f2⟩ := hf; simp only; rw [scan_fuel m (T.length - k) k (by omega) (by omega)]
  | bad c a => rfl
/-- What Scan tells: the tokens, or a code and a byte. -/
def scanP (T : List Int) : Except (Int × Int) (List Tok) := if 4000 < T.length then .error (1, 0) else scanFrom T 0

/-- Tokens so far, and what comes from i on, make what comes from the first byte on. -/
def Sofar (T : List Int) (acc : List Tok) (i : Nat) : Prop := i ≤ T.length ∧ scanFrom T 0 = (scanFrom T i).map (acc ++ ·)
theorem map_id {r : Except (Int × Int) (List Tok)} : r.map (([] : List Tok) ++ ·) = r := by cases r <;> rfl
theorem sofar_first (T : List Int) : Sofar T [] 0 := ⟨Nat.zero_le _, map_id.symm⟩
theorem Sofar.done {T : List Int} {acc : List Tok} {i : Nat} (h : Sofar T acc i) (hi : ¬ i < T.length) : scanFrom T 0 = .ok acc := by
  rw [h.2, scan_end (by omega)]
  show Except.ok (acc ++ []) = _
  rw [List.append_nil]
theorem Sofar.skip {T : List Int} {acc : List Tok} {i k : Nat} (h : Sofar T acc i) (hi : i < T.length) (hc : comeP T i = .skip k) : Sofar T acc k := by
  have hf := come_fits hi
  rw [hc] at hf
  refine ⟨hf.2, ?_⟩
  rw [h.2, scan_come hi, hc]
theorem Sofar.tok {T : List Int} {acc : List Tok} {i k : Nat} {t : Tok} (h : Sofar T acc i) (hi : i < T.length) (hc : comeP T i = .tok t k) : Sofar T (acc ++ [t]) k := by
  have hf := come_fits hi
  rw [hc] at hf
  refine ⟨hf.2, ?_⟩
  rw [h.2, scan_come hi, hc]
  simp only
  cases scanFrom T k with
  | error e => rfl
  | ok l =>
    show Except.ok (acc ++ (t :: l)) = Except.ok ((acc ++ [t]) ++ l)
    rw [List.append_assoc]; rfl
theorem Sofar.bad {T : List Int} {acc : List Tok} {i a : Nat} {c : Int} (h : Sofar T acc i) (hi : i < T.length) (hc : comeP T i = .bad c a) : scanFrom T 0 = .error (c, (i : Int)) := by
  have hf := come_fits hi
  rw [hc] at hf
  have e : a = i := hf
  rw [h.2, scan_come hi, hc, e]
  rfl

/-! What comes, case by case. -/
theorem come_blank {T : List Int} {i : Nat} (h : blankB (wd T i) = true) : comeP T i = .skip (i + 1) := by unfold comeP; rw [if_pos h]
theorem come_note {T : List Int} {i : Nat} (h0 : blankB (wd T i) = false) (h : wd T i = 35) : comeP T i = .skip (stopP noteB T i) := by
  unfold comeP; rw [if_neg (by rw [h0]; decide), if_pos h]
theorem come_name {T : List Int} {i : Nat} (h0 : blankB (wd T i) = false) (h1 : wd T i ≠ 35) (h : letB (wd T i) = true) : comeP T i = .tok (if wordB (piece T i (stopP alnB T i)) = true then 3 else 1, piece T i (stopP alnB T i), i) (stopP alnB T i) := by
  unfold comeP; rw [if_neg (by rw [h0]; decide), if_neg h1, if_pos h]
theorem come_bad {T : List Int} {i : Nat} (h0 : blankB (wd T i) = false) (h1 : wd T i ≠ 35) (h : digB (wd T i) = true) (hb : numBad T i (stopP digB T i) = true) : comeP T i = .bad 2 i := by
  unfold comeP; rw [if_neg (by rw [h0]; decide), if_neg h1, if_neg (by rw [dig_not_let h]; decide), if_pos h, if_pos hb]
theorem come_num {T : List Int} {i : Nat} (h0 : blankB (wd T i) = false) (h1 : wd T i ≠ 35) (h : digB (wd T i) = true) (hb : numBad T i (stopP digB T i) = false) : comeP T i = .tok (2, piece T i (stopP digB T i), i) (stopP digB T i) := by
  unfold comeP; rw [if_neg (by rw [h0]; decide), if_neg h1, if_neg (by rw [dig_not_let h]; decide), if_pos h, if_neg (by rw [hb]; decide)]
theorem come_rune {T : List Int} {i : Nat} (h0 : blankB (wd T i) = false) (h1 : wd T i ≠ 35) (h2 : letB (wd T i) = false) (h3 : digB (wd T i) = false) (h : signLen T i = 0) : comeP T i = .bad 11 i := by
  unfold comeP; rw [if_neg (by rw [h0]; decide), if_neg h1, if_neg (by rw [h2]; decide), if_neg (by rw [h3]; decide), if_pos h]
theorem come_sign {T : List Int} {i : Nat} (h0 : blankB (wd T i) = false) (h1 : wd T i ≠ 35) (h2 : letB (wd T i) = false) (h3 : digB (wd T i) = false) (h : signLen T i ≠ 0) : comeP T i = .tok (4, piece T i (i + signLen T i), i) (i + signLen T i) := by
  unfold comeP; rw [if_neg (by rw [h0]; decide), if_neg h1, if_neg (by rw [h2]; decide), if_neg (by rw [h3]; decide), if_neg h]
end Go.Proofs.YtkppdndbfedijadGreatDoor

/- What chapter 9 says of texts that are parsed, as plain functions on tokens. No Go in sight. -/
namespace Go.Proofs.YtkppdndbfedijadGreatDoor

/-- A node: its kind, its text, its number, its kids. -/
inductive Nd
  | mk (kind : Int) (text : List Int) (num : Int) (kids : List Nd)
/-- Where one is: the token, how deep, how many nodes have been made. -/
structure PS where
  tok : Nat
  deep : Int
  many : Int
/-- What is read, and where one is behind it; or a code and a byte. -/
abbrev Got (α : Type) : Type := Except (Int × Int) (α × PS)
/-- The tokens, the text's length. -/
structure Src9 where
  L : List Tok
  fin : Nat
def Src9.at (S : Src9) (i : Nat) : Tok := S.L.getD i (0, [], 0)
/-- The byte of a fault here. -/
def Src9.byte (S : Src9) (s : PS) : Int := if s.tok < S.L.length then ((S.at s.tok).2.2 : Int) else (S.fin : Int)
def failP {α : Type} (S : Src9) (code : Int) (s : PS) : Got α := .error (code, S.byte s)
/-- Is that word or sign next? -/
def seesB (S : Src9) (x : List Int) (s : PS) : Bool := decide (s.tok < S.L.length) && ((S.at s.tok).2.1 == x && ((S.at s.tok).1 == 3 || (S.at s.tok).1 == 4))
/-- Is a token of that kind next? -/
def isB (S : Src9) (k : Int) (s : PS) : Bool := decide (s.tok < S.L.length) && (S.at s.tok).1 == k
def PS.step (s : PS) : PS := { s with tok := s.tok + 1 }
def PS.node (s : PS) : PS := { s with many := s.many + 1 }
/-- ( ) { } , ; : . = < + - * ! and ==. -/
abbrev sOpen : List Int := [40]
abbrev sShut : List Int := [41]
abbrev sBegin : List Int := [123]
abbrev sEnd : List Int := [125]
abbrev sComma : List Int := [44]
abbrev sSemi : List Int := [59]
abbrev sColon : List Int := [58]
abbrev sDot : List Int := [46]
abbrev sSet : List Int := [61]
abbrev sLess : List Int := [60]
abbrev sSame : List Int := [61, 61]
abbrev sPlus : List Int := [43]
abbrev sMinus : List Int := [45]
abbrev sTimes : List Int := [42]
abbrev sNot : List Int := [33]
abbrev wClass : List Int := [99, 108, 97, 115, 115]
abbrev wTo : List Int := [116, 111]
abbrev wSlot : List Int := [115, 108, 111, 116]
abbrev wMain : List Int := [109, 97, 105, 110]
abbrev wVar : List Int := [118, 97, 114]
abbrev wIf : List Int := [105, 102]
abbrev wElse : List Int := [101, 108, 115, 101]
abbrev wWhile : List Int := [119, 104, 105, 108, 101]
abbrev wReturn : List Int := [114, 101, 116, 117, 114, 110]
abbrev wPrint : List Int := [112, 114, 105, 110, 116]
abbrev wFork : List Int := [102, 111, 114, 107]
abbrev wWait : List Int := [119, 97, 105, 116]
abbrev wSignal : List Int := [115, 105, 103, 110, 97, 108]
abbrev wSwap : List Int := [115, 119, 97, 112]
abbrev wNew : List Int := [110, 101, 119]
abbrev wGate : List Int := [103, 97, 116, 101]
abbrev wNil : List Int := [110, 105, 108]
abbrev wSelf : List Int := [115, 101, 108, 102]

/-- That word or sign is wanted. -/
def wantP (S : Src9) (x : List Int) (s : PS) : Got Unit :=
  if seesB S x s = true then
    (if x = sOpen ∨ x = sBegin then (if 20 < s.deep + 1 then failP S 13 s else .ok ((), { s with tok := s.tok + 1, deep := s.deep + 1 }))
     else if x = sShut ∨ x = sEnd then .ok ((), { s with tok := s.tok + 1, deep := s.deep - 1 })
     else .ok ((), s.step))
  else failP S 12 s
def nameP (S : Src9) (s : PS) : Got (List Int) := if isB S 1 s = true then .ok ((S.at s.tok).2.1, s.step) else failP S 12 s
def nodeP (kind : Int) (text : List Int) (num : Int) (kids : List Nd) (s : PS) : Got Nd := .ok (.mk kind text num kids, s.node)
/-- One behind the other. -/
def Got.then {α β : Type} (g : Got α) (f : α → PS → Got β) : Got β := match g with
  | .ok (a, s) => f a s
  | .error e => .error e
/-- Too little was given. -/
def outP {α : Type} : Got α := .error (-1, -1)
/-- The number of digits. -/
def numP (x : List Int) : Int := decU x 0 x.length

mutual
def exprF (S : Src9) : Nat → PS → Got Nd
  | 0, _ => outP
  | f + 1, s => (sumF S f s).then fun n s =>
      if seesB S sLess s = true then (sumF S f s.step).then fun k s => nodeP 18 [] 0 [n, k] s
      else if seesB S sSame s = true then (sumF S f s.step).then fun k s => nodeP 19 [] 0 [n, k] s
      else .ok (n, s)
def sumF (S : Src9) : Nat → PS → Got Nd
  | 0, _ => outP
  | f + 1, s => (termF S f s).then fun n s => sumL S f n s
def sumL (S : Src9) : Nat → Nd → PS → Got Nd
  | 0, _, _ => outP
  | f + 1, n, s =>
      if seesB S sPlus s = true then (termF S f s.step).then fun k s => (nodeP 20 [] 0 [n, k] s).then fun m s => sumL S f m s
      else if seesB S sMinus s = true then (termF S f s.step).then fun k s => (nodeP 21 [] 0 [n, k] s).then fun m s => sumL S f m s
      else .ok (n, s)
def termF (S : Src9) : Nat → PS → Got Nd
  | 0, _ => outP
  | f + 1, s => (unaryF S f s).then fun n s => termL S f n s
def termL (S : Src9) : Nat → Nd → PS → Got Nd
  | 0, _, _ => outP
  | f + 1, n, s =>
      if seesB S sTimes s = true then (unaryF S f s.step).then fun k s => (nodeP 22 [] 0 [n, k] s).then fun m s => termL S f m s
      else .ok (n, s)
def unaryF (S : Src9) : Nat → PS → Got Nd
  | 0, _ => outP
  | f + 1, s =>
      if seesB S sMinus s = true then (unaryF S f s.step).then fun k s => nodeP 23 [] 0 [k] s
      else if seesB S sNot s = true then (unaryF S f s.step).then fun k s => nodeP 24 [] 0 [k] s
      else callF S f s
def callF (S : Src9) : Nat → PS → Got Nd
  | 0, _ => outP
  | f + 1, s => (primF S f s).then fun n s => callL S f n s
def callL (S : Src9) : Nat → Nd → PS → Got Nd
  | 0, _, _ => outP
  | f + 1, n, s =>
      if seesB S sDot s = true then (nameP S s.step).then fun x s => (wantP S sOpen s).then fun _ s =>
        (if seesB S sShut s = true then .ok ([], s) else argsF S f s).then fun ks s => (wantP S sShut s).then fun _ s => (nodeP 25 x 0 (n :: ks) s).then fun m s => callL S f m s
      else .ok (n, s)
def argsF (S : Src9) : Nat → PS → Got (List Nd)
  | 0, _ => outP
  | f + 1, s => (exprF S f s).then fun k s => if seesB S sComma s = true then (argsF S f s.step).then fun ks s => .ok (k :: ks, s) else .ok ([k], s)
def primF (S : Src9) : Nat → PS → Got Nd
  | 0, _ => outP
  | f + 1, s =>
      if isB S 2 s = true then nodeP 26 [] (numP (S.at s.tok).2.1) [] s.step
      else if isB S 1 s = true then (nameP S s).then fun x s => nodeP 31 x 0 [] s
      else if seesB S wNil s = true then nodeP 27 [] 0 [] s.step
      else if seesB S wSelf s = true then nodeP 28 [] 0 [] s.step
      else if seesB S wGate s = true then nodeP 29 [] 0 [] s.step
      else if seesB S wNew s = true then (nameP S s.step).then fun x s => nodeP 30 x 0 [] s
      else (wantP S sOpen s).then fun _ s => (exprF S f s).then fun n s => (wantP S sShut s).then fun _ s => .ok (n, s)
end
/-- NAME = expr ; behind what begins it. -/
def withF (S : Src9) (f : Nat) (kind : Int) (s : PS) : Got Nd :=
  (nameP S s).then fun x s => (wantP S sSet s).then fun _ s => (exprF S f s).then fun k s => (wantP S sSemi s).then fun _ s => nodeP kind x 0 [k] s
/-- ( expr ) ; behind what begins it. -/
def oneF (S : Src9) (f : Nat) (kind : Int) (s : PS) : Got Nd :=
  (wantP S sOpen s).then fun _ s => (exprF S f s).then fun k s => (wantP S sShut s).then fun _ s => (wantP S sSemi s).then fun _ s => nodeP kind [] 0 [k] s
def twoF (S : Src9) (f : Nat) (kind : Int) (s : PS) : Got Nd :=
  (wantP S sOpen s).then fun _ s => (exprF S f s).then fun k s => (wantP S sComma s).then fun _ s => (exprF S f s).then fun m s => (wantP S sShut s).then fun _ s => (wantP S sSemi s).then fun _ s => nodeP kind [] 0 [k, m] s
/-- ( expr ). -/
def condF (S : Src9) (f : Nat) (s : PS) : Got Nd := (wantP S sOpen s).then fun _ s => (exprF S f s).then fun k s => (wantP S sShut s).then fun _ s => .ok (k, s)
/-- Does a set begin here? -/
def setB (S : Src9) (s : PS) : Bool := isB S 1 s && (decide (s.tok + 1 < S.L.length) && (S.at (s.tok + 1)).2.1 == sSet)
mutual
def blockF (S : Src9) : Nat → PS → Got Nd
  | 0, _ => outP
  | f + 1, s => (wantP S sBegin s).then fun _ s => (stmtsF S f s).then fun ks s => (wantP S sEnd s).then fun _ s => nodeP 6 [] 0 ks s
def stmtsF (S : Src9) : Nat → PS → Got (List Nd)
  | 0, _ => outP
  | f + 1, s => if seesB S sEnd s = true then .ok ([], s) else (stmtF S f s).then fun k s => (stmtsF S f s).then fun ks s => .ok (k :: ks, s)
def stmtF (S : Src9) : Nat → PS → Got Nd
  | 0, _ => outP
  | f + 1, s =>
      if seesB S wVar s = true then withF S f 7 s.step
      else if seesB S wIf s = true then (condF S f s.step).then fun k s => (blockF S f s).then fun b s =>
        if seesB S wElse s = true then (blockF S f s.step).then fun c s => nodeP 9 [] 0 [k, b, c] s else nodeP 9 [] 0 [k, b] s
      else if seesB S wWhile s = true then (condF S f s.step).then fun k s => (blockF S f s).then fun b s => nodeP 10 [] 0 [k, b] s
      else if seesB S wReturn s = true then (exprF S f s.step).then fun k s => (wantP S sSemi s).then fun _ s => nodeP 11 [] 0 [k] s
      else if seesB S wPrint s = true then oneF S f 12 s.step
      else if seesB S wFork s = true then (blockF S f s.step).then fun b s => nodeP 13 [] 0 [b] s
      else if seesB S wWait s = true then oneF S f 14 s.step
      else if seesB S wSignal s = true then oneF S f 15 s.step
      else if seesB S wSwap s = true then twoF S f 16 s.step
      else if setB S s = true then withF S f 8 s
      else (exprF S f s).then fun k s => (wantP S sSemi s).then fun _ s => nodeP 17 [] 0 [k] s
end
/-- Names with commas, behind (. -/
def argnsF (S : Src9) : Nat → PS → Got (List Nd)
  | 0, _ => outP
  | f + 1, s => (nameP S s).then fun x s => (nodeP 5 x 0 [] s).then fun k s => if seesB S sComma s = true then (argnsF S f s.step).then fun ks s => .ok (k :: ks, s) else .ok ([k], s)
def methodF (S : Src9) (f : Nat) (s : PS) : Got Nd :=
  (nameP S s).then fun x s => (wantP S sOpen s).then fun _ s => (if seesB S sShut s = true then .ok ([], s) else argnsF S f s).then fun ks s => (wantP S sShut s).then fun _ s => (blockF S f s).then fun b s => nodeP 4 x (ks.length : Int) (ks ++ [b]) s
def slotsF (S : Src9) : Nat → PS → Got (List Nd)
  | 0, _ => outP
  | f + 1, s => if seesB S wSlot s = true then (nameP S s.step).then fun x s => (wantP S sSemi s).then fun _ s => (nodeP 3 x 0 [] s).then fun k s => (slotsF S f s).then fun ks s => .ok (k :: ks, s) else .ok ([], s)
def methodsF (S : Src9) : Nat → PS → Got (List Nd)
  | 0, _ => outP
  | f + 1, s => if seesB S wTo s = true then (methodF S f s.step).then fun k s => (methodsF S f s).then fun ks s => .ok (k :: ks, s) else .ok ([], s)
def classF (S : Src9) (f : Nat) (s : PS) : Got Nd :=
  (nameP S s).then fun x s => (if seesB S sColon s = true then (nameP S s.step).then fun y s => (nodeP 31 y 0 [] s).then fun k s => .ok ([k], s) else .ok ([], s)).then fun up s =>
    (wantP S sBegin s).then fun _ s => (slotsF S f s).then fun ks s => (methodsF S f s).then fun ms s => (wantP S sEnd s).then fun _ s => nodeP 2 x 0 (up ++ ks ++ ms) s
def classesF (S : Src9) : Nat → PS → Got (List Nd)
  | 0, _ => outP
  | f + 1, s => if seesB S wClass s = true then (classF S f s.step).then fun k s => (classesF S f s).then fun ks s => .ok (k :: ks, s) else .ok ([], s)
def progF (S : Src9) (f : Nat) (s : PS) : Got Nd := (classesF S f s).then fun ks s => (wantP S wMain s).then fun _ s => (blockF S f s).then fun b s => nodeP 1 [] 0 (ks ++ [b]) s
/-- A program that is all there is, of not too many nodes. -/
def wholeF (S : Src9) (f : Nat) : Except (Int × Int) Nd := match progF S f ⟨0, 0, 0⟩ with
  | .error e => .error e
  | .ok (n, s) => if s.tok < S.L.length then .error (12, S.byte s) else if 600 < s.many then .error (1, 0) else .ok n
/-- Fuel that is enough. -/
def fuel9 (S : Src9) : Nat := 12 * S.L.length + 20
/-- What Parse tells. -/
def parseP (T : List Int) : Except (Int × Int) Nd := match scanP T with
  | .error e => .error e
  | .ok l => wholeF ⟨l, T.length⟩ (fuel9 ⟨l, T.length⟩)
end Go.Proofs.YtkppdndbfedijadGreatDoor

/- What chapter 9 says of nodes that are printed, as plain functions. No Go in sight. -/
namespace Go.Proofs.YtkppdndbfedijadGreatDoor

def Nd.kind : Nd → Int
  | .mk k _ _ _ => k
def Nd.text : Nd → List Int
  | .mk _ t _ _ => t
def Nd.num : Nd → Int
  | .mk _ _ n _ => n
def Nd.kids : Nd → List Nd
  | .mk _ _ _ ks => ks
mutual
/-- How many nodes. -/
def sizeN : Nd → Nat
  | .mk _ _ _ ks => 1 + sizeL ks
def sizeL : List Nd → Nat
  | [] => 0
  | n :: ns => sizeN n + sizeL ns
end
mutual
/-- The same nodes? -/
def sameN : Nd → Nd → Bool
  | .mk k t n ks, .mk k' t' n' ks' => k == k' && (t == t' && (n == n' && sameL ks ks'))
def sameL : List Nd → List Nd → Bool
  | [], [] => true
  | n :: ns, m :: ms => sameN n m && sameL ns ms
  | _, _ => false
end
/-- A name, and no word. -/
def nameB (x : List Int) : Bool := !x.isEmpty && (letB (wd x 0) && (x.all alnB && !wordB x))
/-- A word or a sign as a token. -/
def putT (x : List Int) : List Tok := [(if wordB x = true then 3 else 4, x, 0)]
def nameT (x : List Int) : Option (List Tok) := if nameB x = true then some [(1, x, 0)] else none
/-- One behind the other. -/
def cat2 (a b : Option (List Tok)) : Option (List Tok) := match a, b with
  | some x, some y => some (x ++ y)
  | _, _ => none
/-- The digits of a number, at most m of them. -/
def digitsN : Nat → Nat → List Int
  | 0, _ => []
  | m + 1, n => if 9 < n then digitsN m (n / 10) ++ [48 + ((n % 10 : Nat) : Int)] else [48 + (n : Int)]
def decimalP (n : Int) : List Int := digitsN 20 n.toNat
def numT (n : Int) : Option (List Tok) := if 0 ≤ n ∧ n ≤ 1073741823 then some [(2, decimalP n, 0)] else none
/-- How tightly a node holds. -/
def tightP (k : Int) : Nat := if k = 18 ∨ k = 19 then 0 else if k = 20 ∨ k = 21 then 1 else if k = 22 then 2 else if k = 23 ∨ k = 24 then 3 else if k = 25 then 4 else 5
/-- With commas between. -/
def commas : List (Option (List Tok)) → Option (List Tok)
  | [] => some []
  | [a] => a
  | a :: as => cat2 a (cat2 (some (putT sComma)) (commas as))
/-- All of them. -/
def catL : List (Option (List Tok)) → Option (List Tok)
  | [] => some []
  | a :: as => cat2 a (catL as)
def exprW : Nat → Nat → Nd → Option (List Tok)
  | 0, _, _ => none
  | f + 1, least, .mk k x num ks =>
    if tightP k < least then cat2 (some (putT sOpen)) (cat2 (exprW f 0 (.mk k x num ks)) (some (putT sShut)))
    else if k = 18 then betweenW (exprW f) ks sLess 1 1
    else if k = 19 then betweenW (exprW f) ks sSame 1 1
    else if k = 20 then betweenW (exprW f) ks sPlus 1 2
    else if k = 21 then betweenW (exprW f) ks sMinus 1 2
    else if k = 22 then betweenW (exprW f) ks sTimes 2 3
    else if k = 23 then (match ks with | a :: _ => cat2 (some (putT sMinus)) (exprW f 3 a) | [] => none)
    else if k = 24 then (match ks with | a :: _ => cat2 (some (putT sNot)) (exprW f 3 a) | [] => none)
    else if k = 25 then (match ks with
      | a :: as => cat2 (exprW f 4 a) (cat2 (some (putT sDot)) (cat2 (nameT x) (cat2 (some (putT sOpen)) (cat2 (commas (as.map (exprW f 0))) (some (putT sShut))))))
      | [] => none)
    else if k = 26 then numT num
    else if k = 27 then some (putT wNil)
    else if k = 28 then some (putT wSelf)
    else if k = 29 then some (putT wGate)
    else if k = 30 then cat2 (some (putT wNew)) (nameT x)
    else if k = 31 then nameT x
    else none
where
  betweenW (g : Nat → Nd → Option (List Tok)) (ks : List Nd) (x : List Int) (l r : Nat) : Option (List Tok) := match ks with
    | a :: b :: _ => cat2 (g l a) (cat2 (some (putT x)) (g r b))
    | _ => none
/-- ( expr ) of a node's first kid. -/
def someW (f : Nat) (ks : List Nd) : Option (List Tok) := match ks with
  | a :: _ => cat2 (some (putT sOpen)) (cat2 (exprW f 0 a) (some (putT sShut)))
  | [] => none
def semiW (a : Option (List Tok)) : Option (List Tok) := cat2 a (some (putT sSemi))
mutual
def blockW : Nat → Nd → Option (List Tok)
  | 0, _ => none
  | f + 1, .mk k _ _ ks => if k = 6 then cat2 (some (putT sBegin)) (cat2 (catL (ks.map (stmtW f))) (some (putT sEnd))) else none
def stmtW : Nat → Nd → Option (List Tok)
  | 0, _ => none
  | f + 1, .mk k x _ ks =>
    (match ks with
    | [] => none
    | a :: as =>
      if k = 7 then semiW (cat2 (some (putT wVar)) (cat2 (nameT x) (cat2 (some (putT sSet)) (exprW f 0 a))))
      else if k = 8 then semiW (cat2 (nameT x) (cat2 (some (putT sSet)) (exprW f 0 a)))
      else if k = 9 then (match as with
        | [] => none
        | b :: [] => cat2 (some (putT wIf)) (cat2 (someW f ks) (blockW f b))
        | b :: c :: _ => cat2 (some (putT wIf)) (cat2 (someW f ks) (cat2 (blockW f b) (cat2 (some (putT wElse)) (blockW f c)))))
      else if k = 10 then (match as with
        | [] => none
        | b :: _ => cat2 (some (putT wWhile)) (cat2 (someW f ks) (blockW f b)))
      else if k = 11 then semiW (cat2 (some (putT wReturn)) (exprW f 0 a))
      else if k = 12 then semiW (cat2 (some (putT wPrint)) (someW f ks))
      else if k = 13 then cat2 (some (putT wFork)) (blockW f a)
      else if k = 14 then semiW (cat2 (some (putT wWait)) (someW f ks))
      else if k = 15 then semiW (cat2 (some (putT wSignal)) (someW f ks))
      else if k = 16 then (match as with
        | [] => none
        | b :: _ => semiW (cat2 (some (putT wSwap)) (cat2 (some (putT sOpen)) (cat2 (exprW f 0 a) (cat2 (some (putT sComma)) (cat2 (exprW f 0 b) (some (putT sShut))))))))
      else if k = 17 then semiW (exprW f 0 a)
      else none)
end
/-- All kids but the last, as names. -/
def argsW (ks : List Nd) : Option (List Tok) := commas (ks.dropLast.map fun a => nameT a.text)
def memberW (f : Nat) (n : Nd) : Option (List Tok) :=
  if n.kind = 3 then semiW (cat2 (some (putT wSlot)) (nameT n.text))
  else if n.kind = 4 then (match n.kids.getLast? with
    | some b => cat2 (some (putT wTo)) (cat2 (nameT n.text) (cat2 (some (putT sOpen)) (cat2 (argsW n.kids) (cat2 (some (putT sShut)) (blockW f b)))))
    | none => none)
  else none
def classW (f : Nat) (n : Nd) : Option (List Tok) :=
  cat2 (some (putT wClass)) (cat2 (nameT n.text) (match n.kids with
    | u :: ks => if u.kind = 31 then cat2 (some (putT sColon)) (cat2 (nameT u.text) (bodyW f ks)) else bodyW f (u :: ks)
    | [] => bodyW f []))
where
  bodyW (f : Nat) (ks : List Nd) : Option (List Tok) := cat2 (some (putT sBegin)) (cat2 (catL (ks.map (memberW f))) (some (putT sEnd)))
def progW (f : Nat) (n : Nd) : Option (List Tok) := match n.kids.getLast? with
  | some b => if n.kind = 1 then cat2 (catL (n.kids.dropLast.map (classW f))) (cat2 (some (putT wMain)) (blockW f b)) else none
  | none => none
/-- Texts with blanks between. -/
def joinP : List (List Int) → List Int
  | [] => []
  | [a] => a
  | a :: as => a ++ [32] ++ joinP as
/-- What Print tells: a text, or a code and a byte. -/
def printP (n : Nd) : Except (Int × Int) (List Int) :=
  if 600 < sizeN n then .error (2, 0) else
  match progW (2 * sizeN n + 2) n with
  | none => .error (2, 0)
  | some l => match wholeF ⟨l, 0⟩ (fuel9 ⟨l, 0⟩) with
    | .error _ => .error (2, 0)
    | .ok m => if sameN m n = true then .ok (joinP (l.map fun t => t.2.1) ++ [10]) else .error (2, 0)
end Go.Proofs.YtkppdndbfedijadGreatDoor

/- Chapter 9, plain: what is given is enough; whoever reads goes on. -/
namespace Go.Proofs.YtkppdndbfedijadGreatDoor

/-- Enough was given; where something is read one is at the token lo or behind it, and not behind the end. -/
def Fine9 (S : Src9) {α : Type} (g : Got α) (lo : Nat) : Prop := g ≠ outP ∧ ∀ a s, g = .ok (a, s) → lo ≤ s.tok ∧ s.tok ≤ S.L.length
theorem fine_ok {S : Src9} {α : Type} {a : α} {s : PS} {lo : Nat} (h : lo ≤ s.tok) (h' : s.tok ≤ S.L.length) : Fine9 S (.ok (a, s) : Got α) lo :=
  ⟨fun e => (by cases e), fun b s' e => (by cases e; exact ⟨h, h'⟩)⟩
theorem fine_fail {α : Type} {S : Src9} {code : Int} {s : PS} {lo : Nat} (h : code ≠ -1) : Fine9 S (failP S code s : Got α) lo :=
  ⟨fun e => (by unfold failP outP at e; simp only [Except.error.injEq, Prod.mk.injEq] at e; exact h e.1), fun b s' e => (by cases e)⟩
theorem fine_then {S : Src9} {α β : Type} {g : Got α} {f : α → PS → Got β} {lo lo' : Nat} (h : Fine9 S g lo) (hf : ∀ a s, lo ≤ s.tok → s.tok ≤ S.L.length → Fine9 S (f a s) lo') : Fine9 S (g.then f) lo' := by
  unfold Got.then
  cases g with
  | error e => exact ⟨fun x => h.1 (by cases x; rfl), fun b s' x => (by cases x)⟩
  | ok p =>
    obtain ⟨a, s⟩ := p
    obtain ⟨h1, h2⟩ := h.2 a s rfl
    exact hf a s h1 h2
theorem fine_mono {S : Src9} {α : Type} {g : Got α} {lo lo' : Nat} (h : Fine9 S g lo) (hl : lo' ≤ lo) : Fine9 S g lo' := ⟨h.1, fun a s e => ⟨Nat.le_trans hl (h.2 a s e).1, (h.2 a s e).2⟩⟩
theorem sees_lt {S : Src9} {x : List Int} {s : PS} (h : seesB S x s = true) : s.tok < S.L.length := by
  unfold seesB at h
  simp only [Bool.and_eq_true, decide_eq_true_eq] at h
  exact h.1
theorem is_lt {S : Src9} {k : Int} {s : PS} (h : isB S k s = true) : s.tok < S.L.length := by
  unfold isB at h
  simp only [Bool.and_eq_true, decide_eq_true_eq] at h
  exact h.1
theorem want_fine (S : Src9) (x : List Int) (s : PS) : Fine9 S (wantP S x s) (s.tok + 1) := by
  unfold wantP
  split
  · rename_i hs
    have := sees_lt hs
    split
    · split
      · exact fine_fail (by decide)
      · exact fine_ok (Nat.le_refl _) this
    · split
      · exact fine_ok (Nat.le_refl _) this
      · exact fine_ok (Nat.le_refl _) this
  · exact fine_fail (by decide)
theorem name_fine (S : Src9) (s : PS) : Fine9 S (nameP S s) (s.tok + 1) := by
  unfold nameP
  split
  · rename_i hs; exact fine_ok (Nat.le_refl _) (is_lt hs)
  · exact fine_fail (by decide)
theorem fine_in {S : Src9} {α : Type} {a : α} {s : PS} {lo : Nat} (h : lo ≤ s.tok) (h' : s.tok ≤ S.L.length := by first | assumption | exact sees_lt (by assumption) | exact is_lt (by assumption)) : Fine9 S (.ok (a, s) : Got α) lo := fine_ok h h'
theorem node_fine {S : Src9} (kind : Int) (text : List Int) (num : Int) (kids : List Nd) (s : PS) {lo : Nat} (h : lo ≤ s.tok) (h' : s.tok ≤ S.L.length := by first | assumption | exact sees_lt (by assumption) | exact is_lt (by assumption)) : Fine9 S (nodeP kind text num kids s) lo := fine_ok h h'
/-- How many tokens are left. -/
def Src9.left (S : Src9) (s : PS) : Nat := S.L.length - s.tok
theorem left_less {S : Src9} {s s' : PS} (h : s.tok ≤ s'.tok) : S.left s' ≤ S.left s := by unfold Src9.left; omega
theorem left_step {S : Src9} {s s' : PS} (hs : s.tok < S.L.length) (h : s.tok + 1 ≤ s'.tok) : S.left s' + 1 ≤ S.left s := by unfold Src9.left; omega
theorem step_tok (s : PS) : s.step.tok = s.tok + 1 := rfl
theorem node_tok (s : PS) : s.node.tok = s.tok := rfl

/-- What is asked of each function that reads an expression. -/
structure Enough (S : Src9) (f : Nat) : Prop where
  expr : ∀ s, 12 * S.left s + 6 ≤ f → Fine9 S (exprF S f s) (s.tok + 1)
  sum : ∀ s, 12 * S.left s + 5 ≤ f → Fine9 S (sumF S f s) (s.tok + 1)
  sumL : ∀ n s, 12 * S.left s + 1 ≤ f → s.tok ≤ S.L.length → Fine9 S (sumL S f n s) s.tok
  term : ∀ s, 12 * S.left s + 4 ≤ f → Fine9 S (termF S f s) (s.tok + 1)
  termL : ∀ n s, 12 * S.left s + 1 ≤ f → s.tok ≤ S.L.length → Fine9 S (termL S f n s) s.tok
  unary : ∀ s, 12 * S.left s + 3 ≤ f → Fine9 S (unaryF S f s) (s.tok + 1)
  call : ∀ s, 12 * S.left s + 2 ≤ f → Fine9 S (callF S f s) (s.tok + 1)
  callL : ∀ n s, 12 * S.left s + 1 ≤ f → s.tok ≤ S.L.length → Fine9 S (callL S f n s) s.tok
  args : ∀ s, 12 * S.left s + 7 ≤ f → Fine9 S (argsF S f s) (s.tok + 1)
  prim : ∀ s, 12 * S.left s + 1 ≤ f → Fine9 S (primF S f s) (s.tok + 1)

theorem enough (S : Src9) : ∀ f, Enough S f
  | 0 => ⟨fun _ h => (by omega), fun _ h => (by omega), fun _ _ h _ => (by omega), fun _ h => (by omega), fun _ _ h _ => (by omega), fun _ h => (by omega), fun _ h => (by omega), fun _ _ h _ => (by omega), fun _ h => (by omega), fun _ h => (by omega)⟩
  | f + 1 => by
    have I := enough S f
    constructor
    · intro s h
      rw [exprF]
      refine fine_then (I.sum s (by omega)) fun n s1 h1 e1 => ?_
      have l1 := left_less (S := S) (s := s) (s' := s1) (by omega)
      split
      · rename_i hs
        have := left_step (s' := s1.step) (sees_lt hs) (Nat.le_refl _)
        exact fine_then (I.sum s1.step (by omega)) fun k s2 h2 e2 => node_fine _ _ _ _ _ (by rw [step_tok] at h2; omega)
      · split
        · rename_i hs
          have := left_step (s' := s1.step) (sees_lt hs) (Nat.le_refl _)
          exact fine_then (I.sum s1.step (by omega)) fun k s2 h2 e2 => node_fine _ _ _ _ _ (by rw [step_tok] at h2; omega)
        · exact fine_in h1
    · intro s h
      rw [sumF]
      refine fine_then (I.term s (by omega)) fun n s1 h1 e1 => ?_
      have l1 := left_less (S := S) (s := s) (s' := s1) (by omega)
      exact fine_mono (I.sumL n s1 (by omega) e1) h1
    · intro n s h hle
      rw [sumL]
      split
      · rename_i hs
        have := left_step (s' := s.step) (sees_lt hs) (Nat.le_refl _)
        refine fine_then (I.term s.step (by omega)) fun k s1 h1 e1 => ?_
        rw [step_tok] at h1
        have l1 := left_step (S := S) (s := s) (s' := s1.node) (sees_lt hs) (by rw [node_tok]; omega)
        show Fine9 S (sumL S f _ s1.node) _
        exact fine_mono (I.sumL _ s1.node (by omega) e1) (by rw [node_tok]; omega)
      · split
        · rename_i hs
          have := left_step (s' := s.step) (sees_lt hs) (Nat.le_refl _)
          refine fine_then (I.term s.step (by omega)) fun k s1 h1 e1 => ?_
          rw [step_tok] at h1
          have l1 := left_step (S := S) (s := s) (s' := s1.node) (sees_lt hs) (by rw [node_tok]; omega)
          show Fine9 S (sumL S f _ s1.node) _
          exact fine_mono (I.sumL _ s1.node (by omega) e1) (by rw [node_tok]; omega)
        · exact fine_in (Nat.le_refl _)
    · intro s h
      rw [termF]
      refine fine_then (I.unary s (by omega)) fun n s1 h1 e1 => ?_
      have l1 := left_less (S := S) (s := s) (s' := s1) (by omega)
      exact fine_mono (I.termL n s1 (by omega) e1) h1
    · intro n s h hle
      rw [termL]
      split
      · rename_i hs
        have := left_step (s' := s.step) (sees_lt hs) (Nat.le_refl _)
        refine fine_then (I.unary s.step (by omega)) fun k s1 h1 e1 => ?_
        rw [step_tok] at h1
        have l1 := left_step (S := S) (s := s) (s' := s1.node) (sees_lt hs) (by rw [node_tok]; omega)
        show Fine9 S (termL S f _ s1.node) _
        exact fine_mono (I.termL _ s1.node (by omega) e1) (by rw [node_tok]; omega)
      · exact fine_in (Nat.le_refl _)
    · intro s h
      rw [unaryF]
      split
      · rename_i hs
        have := left_step (s' := s.step) (sees_lt hs) (Nat.le_refl _)
        exact fine_then (I.unary s.step (by omega)) fun k s1 h1 e1 => node_fine _ _ _ _ _ (by rw [step_tok] at h1; omega)
      · split
        · rename_i hs
          have := left_step (s' := s.step) (sees_lt hs) (Nat.le_refl _)
          exact fine_then (I.unary s.step (by omega)) fun k s1 h1 e1 => node_fine _ _ _ _ _ (by rw [step_tok] at h1; omega)
        · exact I.call s (by omega)
    · intro s h
      rw [callF]
      refine fine_then (I.prim s (by omega)) fun n s1 h1 e1 => ?_
      have l1 := left_less (S := S) (s := s) (s' := s1) (by omega)
      exact fine_mono (I.callL n s1 (by omega) e1) h1
    · intro n s h hle
      rw [callL]
      split
      · rename_i hs
        refine fine_then (name_fine S s.step) fun x s1 h1 e1 => fine_then (want_fine S sOpen s1) fun _ s2 h2 e2 => ?_
        rw [step_tok] at h1
        have l2 := left_step (S := S) (s := s) (s' := s2) (sees_lt hs) (by omega)
        refine fine_then (lo := s2.tok) ?_ fun ks s3 h3 e3 => ?_
        · split
          · exact fine_in (Nat.le_refl _)
          · exact fine_mono (I.args s2 (by omega)) (by omega)
        · refine fine_then (want_fine S sShut s3) fun _ s4 h4 e4 => ?_
          have l4 := left_step (S := S) (s := s) (s' := s4.node) (sees_lt hs) (by rw [node_tok]; omega)
          show Fine9 S (callL S f _ s4.node) _
          exact fine_mono (I.callL _ s4.node (by omega) e4) (by rw [node_tok]; omega)
      · exact fine_in (Nat.le_refl _)
    · intro s h
      rw [argsF]
      refine fine_then (I.expr s (by omega)) fun k s1 h1 e1 => ?_
      split
      · rename_i hs
        have l1 := left_step (S := S) (s := s1) (s' := s1.step) (sees_lt hs) (Nat.le_refl _)
        have l0 := left_less (S := S) (s := s) (s' := s1) (by omega)
        exact fine_then (I.args s1.step (by omega)) fun ks s2 h2 e2 => fine_in (by rw [step_tok] at h2; omega)
      · exact fine_in h1
    · intro s h
      rw [primF]
      split
      · exact node_fine _ _ _ _ _ (Nat.le_refl _)
      · split
        · exact fine_then (name_fine S s) fun x s1 h1 e1 => node_fine _ _ _ _ _ h1
        · split
          · exact node_fine _ _ _ _ _ (Nat.le_refl _)
          · split
            · exact node_fine _ _ _ _ _ (Nat.le_refl _)
            · split
              · exact node_fine _ _ _ _ _ (Nat.le_refl _)
              · split
                · exact fine_then (name_fine S s.step) fun x s1 h1 e1 => node_fine _ _ _ _ _ (by rw [step_tok] at h1; omega)
                · by_cases hs : seesB S sOpen s = true
                  · refine fine_then (want_fine S sOpen s) fun _ s1 h1 e1 => ?_
                    have l1 := left_step (S := S) (s := s) (s' := s1) (sees_lt hs) h1
                    refine fine_then (I.expr s1 (by omega)) fun n s2 h2 e2 => fine_then (want_fine S sShut s2) fun _ s3 h3 e3 => fine_in (by omega)
                  · have e : wantP S sOpen s = failP S 12 s := by unfold wantP; rw [if_neg hs]
                    rw [e]
                    exact fine_fail (by decide)

/-- What is asked of each function that reads a statement. -/
structure Enough2 (S : Src9) (f : Nat) : Prop where
  block : ∀ s, 12 * S.left s + 1 ≤ f → Fine9 S (blockF S f s) (s.tok + 1)
  stmts : ∀ s, 12 * S.left s + 9 ≤ f → s.tok ≤ S.L.length → Fine9 S (stmtsF S f s) s.tok
  stmt : ∀ s, 12 * S.left s + 8 ≤ f → Fine9 S (stmtF S f s) (s.tok + 1)
theorem want_no {S : Src9} {x : List Int} {s : PS} (h : ¬ seesB S x s = true) {α : Type} (f : Unit → PS → Got α) {lo : Nat} : Fine9 S ((wantP S x s).then f) lo := by
  have e : wantP S x s = failP S 12 s := by unfold wantP; rw [if_neg h]
  rw [e]
  exact ⟨fun x => (by simp only [failP, Got.then, outP, Except.error.injEq, Prod.mk.injEq] at x; exact absurd x.1 (by decide)), fun b s' x => (by simp only [failP, Got.then] at x; cases x)⟩
theorem expr_in {S : Src9} {f : Nat} {s s1 : PS} (hs : s.tok < S.L.length) (h : 12 * S.left s + 8 ≤ f + 1) (h1 : s.tok + 1 ≤ s1.tok) : 12 * S.left s1 + 6 ≤ f := by
  have := left_step (S := S) hs h1
  omega
theorem with_fine {S : Src9} {f : Nat} {kind : Int} {s : PS} (h : 12 * S.left s + 6 ≤ f) : Fine9 S (withF S f kind s) (s.tok + 1) := by
  unfold withF
  refine fine_then (name_fine S s) fun x s1 h1 e1 => fine_then (want_fine S sSet s1) fun _ s2 h2 e2 => ?_
  have l2 := left_less (S := S) (s := s) (s' := s2) (by omega)
  refine fine_then ((enough S f).expr s2 (by omega)) fun k s3 h3 e3 => fine_then (want_fine S sSemi s3) fun _ s4 h4 e4 => node_fine _ _ _ _ _ (by omega)
theorem cond_fine {S : Src9} {f : Nat} {s : PS} (h : 12 * S.left s + 6 ≤ f) : Fine9 S (condF S f s) (s.tok + 1) := by
  unfold condF
  refine fine_then (want_fine S sOpen s) fun _ s1 h1 e1 => ?_
  have l1 := left_less (S := S) (s := s) (s' := s1) (by omega)
  exact fine_then ((enough S f).expr s1 (by omega)) fun k s2 h2 e2 => fine_then (want_fine S sShut s2) fun _ s3 h3 e3 => fine_in (by omega)
theorem one_fine {S : Src9} {f : Nat} {kind : Int} {s : PS} (h : 12 * S.left s + 6 ≤ f) : Fine9 S (oneF S f kind s) (s.tok + 1) := by
  unfold oneF
  refine fine_then (want_fine S sOpen s) fun _ s1 h1 e1 => ?_
  have l1 := left_less (S := S) (s := s) (s' := s1) (by omega)
  exact fine_then ((enough S f).expr s1 (by omega)) fun k s2 h2 e2 => fine_then (want_fine S sShut s2) fun _ s3 h3 e3 => fine_then (want_fine S sSemi s3) fun _ s4 h4 e4 => node_fine _ _ _ _ _ (by omega)
theorem two_fine {S : Src9} {f : Nat} {kind : Int} {s : PS} (h : 12 * S.left s + 6 ≤ f) : Fine9 S (twoF S f kind s) (s.tok + 1) := by
  unfold twoF
  refine fine_then (want_fine S sOpen s) fun _ s1 h1 e1 => ?_
  have l1 := left_less (S := S) (s := s) (s' := s1) (by omega)
  refine fine_then ((enough S f).expr s1 (by omega)) fun k s2 h2 e2 => fine_then (want_fine S sComma s2) fun _ s3 h3 e3 => ?_
  have l3 := left_less (S := S) (s := s) (s' := s3) (by omega)
  exact fine_then ((enough S f).expr s3 (by omega)) fun m s4 h4 e4 => fine_then (want_fine S sShut s4) fun _ s5 h5 e5 => fine_then (want_fine S sSemi s5) fun _ s6 h6 e6 => node_fine _ _ _ _ _ (by omega)

theorem enough2 (S : Src9) : ∀ f, Enough2 S f
  | 0 => ⟨fun _ h => (by omega), fun _ h _ => (by omega), fun _ h => (by omega)⟩
  | f + 1 => by
    have I := enough2 S f
    constructor
    · intro s h
      rw [blockF]
      by_cases hs : seesB S sBegin s = true
      · refine fine_then (want_fine S sBegin s) fun _ s1 h1 e1 => ?_
        have l1 := left_step (S := S) (s := s) (s' := s1) (sees_lt hs) h1
        exact fine_then (I.stmts s1 (by omega) e1) fun ks s2 h2 e2 => fine_then (want_fine S sEnd s2) fun _ s3 h3 e3 => node_fine _ _ _ _ _ (by omega)
      · exact want_no hs _
    · intro s h hle
      rw [stmtsF]
      split
      · exact fine_in (Nat.le_refl _)
      · refine fine_then (I.stmt s (by omega)) fun k s1 h1 e1 => ?_
        have l1 := left_step (S := S) (s := s) (s' := s1) (by omega) h1
        exact fine_then (I.stmts s1 (by omega) e1) fun ks s2 h2 e2 => fine_in (by omega)
    · intro s h
      rw [stmtF]
      have nx : ∀ x, seesB S x s = true → 12 * S.left s.step + 6 ≤ f := fun x hx => expr_in (sees_lt hx) h (Nat.le_refl _)
      split
      · rename_i hs; exact fine_mono (with_fine (nx _ hs)) (by rw [step_tok]; omega)
      · split
        · rename_i hs
          refine fine_then (cond_fine (nx _ hs)) fun k s1 h1 e1 => ?_
          rw [step_tok] at h1
          have l1 := left_step (S := S) (s := s) (s' := s1) (sees_lt hs) (by omega)
          refine fine_then (I.block s1 (by omega)) fun b s2 h2 e2 => ?_
          split
          · have l2 := left_step (S := S) (s := s) (s' := s2.step) (sees_lt hs) (by rw [step_tok]; omega)
            exact fine_then (I.block s2.step (by omega)) fun c s3 h3 e3 => node_fine _ _ _ _ _ (by rw [step_tok] at h3; omega)
          · exact node_fine _ _ _ _ _ (by omega)
        · split
          · rename_i hs
            refine fine_then (cond_fine (nx _ hs)) fun k s1 h1 e1 => ?_
            rw [step_tok] at h1
            have l1 := left_step (S := S) (s := s) (s' := s1) (sees_lt hs) (by omega)
            exact fine_then (I.block s1 (by omega)) fun b s2 h2 e2 => node_fine _ _ _ _ _ (by omega)
          · split
            · rename_i hs
              refine fine_then ((enough S f).expr s.step (nx _ hs)) fun k s1 h1 e1 => fine_then (want_fine S sSemi s1) fun _ s2 h2 e2 => node_fine _ _ _ _ _ (by rw [step_tok] at h1; omega)
            · split
              · rename_i hs; exact fine_mono (one_fine (nx _ hs)) (by rw [step_tok]; omega)
              · split
                · rename_i hs
                  have l1 := left_step (S := S) (s := s) (s' := s.step) (sees_lt hs) (Nat.le_refl _)
                  exact fine_then (I.block s.step (by omega)) fun b s1 h1 e1 => node_fine _ _ _ _ _ (by rw [step_tok] at h1; omega)
                · split
                  · rename_i hs; exact fine_mono (one_fine (nx _ hs)) (by rw [step_tok]; omega)
                  · split
                    · rename_i hs; exact fine_mono (one_fine (nx _ hs)) (by rw [step_tok]; omega)
                    · split
                      · rename_i hs; exact fine_mono (two_fine (nx _ hs)) (by rw [step_tok]; omega)
                      · split
                        · exact with_fine (by omega)
                        · exact fine_then ((enough S f).expr s (by omega)) fun k s1 h1 e1 => fine_then (want_fine S sSemi s1) fun _ s2 h2 e2 => node_fine _ _ _ _ _ (by omega)

theorem argns_fine (S : Src9) : ∀ (f : Nat) (s : PS), 12 * S.left s + 1 ≤ f → Fine9 S (argnsF S f s) (s.tok + 1)
  | 0, _, h => by omega
  | f + 1, s, h => by
    rw [argnsF]
    refine fine_then (name_fine S s) fun x s1 h1 e1 => ?_
    show Fine9 S (if seesB S sComma s1.node = true then _ else _) _
    split
    · rename_i hs
      have l1 := left_step (S := S) (s := s1.node) (s' := s1.node.step) (sees_lt hs) (Nat.le_refl _)
      have l0 := left_less (S := S) (s := s) (s' := s1.node) (by rw [node_tok]; omega)
      exact fine_then (argns_fine S f s1.node.step (by omega)) fun ks s2 h2 e2 => fine_in (by rw [step_tok, node_tok] at h2; omega)
    · exact fine_ok h1 e1
theorem method_fine {S : Src9} {f : Nat} {s : PS} (h : 12 * S.left s + 10 ≤ f) : Fine9 S (methodF S f s) (s.tok + 1) := by
  unfold methodF
  refine fine_then (name_fine S s) fun x s1 h1 e1 => fine_then (want_fine S sOpen s1) fun _ s2 h2 e2 => ?_
  have l2 := left_less (S := S) (s := s) (s' := s2) (by omega)
  refine fine_then (lo := s2.tok) ?_ fun ks s3 h3 e3 => fine_then (want_fine S sShut s3) fun _ s4 h4 e4 => ?_
  · split
    · exact fine_ok (Nat.le_refl _) e2
    · exact fine_mono (argns_fine S f s2 (by omega)) (by omega)
  · have l4 := left_less (S := S) (s := s) (s' := s4) (by omega)
    exact fine_then ((enough2 S f).block s4 (by omega)) fun b s5 h5 e5 => node_fine _ _ _ _ _ (by omega)
theorem slots_fine (S : Src9) : ∀ (f : Nat) (s : PS), 12 * S.left s + 1 ≤ f → s.tok ≤ S.L.length → Fine9 S (slotsF S f s) s.tok
  | 0, _, h, _ => by omega
  | f + 1, s, h, hle => by
    rw [slotsF]
    split
    · rename_i hs
      refine fine_then (name_fine S s.step) fun x s1 h1 e1 => fine_then (want_fine S sSemi s1) fun _ s2 h2 e2 => ?_
      rw [step_tok] at h1
      have l2 := left_step (S := S) (s := s) (s' := s2.node) (sees_lt hs) (by rw [node_tok]; omega)
      show Fine9 S ((slotsF S f s2.node).then _) _
      exact fine_then (slots_fine S f s2.node (by omega) e2) fun ks s3 h3 e3 => fine_in (by rw [node_tok] at h3; omega)
    · exact fine_in (Nat.le_refl _)
theorem methods_fine (S : Src9) : ∀ (f : Nat) (s : PS), 12 * S.left s + 1 ≤ f → s.tok ≤ S.L.length → Fine9 S (methodsF S f s) s.tok
  | 0, _, h, _ => by omega
  | f + 1, s, h, hle => by
    rw [methodsF]
    split
    · rename_i hs
      have l1 := left_step (S := S) (s := s) (s' := s.step) (sees_lt hs) (Nat.le_refl _)
      refine fine_then (method_fine (s := s.step) (by omega)) fun k s1 h1 e1 => ?_
      rw [step_tok] at h1
      have l2 := left_step (S := S) (s := s) (s' := s1) (sees_lt hs) (by omega)
      exact fine_then (methods_fine S f s1 (by omega) e1) fun ks s2 h2 e2 => fine_in (by omega)
    · exact fine_in (Nat.le_refl _)
theorem class_fine {S : Src9} {f : Nat} {s : PS} (h : 12 * S.left s + 1 ≤ f) : Fine9 S (classF S f s) (s.tok + 1) := by
  unfold classF
  refine fine_then (name_fine S s) fun x s1 h1 e1 => fine_then (lo := s1.tok) ?_ fun up s2 h2 e2 => fine_then (want_fine S sBegin s2) fun _ s3 h3 e3 => ?_
  · split
    · refine fine_then (name_fine S s1.step) fun y s5 h5 e5 => ?_
      rw [step_tok] at h5
      show Fine9 S (.ok ([_], s5.node)) _
      exact fine_ok (by rw [node_tok]; omega) e5
    · exact fine_in (Nat.le_refl _)
  · have l3 := left_less (S := S) (s := s) (s' := s3) (by omega)
    refine fine_then (slots_fine S f s3 (by omega) e3) fun ks s4 h4 e4 => ?_
    have l4 := left_less (S := S) (s := s) (s' := s4) (by omega)
    exact fine_then (methods_fine S f s4 (by omega) e4) fun ms s5 h5 e5 => fine_then (want_fine S sEnd s5) fun _ s6 h6 e6 => node_fine _ _ _ _ _ (by omega)
theorem classes_fine (S : Src9) : ∀ (f : Nat) (s : PS), 12 * S.left s + 1 ≤ f → s.tok ≤ S.L.length → Fine9 S (classesF S f s) s.tok
  | 0, _, h, _ => by omega
  | f + 1, s, h, hle => by
    rw [classesF]
    split
    · rename_i hs
      have l1 := left_step (S := S) (s := s) (s' := s.step) (sees_lt hs) (Nat.le_refl _)
      refine fine_then (class_fine (s := s.step) (by omega)) fun k s1 h1 e1 => ?_
      rw [step_tok] at h1
      have l2 := left_step (S := S) (s := s) (s' := s1) (sees_lt hs) (by omega)
      exact fine_then (classes_fine S f s1 (by omega) e1) fun ks s2 h2 e2 => fine_in (by omega)
    · exact fine_in (Nat.le_refl _)
/-- What Parse gives is enough. -/
theorem prog_fine (S : Src9) : Fine9 S (progF S (fuel9 S) ⟨0, 0, 0⟩) 0 := by
  have l0 : S.left ⟨0, 0, 0⟩ = S.L.length := rfl
  unfold progF
  refine fine_then (classes_fine S _ ⟨0, 0, 0⟩ (by unfold fuel9; omega) (Nat.zero_le _)) fun ks s1 h1 e1 => fine_then (want_fine S wMain s1) fun _ s2 h2 e2 => ?_
  have l2 := left_less (S := S) (s := ⟨0, 0, 0⟩) (s' := s2) (Nat.zero_le _)
  exact fine_then ((enough2 S _).block s2 (by unfold fuel9; omega)) fun b s3 h3 e3 => node_fine _ _ _ _ _ (by omega)
end Go.Proofs.YtkppdndbfedijadGreatDoor

/- Chapter 9, plain: what is read does not hang on what is given, if it is enough: the functions without it, and their equations. -/
namespace Go.Proofs.YtkppdndbfedijadGreatDoor

theorem then_same {α β : Type} {g g' : Got α} {F F' : α → PS → Got β} (h : g = g') (hF : ∀ a s, g = .ok (a, s) → F a s = F' a s) : g.then F = g'.then F' := by
  subst h
  unfold Got.then
  cases g with
  | error e => rfl
  | ok p => obtain ⟨a, s⟩ := p; exact hF a s rfl
theorem Fine9.at {S : Src9} {α : Type} {g : Got α} {lo : Nat} (h : Fine9 S g lo) {a : α} {s : PS} (e : g = .ok (a, s)) : lo ≤ s.tok ∧ s.tok ≤ S.L.length := h.2 a s e

/-- One more changes nothing. -/
structure Calm (S : Src9) (f : Nat) : Prop where
  expr : ∀ s, 12 * S.left s + 6 ≤ f → exprF S (f + 1) s = exprF S f s
  sum : ∀ s, 12 * S.left s + 5 ≤ f → sumF S (f + 1) s = sumF S f s
  sumL : ∀ n s, 12 * S.left s + 1 ≤ f → sumL S (f + 1) n s = sumL S f n s
  term : ∀ s, 12 * S.left s + 4 ≤ f → termF S (f + 1) s = termF S f s
  termL : ∀ n s, 12 * S.left s + 1 ≤ f → termL S (f + 1) n s = termL S f n s
  unary : ∀ s, 12 * S.left s + 3 ≤ f → unaryF S (f + 1) s = unaryF S f s
  call : ∀ s, 12 * S.left s + 2 ≤ f → callF S (f + 1) s = callF S f s
  callL : ∀ n s, 12 * S.left s + 1 ≤ f → callL S (f + 1) n s = callL S f n s
  args : ∀ s, 12 * S.left s + 7 ≤ f → argsF S (f + 1) s = argsF S f s
  prim : ∀ s, 12 * S.left s + 1 ≤ f → primF S (f + 1) s = primF S f s

theorem calm (S : Src9) : ∀ f, Calm S f
  | 0 => ⟨fun _ h => (by omega), fun _ h => (by omega), fun _ _ h => (by omega), fun _ h => (by omega), fun _ _ h => (by omega), fun _ h => (by omega), fun _ h => (by omega), fun _ _ h => (by omega), fun _ h => (by omega), fun _ h => (by omega)⟩
  | f + 1 => by
    have I := calm S f
    have E := enough S f
    have E1 := enough S (f + 1)
    constructor
    · intro s h
      rw [exprF, exprF]
      refine then_same (I.sum s (by omega)) fun n s1 e1 => ?_
      have h1 := (E1.sum s (by omega)).at e1
      have l1 := left_less (S := S) (s := s) (s' := s1) (by omega)
      split
      · rename_i hs
        have := left_step (s' := s1.step) (sees_lt hs) (Nat.le_refl _)
        exact then_same (I.sum s1.step (by omega)) fun _ _ _ => rfl
      · split
        · rename_i hs
          have := left_step (s' := s1.step) (sees_lt hs) (Nat.le_refl _)
          exact then_same (I.sum s1.step (by omega)) fun _ _ _ => rfl
        · rfl
    · intro s h
      rw [sumF, sumF]
      refine then_same (I.term s (by omega)) fun n s1 e1 => ?_
      have h1 := (E1.term s (by omega)).at e1
      have l1 := left_less (S := S) (s := s) (s' := s1) (by omega)
      exact I.sumL n s1 (by omega)
    · intro n s h
      rw [sumL, sumL]
      split
      · rename_i hs
        have := left_step (s' := s.step) (sees_lt hs) (Nat.le_refl _)
        refine then_same (I.term s.step (by omega)) fun k s1 e1 => ?_
        have h1 := (E1.term s.step (by omega)).at e1
        rw [step_tok] at h1
        have l1 := left_step (S := S) (s := s) (s' := s1.node) (sees_lt hs) (by rw [node_tok]; omega)
        exact I.sumL _ s1.node (by omega)
      · split
        · rename_i hs
          have := left_step (s' := s.step) (sees_lt hs) (Nat.le_refl _)
          refine then_same (I.term s.step (by omega)) fun k s1 e1 => ?_
          have h1 := (E1.term s.step (by omega)).at e1
          rw [step_tok] at h1
          have l1 := left_step (S := S) (s := s) (s' := s1.node) (sees_lt hs) (by rw [node_tok]; omega)
          exact I.sumL _ s1.node (by omega)
        · rfl
    · intro s h
      rw [termF, termF]
      refine then_same (I.unary s (by omega)) fun n s1 e1 => ?_
      have h1 := (E1.unary s (by omega)).at e1
      have l1 := left_less (S := S) (s := s) (s' := s1) (by omega)
      exact I.termL n s1 (by omega)
    · intro n s h
      rw [termL, termL]
      split
      · rename_i hs
        have := left_step (s' := s.step) (sees_lt hs) (Nat.le_refl _)
        refine then_same (I.unary s.step (by omega)) fun k s1 e1 => ?_
        have h1 := (E1.unary s.step (by omega)).at e1
        rw [step_tok] at h1
        have l1 := left_step (S := S) (s := s) (s' := s1.node) (sees_lt hs) (by rw [node_tok]; omega)
        exact I.termL _ s1.node (by omega)
      · rfl
    · intro s h
      conv => lhs; rw [unaryF]
      conv => rhs; rw [unaryF]
      split
      · rename_i hs
        have := left_step (s' := s.step) (sees_lt hs) (Nat.le_refl _)
        exact then_same (I.unary s.step (by omega)) fun _ _ _ => rfl
      · split
        · rename_i hs
          have := left_step (s' := s.step) (sees_lt hs) (Nat.le_refl _)
          exact then_same (I.unary s.step (by omega)) fun _ _ _ => rfl
        · exact I.call s (by omega)
    · intro s h
      rw [callF, callF]
      refine then_same (I.prim s (by omega)) fun n s1 e1 => ?_
      have h1 := (E1.prim s (by omega)).at e1
      have l1 := left_less (S := S) (s := s) (s' := s1) (by omega)
      exact I.callL n s1 (by omega)
    · intro n s h
      rw [callL, callL]
      split
      · rename_i hs
        refine then_same rfl fun x s1 e1 => then_same rfl fun u s2 e2 => ?_
        have h1 := (name_fine S s.step).at e1
        have h2 := (want_fine S sOpen s1).at e2
        rw [step_tok] at h1
        have l2 := left_step (S := S) (s := s) (s' := s2) (sees_lt hs) (by omega)
        refine then_same ?_ fun ks s3 e3 => then_same rfl fun v s4 e4 => ?_
        · split
          · rfl
          · exact I.args s2 (by omega)
        · have h3 : s2.tok ≤ s3.tok := by
            by_cases hx : seesB S sShut s2 = true
            · rw [if_pos hx] at e3; cases e3; exact Nat.le_refl _
            · rw [if_neg hx] at e3
              have := (E1.args s2 (by omega)).at e3
              omega
          have h4 := (want_fine S sShut s3).at e4
          have l4 := left_step (S := S) (s := s) (s' := s4.node) (sees_lt hs) (by rw [node_tok]; omega)
          exact I.callL _ s4.node (by omega)
      · rfl
    · intro s h
      rw [argsF, argsF]
      refine then_same (I.expr s (by omega)) fun k s1 e1 => ?_
      have h1 := (E1.expr s (by omega)).at e1
      split
      · rename_i hs
        have l1 := left_step (S := S) (s := s1) (s' := s1.step) (sees_lt hs) (Nat.le_refl _)
        have l0 := left_less (S := S) (s := s) (s' := s1) (by omega)
        exact then_same (I.args s1.step (by omega)) fun _ _ _ => rfl
      · rfl
    · intro s h
      rw [primF, primF]
      split
      · rfl
      · split
        · rfl
        · split
          · rfl
          · split
            · rfl
            · split
              · rfl
              · split
                · rfl
                · by_cases hs : seesB S sOpen s = true
                  · refine then_same rfl fun u s1 e1 => ?_
                    have h1 := (want_fine S sOpen s).at e1
                    have l1 := left_step (S := S) (s := s) (s' := s1) (sees_lt hs) (by omega)
                    exact then_same (I.expr s1 (by omega)) fun _ _ _ => rfl
                  · have e : wantP S sOpen s = failP S 12 s := by unfold wantP; rw [if_neg hs]
                    rw [e]; rfl
/-- What is enough is enough. -/
theorem calm_to {α : Type} {X : Nat → α} {c : Nat} (h : ∀ f, c ≤ f → X (f + 1) = X f) : ∀ f, c ≤ f → X f = X c := fun f hf => by
  induction f with
  | zero => rw [show c = 0 by omega]
  | succ f ih =>
    by_cases he : c = f + 1
    · rw [he]
    · rw [h f (by omega), ih (by omega)]

/-! The functions, whatever is given. -/
def exprC (S : Src9) (s : PS) : Got Nd := exprF S (12 * S.left s + 6) s
def sumC (S : Src9) (s : PS) : Got Nd := sumF S (12 * S.left s + 5) s
def sumLC (S : Src9) (n : Nd) (s : PS) : Got Nd := sumL S (12 * S.left s + 1) n s
def termC (S : Src9) (s : PS) : Got Nd := termF S (12 * S.left s + 4) s
def termLC (S : Src9) (n : Nd) (s : PS) : Got Nd := termL S (12 * S.left s + 1) n s
def unaryC (S : Src9) (s : PS) : Got Nd := unaryF S (12 * S.left s + 3) s
def callC (S : Src9) (s : PS) : Got Nd := callF S (12 * S.left s + 2) s
def callLC (S : Src9) (n : Nd) (s : PS) : Got Nd := callL S (12 * S.left s + 1) n s
def argsC (S : Src9) (s : PS) : Got (List Nd) := argsF S (12 * S.left s + 7) s
def primC (S : Src9) (s : PS) : Got Nd := primF S (12 * S.left s + 1) s
theorem expr_c {S : Src9} {s : PS} {f : Nat} (h : 12 * S.left s + 6 ≤ f) : exprF S f s = exprC S s := calm_to (X := fun f => exprF S f s) (fun f hf => (calm S f).expr s hf) f h
theorem sum_c {S : Src9} {s : PS} {f : Nat} (h : 12 * S.left s + 5 ≤ f) : sumF S f s = sumC S s := calm_to (X := fun f => sumF S f s) (fun f hf => (calm S f).sum s hf) f h
theorem sumL_c {S : Src9} {n : Nd} {s : PS} {f : Nat} (h : 12 * S.left s + 1 ≤ f) : sumL S f n s = sumLC S n s := calm_to (X := fun f => sumL S f n s) (fun f hf => (calm S f).sumL n s hf) f h
theorem term_c {S : Src9} {s : PS} {f : Nat} (h : 12 * S.left s + 4 ≤ f) : termF S f s = termC S s := calm_to (X := fun f => termF S f s) (fun f hf => (calm S f).term s hf) f h
theorem termL_c {S : Src9} {n : Nd} {s : PS} {f : Nat} (h : 12 * S.left s + 1 ≤ f) : termL S f n s = termLC S n s := calm_to (X := fun f => termL S f n s) (fun f hf => (calm S f).termL n s hf) f h
theorem unary_c {S : Src9} {s : PS} {f : Nat} (h : 12 * S.left s + 3 ≤ f) : unaryF S f s = unaryC S s := calm_to (X := fun f => unaryF S f s) (fun f hf => (calm S f).unary s hf) f h
theorem call_c {S : Src9} {s : PS} {f : Nat} (h : 12 * S.left s + 2 ≤ f) : callF S f s = callC S s := calm_to (X := fun f => callF S f s) (fun f hf => (calm S f).call s hf) f h
theorem callL_c {S : Src9} {n : Nd} {s : PS} {f : Nat} (h : 12 * S.left s + 1 ≤ f) : callL S f n s = callLC S n s := calm_to (X := fun f => callL S f n s) (fun f hf => (calm S f).callL n s hf) f h
theorem args_c {S : Src9} {s : PS} {f : Nat} (h : 12 * S.left s + 7 ≤ f) : argsF S f s = argsC S s := calm_to (X := fun f => argsF S f s) (fun f hf => (calm S f).args s hf) f h
theorem prim_c {S : Src9} {s : PS} {f : Nat} (h : 12 * S.left s + 1 ≤ f) : primF S f s = primC S s := calm_to (X := fun f => primF S f s) (fun f hf => (calm S f).prim s hf) f h
theorem sum_at {S : Src9} {s : PS} {n : Nd} {s1 : PS} (e : sumC S s = .ok (n, s1)) : s.tok + 1 ≤ s1.tok ∧ s1.tok ≤ S.L.length := ((enough S _).sum s (Nat.le_refl _)).at e
theorem term_at {S : Src9} {s : PS} {n : Nd} {s1 : PS} (e : termC S s = .ok (n, s1)) : s.tok + 1 ≤ s1.tok ∧ s1.tok ≤ S.L.length := ((enough S _).term s (Nat.le_refl _)).at e
theorem unary_at {S : Src9} {s : PS} {n : Nd} {s1 : PS} (e : unaryC S s = .ok (n, s1)) : s.tok + 1 ≤ s1.tok ∧ s1.tok ≤ S.L.length := ((enough S _).unary s (Nat.le_refl _)).at e
theorem prim_at {S : Src9} {s : PS} {n : Nd} {s1 : PS} (e : primC S s = .ok (n, s1)) : s.tok + 1 ≤ s1.tok ∧ s1.tok ≤ S.L.length := ((enough S _).prim s (Nat.le_refl _)).at e
theorem expr_at {S : Src9} {s : PS} {n : Nd} {s1 : PS} (e : exprC S s = .ok (n, s1)) : s.tok + 1 ≤ s1.tok ∧ s1.tok ≤ S.L.length := ((enough S _).expr s (Nat.le_refl _)).at e
theorem args_at {S : Src9} {s : PS} {n : List Nd} {s1 : PS} (e : argsC S s = .ok (n, s1)) : s.tok + 1 ≤ s1.tok ∧ s1.tok ≤ S.L.length := ((enough S _).args s (Nat.le_refl _)).at e
theorem expr_eq (S : Src9) (s : PS) : exprC S s = (sumC S s).then fun n s =>
      if seesB S sLess s = true then (sumC S s.step).then fun k s => nodeP 18 [] 0 [n, k] s
      else if seesB S sSame s = true then (sumC S s.step).then fun k s => nodeP 19 [] 0 [n, k] s
      else .ok (n, s) := by
  conv => lhs; unfold exprC; rw [exprF]
  refine then_same (sum_c (Nat.le_refl _)) fun n s1 e1 => ?_
  have h1 := sum_at (by rw [← sum_c (Nat.le_refl _)]; exact e1)
  have l1 := left_less (S := S) (s := s) (s' := s1) (by omega)
  split
  · rename_i hs
    have := left_step (s' := s1.step) (sees_lt hs) (Nat.le_refl _)
    exact then_same (sum_c (by omega)) fun _ _ _ => rfl
  · split
    · rename_i hs
      have := left_step (s' := s1.step) (sees_lt hs) (Nat.le_refl _)
      exact then_same (sum_c (by omega)) fun _ _ _ => rfl
    · rfl
theorem sum_eq (S : Src9) (s : PS) : sumC S s = (termC S s).then fun n s => sumLC S n s := by
  conv => lhs; unfold sumC; rw [sumF]
  refine then_same (term_c (Nat.le_refl _)) fun n s1 e1 => ?_
  have h1 := term_at (by rw [← term_c (Nat.le_refl _)]; exact e1)
  have l1 := left_less (S := S) (s := s) (s' := s1) (by omega)
  exact sumL_c (by omega)
theorem sumL_eq (S : Src9) (n : Nd) (s : PS) : sumLC S n s =
      if seesB S sPlus s = true then (termC S s.step).then fun k s => sumLC S (.mk 20 [] 0 [n, k]) s.node
      else if seesB S sMinus s = true then (termC S s.step).then fun k s => sumLC S (.mk 21 [] 0 [n, k]) s.node
      else .ok (n, s) := by
  conv => lhs; unfold sumLC; rw [sumL]
  split
  · rename_i hs
    have := left_step (s' := s.step) (sees_lt hs) (Nat.le_refl _)
    refine then_same (term_c (by omega)) fun k s1 e1 => ?_
    rw [term_c (by omega)] at e1
    have h1 := term_at e1
    rw [step_tok] at h1
    have l1 := left_step (S := S) (s := s) (s' := s1.node) (sees_lt hs) (by rw [node_tok]; omega)
    exact sumL_c (by omega)
  · split
    · rename_i hs
      have := left_step (s' := s.step) (sees_lt hs) (Nat.le_refl _)
      refine then_same (term_c (by omega)) fun k s1 e1 => ?_
      rw [term_c (by omega)] at e1
      have h1 := term_at e1
      rw [step_tok] at h1
      have l1 := left_step (S := S) (s := s) (s' := s1.node) (sees_lt hs) (by rw [node_tok]; omega)
      exact sumL_c (by omega)
    · rfl
theorem term_eq (S : Src9) (s : PS) : termC S s = (unaryC S s).then fun n s => termLC S n s := by
  conv => lhs; unfold termC; rw [termF]
  refine then_same (unary_c (Nat.le_refl _)) fun n s1 e1 => ?_
  have h1 := unary_at (by rw [← unary_c (Nat.le_refl _)]; exact e1)
  have l1 := left_less (S := S) (s := s) (s' := s1) (by omega)
  exact termL_c (by omega)
theorem termL_eq (S : Src9) (n : Nd) (s : PS) : termLC S n s =
      if seesB S sTimes s = true then (unaryC S s.step).then fun k s => termLC S (.mk 22 [] 0 [n, k]) s.node
      else .ok (n, s) := by
  conv => lhs; unfold termLC; rw [termL]
  split
  · rename_i hs
    have := left_step (s' := s.step) (sees_lt hs) (Nat.le_refl _)
    refine then_same (unary_c (by omega)) fun k s1 e1 => ?_
    rw [unary_c (by omega)] at e1
    have h1 := unary_at e1
    rw [step_tok] at h1
    have l1 := left_step (S := S) (s := s) (s' := s1.node) (sees_lt hs) (by rw [node_tok]; omega)
    exact termL_c (by omega)
  · rfl
theorem unary_eq (S : Src9) (s : PS) : unaryC S s =
      if seesB S sMinus s = true then (unaryC S s.step).then fun k s => nodeP 23 [] 0 [k] s
      else if seesB S sNot s = true then (unaryC S s.step).then fun k s => nodeP 24 [] 0 [k] s
      else callC S s := by
  conv => lhs; unfold unaryC; rw [unaryF]
  split
  · rename_i hs
    have := left_step (s' := s.step) (sees_lt hs) (Nat.le_refl _)
    exact then_same (unary_c (by omega)) fun _ _ _ => rfl
  · split
    · rename_i hs
      have := left_step (s' := s.step) (sees_lt hs) (Nat.le_refl _)
      exact then_same (unary_c (by omega)) fun _ _ _ => rfl
    · exact call_c (Nat.le_refl _)
theorem call_eq (S : Src9) (s : PS) : callC S s = (primC S s).then fun n s => callLC S n s := by
  conv => lhs; unfold callC; rw [callF]
  refine then_same (prim_c (Nat.le_refl _)) fun n s1 e1 => ?_
  have h1 := prim_at (by rw [← prim_c (Nat.le_refl _)]; exact e1)
  have l1 := left_less (S := S) (s := s) (s' := s1) (by omega)
  exact callL_c (by omega)
theorem callL_eq (S : Src9) (n : Nd) (s : PS) : callLC S n s =
      if seesB S sDot s = true then (nameP S s.step).then fun x s => (wantP S sOpen s).then fun _ s =>
        (if seesB S sShut s = true then .ok ([], s) else argsC S s).then fun ks s => (wantP S sShut s).then fun _ s => callLC S (.mk 25 x 0 (n :: ks)) s.node
      else .ok (n, s) := by
  conv => lhs; unfold callLC; rw [callL]
  split
  · rename_i hs
    refine then_same rfl fun x s1 e1 => then_same rfl fun u s2 e2 => ?_
    have h1 := (name_fine S s.step).at e1
    have h2 := (want_fine S sOpen s1).at e2
    rw [step_tok] at h1
    have l2 := left_step (S := S) (s := s) (s' := s2) (sees_lt hs) (by omega)
    refine then_same ?_ fun ks s3 e3 => then_same rfl fun v s4 e4 => ?_
    · split
      · rfl
      · exact args_c (by omega)
    · have h3 : s2.tok ≤ s3.tok := by
        by_cases hx : seesB S sShut s2 = true
        · rw [if_pos hx] at e3; cases e3; exact Nat.le_refl _
        · rw [if_neg hx, args_c (by omega)] at e3
          have := args_at e3
          omega
      have h4 := (want_fine S sShut s3).at e4
      have l4 := left_step (S := S) (s := s) (s' := s4.node) (sees_lt hs) (by rw [node_tok]; omega)
      exact callL_c (by omega)
  · rfl
theorem args_eq (S : Src9) (s : PS) : argsC S s = (exprC S s).then fun k s => if seesB S sComma s = true then (argsC S s.step).then fun ks s => .ok (k :: ks, s) else .ok ([k], s) := by
  conv => lhs; unfold argsC; rw [argsF]
  refine then_same (expr_c (Nat.le_refl _)) fun k s1 e1 => ?_
  have h1 := expr_at (by rw [← expr_c (Nat.le_refl _)]; exact e1)
  split
  · rename_i hs
    have l1 := left_step (S := S) (s := s1) (s' := s1.step) (sees_lt hs) (Nat.le_refl _)
    have l0 := left_less (S := S) (s := s) (s' := s1) (by omega)
    exact then_same (args_c (by omega)) fun _ _ _ => rfl
  · rfl
theorem prim_eq (S : Src9) (s : PS) : primC S s =
      if isB S 2 s = true then nodeP 26 [] (numP (S.at s.tok).2.1) [] s.step
      else if isB S 1 s = true then (nameP S s).then fun x s => nodeP 31 x 0 [] s
      else if seesB S wNil s = true then nodeP 27 [] 0 [] s.step
      else if seesB S wSelf s = true then nodeP 28 [] 0 [] s.step
      else if seesB S wGate s = true then nodeP 29 [] 0 [] s.step
      else if seesB S wNew s = true then (nameP S s.step).then fun x s => nodeP 30 x 0 [] s
      else (wantP S sOpen s).then fun _ s => (exprC S s).then fun n s => (wantP S sShut s).then fun _ s => .ok (n, s) := by
  conv => lhs; unfold primC; rw [primF]
  split
  · rfl
  · split
    · rfl
    · split
      · rfl
      · split
        · rfl
        · split
          · rfl
          · split
            · rfl
            · by_cases hs : seesB S sOpen s = true
              · refine then_same rfl fun u s1 e1 => ?_
                have h1 := (want_fine S sOpen s).at e1
                have l1 := left_step (S := S) (s := s) (s' := s1) (sees_lt hs) (by omega)
                exact then_same (expr_c (by omega)) fun _ _ _ => rfl
              · have e : wantP S sOpen s = failP S 12 s := by unfold wantP; rw [if_neg hs]
                rw [e]; rfl
end Go.Proofs.YtkppdndbfedijadGreatDoor

/- Chapter 9, plain: statements and blocks without what is given, and their equations. -/
namespace Go.Proofs.YtkppdndbfedijadGreatDoor

theorem ite_same {α : Type} {c : Prop} [Decidable c] {a a' b b' : α} (h : c → a = a') (h' : ¬ c → b = b') : (if c then a else b) = (if c then a' else b') := by
  by_cases hc : c
  · rw [if_pos hc, if_pos hc]; exact h hc
  · rw [if_neg hc, if_neg hc]; exact h' hc

def withC (S : Src9) (kind : Int) (s : PS) : Got Nd :=
  (nameP S s).then fun x s => (wantP S sSet s).then fun _ s => (exprC S s).then fun k s => (wantP S sSemi s).then fun _ s => nodeP kind x 0 [k] s
def condC (S : Src9) (s : PS) : Got Nd := (wantP S sOpen s).then fun _ s => (exprC S s).then fun k s => (wantP S sShut s).then fun _ s => .ok (k, s)
def oneC (S : Src9) (kind : Int) (s : PS) : Got Nd :=
  (wantP S sOpen s).then fun _ s => (exprC S s).then fun k s => (wantP S sShut s).then fun _ s => (wantP S sSemi s).then fun _ s => nodeP kind [] 0 [k] s
def twoC (S : Src9) (kind : Int) (s : PS) : Got Nd :=
  (wantP S sOpen s).then fun _ s => (exprC S s).then fun k s => (wantP S sComma s).then fun _ s => (exprC S s).then fun m s => (wantP S sShut s).then fun _ s => (wantP S sSemi s).then fun _ s => nodeP kind [] 0 [k, m] s
theorem with_c {S : Src9} {f : Nat} {kind : Int} {s : PS} (h : 12 * S.left s + 6 ≤ f) : withF S f kind s = withC S kind s := by
  unfold withF withC
  refine then_same rfl fun x s1 e1 => then_same rfl fun u s2 e2 => ?_
  have h1 := (name_fine S s).at e1
  have h2 := (want_fine S sSet s1).at e2
  have l2 := left_less (S := S) (s := s) (s' := s2) (by omega)
  exact then_same (expr_c (by omega)) fun _ _ _ => rfl
theorem cond_c {S : Src9} {f : Nat} {s : PS} (h : 12 * S.left s + 6 ≤ f) : condF S f s = condC S s := by
  unfold condF condC
  refine then_same rfl fun u s1 e1 => ?_
  have h1 := (want_fine S sOpen s).at e1
  have l1 := left_less (S := S) (s := s) (s' := s1) (by omega)
  exact then_same (expr_c (by omega)) fun _ _ _ => rfl
theorem one_c {S : Src9} {f : Nat} {kind : Int} {s : PS} (h : 12 * S.left s + 6 ≤ f) : oneF S f kind s = oneC S kind s := by
  unfold oneF oneC
  refine then_same rfl fun u s1 e1 => ?_
  have h1 := (want_fine S sOpen s).at e1
  have l1 := left_less (S := S) (s := s) (s' := s1) (by omega)
  exact then_same (expr_c (by omega)) fun _ _ _ => rfl
theorem two_c {S : Src9} {f : Nat} {kind : Int} {s : PS} (h : 12 * S.left s + 6 ≤ f) : twoF S f kind s = twoC S kind s := by
  unfold twoF twoC
  refine then_same rfl fun u s1 e1 => ?_
  have h1 := (want_fine S sOpen s).at e1
  have l1 := left_less (S := S) (s := s) (s' := s1) (by omega)
  refine then_same (expr_c (by omega)) fun k s2 e2 => then_same rfl fun v s3 e3 => ?_
  rw [expr_c (by omega)] at e2
  have h2 := expr_at e2
  have h3 := (want_fine S sComma s2).at e3
  have l3 := left_less (S := S) (s := s) (s' := s3) (by omega)
  exact then_same (expr_c (by omega)) fun _ _ _ => rfl

structure Calm2 (S : Src9) (f : Nat) : Prop where
  block : ∀ s, 12 * S.left s + 1 ≤ f → blockF S (f + 1) s = blockF S f s
  stmts : ∀ s, 12 * S.left s + 9 ≤ f → s.tok ≤ S.L.length → stmtsF S (f + 1) s = stmtsF S f s
  stmt : ∀ s, 12 * S.left s + 8 ≤ f → stmtF S (f + 1) s = stmtF S f s
theorem want_not {S : Src9} {x : List Int} {s : PS} (h : ¬ seesB S x s = true) {α : Type} (F F' : Unit → PS → Got α) : (wantP S x s).then F = (wantP S x s).then F' := by
  have e : wantP S x s = failP S 12 s := by unfold wantP; rw [if_neg h]
  rw [e]; rfl
theorem calm2 (S : Src9) : ∀ f, Calm2 S f
  | 0 => ⟨fun _ h => (by omega), fun _ h _ => (by omega), fun _ h => (by omega)⟩
  | f + 1 => by
    have I := calm2 S f
    have E1 := enough2 S (f + 1)
    constructor
    · intro s h
      conv => lhs; rw [blockF]
      conv => rhs; rw [blockF]
      by_cases hs : seesB S sBegin s = true
      · refine then_same rfl fun u s1 e1 => ?_
        have h1 := (want_fine S sBegin s).at e1
        have l1 := left_step (S := S) (s := s) (s' := s1) (sees_lt hs) (by omega)
        exact then_same (I.stmts s1 (by omega) h1.2) fun _ _ _ => rfl
      · exact want_not hs _ _
    · intro s h hle
      conv => lhs; rw [stmtsF]
      conv => rhs; rw [stmtsF]
      split
      · rfl
      · refine then_same (I.stmt s (by omega)) fun k s1 e1 => ?_
        have h1 := (E1.stmt s (by omega)).at e1
        have l1 := left_step (S := S) (s := s) (s' := s1) (by omega) (by omega)
        exact then_same (I.stmts s1 (by omega) h1.2) fun _ _ _ => rfl
    · intro s h
      conv => lhs; rw [stmtF]
      conv => rhs; rw [stmtF]
      have nx : ∀ x, seesB S x s = true → 12 * S.left s.step + 6 ≤ f := fun x hx => expr_in (sees_lt hx) (by omega) (Nat.le_refl _)
      refine ite_same (fun hs => ?_) fun _ => ite_same (fun hs => ?_) fun _ => ite_same (fun hs => ?_) fun _ => ite_same (fun hs => ?_) fun _ => ite_same (fun hs => ?_) fun _ => ite_same (fun hs => ?_) fun _ => ite_same (fun hs => ?_) fun _ => ite_same (fun hs => ?_) fun _ => ite_same (fun hs => ?_) fun _ => ite_same (fun hs => ?_) fun _ => ?_
      · rw [with_c (by have := nx _ hs; omega), with_c (nx _ hs)]
      · have hx := nx _ hs
        refine then_same (by rw [cond_c (by omega), cond_c hx]) fun k s1 e1 => ?_
        have h1 := (cond_fine (S := S) (f := f + 1) (s := s.step) (by omega)).at e1
        rw [step_tok] at h1
        have l1 := left_step (S := S) (s := s) (s' := s1) (sees_lt hs) (by omega)
        refine then_same (I.block s1 (by omega)) fun b s2 e2 => ?_
        have h2 := (E1.block s1 (by omega)).at e2
        refine ite_same (fun _ => ?_) fun _ => rfl
        have l2 := left_step (S := S) (s := s) (s' := s2.step) (sees_lt hs) (by rw [step_tok]; omega)
        exact then_same (I.block s2.step (by omega)) fun _ _ _ => rfl
      · have hx := nx _ hs
        refine then_same (by rw [cond_c (by omega), cond_c hx]) fun k s1 e1 => ?_
        have h1 := (cond_fine (S := S) (f := f + 1) (s := s.step) (by omega)).at e1
        rw [step_tok] at h1
        have l1 := left_step (S := S) (s := s) (s' := s1) (sees_lt hs) (by omega)
        exact then_same (I.block s1 (by omega)) fun _ _ _ => rfl
      · have hx := nx _ hs
        exact then_same (by rw [expr_c (by omega), expr_c hx]) fun _ _ _ => rfl
      · rw [one_c (by have := nx _ hs; omega), one_c (nx _ hs)]
      · have l1 := left_step (S := S) (s := s) (s' := s.step) (sees_lt hs) (Nat.le_refl _)
        exact then_same (I.block s.step (by omega)) fun _ _ _ => rfl
      · rw [one_c (by have := nx _ hs; omega), one_c (nx _ hs)]
      · rw [one_c (by have := nx _ hs; omega), one_c (nx _ hs)]
      · rw [two_c (by have := nx _ hs; omega), two_c (nx _ hs)]
      · rw [with_c (by omega), with_c (by omega)]
      · exact then_same (by rw [expr_c (by omega), expr_c (by omega)]) fun _ _ _ => rfl
def blockC (S : Src9) (s : PS) : Got Nd := blockF S (12 * S.left s + 1) s
def stmtsC (S : Src9) (s : PS) : Got (List Nd) := stmtsF S (12 * S.left s + 9) s
def stmtC (S : Src9) (s : PS) : Got Nd := stmtF S (12 * S.left s + 8) s
theorem block_c {S : Src9} {s : PS} {f : Nat} (h : 12 * S.left s + 1 ≤ f) : blockF S f s = blockC S s := calm_to (X := fun f => blockF S f s) (fun f hf => (calm2 S f).block s hf) f h
theorem stmts_c {S : Src9} {s : PS} {f : Nat} (h : 12 * S.left s + 9 ≤ f) (hle : s.tok ≤ S.L.length) : stmtsF S f s = stmtsC S s := calm_to (X := fun f => stmtsF S f s) (fun f hf => (calm2 S f).stmts s hf hle) f h
theorem stmt_c {S : Src9} {s : PS} {f : Nat} (h : 12 * S.left s + 8 ≤ f) : stmtF S f s = stmtC S s := calm_to (X := fun f => stmtF S f s) (fun f hf => (calm2 S f).stmt s hf) f h
theorem block_at {S : Src9} {s : PS} {n : Nd} {s1 : PS} (e : blockC S s = .ok (n, s1)) : s.tok + 1 ≤ s1.tok ∧ s1.tok ≤ S.L.length := ((enough2 S _).block s (Nat.le_refl _)).at e
theorem stmt_at {S : Src9} {s : PS} {n : Nd} {s1 : PS} (e : stmtC S s = .ok (n, s1)) : s.tok + 1 ≤ s1.tok ∧ s1.tok ≤ S.L.length := ((enough2 S _).stmt s (Nat.le_refl _)).at e
theorem block_eq (S : Src9) (s : PS) : blockC S s = (wantP S sBegin s).then fun _ s => (stmtsC S s).then fun ks s => (wantP S sEnd s).then fun _ s => nodeP 6 [] 0 ks s := by
  conv => lhs; unfold blockC; rw [blockF]
  by_cases hs : seesB S sBegin s = true
  · refine then_same rfl fun u s1 e1 => ?_
    have h1 := (want_fine S sBegin s).at e1
    have l1 := left_step (S := S) (s := s) (s' := s1) (sees_lt hs) (by omega)
    exact then_same (stmts_c (by omega) h1.2) fun _ _ _ => rfl
  · exact want_not hs _ _
theorem stmts_eq (S : Src9) (s : PS) (hle : s.tok ≤ S.L.length) : stmtsC S s = if seesB S sEnd s = true then .ok ([], s) else (stmtC S s).then fun k s => (stmtsC S s).then fun ks s => .ok (k :: ks, s) := by
  conv => lhs; unfold stmtsC; rw [stmtsF]
  split
  · rfl
  · refine then_same (stmt_c (by omega)) fun k s1 e1 => ?_
    rw [stmt_c (by omega)] at e1
    have h1 := stmt_at e1
    have l1 := left_step (S := S) (s := s) (s' := s1) (by omega) (by omega)
    exact then_same (stmts_c (by omega) h1.2) fun _ _ _ => rfl
theorem stmt_eq (S : Src9) (s : PS) : stmtC S s =
      if seesB S wVar s = true then withC S 7 s.step
      else if seesB S wIf s = true then (condC S s.step).then fun k s => (blockC S s).then fun b s =>
        if seesB S wElse s = true then (blockC S s.step).then fun c s => nodeP 9 [] 0 [k, b, c] s else nodeP 9 [] 0 [k, b] s
      else if seesB S wWhile s = true then (condC S s.step).then fun k s => (blockC S s).then fun b s => nodeP 10 [] 0 [k, b] s
      else if seesB S wReturn s = true then (exprC S s.step).then fun k s => (wantP S sSemi s).then fun _ s => nodeP 11 [] 0 [k] s
      else if seesB S wPrint s = true then oneC S 12 s.step
      else if seesB S wFork s = true then (blockC S s.step).then fun b s => nodeP 13 [] 0 [b] s
      else if seesB S wWait s = true then oneC S 14 s.step
      else if seesB S wSignal s = true then oneC S 15 s.step
      else if seesB S wSwap s = true then twoC S 16 s.step
      else if setB S s = true then withC S 8 s
      else (exprC S s).then fun k s => (wantP S sSemi s).then fun _ s => nodeP 17 [] 0 [k] s := by
  conv => lhs; unfold stmtC; rw [stmtF]
  have nx : ∀ x, seesB S x s = true → 12 * S.left s.step + 6 ≤ 12 * S.left s + 7 := fun x hx => expr_in (sees_lt hx) (Nat.le_refl _) (Nat.le_refl _)
  refine ite_same (fun hs => ?_) fun _ => ite_same (fun hs => ?_) fun _ => ite_same (fun hs => ?_) fun _ => ite_same (fun hs => ?_) fun _ => ite_same (fun hs => ?_) fun _ => ite_same (fun hs => ?_) fun _ => ite_same (fun hs => ?_) fun _ => ite_same (fun hs => ?_) fun _ => ite_same (fun hs => ?_) fun _ => ite_same (fun hs => ?_) fun _ => ?_
  · exact with_c (nx _ hs)
  · have hx := nx _ hs
    refine then_same (cond_c hx) fun k s1 e1 => ?_
    have h1 := (cond_fine (S := S) (s := s.step) hx).at e1
    rw [step_tok] at h1
    have l1 := left_step (S := S) (s := s) (s' := s1) (sees_lt hs) (by omega)
    refine then_same (block_c (by omega)) fun b s2 e2 => ?_
    rw [block_c (by omega)] at e2
    have h2 := block_at e2
    refine ite_same (fun _ => ?_) fun _ => rfl
    have l2 := left_step (S := S) (s := s) (s' := s2.step) (sees_lt hs) (by rw [step_tok]; omega)
    exact then_same (block_c (by omega)) fun _ _ _ => rfl
  · have hx := nx _ hs
    refine then_same (cond_c hx) fun k s1 e1 => ?_
    have h1 := (cond_fine (S := S) (s := s.step) hx).at e1
    rw [step_tok] at h1
    have l1 := left_step (S := S) (s := s) (s' := s1) (sees_lt hs) (by omega)
    exact then_same (block_c (by omega)) fun _ _ _ => rfl
  · exact then_same (expr_c (nx _ hs)) fun _ _ _ => rfl
  · exact one_c (nx _ hs)
  · have l1 := left_step (S := S) (s := s) (s' := s.step) (sees_lt hs) (Nat.le_refl _)
    exact then_same (block_c (by omega)) fun _ _ _ => rfl
  · exact one_c (nx _ hs)
  · exact one_c (nx _ hs)
  · exact two_c (nx _ hs)
  · exact with_c (by omega)
  · exact then_same (expr_c (by omega)) fun _ _ _ => rfl
end Go.Proofs.YtkppdndbfedijadGreatDoor

/- Chapter 9, plain: methods, classes and programs without what is given, and their equations. -/
namespace Go.Proofs.YtkppdndbfedijadGreatDoor

theorem argns_calm (S : Src9) : ∀ (f : Nat) (s : PS), 12 * S.left s + 1 ≤ f → argnsF S (f + 1) s = argnsF S f s
  | 0, _, h => by omega
  | f + 1, s, h => by
    conv => lhs; rw [argnsF]
    conv => rhs; rw [argnsF]
    refine then_same rfl fun x s1 e1 => then_same rfl fun k s2 e2 => ite_same (fun hs => ?_) fun _ => rfl
    cases e2
    have h1 := (name_fine S s).at e1
    have l1 := left_step (S := S) (s := s1.node) (s' := s1.node.step) (sees_lt hs) (Nat.le_refl _)
    have l0 := left_less (S := S) (s := s) (s' := s1.node) (by rw [node_tok]; omega)
    exact then_same (argns_calm S f s1.node.step (by omega)) fun _ _ _ => rfl
def argnsC (S : Src9) (s : PS) : Got (List Nd) := argnsF S (12 * S.left s + 1) s
theorem argns_c {S : Src9} {s : PS} {f : Nat} (h : 12 * S.left s + 1 ≤ f) : argnsF S f s = argnsC S s := calm_to (X := fun f => argnsF S f s) (fun f hf => argns_calm S f s hf) f h
theorem argns_at {S : Src9} {s : PS} {n : List Nd} {s1 : PS} (e : argnsC S s = .ok (n, s1)) : s.tok + 1 ≤ s1.tok ∧ s1.tok ≤ S.L.length := (argns_fine S _ s (Nat.le_refl _)).at e
theorem argns_eq (S : Src9) (s : PS) : argnsC S s = (nameP S s).then fun x s => (nodeP 5 x 0 [] s).then fun k s => if seesB S sComma s = true then (argnsC S s.step).then fun ks s => .ok (k :: ks, s) else .ok ([k], s) := by
  conv => lhs; unfold argnsC; rw [argnsF]
  refine then_same rfl fun x s1 e1 => then_same rfl fun k s2 e2 => ite_same (fun hs => ?_) fun _ => rfl
  cases e2
  have h1 := (name_fine S s).at e1
  have l1 := left_step (S := S) (s := s1.node) (s' := s1.node.step) (sees_lt hs) (Nat.le_refl _)
  have l0 := left_less (S := S) (s := s) (s' := s1.node) (by rw [node_tok]; omega)
  exact then_same (argns_c (by omega)) fun _ _ _ => rfl
def argnG (S : Src9) (s : PS) : Got (List Nd) := if seesB S sShut s = true then .ok ([], s) else argnsC S s
theorem argnG_at {S : Src9} {s : PS} {n : List Nd} {s1 : PS} (hle : s.tok ≤ S.L.length) (e : argnG S s = .ok (n, s1)) : s.tok ≤ s1.tok ∧ s1.tok ≤ S.L.length := by
  unfold argnG at e
  split at e
  · cases e; exact ⟨Nat.le_refl _, hle⟩
  · have := argns_at e; omega
def methodC (S : Src9) (s : PS) : Got Nd :=
  (nameP S s).then fun x s => (wantP S sOpen s).then fun _ s => (argnG S s).then fun ks s => (wantP S sShut s).then fun _ s => (blockC S s).then fun b s => nodeP 4 x (ks.length : Int) (ks ++ [b]) s
theorem method_c {S : Src9} {f : Nat} {s : PS} (h : 12 * S.left s + 10 ≤ f) : methodF S f s = methodC S s := by
  unfold methodF methodC argnG
  refine then_same rfl fun x s1 e1 => then_same rfl fun u s2 e2 => ?_
  have h1 := (name_fine S s).at e1
  have h2 := (want_fine S sOpen s1).at e2
  have l2 := left_less (S := S) (s := s) (s' := s2) (by omega)
  refine then_same (ite_same (fun _ => rfl) fun _ => argns_c (by omega)) fun ks s3 e3 => then_same rfl fun v s4 e4 => ?_
  have h3 : s2.tok ≤ s3.tok := by
    split at e3
    · cases e3; exact Nat.le_refl _
    · have := (argns_fine S f s2 (by omega)).at e3; omega
  have h4 := (want_fine S sShut s3).at e4
  have l4 := left_less (S := S) (s := s) (s' := s4) (by omega)
  exact then_same (block_c (by omega)) fun _ _ _ => rfl
theorem method_at {S : Src9} {s : PS} {n : Nd} {s1 : PS} (e : methodC S s = .ok (n, s1)) : s.tok + 1 ≤ s1.tok ∧ s1.tok ≤ S.L.length := by
  rw [← method_c (Nat.le_refl _)] at e
  exact (method_fine (Nat.le_refl _)).at e
theorem slots_calm (S : Src9) : ∀ (f : Nat) (s : PS), 12 * S.left s + 1 ≤ f → slotsF S (f + 1) s = slotsF S f s
  | 0, _, h => by omega
  | f + 1, s, h => by
    conv => lhs; rw [slotsF]
    conv => rhs; rw [slotsF]
    refine ite_same (fun hs => then_same rfl fun x s1 e1 => then_same rfl fun u s2 e2 => then_same rfl fun k s3 e3 => ?_) fun _ => rfl
    cases e3
    have h1 := (name_fine S s.step).at e1
    have h2 := (want_fine S sSemi s1).at e2
    rw [step_tok] at h1
    have l2 := left_step (S := S) (s := s) (s' := s2.node) (sees_lt hs) (by rw [node_tok]; omega)
    exact then_same (slots_calm S f s2.node (by omega)) fun _ _ _ => rfl
def slotsC (S : Src9) (s : PS) : Got (List Nd) := slotsF S (12 * S.left s + 1) s
theorem slots_c {S : Src9} {s : PS} {f : Nat} (h : 12 * S.left s + 1 ≤ f) : slotsF S f s = slotsC S s := calm_to (X := fun f => slotsF S f s) (fun f hf => slots_calm S f s hf) f h
theorem slots_at {S : Src9} {s : PS} {n : List Nd} {s1 : PS} (hle : s.tok ≤ S.L.length) (e : slotsC S s = .ok (n, s1)) : s.tok ≤ s1.tok ∧ s1.tok ≤ S.L.length := (slots_fine S _ s (Nat.le_refl _) hle).at e
theorem slots_eq (S : Src9) (s : PS) : slotsC S s = if seesB S wSlot s = true then (nameP S s.step).then fun x s => (wantP S sSemi s).then fun _ s => (nodeP 3 x 0 [] s).then fun k s => (slotsC S s).then fun ks s => .ok (k :: ks, s) else .ok ([], s) := by
  conv => lhs; unfold slotsC; rw [slotsF]
  refine ite_same (fun hs => then_same rfl fun x s1 e1 => then_same rfl fun u s2 e2 => then_same rfl fun k s3 e3 => ?_) fun _ => rfl
  cases e3
  have h1 := (name_fine S s.step).at e1
  have h2 := (want_fine S sSemi s1).at e2
  rw [step_tok] at h1
  have l2 := left_step (S := S) (s := s) (s' := s2.node) (sees_lt hs) (by rw [node_tok]; omega)
  exact then_same (slots_c (by omega)) fun _ _ _ => rfl
theorem methods_calm (S : Src9) : ∀ (f : Nat) (s : PS), 12 * S.left s + 1 ≤ f → methodsF S (f + 1) s = methodsF S f s
  | 0, _, h => by omega
  | f + 1, s, h => by
    conv => lhs; rw [methodsF]
    conv => rhs; rw [methodsF]
    refine ite_same (fun hs => ?_) fun _ => rfl
    have l1 := left_step (S := S) (s := s) (s' := s.step) (sees_lt hs) (Nat.le_refl _)
    refine then_same (by rw [method_c (by omega), method_c (by omega)]) fun k s1 e1 => ?_
    rw [method_c (by omega)] at e1
    have h1 := method_at e1
    rw [step_tok] at h1
    have l2 := left_step (S := S) (s := s) (s' := s1) (sees_lt hs) (by omega)
    exact then_same (methods_calm S f s1 (by omega)) fun _ _ _ => rfl
def methodsC (S : Src9) (s : PS) : Got (List Nd) := methodsF S (12 * S.left s + 1) s
theorem methods_c {S : Src9} {s : PS} {f : Nat} (h : 12 * S.left s + 1 ≤ f) : methodsF S f s = methodsC S s := calm_to (X := fun f => methodsF S f s) (fun f hf => methods_calm S f s hf) f h
theorem methods_at {S : Src9} {s : PS} {n : List Nd} {s1 : PS} (hle : s.tok ≤ S.L.length) (e : methodsC S s = .ok (n, s1)) : s.tok ≤ s1.tok ∧ s1.tok ≤ S.L.length := (methods_fine S _ s (Nat.le_refl _) hle).at e
theorem methods_eq (S : Src9) (s : PS) : methodsC S s = if seesB S wTo s = true then (methodC S s.step).then fun k s => (methodsC S s).then fun ks s => .ok (k :: ks, s) else .ok ([], s) := by
  conv => lhs; unfold methodsC; rw [methodsF]
  refine ite_same (fun hs => ?_) fun _ => rfl
  have l1 := left_step (S := S) (s := s) (s' := s.step) (sees_lt hs) (Nat.le_refl _)
  refine then_same (method_c (by omega)) fun k s1 e1 => ?_
  rw [method_c (by omega)] at e1
  have h1 := method_at e1
  rw [step_tok] at h1
  have l2 := left_step (S := S) (s := s) (s' := s1) (sees_lt hs) (by omega)
  exact then_same (methods_c (by omega)) fun _ _ _ => rfl
def upC (S : Src9) (s : PS) : Got (List Nd) := if seesB S sColon s = true then (nameP S s.step).then fun y s => (nodeP 31 y 0 [] s).then fun k s => .ok ([k], s) else .ok ([], s)
def classC (S : Src9) (s : PS) : Got Nd :=
  (nameP S s).then fun x s => (upC S s).then fun up s => (wantP S sBegin s).then fun _ s => (slotsC S s).then fun ks s => (methodsC S s).then fun ms s => (wantP S sEnd s).then fun _ s => nodeP 2 x 0 (up ++ ks ++ ms) s
theorem up_at {S : Src9} {s : PS} {n : List Nd} {s1 : PS} (hle : s.tok ≤ S.L.length) (e : upC S s = .ok (n, s1)) : s.tok ≤ s1.tok ∧ s1.tok ≤ S.L.length := by
  unfold upC at e
  split at e
  · cases hn : nameP S s.step with
    | error e' => rw [hn] at e; cases e
    | ok y =>
      obtain ⟨x, s2⟩ := y
      rw [hn] at e
      have h1 := (name_fine S s.step).at hn
      rw [step_tok] at h1
      cases e
      rw [node_tok]
      omega
  · cases e; exact ⟨Nat.le_refl _, hle⟩
theorem class_c {S : Src9} {f : Nat} {s : PS} (h : 12 * S.left s + 1 ≤ f) : classF S f s = classC S s := by
  unfold classF classC
  refine then_same rfl fun x s1 e1 => then_same rfl fun up s2 e2 => then_same rfl fun u s3 e3 => ?_
  have h1 := (name_fine S s).at e1
  have h2 := up_at h1.2 e2
  have h3 := (want_fine S sBegin s2).at e3
  have l3 := left_less (S := S) (s := s) (s' := s3) (by omega)
  refine then_same (slots_c (by omega)) fun ks s4 e4 => ?_
  rw [slots_c (by omega)] at e4
  have h4 := slots_at h3.2 e4
  have l4 := left_less (S := S) (s := s) (s' := s4) (by omega)
  exact then_same (methods_c (by omega)) fun _ _ _ => rfl
theorem class_at {S : Src9} {s : PS} {n : Nd} {s1 : PS} (e : classC S s = .ok (n, s1)) : s.tok + 1 ≤ s1.tok ∧ s1.tok ≤ S.L.length := by
  rw [← class_c (Nat.le_refl _)] at e
  exact (class_fine (Nat.le_refl _)).at e
theorem classes_calm (S : Src9) : ∀ (f : Nat) (s : PS), 12 * S.left s + 1 ≤ f → classesF S (f + 1) s = classesF S f s
  | 0, _, h => by omega
  | f + 1, s, h => by
    conv => lhs; rw [classesF]
    conv => rhs; rw [classesF]
    refine ite_same (fun hs => ?_) fun _ => rfl
    have l1 := left_step (S := S) (s := s) (s' := s.step) (sees_lt hs) (Nat.le_refl _)
    refine then_same (by rw [class_c (by omega), class_c (by omega)]) fun k s1 e1 => ?_
    rw [class_c (by omega)] at e1
    have h1 := class_at e1
    rw [step_tok] at h1
    have l2 := left_step (S := S) (s := s) (s' := s1) (sees_lt hs) (by omega)
    exact then_same (classes_calm S f s1 (by omega)) fun _ _ _ => rfl
def classesC (S : Src9) (s : PS) : Got (List Nd) := classesF S (12 * S.left s + 1) s
theorem classes_c {S : Src9} {s : PS} {f : Nat} (h : 12 * S.left s + 1 ≤ f) : classesF S f s = classesC S s := calm_to (X := fun f => classesF S f s) (fun f hf => classes_calm S f s hf) f h
theorem classes_at {S : Src9} {s : PS} {n : List Nd} {s1 : PS} (hle : s.tok ≤ S.L.length) (e : classesC S s = .ok (n, s1)) : s.tok ≤ s1.tok ∧ s1.tok ≤ S.L.length := (classes_fine S _ s (Nat.le_refl _) hle).at e
theorem classes_eq (S : Src9) (s : PS) : classesC S s = if seesB S wClass s = true then (classC S s.step).then fun k s => (classesC S s).then fun ks s => .ok (k :: ks, s) else .ok ([], s) := by
  conv => lhs; unfold classesC; rw [classesF]
  refine ite_same (fun hs => ?_) fun _ => rfl
  have l1 := left_step (S := S) (s := s) (s' := s.step) (sees_lt hs) (Nat.le_refl _)
  refine then_same (class_c (by omega)) fun k s1 e1 => ?_
  rw [class_c (by omega)] at e1
  have h1 := class_at e1
  rw [step_tok] at h1
  have l2 := left_step (S := S) (s := s) (s' := s1) (sees_lt hs) (by omega)
  exact then_same (classes_c (by omega)) fun _ _ _ => rfl
def progC (S : Src9) (s : PS) : Got Nd := (classesC S s).then fun ks s => (wantP S wMain s).then fun _ s => (blockC S s).then fun b s => nodeP 1 [] 0 (ks ++ [b]) s
theorem prog_c (S : Src9) : progF S (fuel9 S) ⟨0, 0, 0⟩ = progC S ⟨0, 0, 0⟩ := by
  have l0 : S.left ⟨0, 0, 0⟩ = S.L.length := rfl
  unfold progF progC
  refine then_same (classes_c (by unfold fuel9; omega)) fun ks s1 e1 => then_same rfl fun u s2 e2 => ?_
  have l2 := left_less (S := S) (s := ⟨0, 0, 0⟩) (s' := s2) (Nat.zero_le _)
  exact then_same (block_c (by unfold fuel9; omega)) fun _ _ _ => rfl
end Go.Proofs.YtkppdndbfedijadGreatDoor

/- Chapter 9, plain: there are no more nodes than tokens. -/
namespace Go.Proofs.YtkppdndbfedijadGreatDoor

/-- By how many the nodes exceed the tokens that were read. -/
def PS.ex (s : PS) : Int := s.many - (s.tok : Int)
theorem step_ex (s : PS) : s.step.ex = s.ex - 1 := by
  have e1 : s.step.many = s.many := rfl
  have e2 : s.step.tok = s.tok + 1 := rfl
  unfold PS.ex
  rw [e1, e2]
  omega
theorem node_ex (s : PS) : s.node.ex = s.ex + 1 := by
  have e1 : s.node.many = s.many + 1 := rfl
  have e2 : s.node.tok = s.tok := rfl
  unfold PS.ex
  rw [e1, e2]
  omega
def Thin {α : Type} (g : Got α) (c : Int) : Prop := ∀ a s, g = .ok (a, s) → s.ex ≤ c
theorem thin_ok {α : Type} {a : α} {s : PS} {c : Int} (h : s.ex ≤ c) : Thin (.ok (a, s) : Got α) c := fun b s' e => (by cases e; exact h)
theorem thin_err {α : Type} {e : Int × Int} {c : Int} : Thin (.error e : Got α) c := fun b s' e => (by cases e)
theorem thin_then {α β : Type} {g : Got α} {f : α → PS → Got β} {c c' : Int} (h : Thin g c) (hf : ∀ a s, s.ex ≤ c → Thin (f a s) c') : Thin (g.then f) c' := by
  unfold Got.then
  cases g with
  | error e => exact thin_err
  | ok p =>
    obtain ⟨a, s⟩ := p
    exact hf a s (h a s rfl)
theorem thin_mono {α : Type} {g : Got α} {c c' : Int} (h : Thin g c) (hl : c ≤ c') : Thin g c' := fun a s e => Int.le_trans (h a s e) hl
theorem want_thin (S : Src9) (x : List Int) (s : PS) : Thin (wantP S x s) (s.ex - 1) := by
  unfold wantP
  split
  · split
    · split
      · exact thin_err
      · exact thin_ok (by unfold PS.ex; dsimp only; omega)
    · split
      · exact thin_ok (by unfold PS.ex; dsimp only; omega)
      · exact thin_ok (by rw [step_ex]; omega)
  · exact thin_err
theorem name_thin (S : Src9) (s : PS) : Thin (nameP S s) (s.ex - 1) := by
  unfold nameP
  split
  · exact thin_ok (by rw [step_ex]; omega)
  · exact thin_err
theorem node_thin {kind : Int} {x : List Int} {num : Int} {ks : List Nd} {s : PS} {c : Int} (h : s.ex + 1 ≤ c) : Thin (nodeP kind x num ks s) c := thin_ok (by rw [node_ex]; exact h)
structure Thin1 (S : Src9) (f : Nat) : Prop where
  expr : ∀ s, Thin (exprF S f s) s.ex
  sum : ∀ s, Thin (sumF S f s) s.ex
  sumL : ∀ n s, Thin (sumL S f n s) s.ex
  term : ∀ s, Thin (termF S f s) s.ex
  termL : ∀ n s, Thin (termL S f n s) s.ex
  unary : ∀ s, Thin (unaryF S f s) s.ex
  call : ∀ s, Thin (callF S f s) s.ex
  callL : ∀ n s, Thin (callL S f n s) s.ex
  args : ∀ s, Thin (argsF S f s) s.ex
  prim : ∀ s, Thin (primF S f s) s.ex
theorem thin1 (S : Src9) : ∀ f, Thin1 S f
  | 0 => ⟨fun _ => thin_err, fun _ => thin_err, fun _ _ => thin_err, fun _ => thin_err, fun _ _ => thin_err, fun _ => thin_err, fun _ => thin_err, fun _ _ => thin_err, fun _ => thin_err, fun _ => thin_err⟩
  | f + 1 => by
    have I := thin1 S f
    constructor
    · intro s
      rw [exprF]
      refine thin_then (I.sum s) fun n s1 h1 => ?_
      split
      · exact thin_then (I.sum s1.step) fun k s2 h2 => node_thin (by rw [step_ex] at h2; omega)
      · split
        · exact thin_then (I.sum s1.step) fun k s2 h2 => node_thin (by rw [step_ex] at h2; omega)
        · exact thin_ok h1
    · intro s
      rw [sumF]
      exact thin_then (I.term s) fun n s1 h1 => thin_mono (I.sumL n s1) h1
    · intro n s
      rw [sumL]
      split
      · refine thin_then (I.term s.step) fun k s1 h1 => ?_
        rw [step_ex] at h1
        show Thin (sumL S f _ s1.node) _
        exact thin_mono (I.sumL _ s1.node) (by rw [node_ex]; omega)
      · split
        · refine thin_then (I.term s.step) fun k s1 h1 => ?_
          rw [step_ex] at h1
          show Thin (sumL S f _ s1.node) _
          exact thin_mono (I.sumL _ s1.node) (by rw [node_ex]; omega)
        · exact thin_ok (Int.le_refl _)
    · intro s
      rw [termF]
      exact thin_then (I.unary s) fun n s1 h1 => thin_mono (I.termL n s1) h1
    · intro n s
      rw [termL]
      split
      · refine thin_then (I.unary s.step) fun k s1 h1 => ?_
        rw [step_ex] at h1
        show Thin (termL S f _ s1.node) _
        exact thin_mono (I.termL _ s1.node) (by rw [node_ex]; omega)
      · exact thin_ok (Int.le_refl _)
    · intro s
      rw [unaryF]
      split
      · exact thin_then (I.unary s.step) fun k s1 h1 => node_thin (by rw [step_ex] at h1; omega)
      · split
        · exact thin_then (I.unary s.step) fun k s1 h1 => node_thin (by rw [step_ex] at h1; omega)
        · exact I.call s
    · intro s
      rw [callF]
      exact thin_then (I.prim s) fun n s1 h1 => thin_mono (I.callL n s1) h1
    · intro n s
      rw [callL]
      split
      · refine thin_then (name_thin S s.step) fun x s1 h1 => thin_then (want_thin S sOpen s1) fun _ s2 h2 => ?_
        rw [step_ex] at h1
        refine thin_then (c := s2.ex) ?_ fun ks s3 h3 => ?_
        · split
          · exact thin_ok (Int.le_refl _)
          · exact I.args s2
        · refine thin_then (want_thin S sShut s3) fun _ s4 h4 => ?_
          show Thin (callL S f _ s4.node) _
          exact thin_mono (I.callL _ s4.node) (by rw [node_ex]; omega)
      · exact thin_ok (Int.le_refl _)
    · intro s
      rw [argsF]
      refine thin_then (I.expr s) fun k s1 h1 => ?_
      split
      · exact thin_then (I.args s1.step) fun ks s2 h2 => thin_ok (by rw [step_ex] at h2; omega)
      · exact thin_ok h1
    · intro s
      rw [primF]
      split
      · exact node_thin (by rw [step_ex]; omega)
      · split
        · exact thin_then (name_thin S s) fun x s1 h1 => node_thin (by omega)
        · split
          · exact node_thin (by rw [step_ex]; omega)
          · split
            · exact node_thin (by rw [step_ex]; omega)
            · split
              · exact node_thin (by rw [step_ex]; omega)
              · split
                · exact thin_then (name_thin S s.step) fun x s1 h1 => node_thin (by rw [step_ex] at h1; omega)
                · exact thin_then (want_thin S sOpen s) fun _ s1 h1 => thin_then (I.expr s1) fun n s2 h2 => thin_then (want_thin S sShut s2) fun _ s3 h3 => thin_ok (by omega)
theorem with_thin (S : Src9) (f : Nat) (kind : Int) (s : PS) : Thin (withF S f kind s) (s.ex - 2) :=
  thin_then (name_thin S s) fun _ s1 _ => thin_then (want_thin S sSet s1) fun _ s2 _ => thin_then ((thin1 S f).expr s2) fun _ s3 _ => thin_then (want_thin S sSemi s3) fun _ s4 _ => node_thin (by omega)
theorem cond_thin (S : Src9) (f : Nat) (s : PS) : Thin (condF S f s) (s.ex - 2) :=
  thin_then (want_thin S sOpen s) fun _ s1 _ => thin_then ((thin1 S f).expr s1) fun _ s2 _ => thin_then (want_thin S sShut s2) fun _ s3 _ => thin_ok (by omega)
theorem one_thin (S : Src9) (f : Nat) (kind : Int) (s : PS) : Thin (oneF S f kind s) (s.ex - 2) :=
  thin_then (want_thin S sOpen s) fun _ s1 _ => thin_then ((thin1 S f).expr s1) fun _ s2 _ => thin_then (want_thin S sShut s2) fun _ s3 _ => thin_then (want_thin S sSemi s3) fun _ s4 _ => node_thin (by omega)
theorem two_thin (S : Src9) (f : Nat) (kind : Int) (s : PS) : Thin (twoF S f kind s) (s.ex - 2) :=
  thin_then (want_thin S sOpen s) fun _ s1 _ => thin_then ((thin1 S f).expr s1) fun _ s2 _ => thin_then (want_thin S sComma s2) fun _ s3 _ => thin_then ((thin1 S f).expr s3) fun _ s4 _ => thin_then (want_thin S sShut s4) fun _ s5 _ => thin_then (want_thin S sSemi s5) fun _ s6 _ => node_thin (by omega)
structure Thin2 (S : Src9) (f : Nat) : Prop where
  block : ∀ s, Thin (blockF S f s) (s.ex - 1)
  stmts : ∀ s, Thin (stmtsF S f s) s.ex
  stmt : ∀ s, Thin (stmtF S f s) s.ex
theorem thin2 (S : Src9) : ∀ f, Thin2 S f
  | 0 => ⟨fun _ => thin_err, fun _ => thin_err, fun _ => thin_err⟩
  | f + 1 => by
    have I := thin2 S f
    constructor
    · intro s
      rw [blockF]
      exact thin_then (want_thin S sBegin s) fun _ s1 h1 => thin_then (I.stmts s1) fun ks s2 h2 => thin_then (want_thin S sEnd s2) fun _ s3 h3 => node_thin (by omega)
    · intro s
      rw [stmtsF]
      split
      · exact thin_ok (Int.le_refl _)
      · exact thin_then (I.stmt s) fun k s1 h1 => thin_then (I.stmts s1) fun ks s2 h2 => thin_ok (by omega)
    · intro s
      rw [stmtF]
      have hst := step_ex s
      split
      · exact thin_mono (with_thin S f 7 s.step) (by omega)
      · split
        · refine thin_then (cond_thin S f s.step) fun k s1 h1 => thin_then (I.block s1) fun b s2 h2 => ?_
          split
          · exact thin_then (I.block s2.step) fun c s3 h3 => node_thin (by rw [step_ex] at h3; omega)
          · exact node_thin (by omega)
        · split
          · exact thin_then (cond_thin S f s.step) fun k s1 h1 => thin_then (I.block s1) fun b s2 h2 => node_thin (by omega)
          · split
            · exact thin_then ((thin1 S f).expr s.step) fun k s1 h1 => thin_then (want_thin S sSemi s1) fun _ s2 h2 => node_thin (by omega)
            · split
              · exact thin_mono (one_thin S f 12 s.step) (by omega)
              · split
                · exact thin_then (I.block s.step) fun b s1 h1 => node_thin (by omega)
                · split
                  · exact thin_mono (one_thin S f 14 s.step) (by omega)
                  · split
                    · exact thin_mono (one_thin S f 15 s.step) (by omega)
                    · split
                      · exact thin_mono (two_thin S f 16 s.step) (by omega)
                      · split
                        · exact thin_mono (with_thin S f 8 s) (by omega)
                        · exact thin_then ((thin1 S f).expr s) fun k s1 h1 => thin_then (want_thin S sSemi s1) fun _ s2 h2 => node_thin (by omega)
theorem argns_thin (S : Src9) : ∀ (f : Nat) (s : PS), Thin (argnsF S f s) s.ex
  | 0, _ => thin_err
  | f + 1, s => by
    rw [argnsF]
    refine thin_then (name_thin S s) fun x s1 h1 => ?_
    show Thin (if seesB S sComma s1.node = true then _ else _) _
    have e := node_ex s1
    split
    · exact thin_then (argns_thin S f s1.node.step) fun ks s2 h2 => thin_ok (by rw [step_ex] at h2; omega)
    · exact thin_ok (by omega)
theorem method_thin (S : Src9) (f : Nat) (s : PS) : Thin (methodF S f s) s.ex := by
  unfold methodF
  refine thin_then (name_thin S s) fun x s1 h1 => thin_then (want_thin S sOpen s1) fun _ s2 h2 => thin_then (c := s2.ex) ?_ fun ks s3 h3 => thin_then (want_thin S sShut s3) fun _ s4 h4 => thin_then ((thin2 S f).block s4) fun b s5 h5 => node_thin (by omega)
  split
  · exact thin_ok (Int.le_refl _)
  · exact argns_thin S f s2
theorem slots_thin (S : Src9) : ∀ (f : Nat) (s : PS), Thin (slotsF S f s) s.ex
  | 0, _ => thin_err
  | f + 1, s => by
    rw [slotsF]
    split
    · refine thin_then (name_thin S s.step) fun x s1 h1 => thin_then (want_thin S sSemi s1) fun _ s2 h2 => ?_
      rw [step_ex] at h1
      show Thin ((slotsF S f s2.node).then _) _
      exact thin_then (slots_thin S f s2.node) fun ks s3 h3 => thin_ok (by rw [node_ex] at h3; omega)
    · exact thin_ok (Int.le_refl _)
theorem methods_thin (S : Src9) : ∀ (f : Nat) (s : PS), Thin (methodsF S f s) s.ex
  | 0, _ => thin_err
  | f + 1, s => by
    rw [methodsF]
    split
    · exact thin_then (method_thin S f s.step) fun k s1 h1 => thin_then (methods_thin S f s1) fun ks s2 h2 => thin_ok (by rw [step_ex] at h1; omega)
    · exact thin_ok (Int.le_refl _)
theorem class_thin (S : Src9) (f : Nat) (s : PS) : Thin (classF S f s) s.ex := by
  unfold classF
  refine thin_then (name_thin S s) fun x s1 h1 => thin_then (c := s1.ex) ?_ fun up s2 h2 => thin_then (want_thin S sBegin s2) fun _ s3 h3 => thin_then (slots_thin S f s3) fun ks s4 h4 => thin_then (methods_thin S f s4) fun ms s5 h5 => thin_then (want_thin S sEnd s5) fun _ s6 h6 => node_thin (by omega)
  split
  · refine thin_then (name_thin S s1.step) fun y s2 h2 => ?_
    rw [step_ex] at h2
    exact thin_ok (by rw [node_ex]; omega)
  · exact thin_ok (Int.le_refl _)
theorem classes_thin (S : Src9) : ∀ (f : Nat) (s : PS), Thin (classesF S f s) s.ex
  | 0, _ => thin_err
  | f + 1, s => by
    rw [classesF]
    split
    · exact thin_then (class_thin S f s.step) fun k s1 h1 => thin_then (classes_thin S f s1) fun ks s2 h2 => thin_ok (by rw [step_ex] at h1; omega)
    · exact thin_ok (Int.le_refl _)
theorem prog_thin (S : Src9) (f : Nat) (s : PS) : Thin (progF S f s) s.ex := by
  unfold progF
  exact thin_then (classes_thin S f s) fun ks s1 h1 => thin_then (want_thin S wMain s1) fun _ s2 h2 => thin_then ((thin2 S f).block s2) fun b s3 h3 => node_thin (by omega)
/-- A program has no more nodes than tokens. -/
theorem prog_many {S : Src9} {n : Nd} {s : PS} (h : progC S ⟨0, 0, 0⟩ = .ok (n, s)) : s.many ≤ (S.L.length : Int) := by
  rw [← prog_c] at h
  have h1 := prog_thin S _ _ n s h
  have h2 := ((prog_fine S).at h).2
  have e : PS.ex ⟨0, 0, 0⟩ = 0 := rfl
  rw [e] at h1
  unfold PS.ex at h1
  omega
end Go.Proofs.YtkppdndbfedijadGreatDoor

/- Chapter 8, plain: what the loops of a scanner want. No Go in sight. -/
namespace Go.Proofs.YtkppdndbfedijadGreatDoor

/-- Words, one by one. -/
theorem word_found {s : List Int} {j : Nat} (hj : j < 18) (h : wordsL.getD j [] = s) : wordB s = true := by
  unfold wordB
  rw [List.contains_iff_mem, ← h, List.getD_eq_getElem?_getD, List.getElem?_eq_getElem (show j < wordsL.length from hj)]
  exact List.getElem_mem _
theorem word_none {s : List Int} (h : ∀ j, j < 18 → wordsL.getD j [] ≠ s) : wordB s = false := by
  cases hw : wordB s with
  | false => rfl
  | true =>
    unfold wordB at hw
    obtain ⟨j, hj, e⟩ := List.mem_iff_getElem.1 (List.contains_iff_mem.1 hw)
    have hj' : j < 18 := hj
    refine absurd ?_ (h j hj')
    rw [List.getD_eq_getElem?_getD, List.getElem?_eq_getElem hj]
    exact e
/-- Signs of one byte, one by one. -/
theorem sign_found {b : Int} {j : Nat} (hj : j < 14) (h : signsL.getD j 0 = b) : signsL.contains b = true := by
  rw [List.contains_iff_mem, ← h, List.getD_eq_getElem?_getD, List.getElem?_eq_getElem (show j < signsL.length from hj)]
  exact List.getElem_mem _
theorem sign_none {b : Int} (h : ∀ j, j < 14 → signsL.getD j 0 ≠ b) : signsL.contains b = false := by
  cases hw : signsL.contains b with
  | false => rfl
  | true =>
    obtain ⟨j, hj, e⟩ := List.mem_iff_getElem.1 (List.contains_iff_mem.1 hw)
    have hj' : j < 14 := hj
    refine absurd ?_ (h j hj')
    rw [List.getD_eq_getElem?_getD, List.getElem?_eq_getElem hj]
    exact e
/-- The sign at a place is the one that the rest begins with. -/
theorem sign_tail {T : List Int} {i : Nat} (h : i < T.length) : signLen (piece T i T.length) 0 = signLen T i := by
  have hl := piece_length (T := T) (i := i) (Nat.le_refl T.length)
  have e0 : wd (piece T i T.length) 0 = wd T i := by rw [piece_at (by omega), Nat.add_zero]
  unfold signLen
  rw [e0, hl]
  by_cases h1 : i + 1 < T.length
  · have e1 : wd (piece T i T.length) (0 + 1) = wd T (i + 1) := by rw [Nat.zero_add, piece_at (by omega)]
    rw [e1]
    by_cases h2 : wd T i = 61 ∧ wd T (i + 1) = 61
    · rw [if_pos ⟨by omega, h2⟩, if_pos ⟨h1, h2⟩]
    · rw [if_neg (c := 0 + 1 < T.length - i ∧ wd T i = 61 ∧ wd T (i + 1) = 61) fun h => h2 h.2, if_neg (c := i + 1 < T.length ∧ wd T i = 61 ∧ wd T (i + 1) = 61) fun h => h2 h.2]
  · rw [if_neg (c := 0 + 1 < T.length - i ∧ wd T i = 61 ∧ wd (piece T i T.length) (0 + 1) = 61) (fun h => by omega), if_neg (c := i + 1 < T.length ∧ wd T i = 61 ∧ wd T (i + 1) = 61) (fun h => h1 h.1)]
theorem sign_le (T : List Int) (i : Nat) : signLen T i ≤ 2 := by
  unfold signLen
  split
  · omega
  · split <;> omega
theorem sign_in {T : List Int} {i : Nat} (h : i < T.length) : i + signLen T i ≤ T.length := by
  unfold signLen
  split
  · omega
  · split <;> omega
/-- A place of a loop: all before it is so. -/
def Upto (p : Int → Bool) (T : List Int) (i k : Nat) : Prop := i ≤ k ∧ k ≤ T.length ∧ ∀ j, i ≤ j → j < k → p (wd T j) = true
theorem upto_first {p : Int → Bool} {T : List Int} {i : Nat} (h : i ≤ T.length) : Upto p T i i := ⟨Nat.le_refl _, h, fun j h1 h2 => by omega⟩
theorem Upto.step {p : Int → Bool} {T : List Int} {i k : Nat} (h : Upto p T i k) (hk : k < T.length) (hp : p (wd T k) = true) : Upto p T i (k + 1) :=
  ⟨by have := h.1; omega, hk, fun j h1 h2 => by
    by_cases hj : j = k
    · rw [hj]; exact hp
    · exact h.2.2 j h1 (by omega)⟩
theorem Upto.stop {p : Int → Bool} {T : List Int} {i k : Nat} (h : Upto p T i k) (he : ¬ k < T.length ∨ p (wd T k) = false) : stopP p T i = k := by
  refine stop_eq h.2.1 h.1 h.2.2 ?_
  rcases he with he | he
  · exact Or.inl (by have := h.2.1; omega)
  · exact Or.inr he
/-- A token more than the text has bytes there never is. -/
theorem scanN_few {T : List Int} : ∀ (m i : Nat) (l : List Tok), scanN T m i = .ok l → l.length ≤ T.length - i
  | 0, i, l, h => by unfold scanN at h; cases h; simp
  | m + 1, i, l, h => by
    unfold scanN at h
    split at h
    · rename_i hi
      have hf := come_fits hi
      cases hc : comeP T i with
      | skip k =>
        rw [hc] at h hf
        have := scanN_few m k l h
        have := hf.1
        omega
      | tok t k =>
        rw [hc] at h hf
        simp only at h
        cases hs : scanN T m k with
        | error e => rw [hs] at h; cases h
        | ok l' =>
          rw [hs] at h
          cases h
          have := scanN_few m k l' hs
          have := hf.1
          have := hf.2
          rw [List.length_cons]
          omega
      | bad c a => rw [hc] at h; cases h
    · cases h
      simp
theorem scan_few {T : List Int} {l : List Tok} (h : scanP T = .ok l) : l.length ≤ T.length ∧ T.length ≤ 4000 := by
  unfold scanP at h
  split at h
  · cases h
  · have := scanN_few _ _ _ h
    exact ⟨by omega, by omega⟩
end Go.Proofs.YtkppdndbfedijadGreatDoor
