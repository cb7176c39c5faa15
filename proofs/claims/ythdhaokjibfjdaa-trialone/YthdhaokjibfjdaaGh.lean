/- Several texts in one. -/
import Derived.Laws.BitsLemmas
import Derived.WalkKit
/- What chapter 1 says of words, as plain functions on numbers, and what is true of them. No Go in sight. -/
namespace Go.Proofs.Ythdhaokjibfjdaa

/-- o & 1 of an int is what is left of o by 2. -/
theorem and_one_i64 (o : Int) : bits BinOp.and IntKind.i64 o 1 = o % 2 := by
  have e : ((BitVec.ofInt 64 o &&& 1#64).toNat : Int) = o % 2 := by
    rw [BitVec.toNat_and, BitVec.toNat_ofInt]
    show (((o % ((2 ^ 64 : Nat) : Int)).toNat &&& 1 : Nat) : Int) = o % 2
    rw [Nat.and_one_is_mod]
    omega
  have f : bits BinOp.and IntKind.i64 o 1 = IntKind.i64.wrap ((BitVec.ofInt 64 o &&& 1#64).toNat : Int) := rfl
  rw [f, e, IntKind.wrap_i64]
  omega

/-- The reference o is small. -/
def smallB (o : Int) : Bool := decide (o % 2 = 1 ∧ -2147483647 ≤ o ∧ o ≤ 2147483647)
/-- The kind of the reference o. -/
def kindOf (o : Int) : Int := if o = 0 then 2 else if smallB o = true then 1 else if o % 2 = 0 ∧ 4 ≤ o ∧ o ≤ 3998 then 3 else 0
/-- The number that o is of. -/
def valOf (o : Int) : Int := if smallB o = true then (o - 1) / 2 else 0
/-- The number n has a reference. -/
def fitB (n : Int) : Bool := decide (-1073741824 ≤ n ∧ n ≤ 1073741823)
/-- The reference of n. -/
def refOf (n : Int) : Int := if fitB n = true then 2 * n + 1 else 0
/-- What is reckoned of a and b by f has a reference. -/
def canB (f : Int → Int → Int) (a b : Int) : Bool := smallB a && smallB b && fitB (f (valOf a) (valOf b))
/-- The reference of what is reckoned of a and b by f. -/
def reck (f : Int → Int → Int) (a b : Int) : Int := if canB f a b = true then 2 * f (valOf a) (valOf b) + 1 else 0

theorem small_mk {o : Int} (h : o % 2 = 1) (h1 : -2147483647 ≤ o) (h2 : o ≤ 2147483647) : smallB o = true := by
  unfold smallB; exact decide_eq_true ⟨h, h1, h2⟩
theorem small_no {o : Int} (h : ¬ (o % 2 = 1 ∧ -2147483647 ≤ o ∧ o ≤ 2147483647)) : smallB o = false := by
  unfold smallB; exact decide_eq_false h
theorem small_out {o : Int} (h : smallB o = true) : o % 2 = 1 ∧ -2147483647 ≤ o ∧ o ≤ 2147483647 := by
  unfold smallB at h; exact of_decide_eq_true h
theorem small_not {o : Int} (h : smallB o = false) : ¬ (o % 2 = 1 ∧ -2147483647 ≤ o ∧ o ≤ 2147483647) := by
  unfold smallB at h; exact of_decide_eq_false h
theorem fit_mk {n : Int} (h1 : -1073741824 ≤ n) (h2 : n ≤ 1073741823) : fitB n = true := by
  unfold fitB; exact decide_eq_true ⟨h1, h2⟩
theorem fit_no {n : Int} (h : ¬ (-1073741824 ≤ n ∧ n ≤ 1073741823)) : fitB n = false := by
  unfold fitB; exact decide_eq_false h
theorem fit_out {n : Int} (h : fitB n = true) : -1073741824 ≤ n ∧ n ≤ 1073741823 := by
  unfold fitB at h; exact of_decide_eq_true h
theorem fit_not {n : Int} (h : fitB n = false) : ¬ (-1073741824 ≤ n ∧ n ≤ 1073741823) := by
  unfold fitB at h; exact of_decide_eq_false h

theorem kind_nil : kindOf 0 = 2 := rfl
theorem kind_small {o : Int} (h : smallB o = true) : kindOf o = 1 := by
  have := small_out h
  unfold kindOf
  rw [if_neg (by omega), if_pos h]
theorem kind_thing {o : Int} (h : o % 2 = 0) (h1 : 4 ≤ o) (h2 : o ≤ 3998) : kindOf o = 3 := by
  unfold kindOf
  rw [if_neg (by omega), if_neg (by rw [small_no (by omega)]; decide), if_pos ⟨h, h1, h2⟩]
theorem kind_none {o : Int} (h0 : o ≠ 0) (h : smallB o = false) (h1 : ¬ (o % 2 = 0 ∧ 4 ≤ o ∧ o ≤ 3998)) : kindOf o = 0 := by
  unfold kindOf
  rw [if_neg h0, if_neg (by rw [h]; decide), if_neg h1]
theorem kind_not {o : Int} (h : smallB o = false) : kindOf o ≠ 1 := by
  unfold kindOf
  rw [if_neg (c := smallB o = true) (by rw [h]; decide)]
  split
  · decide
  · split <;> decide

theorem val_small {o : Int} (h : smallB o = true) : valOf o = (o - 1) / 2 := by unfold valOf; rw [if_pos h]
theorem val_not {o : Int} (h : smallB o = false) : valOf o = 0 := by unfold valOf; rw [if_neg (by rw [h]; decide)]
theorem val_bd (o : Int) : -1073741824 ≤ valOf o ∧ valOf o ≤ 1073741823 := by
  cases h : smallB o
  · rw [val_not h]; omega
  · have := small_out h
    rw [val_small h]; omega
theorem ref_fit {n : Int} (h : fitB n = true) : refOf n = 2 * n + 1 := by unfold refOf; rw [if_pos h]
theorem ref_not {n : Int} (h : fitB n = false) : refOf n = 0 := by unfold refOf; rw [if_neg (by rw [h]; decide)]
/-- What is small is the reference of its number. -/
theorem small_ref {n : Int} (h : fitB n = true) : smallB (refOf n) = true := by
  have := fit_out h
  rw [ref_fit h]
  exact small_mk (by omega) (by omega) (by omega)
/-- .. which is its own. -/
theorem val_ref {n : Int} (h : fitB n = true) : valOf (refOf n) = n := by
  rw [val_small (small_ref h), ref_fit h]; omega
theorem reck_yes {f : Int → Int → Int} {a b : Int} (h : canB f a b = true) : reck f a b = 2 * f (valOf a) (valOf b) + 1 := by unfold reck; rw [if_pos h]
theorem reck_no {f : Int → Int → Int} {a b : Int} (h : canB f a b = false) : reck f a b = 0 := by unfold reck; rw [if_neg (by rw [h]; decide)]
theorem can_left {f : Int → Int → Int} {a b : Int} (h : smallB a = false) : canB f a b = false := by unfold canB; rw [h]; rfl
theorem can_right {f : Int → Int → Int} {a b : Int} (h : smallB b = false) : canB f a b = false := by unfold canB; rw [h, Bool.and_false]; rfl
theorem can_both {f : Int → Int → Int} {a b : Int} (h : smallB a = true) (g : smallB b = true) : canB f a b = fitB (f (valOf a) (valOf b)) := by unfold canB; rw [h, g]; rfl
theorem mul_bd (a b : Int) : -1152921504606846976 ≤ valOf a * valOf b ∧ valOf a * valOf b ≤ 1152921504606846976 := by
  have ha := val_bd a
  have hb := val_bd b
  have h1 : (valOf a).natAbs ≤ 1073741824 := by omega
  have h2 : (valOf b).natAbs ≤ 1073741824 := by omega
  have h3 : (valOf a * valOf b).natAbs ≤ 1152921504606846976 := by
    rw [Int.natAbs_mul]
    exact Nat.le_trans (Nat.mul_le_mul h1 h2) (by decide)
  omega
end Go.Proofs.Ythdhaokjibfjdaa

/- What chapter 2 says of heaps, as plain functions on lists of numbers, and what is true of them. No Go in sight. -/
namespace Go.Proofs.Ythdhaokjibfjdaa

/-- The word at k. -/
def wd (W : List Int) (k : Nat) : Int := W.getD k 0
/-- How many slots a thing at p has. -/
def slotsAt (W : List Int) (p : Nat) : Nat := (wd W (p + 2) / 4).toNat
/-- The form of a thing at p. -/
def formAt (W : List Int) (p : Nat) : Int := wd W (p + 2) % 4
/-- Where the next thing begins. -/
def nextAt (W : List Int) (p : Nat) : Nat := p + 3 + slotsAt W p
/-- A thing fits at p. -/
def fitsB (W : List Int) (p : Nat) : Bool :=
  decide (p + 3 ≤ W.length ∧ 0 ≤ wd W (p + 2) ∧ wd W (p + 2) % 4 ≤ 2 ∧ wd W (p + 2) / 4 ≤ 60 ∧ p + 3 + slotsAt W p ≤ W.length)
/-- Where things begin, from p on. -/
def places (W : List Int) (p : Nat) : List Nat := if p < W.length then p :: places W (nextAt W p) else []
  termination_by W.length - p
  decreasing_by simp [nextAt]; omega
/-- The first place, from p on, where a thing does not fit. -/
def unfit (W : List Int) (p : Nat) : Option Nat := if p < W.length then (if fitsB W p = true then unfit W (nextAt W p) else some p) else none
  termination_by W.length - p
  decreasing_by simp [nextAt]; omega

theorem fits_out {W : List Int} {p : Nat} (h : fitsB W p = true) :
    p + 3 ≤ W.length ∧ 0 ≤ wd W (p + 2) ∧ wd W (p + 2) % 4 ≤ 2 ∧ wd W (p + 2) / 4 ≤ 60 ∧ p + 3 + slotsAt W p ≤ W.length := by
  unfold fitsB at h; exact of_decide_eq_true h
theorem fits_not {W : List Int} {p : Nat} (h : fitsB W p = false) :
    ¬ (p + 3 ≤ W.length ∧ 0 ≤ wd W (p + 2) ∧ wd W (p + 2) % 4 ≤ 2 ∧ wd W (p + 2) / 4 ≤ 60 ∧ p + 3 + slotsAt W p ≤ W.length) := by
  unfold fitsB at h; exact of_decide_eq_false h
theorem fits_mk {W : List Int} {p : Nat}
    (h : p + 3 ≤ W.length ∧ 0 ≤ wd W (p + 2) ∧ wd W (p + 2) % 4 ≤ 2 ∧ wd W (p + 2) / 4 ≤ 60 ∧ p + 3 + slotsAt W p ≤ W.length) : fitsB W p = true := by
  unfold fitsB; exact decide_eq_true h
theorem fits_no {W : List Int} {p : Nat}
    (h : ¬ (p + 3 ≤ W.length ∧ 0 ≤ wd W (p + 2) ∧ wd W (p + 2) % 4 ≤ 2 ∧ wd W (p + 2) / 4 ≤ 60 ∧ p + 3 + slotsAt W p ≤ W.length)) : fitsB W p = false := by
  unfold fitsB; exact decide_eq_false h

theorem places_in {W : List Int} {p : Nat} (h : p < W.length) : places W p = p :: places W (nextAt W p) := by rw [places, if_pos h]
theorem places_end {W : List Int} {p : Nat} (h : ¬ p < W.length) : places W p = [] := by rw [places, if_neg h]
theorem unfit_in {W : List Int} {p : Nat} (h : p < W.length) (hf : fitsB W p = true) : unfit W p = unfit W (nextAt W p) := by rw [unfit, if_pos h, if_pos hf]
theorem unfit_no {W : List Int} {p : Nat} (h : p < W.length) (hf : fitsB W p = false) : unfit W p = some p := by rw [unfit, if_pos h, if_neg (by rw [hf]; decide)]
theorem unfit_end {W : List Int} {p : Nat} (h : ¬ p < W.length) : unfit W p = none := by rw [unfit, if_neg h]
theorem unfit_head {W : List Int} {p : Nat} (h : p < W.length) (hu : unfit W p = none) : fitsB W p = true ∧ unfit W (nextAt W p) = none := by
  cases hf : fitsB W p with
  | true => exact ⟨rfl, by rw [← unfit_in h hf]; exact hu⟩
  | false => rw [unfit_no h hf] at hu; cases hu

/-- Every place from p on is at least p, and lies within; a thing fits there, and at all that follow. -/
theorem places_fit {W : List Int} : ∀ (n p : Nat), W.length - p ≤ n → unfit W p = none → ∀ q ∈ places W p, p ≤ q ∧ q < W.length ∧ fitsB W q = true ∧ unfit W (nextAt W q) = none
  | 0, p, hn, _, q, hq => by rw [places_end (by omega)] at hq; cases hq
  | n + 1, p, hn, hu, q, hq => by
    by_cases h : p < W.length
    · obtain ⟨hf, hu'⟩ := unfit_head h hu
      rw [places_in h] at hq
      rcases List.mem_cons.1 hq with rfl | hq
      · exact ⟨Nat.le_refl _, h, hf, hu'⟩
      · have := places_fit n (nextAt W p) (by simp [nextAt]; omega) hu' q hq
        exact ⟨by have := this.1; simp [nextAt] at this; omega, this.2⟩
    · rw [places_end h] at hq; cases hq
theorem place_fit {W : List Int} {p q : Nat} (hu : unfit W p = none) (hq : q ∈ places W p) : p ≤ q ∧ q < W.length ∧ fitsB W q = true ∧ unfit W (nextAt W q) = none :=
  places_fit _ p (Nat.le_refl _) hu q hq
theorem places_ge {W : List Int} : ∀ (n p : Nat), W.length - p ≤ n → ∀ q ∈ places W p, p ≤ q ∧ q < W.length
  | 0, p, hn, q, hq => by rw [places_end (by omega)] at hq; cases hq
  | n + 1, p, hn, q, hq => by
    by_cases h : p < W.length
    · rw [places_in h] at hq
      rcases List.mem_cons.1 hq with rfl | hq
      · exact ⟨Nat.le_refl _, h⟩
      · have := places_ge n (nextAt W p) (by simp [nextAt]; omega) q hq
        simp [nextAt] at this; omega
    · rw [places_end h] at hq; cases hq
theorem place_ge {W : List Int} {p q : Nat} (hq : q ∈ places W p) : p ≤ q ∧ q < W.length := places_ge _ p (Nat.le_refl _) q hq

/-- There is a thing at q. -/
def beginB (W : List Int) (q : Nat) : Bool := (places W 2).contains q
/-- o is the reference of a thing. -/
def thingB (W : List Int) (o : Int) : Bool := kindOf o == 3 && beginB W (o / 2).toNat
/-- o is nil or the reference of a thing. -/
def nilB (W : List Int) (o : Int) : Bool := kindOf o == 2 || thingB W o
/-- what can stand in a slot of a form. -/
def standB (W : List Int) (form what : Int) : Bool := if form = 1 then decide (0 ≤ what ∧ what ≤ 255) else kindOf what == 1 || nilB W what
/-- The first slot from k to below e that holds what it can't. -/
def badSlot (W : List Int) (form : Int) (k : Nat) : Nat → Option Nat
  | 0 => none
  | n + 1 => if standB W form (wd W k) = true then badSlot W form (k + 1) n else some k
/-- The hash of the thing at p is none, or seen. -/
def twiceB (W : List Int) (seen : List Int) (p : Nat) : Bool := seen.contains (wd W (p + 1)) || decide (wd W (p + 1) < 1 ∨ wd W 1 ≤ wd W (p + 1))
/-- What is wrong first with classes, hashes and slots of the things at those places. -/
def faultOf (W : List Int) (seen : List Int) : List Nat → Int × Int
  | [] => (0, 0)
  | p :: r => if nilB W (wd W p) = true then
      (if twiceB W seen p = true then (5, (p : Int)) else
        match badSlot W (formAt W p) (p + 3) (slotsAt W p) with
        | some k => (3, (k : Int))
        | none => faultOf W (seen ++ [wd W (p + 1)]) r)
    else (3, (p : Int))
/-- What is wrong with how many words there are, or those ahead. -/
def frontOf (W : List Int) : Int × Int :=
  if W.length < 2 ∨ 2000 < W.length then (1, 0) else if wd W 0 = 0 then (if wd W 1 < 1 ∨ 10001 < wd W 1 then (2, 1) else (0, 0)) else (2, 0)
/-- What is wrong with W first. -/
def checkOf (W : List Int) : Int × Int :=
  if (frontOf W).1 = 0 then (match unfit W 2 with | some p => (2, (p : Int)) | none => faultOf W [] (places W 2)) else frontOf W

theorem front_size {W : List Int} (h : W.length < 2 ∨ 2000 < W.length) : frontOf W = (1, 0) := by unfold frontOf; rw [if_pos h]
theorem front_zero {W : List Int} (h : ¬ (W.length < 2 ∨ 2000 < W.length)) (h0 : wd W 0 ≠ 0) : frontOf W = (2, 0) := by unfold frontOf; rw [if_neg h, if_neg h0]
theorem front_hash {W : List Int} (h : ¬ (W.length < 2 ∨ 2000 < W.length)) (h0 : wd W 0 = 0) (h1 : wd W 1 < 1 ∨ 10001 < wd W 1) : frontOf W = (2, 1) := by
  unfold frontOf; rw [if_neg h, if_pos h0, if_pos h1]
theorem front_ok {W : List Int} (h : ¬ (W.length < 2 ∨ 2000 < W.length)) (h0 : wd W 0 = 0) (h1 : ¬ (wd W 1 < 1 ∨ 10001 < wd W 1)) : frontOf W = (0, 0) := by
  unfold frontOf; rw [if_neg h, if_pos h0, if_neg h1]
theorem front_out {W : List Int} (h : (frontOf W).1 = 0) : 2 ≤ W.length ∧ W.length ≤ 2000 ∧ wd W 0 = 0 ∧ 1 ≤ wd W 1 ∧ wd W 1 ≤ 10001 := by
  unfold frontOf at h
  by_cases h1 : W.length < 2 ∨ 2000 < W.length
  · rw [if_pos h1] at h; cases h
  · rw [if_neg h1] at h
    by_cases h0 : wd W 0 = 0
    · rw [if_pos h0] at h
      by_cases h2 : wd W 1 < 1 ∨ 10001 < wd W 1
      · rw [if_pos h2] at h; cases h
      · exact ⟨by omega, by omega, h0, by omega, by omega⟩
    · rw [if_neg h0] at h; cases h
theorem check_front {W : List Int} (h : (frontOf W).1 ≠ 0) : checkOf W = frontOf W := by unfold checkOf; rw [if_neg h]
theorem check_unfit {W : List Int} {p : Nat} (h : (frontOf W).1 = 0) (hu : unfit W 2 = some p) : checkOf W = (2, (p : Int)) := by unfold checkOf; rw [if_pos h, hu]
theorem check_things {W : List Int} (h : (frontOf W).1 = 0) (hu : unfit W 2 = none) : checkOf W = faultOf W [] (places W 2) := by unfold checkOf; rw [if_pos h, hu]
/-- A heap that may be. -/
theorem check_ok {W : List Int} (h : (checkOf W).1 = 0) : (frontOf W).1 = 0 ∧ unfit W 2 = none := by
  by_cases hf : (frontOf W).1 = 0
  · refine ⟨hf, ?_⟩
    cases hu : unfit W 2 with
    | none => rfl
    | some p => rw [check_unfit hf hu] at h; cases h
  · rw [check_front hf] at h; exact absurd h hf

/-- From a place ahead of q on: q is among those behind it. -/
theorem begin_next {W : List Int} {p q : Nat} (h : p < W.length) (hq : p ≠ q) : (places W p).contains q = (places W (nextAt W p)).contains q := by
  rw [places_in h, List.contains_cons]
  simp [Ne.symm hq]
theorem begin_here {W : List Int} {p : Nat} (h : p < W.length) : (places W p).contains p = true := by
  rw [places_in h, List.contains_cons]; simp
theorem begin_past {W : List Int} {p q : Nat} (hq : q < p) : (places W p).contains q = false := by
  rw [Bool.eq_false_iff]
  intro hc
  have := place_ge (List.contains_iff_mem.1 hc)
  omega
theorem begin_end {W : List Int} {p q : Nat} (h : ¬ p < W.length) : (places W p).contains q = false := by rw [places_end h]; rfl

theorem thing_out {W : List Int} {o : Int} (h : thingB W o = true) : kindOf o = 3 ∧ (o / 2).toNat ∈ places W 2 := by
  unfold thingB beginB at h
  simp only [Bool.and_eq_true, beq_iff_eq, List.contains_iff_mem] at h
  exact h

theorem fault_kind {W : List Int} {seen : List Int} {p : Nat} {r : List Nat} (h : nilB W (wd W p) = false) : faultOf W seen (p :: r) = (3, (p : Int)) := by
  unfold faultOf; rw [if_neg (by rw [h]; decide)]
theorem fault_twice {W : List Int} {seen : List Int} {p : Nat} {r : List Nat} (h : nilB W (wd W p) = true) (h2 : twiceB W seen p = true) : faultOf W seen (p :: r) = (5, (p : Int)) := by
  unfold faultOf; rw [if_pos h, if_pos h2]
theorem fault_slot {W : List Int} {seen : List Int} {p k : Nat} {r : List Nat} (h : nilB W (wd W p) = true) (h2 : twiceB W seen p = false) (h3 : badSlot W (formAt W p) (p + 3) (slotsAt W p) = some k) : faultOf W seen (p :: r) = (3, (k : Int)) := by
  unfold faultOf; rw [if_pos h, if_neg (by rw [h2]; decide), h3]
theorem fault_next {W : List Int} {seen : List Int} {p : Nat} {r : List Nat} (h : nilB W (wd W p) = true) (h2 : twiceB W seen p = false) (h3 : badSlot W (formAt W p) (p + 3) (slotsAt W p) = none) : faultOf W seen (p :: r) = faultOf W (seen ++ [wd W (p + 1)]) r := by
  conv => lhs; unfold faultOf
  rw [if_pos h, if_neg (by rw [h2]; decide), h3]

theorem bad_yes {W : List Int} {form : Int} {k n : Nat} (h : standB W form (wd W k) = true) : badSlot W form k (n + 1) = badSlot W form (k + 1) n := by
  conv => lhs; unfold badSlot
  rw [if_pos h]
theorem bad_no {W : List Int} {form : Int} {k n : Nat} (h : standB W form (wd W k) = false) : badSlot W form k (n + 1) = some k := by
  unfold badSlot; rw [if_neg (by rw [h]; decide)]

end Go.Proofs.Ythdhaokjibfjdaa

/- What becomes of a heap that may be when a slot changes or a thing is made: it may be still. Plain functions on lists, no Go in sight. -/
namespace Go.Proofs.Ythdhaokjibfjdaa

theorem places_sep {W : List Int} : ∀ (n a : Nat), W.length - a ≤ n → ∀ p ∈ places W a, ∀ q ∈ places W a, p < q → nextAt W p ≤ q
  | 0, a, hn, p, hp, _, _, _ => by rw [places_end (by omega)] at hp; cases hp
  | n + 1, a, hn, p, hp, q, hq, hlt => by
    by_cases h : a < W.length
    · rw [places_in h] at hp hq
      rcases List.mem_cons.1 hp with rfl | hp
      · rcases List.mem_cons.1 hq with rfl | hq
        · omega
        · exact (place_ge hq).1
      · rcases List.mem_cons.1 hq with rfl | hq
        · have := (place_ge hp).1; simp [nextAt] at this; omega
        · exact places_sep n (nextAt W a) (by simp [nextAt]; omega) p hp q hq hlt
    · rw [places_end h] at hp; cases hp
theorem place_sep {W : List Int} {a p q : Nat} (hp : p ∈ places W a) (hq : q ∈ places W a) (h : p < q) : nextAt W p ≤ q := places_sep _ a (Nat.le_refl _) p hp q hq h
/-- A slot's place is none of the places of a thing's head. -/
theorem slot_apart {W : List Int} {a p q k : Nat} (hp : p ∈ places W a) (hq : q ∈ places W a) (hk : k < slotsAt W p) : q + 2 < p + 3 + k ∨ p + 3 + k < q := by
  rcases Nat.lt_trichotomy p q with h | h | h
  · have := place_sep hp hq h; simp only [nextAt] at this; omega
  · omega
  · omega

theorem slots_same {W W' : List Int} {q : Nat} (h : wd W' (q + 2) = wd W (q + 2)) : slotsAt W' q = slotsAt W q := by unfold slotsAt; rw [h]
theorem next_same {W W' : List Int} {q : Nat} (h : wd W' (q + 2) = wd W (q + 2)) : nextAt W' q = nextAt W q := by unfold nextAt; rw [slots_same h]
theorem form_same {W W' : List Int} {q : Nat} (h : wd W' (q + 2) = wd W (q + 2)) : formAt W' q = formAt W q := by unfold formAt; rw [h]
theorem fits_same {W W' : List Int} {q : Nat} (h : wd W' (q + 2) = wd W (q + 2)) (hl : W.length ≤ W'.length) (hf : fitsB W q = true) : fitsB W' q = true := by
  obtain ⟨h1, h2, h3, h4, h5⟩ := fits_out hf
  refine fits_mk ⟨by omega, by rw [h]; exact h2, by rw [h]; exact h3, by rw [h]; exact h4, by rw [slots_same h]; omega⟩

theorem places_grow' {W W' : List Int} (hl : W.length ≤ W'.length) : ∀ (n a : Nat), W.length - a ≤ n → a ≤ W.length → unfit W a = none → (∀ q ∈ places W a, wd W' (q + 2) = wd W (q + 2)) →
    places W' a = places W a ++ places W' W.length ∧ unfit W' a = unfit W' W.length
  | 0, a, hn, ha, _, _ => by
    have : a = W.length := by omega
    subst this
    rw [places_end (W := W) (by omega)]; exact ⟨rfl, rfl⟩
  | n + 1, a, hn, ha, hu, hs => by
    by_cases h : a < W.length
    · obtain ⟨hf, hu'⟩ := unfit_head h hu
      have h2 := hs a (by rw [places_in h]; exact List.mem_cons_self ..)
      have hnx := next_same h2
      have hle : nextAt W a ≤ W.length := (fits_out hf).2.2.2.2
      obtain ⟨r1, r2⟩ := places_grow' hl n (nextAt W a) (by simp [nextAt]; omega) hle hu' (fun q hq => hs q (by rw [places_in h]; exact List.mem_cons_of_mem _ hq))
      have h' : a < W'.length := by omega
      rw [places_in h', places_in h, hnx, r1, unfit_in h' (fits_same h2 hl hf), hnx, r2]
      exact ⟨rfl, rfl⟩
    · have : a = W.length := by omega
      subst this
      rw [places_end (W := W) (by omega)]; exact ⟨rfl, rfl⟩
theorem places_grow {W W' : List Int} {a : Nat} (hl : W.length ≤ W'.length) (ha : a ≤ W.length) (hu : unfit W a = none) (hs : ∀ q ∈ places W a, wd W' (q + 2) = wd W (q + 2)) :
    places W' a = places W a ++ places W' W.length ∧ unfit W' a = unfit W' W.length := places_grow' hl _ a (Nat.le_refl _) ha hu hs

theorem bad_none {W : List Int} {f : Int} : ∀ (n k : Nat), badSlot W f k n = none ↔ ∀ j, j < n → standB W f (wd W (k + j)) = true
  | 0, k => by simp [badSlot]
  | n + 1, k => by
    constructor
    · intro h j hj
      cases hs : standB W f (wd W k) with
      | false => rw [bad_no hs] at h; cases h
      | true =>
        rw [bad_yes hs] at h
        cases j with
        | zero => exact hs
        | succ j => have := (bad_none n (k + 1)).1 h j (by omega); rw [show k + (j + 1) = k + 1 + j by omega]; exact this
    · intro h
      rw [bad_yes (by have := h 0 (by omega); simpa using this)]
      exact (bad_none n (k + 1)).2 fun j hj => by have := h (j + 1) (by omega); rw [show k + 1 + j = k + (j + 1) by omega]; exact this

/-- What is said of the first of some things that are all right. -/
theorem fault_cons {W : List Int} {seen : List Int} {p : Nat} {r : List Nat} (h : (faultOf W seen (p :: r)).1 = 0) :
    nilB W (wd W p) = true ∧ twiceB W seen p = false ∧ badSlot W (formAt W p) (p + 3) (slotsAt W p) = none ∧ (faultOf W (seen ++ [wd W (p + 1)]) r).1 = 0 := by
  cases h1 : nilB W (wd W p) with
  | false => rw [fault_kind h1] at h; cases h
  | true =>
    cases h2 : twiceB W seen p with
    | true => rw [fault_twice h1 h2] at h; cases h
    | false =>
      cases h3 : badSlot W (formAt W p) (p + 3) (slotsAt W p) with
      | some k => rw [fault_slot h1 h2 h3] at h; cases h
      | none => rw [fault_next h1 h2 h3] at h; exact ⟨rfl, rfl, rfl, h⟩

theorem twice_out {W : List Int} {seen : List Int} {p : Nat} (h : twiceB W seen p = false) : wd W (p + 1) ∉ seen ∧ 1 ≤ wd W (p + 1) ∧ wd W (p + 1) < wd W 1 := by
  unfold twiceB at h
  rw [Bool.or_eq_false_iff] at h
  obtain ⟨h1, h2⟩ := h
  have := of_decide_eq_false h2
  exact ⟨fun hm => (by rw [List.contains_iff_mem.2 hm] at h1; exact Bool.noConfusion h1), by omega, by omega⟩
theorem twice_mk {W : List Int} {seen : List Int} {p : Nat} (h : wd W (p + 1) ∉ seen ∧ 1 ≤ wd W (p + 1) ∧ wd W (p + 1) < wd W 1) : twiceB W seen p = false := by
  unfold twiceB
  rw [Bool.or_eq_false_iff]
  refine ⟨?_, decide_eq_false (by omega)⟩
  rw [Bool.eq_false_iff]; exact fun hc => h.1 (List.contains_iff_mem.1 hc)

/-- Of all of some things that are all right. -/
theorem fault_all {W : List Int} : ∀ (ps : List Nat) (seen : List Int), (faultOf W seen ps).1 = 0 → ∀ p ∈ ps,
    nilB W (wd W p) = true ∧ badSlot W (formAt W p) (p + 3) (slotsAt W p) = none ∧ wd W (p + 1) ∉ seen ∧ 1 ≤ wd W (p + 1) ∧ wd W (p + 1) < wd W 1
  | [], _, _, p, hp => by cases hp
  | a :: r, seen, h, p, hp => by
    obtain ⟨h1, h2, h3, h4⟩ := fault_cons h
    rcases List.mem_cons.1 hp with rfl | hp
    · obtain ⟨t1, t2, t3⟩ := twice_out h2; exact ⟨h1, h3, t1, t2, t3⟩
    · obtain ⟨a1, a2, a3, a4⟩ := fault_all r _ h4 p hp
      exact ⟨a1, a2, fun hm => a3 (List.mem_append.2 (Or.inl hm)), a4⟩
/-- Unlike things have unlike hashes. -/
theorem fault_apart {W : List Int} : ∀ (ps : List Nat) (seen : List Int), (faultOf W seen ps).1 = 0 → ps.Nodup → ∀ p ∈ ps, ∀ q ∈ ps, wd W (p + 1) = wd W (q + 1) → p = q
  | [], _, _, _, p, hp, _, _, _ => by cases hp
  | a :: r, seen, h, hn, p, hp, q, hq, he => by
    obtain ⟨h1, h2, h3, h4⟩ := fault_cons h
    rcases List.mem_cons.1 hp with rfl | hp
    · rcases List.mem_cons.1 hq with rfl | hq
      · rfl
      · exact absurd (by rw [he]; simp) (fault_all r _ h4 q hq).2.2.1
    · rcases List.mem_cons.1 hq with rfl | hq'
      · exact absurd (by rw [he]; simp) (fault_all r _ h4 p (by assumption)).2.2.1
      · exact fault_apart r _ h4 (List.nodup_cons.1 hn).2 p (by assumption) q hq' he

theorem fault_keep {W W' : List Int} (h1 : wd W 1 ≤ wd W' 1) : ∀ (ps : List Nat) (seen : List Int), (faultOf W seen ps).1 = 0 →
    (∀ p ∈ ps, (nilB W (wd W p) = true → nilB W' (wd W' p) = true) ∧ wd W' (p + 1) = wd W (p + 1) ∧ (badSlot W (formAt W p) (p + 3) (slotsAt W p) = none → badSlot W' (formAt W' p) (p + 3) (slotsAt W' p) = none)) →
    faultOf W' seen ps = (0, 0)
  | [], _, _, _ => rfl
  | a :: r, seen, h, hs => by
    obtain ⟨c1, c2, c3, c4⟩ := fault_cons h
    obtain ⟨s1, s2, s3⟩ := hs a (List.mem_cons_self ..)
    obtain ⟨t1, t2, t3⟩ := twice_out c2
    rw [fault_next (s1 c1) (twice_mk (by rw [s2]; exact ⟨t1, t2, by omega⟩)) (s3 c3), s2]
    exact fault_keep h1 r _ c4 fun p hp => hs p (List.mem_cons_of_mem _ hp)
theorem fault_append {W : List Int} : ∀ (ps r : List Nat) (seen : List Int), (faultOf W seen ps).1 = 0 → faultOf W seen (ps ++ r) = faultOf W (seen ++ ps.map fun p => wd W (p + 1)) r
  | [], r, seen, _ => by simp
  | a :: ps, r, seen, h => by
    obtain ⟨c1, c2, c3, c4⟩ := fault_cons h
    rw [List.cons_append, fault_next c1 c2 c3, fault_append ps r _ c4]
    simp

/-- Who was a thing's reference is one where there are more places. -/
theorem nil_mono {W W' : List Int} (h : ∀ q ∈ places W 2, q ∈ places W' 2) {o : Int} (ho : nilB W o = true) : nilB W' o = true := by
  unfold nilB thingB beginB at ho ⊢
  simp only [Bool.or_eq_true, Bool.and_eq_true, beq_iff_eq, List.contains_iff_mem] at ho ⊢
  rcases ho with ho | ⟨h1, h2⟩
  · exact Or.inl ho
  · exact Or.inr ⟨h1, h _ h2⟩
theorem thing_mono {W W' : List Int} (h : ∀ q ∈ places W 2, q ∈ places W' 2) {o : Int} (ho : thingB W o = true) : thingB W' o = true := by
  unfold thingB beginB at ho ⊢
  simp only [Bool.and_eq_true, beq_iff_eq, List.contains_iff_mem] at ho ⊢
  exact ⟨ho.1, h _ ho.2⟩
theorem stand_mono {W W' : List Int} (h : ∀ q ∈ places W 2, q ∈ places W' 2) {f o : Int} (ho : standB W f o = true) : standB W' f o = true := by
  unfold standB at ho ⊢
  split
  · rename_i hf; rw [if_pos hf] at ho; exact ho
  · rename_i hf; rw [if_neg hf] at ho
    simp only [Bool.or_eq_true] at ho ⊢
    exact ho.imp id (nil_mono h)

theorem wd_set_other {W : List Int} {i j : Nat} {x : Int} (h : i ≠ j) : wd (W.set i x) j = wd W j := by
  unfold wd; rw [List.getD_eq_getElem?_getD, List.getD_eq_getElem?_getD, List.getElem?_set_ne h]
theorem wd_set_same {W : List Int} {i : Nat} {x : Int} (h : i < W.length) : wd (W.set i x) i = x := by
  unfold wd; rw [List.getD_eq_getElem?_getD, List.getElem?_set_self h]; rfl

theorem check_fine {W : List Int} (h : (checkOf W).1 = 0) : (frontOf W).1 = 0 ∧ unfit W 2 = none ∧ (faultOf W [] (places W 2)).1 = 0 := by
  obtain ⟨h1, h2⟩ := check_ok h
  refine ⟨h1, h2, ?_⟩
  rw [check_things h1 h2] at h; exact h
theorem front_again {W W' : List Int} (h : (frontOf W).1 = 0) (hl : W.length ≤ W'.length) (hm : W'.length ≤ 2000) (h0 : wd W' 0 = wd W 0) (h1 : wd W 1 ≤ wd W' 1) (h2 : wd W' 1 ≤ 10001) : (frontOf W').1 = 0 := by
  obtain ⟨a1, a2, a3, a4, a5⟩ := front_out h
  rw [front_ok (by omega) (by rw [h0]; exact a3) (by omega)]

/-- A slot that changes to what may stand there: places are as they were, and the heap may be. -/
theorem put_keeps {W : List Int} {p k : Nat} {what : Int} (h : (checkOf W).1 = 0) (hp : p ∈ places W 2) (hk : k < slotsAt W p) (hs : standB W (formAt W p) what = true) :
    places (W.set (p + 3 + k) what) 2 = places W 2 ∧ (checkOf (W.set (p + 3 + k) what)).1 = 0 := by
  obtain ⟨c1, c2, c3⟩ := check_fine h
  obtain ⟨f1, f2, f3, f4, f5⟩ := front_out c1
  have hp2 := (place_fit c2 hp).1
  have hi : p + 3 + k < W.length := by have := (fits_out (place_fit c2 hp).2.2.1).2.2.2.2; omega
  have hlen : (W.set (p + 3 + k) what).length = W.length := List.length_set
  have hd : ∀ q ∈ places W 2, ∀ j, j ≤ 2 → wd (W.set (p + 3 + k) what) (q + j) = wd W (q + j) := fun q hq j hj => wd_set_other (by have := slot_apart hp hq hk; omega)
  obtain ⟨g1, g2⟩ := places_grow (W := W) (W' := W.set (p + 3 + k) what) (by omega) f1 c2 (fun q hq => hd q hq 2 (by omega))
  rw [places_end (W := W.set (p + 3 + k) what) (p := W.length) (by omega), List.append_nil] at g1
  rw [unfit_end (W := W.set (p + 3 + k) what) (p := W.length) (by omega)] at g2
  refine ⟨g1, ?_⟩
  have w1 : wd (W.set (p + 3 + k) what) 1 = wd W 1 := wd_set_other (by omega)
  have w0 : wd (W.set (p + 3 + k) what) 0 = wd W 0 := wd_set_other (by omega)
  have hmem : ∀ q ∈ places W 2, q ∈ places (W.set (p + 3 + k) what) 2 := fun q hq => by rw [g1]; exact hq
  rw [check_things (front_again c1 (by omega) (by omega) w0 (by omega) (by omega)) g2, g1, fault_keep (W := W) (by omega) _ _ c3 fun q hq => ⟨?_, hd q hq 1 (by omega), ?_⟩]
  · intro hn; rw [show q = q + 0 by rfl, hd q hq 0 (by omega)]; exact nil_mono hmem hn
  · intro hb
    rw [form_same (hd q hq 2 (by omega)), slots_same (hd q hq 2 (by omega))]
    rw [bad_none] at hb ⊢
    intro j hj
    by_cases he : p + 3 + k = q + 3 + j
    · have hpq : p = q := by
        rcases Nat.lt_trichotomy p q with hlt | heq | hlt
        · have := place_sep hp hq hlt; simp only [nextAt] at this; omega
        · exact heq
        · have := place_sep hq hp hlt; simp only [nextAt] at this; omega
      subst hpq
      rw [← he, wd_set_same hi]; exact stand_mono hmem hs
    · rw [wd_set_other he]; exact stand_mono hmem (hb j hj)

/-- What is said of words with a thing more at their end. -/
structure OneMore (W M : List Int) (cl fo : Int) (m : Nat) : Prop where
  length : M.length = W.length + 3 + m
  old : ∀ i, i < W.length → i ≠ 1 → wd M i = wd W i
  one : wd M 1 = wd W 1 + 1
  cls : wd M W.length = cl
  hash : wd M (W.length + 1) = wd W 1
  shape : wd M (W.length + 2) = 4 * (m : Int) + fo
  zero : ∀ j, j < m → wd M (W.length + 3 + j) = 0

theorem OneMore.places {W M : List Int} {cl fo : Int} {m : Nat} (hM : OneMore W M cl fo m) (h : (checkOf W).1 = 0) (hfo : 0 ≤ fo ∧ fo ≤ 2) (hm : m ≤ 60) :
    places M 2 = places W 2 ++ [W.length] ∧ unfit M 2 = none ∧ slotsAt M W.length = m ∧ formAt M W.length = fo := by
  obtain ⟨c1, c2, c3⟩ := check_fine h
  obtain ⟨f1, f2, f3, f4, f5⟩ := front_out c1
  have hl := hM.length
  have hsl : slotsAt M W.length = m := by unfold slotsAt; rw [hM.shape]; omega
  have hfm : formAt M W.length = fo := by unfold formAt; rw [hM.shape]; omega
  obtain ⟨g1, g2⟩ := places_grow (W := W) (W' := M) (by omega) f1 c2 (fun q hq => by
    have hq2 := (place_fit c2 hq)
    have := (fits_out hq2.2.2.1).1
    exact hM.old _ (by omega) (by omega))
  have hf : fitsB M W.length = true := fits_mk ⟨by omega, by rw [hM.shape]; omega, by rw [hM.shape]; omega, by rw [hM.shape]; omega, by rw [hsl]; omega⟩
  have hn : nextAt M W.length = M.length := by unfold nextAt; rw [hsl, hl]
  rw [places_in (W := M) (p := W.length) (by omega), hn, places_end (W := M) (p := M.length) (by omega)] at g1
  rw [unfit_in (W := M) (p := W.length) (by omega) hf, hn, unfit_end (W := M) (p := M.length) (by omega)] at g2
  exact ⟨g1, g2, hsl, hfm⟩

/-- A heap with a thing more may be. -/
theorem OneMore.may {W M : List Int} {cl fo : Int} {m : Nat} (hM : OneMore W M cl fo m) (h : (checkOf W).1 = 0) (hc : nilB W cl = true) (hfo : 0 ≤ fo ∧ fo ≤ 2) (hm : m ≤ 60) (hfit : W.length + 3 + m ≤ 2000) (hh : wd W 1 ≤ 10000) :
    (checkOf M).1 = 0 := by
  obtain ⟨c1, c2, c3⟩ := check_fine h
  obtain ⟨f1, f2, f3, f4, f5⟩ := front_out c1
  obtain ⟨g1, g2, hsl, hfm⟩ := hM.places h hfo hm
  have hl := hM.length
  have hone := hM.one
  have hmem : ∀ q ∈ Go.Proofs.Ythdhaokjibfjdaa.places W 2, q ∈ Go.Proofs.Ythdhaokjibfjdaa.places M 2 := fun q hq => by rw [g1]; exact List.mem_append.2 (Or.inl hq)
  have w0 : wd M 0 = wd W 0 := hM.old 0 (by omega) (by omega)
  rw [check_things (front_again c1 (by omega) (by omega) w0 (by omega) (by omega)) g2, g1]
  have hk : faultOf M [] (Go.Proofs.Ythdhaokjibfjdaa.places W 2) = (0, 0) := by
    refine fault_keep (W := W) (by omega) _ _ c3 fun q hq => ?_
    have hq2 := (place_fit c2 hq)
    obtain ⟨b1, b2, b3, b4, b5⟩ := fits_out hq2.2.2.1
    have e0 := hM.old q (by omega) (by omega)
    have e1 := hM.old (q + 1) (by omega) (by omega)
    have e2 := hM.old (q + 2) (by omega) (by omega)
    refine ⟨fun hn => by rw [e0]; exact nil_mono hmem hn, e1, fun hb => ?_⟩
    rw [form_same e2, slots_same e2]
    rw [bad_none] at hb ⊢
    intro j hj
    rw [hM.old (q + 3 + j) (by omega) (by omega)]; exact stand_mono hmem (hb j hj)
  rw [fault_append _ _ _ (by rw [hk])]
  rw [fault_next (by rw [hM.cls]; exact nil_mono hmem hc) (twice_mk ⟨?_, by rw [hM.hash]; omega, by rw [hM.hash]; omega⟩) ?_]
  · rfl
  · rw [hM.hash, List.nil_append]
    intro hmm
    obtain ⟨q, hq, he⟩ := List.mem_map.1 hmm
    have hq2 := (place_fit c2 hq)
    have := (fits_out hq2.2.2.1).1
    rw [hM.old (q + 1) (by omega) (by omega)] at he
    have := (fault_all _ _ c3 q hq).2.2.2.2
    omega
  · rw [hsl, hfm, bad_none]
    intro j hj
    rw [hM.zero j hj]
    unfold standB
    split
    · decide
    · have : kindOf 0 = 2 := by decide
      simp [nilB, this]

end Go.Proofs.Ythdhaokjibfjdaa

/- The words with a thing more. No Go in sight. -/
namespace Go.Proofs.Ythdhaokjibfjdaa

/-- The words with one thing more. -/
def newWords (W : List Int) (cl fo si : Int) : List Int := (W ++ [cl, wd W 1, 4 * si + fo] ++ List.replicate si.toNat 0).set 1 (wd W 1 + 1)

theorem new_length (W : List Int) (cl fo : Int) (m : Nat) : (newWords W cl fo m).length = W.length + 3 + m := by
  simp [newWords]; omega
/-- The words that New makes are those that were, and a thing more. -/
theorem one_moreN (W : List Int) (cl fo : Int) (m : Nat) (h : 2 ≤ W.length) : OneMore W (newWords W cl fo m) cl fo m := by
  have hl : 1 < (W ++ [cl, wd W 1, 4 * (m : Int) + fo] ++ List.replicate m 0).length := by simp; omega
  have e : newWords W cl fo m = (W ++ [cl, wd W 1, 4 * (m : Int) + fo] ++ List.replicate m 0).set 1 (wd W 1 + 1) := by simp [newWords]
  have A : ∀ i, i < 3 → wd (W ++ [cl, wd W 1, 4 * (m : Int) + fo] ++ List.replicate m 0) (W.length + i) = wd [cl, wd W 1, 4 * (m : Int) + fo] i := fun i hi => by
    unfold wd
    rw [List.getD_eq_getElem?_getD, List.getElem?_append_left (by simp; omega), List.getElem?_append_right (by omega), Nat.add_sub_cancel_left]
    simp [List.getD_eq_getElem?_getD]
  refine ⟨new_length W cl fo m, fun i hi h1 => ?_, ?_, ?_, ?_, ?_, fun j hj => ?_⟩
  · rw [e, wd_set_other (by omega)]
    unfold wd
    rw [List.getD_eq_getElem?_getD, List.getElem?_append_left (by simp; omega), List.getElem?_append_left hi, List.getD_eq_getElem?_getD]
  · rw [e, wd_set_same hl]
  · rw [e, wd_set_other (by omega)]; exact A 0 (by omega)
  · rw [e, wd_set_other (by omega)]; exact A 1 (by omega)
  · rw [e, wd_set_other (by omega)]; exact A 2 (by omega)
  · rw [e, wd_set_other (by omega)]
    unfold wd
    rw [List.getD_eq_getElem?_getD, List.getElem?_append_right (by simp <;> omega)]
    have : W.length + 3 + j - (W ++ [cl, W.getD 1 0, 4 * (m : Int) + fo]).length = j := by simp <;> omega
    rw [this, List.getElem?_replicate, if_pos hj]; rfl

end Go.Proofs.Ythdhaokjibfjdaa

/- What chapter 3 says of what is reached, as plain functions on lists of numbers, and what is true of them. No Go in sight. -/
namespace Go.Proofs.Ythdhaokjibfjdaa

/-- What who reaches the thing at p comes to from there. -/
def leadsAt (W : List Int) (p : Nat) : List Int := wd W p :: (if formAt W p = 0 then (W.drop (p + 3)).take (slotsAt W p) else [])
/-- o is the reference of a thing that is reached. -/
inductive Reached (W roots : List Int) : Int → Prop
  | root {o : Int} : o ∈ roots → thingB W o = true → Reached W roots o
  | step {x o : Int} : Reached W roots x → o ∈ leadsAt W (x / 2).toNat → thingB W o = true → Reached W roots o
theorem Reached.thing {W roots : List Int} {o : Int} (h : Reached W roots o) : thingB W o = true := by cases h <;> assumption
open Classical in
/-- The references of what is reached, rising. -/
noncomputable def reachList (W roots : List Int) : List Int := ((List.range W.length).filter fun p : Nat => decide (Reached W roots (2 * (p : Int)))).map fun p : Nat => 2 * (p : Int)

theorem kind3 {o : Int} (h : kindOf o = 3) : o % 2 = 0 ∧ 4 ≤ o ∧ o ≤ 3998 := by
  unfold kindOf at h
  split at h
  · cases h
  · split at h
    · cases h
    · split at h
      · assumption
      · cases h
theorem thing_ref {W : List Int} {o : Int} (h : thingB W o = true) : ∃ p : Nat, o = 2 * (p : Int) ∧ p ∈ places W 2 ∧ p < W.length ∧ (o / 2).toNat = p := by
  obtain ⟨hk, hm⟩ := thing_out h
  have := kind3 hk
  exact ⟨(o / 2).toNat, by omega, hm, (place_ge hm).2, rfl⟩
/-- Each thing of a heap with few words has its reference. -/
theorem ref_thing {W : List Int} {p : Nat} (hl : W.length ≤ 2000) (h : p ∈ places W 2) : thingB W (2 * (p : Int)) = true := by
  have h1 := place_ge h
  unfold thingB beginB
  have hk : kindOf (2 * (p : Int)) = 3 := by
    unfold kindOf
    rw [if_neg (by omega), if_neg (by unfold smallB; simp), if_pos (by omega)]
  rw [hk, show (2 * (p : Int) / 2).toNat = p by omega, List.contains_iff_mem.2 h]
  rfl

theorem mem_reach {W roots : List Int} {o : Int} : o ∈ reachList W roots ↔ Reached W roots o := by
  unfold reachList
  simp only [List.mem_map, List.mem_filter, List.mem_range, decide_eq_true_eq]
  constructor
  · rintro ⟨p, ⟨_, h⟩, rfl⟩; exact h
  · intro h
    obtain ⟨p, rfl, _, hp, _⟩ := thing_ref h.thing
    exact ⟨p, ⟨hp, h⟩, rfl⟩
theorem reach_rises (W roots : List Int) : (reachList W roots).Pairwise (· < ·) := by
  unfold reachList
  refine List.Pairwise.map _ (fun a b (h : a < b) => by omega) (List.Pairwise.filter _ List.pairwise_lt_range)
theorem reach_nodup (W roots : List Int) : (reachList W roots).Nodup := (reach_rises W roots).imp fun h e => by omega
theorem reach_length (W roots : List Int) : (reachList W roots).length ≤ W.length := by
  unfold reachList
  rw [List.length_map]
  exact Nat.le_trans (List.length_filter_le ..) (by simp)

/-- Numbers that are those that are reached, each once, when they are sorted. -/
theorem sorted_reach {W roots f : List Int} (hn : f.Nodup) (hm : ∀ o, o ∈ f ↔ Reached W roots o) : f.mergeSort (fun x y => decide (x ≤ y)) = reachList W roots := by
  have hp : (f.mergeSort (fun x y => decide (x ≤ y))).Perm (reachList W roots) :=
    (List.mergeSort_perm ..).trans ((List.perm_ext_iff_of_nodup hn (reach_nodup W roots)).2 fun o => by rw [hm o, mem_reach])
  refine hp.eq_of_pairwise (le := fun x y => x ≤ y) (fun a b _ _ h1 h2 => by omega) ?_ ((reach_rises W roots).imp fun h => by omega)
  have := List.pairwise_mergeSort (le := fun x y : Int => decide (x ≤ y)) (fun a b c h1 h2 => by simp at *; omega) (fun a b => by simp; omega) f
  exact this.imp fun h => by simpa using h

/-! The program's way: a row that grows. -/

/-- Who is come to by refs, behind those that were. -/
def come (W : List Int) : List Int → List Int → List Int
  | f, [] => f
  | f, o :: r => come W (if o ∉ f ∧ thingB W o = true then f ++ [o] else f) r

/-- What is said of a row behind some refs. -/
theorem come_spec (W roots : List Int) : ∀ (refs f : List Int), f.Nodup → (∀ o ∈ f, Reached W roots o) → (∀ o ∈ refs, thingB W o = true → Reached W roots o) →
    (come W f refs).Nodup ∧ (∀ o ∈ come W f refs, Reached W roots o) ∧ (∃ t, come W f refs = f ++ t) ∧ (∀ o ∈ refs, thingB W o = true → o ∈ come W f refs)
  | [], f, hn, hr, _ => ⟨hn, hr, ⟨[], by simp [come]⟩, fun o ho => by cases ho⟩
  | o :: r, f, hn, hr, hs => by
    unfold come
    by_cases h : o ∉ f ∧ thingB W o = true
    · rw [if_pos h]
      obtain ⟨c1, c2, ⟨t, c3⟩, c4⟩ := come_spec W roots r (f ++ [o])
        (by rw [List.nodup_append]; exact ⟨hn, by simp, fun a ha b hb => by rw [List.mem_singleton] at hb; subst hb; exact fun e => h.1 (e ▸ ha)⟩)
        (fun x hx => by rcases List.mem_append.1 hx with hx | hx; exact hr x hx; rw [List.mem_singleton] at hx; subst hx; exact hs _ (List.mem_cons_self ..) h.2)
        (fun x hx => hs x (List.mem_cons_of_mem _ hx))
      refine ⟨c1, c2, ⟨o :: t, by rw [c3]; simp⟩, fun x hx ht => ?_⟩
      rcases List.mem_cons.1 hx with rfl | hx
      · rw [c3]; simp
      · exact c4 x hx ht
    · rw [if_neg h]
      obtain ⟨c1, c2, ⟨t, c3⟩, c4⟩ := come_spec W roots r f hn hr (fun x hx => hs x (List.mem_cons_of_mem _ hx))
      refine ⟨c1, c2, ⟨t, c3⟩, fun x hx ht => ?_⟩
      rcases List.mem_cons.1 hx with rfl | hx
      · rw [c3]
        have : x ∈ f := Classical.byContradiction fun hc => h ⟨hc, ht⟩
        exact List.mem_append.2 (Or.inl this)
      · exact c4 x hx ht

/-- What holds of the row that grows, gone along up to n. -/
structure Along (W roots f : List Int) (n : Nat) : Prop where
  once : f.Nodup
  all : ∀ o ∈ f, Reached W roots o
  begun : ∀ o ∈ roots, thingB W o = true → o ∈ f
  gone : ∀ i, i < n → ∀ o ∈ leadsAt W (wd f i / 2).toNat, thingB W o = true → o ∈ f
  le : n ≤ f.length

theorem along_start (W roots : List Int) : Along W roots (come W [] roots) 0 := by
  obtain ⟨c1, c2, _, c4⟩ := come_spec W roots roots [] List.nodup_nil (fun o h => by cases h) (fun o h ht => .root h ht)
  exact ⟨c1, c2, c4, fun i h => by omega, by omega⟩
theorem wd_mem {f : List Int} {i : Nat} (h : i < f.length) : wd f i ∈ f := by
  unfold wd; rw [List.getD_eq_getElem?_getD, List.getElem?_eq_getElem h]; exact List.getElem_mem h
theorem wd_left {f t : List Int} {i : Nat} (h : i < f.length) : wd (f ++ t) i = wd f i := by
  unfold wd; rw [List.getD_eq_getElem?_getD, List.getD_eq_getElem?_getD, List.getElem?_append_left h]
theorem Along.next {W roots f : List Int} {n : Nat} (h : Along W roots f n) (hn : n < f.length) : Along W roots (come W f (leadsAt W (wd f n / 2).toNat)) (n + 1) := by
  obtain ⟨c1, c2, ⟨t, c3⟩, c4⟩ := come_spec W roots (leadsAt W (wd f n / 2).toNat) f h.once h.all (fun o ho ht => .step (h.all _ (wd_mem hn)) ho ht)
  refine ⟨c1, c2, fun o ho ht => ?_, fun i hi o ho ht => ?_, by rw [c3]; simp; omega⟩
  · rw [c3]; exact List.mem_append.2 (Or.inl (h.begun o ho ht))
  · rw [c3, wd_left (by omega)] at ho
    by_cases he : i = n
    · subst he; exact c4 o ho ht
    · rw [c3]; exact List.mem_append.2 (Or.inl (h.gone i (by omega) o ho ht))
theorem Along.done {W roots f : List Int} {n : Nat} (h : Along W roots f n) (hn : f.length ≤ n) : ∀ o, o ∈ f ↔ Reached W roots o := by
  intro o
  refine ⟨h.all o, fun hr => ?_⟩
  induction hr with
  | root ho ht => exact h.begun _ ho ht
  | @step x o hx ho ht ih =>
    obtain ⟨i, hi, he⟩ := List.getElem_of_mem ih
    have hw : wd f i = x := by unfold wd; rw [List.getD_eq_getElem?_getD, List.getElem?_eq_getElem hi]; exact he
    exact h.gone i (by omega) o (by rw [hw]; exact ho) ht
/-- The row is never longer than there are words. -/
theorem short_of {W roots f : List Int} (hn : f.Nodup) (ha : ∀ o ∈ f, Reached W roots o) : f.length ≤ W.length := by
  exact Nat.le_trans (hn.length_le_of_subset fun o ho => mem_reach.2 (ha o ho)) (reach_length W roots)
theorem Along.short {W roots f : List Int} {n : Nat} (h : Along W roots f n) : f.length ≤ W.length := short_of h.once h.all

/-! The document's way: marks at places, round by round. -/

/-- What is marked at a place. -/
def bt (B : List Bool) (k : Nat) : Bool := B.getD k false
/-- How many are marked. -/
def marks (B : List Bool) : Nat := B.count true
/-- Is o new? -/
def newB (W : List Int) (B : List Bool) (o : Int) : Bool := thingB W o && !bt B (o / 2).toNat
/-- The marks with o. -/
def markOf (W : List Int) (B : List Bool) (o : Int) : List Bool := if newB W B o = true then B.set (o / 2).toNat true else B

theorem bt_set_same {B : List Bool} {i : Nat} (h : i < B.length) : bt (B.set i true) i = true := by
  unfold bt; rw [List.getD_eq_getElem?_getD, List.getElem?_set_self h]; rfl
theorem bt_set_other {B : List Bool} {i j : Nat} (h : i ≠ j) : bt (B.set i true) j = bt B j := by
  unfold bt; rw [List.getD_eq_getElem?_getD, List.getD_eq_getElem?_getD, List.getElem?_set_ne h]
theorem bt_set_mono {B : List Bool} {i j : Nat} (h : bt B j = true) : bt (B.set i true) j = true := by
  by_cases e : i = j
  · subst e
    by_cases hl : i < B.length
    · exact bt_set_same hl
    · rw [List.set_eq_of_length_le (by omega)]; exact h
  · rw [bt_set_other e]; exact h
theorem mark_length {W : List Int} {B : List Bool} {o : Int} : (markOf W B o).length = B.length := by
  unfold markOf; split
  · exact List.length_set
  · rfl
theorem mark_mono {W : List Int} {B : List Bool} {o : Int} {k : Nat} (h : bt B k = true) : bt (markOf W B o) k = true := by
  unfold markOf; split
  · exact bt_set_mono h
  · exact h
theorem mark_in {W : List Int} {B : List Bool} {o : Int} (hl : B.length = W.length) (ht : thingB W o = true) : bt (markOf W B o) (o / 2).toNat = true := by
  obtain ⟨p, _, _, hp, he⟩ := thing_ref ht
  unfold markOf newB
  cases hb : bt B (o / 2).toNat with
  | false => rw [if_pos (by rw [ht]; rfl)]; exact bt_set_same (by omega)
  | true => rw [if_neg (by rw [ht]; simp)]; exact hb
theorem count_set {B : List Bool} : ∀ {i : Nat}, i < B.length → bt B i = false → (B.set i true).count true = B.count true + 1 := by
  induction B with
  | nil => intro i h; simp at h
  | cons a r ih =>
    intro i h hb
    cases i with
    | zero => have : a = false := hb; subst this; simp
    | succ i =>
      have := ih (i := i) (by simpa using h) hb
      simp only [List.set_cons_succ, List.count_cons, this]; omega
theorem mark_count {W : List Int} {B : List Bool} {o : Int} (hl : B.length = W.length) (hn : newB W B o = true) : marks (markOf W B o) = marks B + 1 := by
  unfold markOf; rw [if_pos hn]
  unfold newB at hn
  rw [Bool.and_eq_true] at hn
  obtain ⟨p, _, _, hp, he⟩ := thing_ref hn.1
  exact count_set (by omega) (by simpa using hn.2)
theorem mark_old {W : List Int} {B : List Bool} {o : Int} (hn : newB W B o = false) : markOf W B o = B := by unfold markOf; rw [if_neg (by rw [hn]; decide)]

/-- Only what is reached is marked. -/
def Sound (W roots : List Int) (B : List Bool) : Prop := ∀ k, bt B k = true → Reached W roots (2 * (k : Int))
theorem Sound.mark {W roots : List Int} {B : List Bool} {o : Int} (h : Sound W roots B) (ho : thingB W o = true → Reached W roots o) : Sound W roots (markOf W B o) := by
  intro k hk
  unfold markOf at hk
  split at hk
  · rename_i hn
    unfold newB at hn
    rw [Bool.and_eq_true] at hn
    obtain ⟨p, hp, _, _, he⟩ := thing_ref hn.1
    by_cases e : (o / 2).toNat = k
    · rw [← e, he, ← hp]; exact ho hn.1
    · rw [bt_set_other e] at hk; exact h k hk
  · exact h k hk
/-- Some refs are marked. -/
def Has (W : List Int) (B : List Bool) (refs : List Int) : Prop := ∀ o ∈ refs, thingB W o = true → bt B (o / 2).toNat = true
theorem Has.mono {W : List Int} {B B' : List Bool} {refs : List Int} (h : Has W B refs) (hm : ∀ k, bt B k = true → bt B' k = true) : Has W B' refs := fun o ho ht => hm _ (h o ho ht)
theorem Has.snoc {W : List Int} {B : List Bool} {refs : List Int} {o : Int} (h : Has W B refs) (hl : B.length = W.length) : Has W (markOf W B o) (refs ++ [o]) := by
  intro x hx ht
  rcases List.mem_append.1 hx with hx | hx
  · exact mark_mono (h x hx ht)
  · rw [List.mem_singleton] at hx; subst hx; exact mark_in hl ht
theorem has_nil (W : List Int) (B : List Bool) : Has W B [] := fun o ho => by cases ho

/-- Marks that are closed tell what is reached. -/
theorem closed_tells {W roots : List Int} {B : List Bool} (hs : Sound W roots B) (hr : Has W B roots) (hc : ∀ p ∈ places W 2, bt B p = true → Has W B (leadsAt W p)) :
    ∀ k, bt B k = true ↔ Reached W roots (2 * (k : Int)) := by
  have key : ∀ o, Reached W roots o → bt B (o / 2).toNat = true := by
    intro o h
    induction h with
    | root ho ht => exact hr _ ho ht
    | @step x o hx ho ht ih =>
      obtain ⟨p, _, hm, _, he⟩ := thing_ref hx.thing
      rw [he] at ho ih
      exact hc p hm ih o ho ht
  intro k
  refine ⟨hs k, fun h => ?_⟩
  have := key _ h
  rw [show (2 * (k : Int) / 2).toNat = k by omega] at this; exact this

/-- How a round stands: B0 at its beginning, B now; whether something is new; the things whose leads have been looked at. -/
structure Round (W roots : List Int) (B0 B : List Bool) (again : Bool) (pre : List Nat) : Prop where
  length : B.length = W.length
  sound : Sound W roots B
  mono : ∀ k, bt B0 k = true → bt B k = true
  idle : again = false → B = B0 ∧ ∀ p ∈ pre, bt B p = true → Has W B (leadsAt W p)
  busy : again = true → marks B0 < marks B
/-- In the midst of a thing at p: some of its leads have been looked at. -/
structure Midst (W roots : List Int) (B0 B : List Bool) (again : Bool) (pre : List Nat) (refs : List Int) : Prop where
  round : Round W roots B0 B again pre
  has : Has W B refs
theorem Midst.mark {W roots : List Int} {B0 B : List Bool} {again : Bool} {pre : List Nat} {refs : List Int} {o : Int} (h : Midst W roots B0 B again pre refs) (ho : thingB W o = true → Reached W roots o) :
    Midst W roots B0 (markOf W B o) (again || newB W B o) pre (refs ++ [o]) := by
  obtain ⟨⟨h1, h2, h3, h4, h5⟩, h6⟩ := h
  refine ⟨⟨by rw [mark_length]; exact h1, h2.mark ho, fun k hk => mark_mono (h3 k hk), fun ha => ?_, fun ha => ?_⟩, h6.snoc h1⟩
  · rw [Bool.or_eq_false_iff] at ha
    rw [mark_old ha.2]; exact h4 ha.1
  · cases hn : newB W B o with
    | true =>
      rw [mark_count h1 hn]
      cases hg : again with
      | true => have := h5 hg; omega
      | false => rw [(h4 hg).1]; omega
    | false => rw [hn, Bool.or_false] at ha; rw [mark_old hn]; exact h5 ha
theorem Round.skip {W roots : List Int} {B0 B : List Bool} {again : Bool} {pre : List Nat} {p : Nat} (h : Round W roots B0 B again pre) (hp : bt B p = false) : Round W roots B0 B again (pre ++ [p]) := by
  obtain ⟨h1, h2, h3, h4, h5⟩ := h
  refine ⟨h1, h2, h3, fun ha => ⟨(h4 ha).1, fun q hq hb => ?_⟩, h5⟩
  rcases List.mem_append.1 hq with hq | hq
  · exact (h4 ha).2 q hq hb
  · rw [List.mem_singleton] at hq; subst hq; rw [hp] at hb; cases hb
theorem Midst.close {W roots : List Int} {B0 B : List Bool} {again : Bool} {pre : List Nat} {p : Nat} (h : Midst W roots B0 B again pre (leadsAt W p)) : Round W roots B0 B again (pre ++ [p]) := by
  obtain ⟨⟨h1, h2, h3, h4, h5⟩, h6⟩ := h
  refine ⟨h1, h2, h3, fun ha => ⟨(h4 ha).1, fun q hq hb => ?_⟩, h5⟩
  rcases List.mem_append.1 hq with hq | hq
  · exact (h4 ha).2 q hq hb
  · rw [List.mem_singleton] at hq; subst hq; exact h6
theorem marks_le (B : List Bool) : marks B ≤ B.length := List.count_le_length

/-- How it stands between rounds. -/
structure Between (W roots : List Int) (B : List Bool) (again : Bool) (round : Nat) : Prop where
  length : B.length = W.length
  sound : Sound W roots B
  rooted : Has W B roots
  count : again = true → round ≤ marks B
  closed : again = false → ∀ p ∈ places W 2, bt B p = true → Has W B (leadsAt W p)
theorem Between.start {W roots : List Int} {B : List Bool} {again : Bool} {round : Nat} (h : Between W roots B again round) : Round W roots B B false [] :=
  ⟨h.length, h.sound, fun _ hk => hk, fun _ => ⟨rfl, fun p hp => by cases hp⟩, fun ha => by cases ha⟩
theorem Between.next {W roots : List Int} {B0 B : List Bool} {again : Bool} {round : Nat} (h : Between W roots B0 true round) (hr : Round W roots B0 B again (places W 2)) : Between W roots B again (round + 1) :=
  ⟨hr.length, hr.sound, h.rooted.mono hr.mono, fun ha => by have := hr.busy ha; have := h.count rfl; omega, fun ha => (hr.idle ha).2⟩
theorem Between.tells {W roots : List Int} {B : List Bool} {again : Bool} {round : Nat} (h : Between W roots B again round) (he : ¬ (round ≤ W.length ∧ again = true)) :
    ∀ k, bt B k = true ↔ Reached W roots (2 * (k : Int)) := by
  have ha : again = false := by
    cases hg : again with
    | false => rfl
    | true =>
      have h1 := h.count hg
      have h2 := marks_le B
      have h3 := h.length
      exact absurd ⟨by omega, hg⟩ he
  exact closed_tells h.sound h.rooted (h.closed ha)

/-- The places that are marked, as references, up to n. -/
def markedRefs (B : List Bool) (n : Nat) : List Int := ((List.range n).filter fun p => bt B p).map fun p : Nat => 2 * (p : Int)
theorem marked_zero (B : List Bool) : markedRefs B 0 = [] := rfl
theorem marked_yes {B : List Bool} {n : Nat} (h : bt B n = true) : markedRefs B (n + 1) = markedRefs B n ++ [2 * (n : Int)] := by
  unfold markedRefs; rw [List.range_succ, List.filter_append, List.map_append]; simp [h]
theorem marked_no {B : List Bool} {n : Nat} (h : bt B n = false) : markedRefs B (n + 1) = markedRefs B n := by
  unfold markedRefs; rw [List.range_succ, List.filter_append, List.map_append]; simp [h]
theorem marked_all {W roots : List Int} {B : List Bool} (h : ∀ k, bt B k = true ↔ Reached W roots (2 * (k : Int))) : markedRefs B W.length = reachList W roots := by
  unfold markedRefs reachList
  congr 1
  refine List.filter_congr fun p _ => ?_
  rw [Bool.eq_iff_iff, h p]; simp
theorem marked_length (B : List Bool) (n : Nat) : (markedRefs B n).length ≤ n := by
  unfold markedRefs; rw [List.length_map]; exact Nat.le_trans (List.length_filter_le ..) (by simp)

end Go.Proofs.Ythdhaokjibfjdaa

/- What chapter 3 says of two heaps that are alike, as plain functions on lists of numbers: the program's way (pairs that grow) and the document's (hashes), and that they come to one. No Go in sight. -/
namespace Go.Proofs.Ythdhaokjibfjdaa

/-- The place that a reference is of. -/
def pl2 (x : Int) : Nat := (x / 2).toNat
/-- The slots of the thing at p. -/
def slotList (W : List Int) (p : Nat) : List Int := (W.drop (p + 3)).take (slotsAt W p)
theorem slotList_length {W : List Int} {p : Nat} (h : p + 3 + slotsAt W p ≤ W.length) : (slotList W p).length = slotsAt W p := by
  unfold slotList; rw [List.length_take, List.length_drop]; omega
theorem slotList_at {W : List Int} {p k : Nat} (hk : k < slotsAt W p) : wd (slotList W p) k = wd W (p + 3 + k) := by
  unfold slotList wd
  rw [List.getD_eq_getElem?_getD, List.getElem?_take, if_pos hk, List.getElem?_drop, List.getD_eq_getElem?_getD]

abbrev Pairs := List (Int × Int)
/-- Who is given to someone. -/
def dom (P : Pairs) : List Int := P.map Prod.fst
/-- Who is given. -/
def img (P : Pairs) : List Int := P.map Prod.snd

/-- Two references are alike; two that have not been given to anyone are from now on. -/
def alikeP (W V : List Int) (P : Pairs) (x y : Int) : Bool × Pairs :=
  if thingB W x = true ∧ thingB V y = true then (if x ∈ dom P ∨ y ∈ img P then (decide ((x, y) ∈ P), P) else (true, P ++ [(x, y)])) else (decide (x = y), P)
/-- One by one, as long as it goes well. -/
def eqP (f : Pairs → Int → Int → Bool × Pairs) : Pairs → List Int → List Int → Bool × Pairs
  | P, x :: xs, y :: ys => if (f P x y).1 = true then eqP f (f P x y).2 xs ys else (false, (f P x y).2)
  | P, _, _ => (true, P)
theorem eqP_cons (f : Pairs → Int → Int → Bool × Pairs) (P : Pairs) (x y : Int) (xs ys : List Int) : eqP f P (x :: xs) (y :: ys) = if (f P x y).1 = true then eqP f (f P x y).2 xs ys else (false, (f P x y).2) := rfl
theorem eqP_nil (f : Pairs → Int → Int → Bool × Pairs) (P : Pairs) : eqP f P [] [] = (true, P) := rfl
/-- Two lists. -/
def eqF (f : Pairs → Int → Int → Bool × Pairs) (P : Pairs) (xs ys : List Int) : Bool × Pairs := if xs.length = ys.length then eqP f P xs ys else (false, P)
def sameP (P : Pairs) (x y : Int) : Bool × Pairs := (decide (x = y), P)
/-- A reference; nil if it is of a thing that has not been come to. -/
def keptP (W : List Int) (D : List Int) (x : Int) : Int := if x ∉ D ∧ thingB W x = true then 0 else x
def weakP (W V : List Int) (P : Pairs) (x y : Int) : Bool × Pairs := alikeP W V P (keptP W (dom P) x) (keptP V (img P) y)
/-- How slots of a form are held against each other. -/
def wayP (W V : List Int) (form : Int) : Pairs → Int → Int → Bool × Pairs := if form = 1 then sameP else if form = 2 then weakP W V else alikeP W V
/-- A pair is looked at: who is given then; none: they are not alike. -/
def pairStep (W V : List Int) (P : Pairs) (x y : Int) : Option Pairs :=
  if wd W (pl2 x + 1) = wd V (pl2 y + 1) ∧ formAt W (pl2 x) = formAt V (pl2 y) ∧ (alikeP W V P (wd W (pl2 x)) (wd V (pl2 y))).1 = true then
    (if formAt W (pl2 x) = 2 then some (alikeP W V P (wd W (pl2 x)) (wd V (pl2 y))).2 else
      (if (eqF (wayP W V (formAt W (pl2 x))) (alikeP W V P (wd W (pl2 x)) (wd V (pl2 y))).2 (slotList W (pl2 x)) (slotList V (pl2 y))).1 = true then
        some (eqF (wayP W V (formAt W (pl2 x))) (alikeP W V P (wd W (pl2 x)) (wd V (pl2 y))).2 (slotList W (pl2 x)) (slotList V (pl2 y))).2 else none))
  else none
/-- The pair at n. -/
def pairAt (P : Pairs) (n : Nat) : Int × Int := P.getD n (0, 0)
/-- Along the row of pairs, which grows. -/
def loopP (W V : List Int) : Nat → Pairs → Nat → Option Pairs
  | 0, P, _ => some P
  | k + 1, P, n => if n < P.length then (match pairStep W V P (pairAt P n).1 (pairAt P n).2 with | some P' => loopP W V k P' (n + 1) | none => none) else some P
/-- The slots of Weak of a pair. -/
def weakOne (W V : List Int) (P : Pairs) (z : Int × Int) : Bool := if formAt W (pl2 z.1) = 2 then (eqF (weakP W V) P (slotList W (pl2 z.1)) (slotList V (pl2 z.2))).1 else true
/-- The program's answer. -/
def holdP (W V R S : List Int) : Bool :=
  if (eqF (alikeP W V) [] R S).1 = true then (match loopP W V (W.length + 1) (eqF (alikeP W V) [] R S).2 0 with | some P => P.all (weakOne W V P) | none => false) else false

theorem mem_dom {P : Pairs} {x y : Int} (h : (x, y) ∈ P) : x ∈ dom P := List.mem_map.2 ⟨(x, y), h, rfl⟩
theorem mem_img {P : Pairs} {x y : Int} (h : (x, y) ∈ P) : y ∈ img P := List.mem_map.2 ⟨(x, y), h, rfl⟩
theorem dom_mem {P : Pairs} {x : Int} (h : x ∈ dom P) : ∃ y, (x, y) ∈ P := by obtain ⟨⟨a, b⟩, h1, rfl⟩ := List.mem_map.1 h; exact ⟨b, h1⟩
theorem img_mem {P : Pairs} {y : Int} (h : y ∈ img P) : ∃ x, (x, y) ∈ P := by obtain ⟨⟨a, b⟩, h1, rfl⟩ := List.mem_map.1 h; exact ⟨a, h1⟩

/-- What is true of pairs on the way. -/
structure Valid (W V R S : List Int) (P : Pairs) : Prop where
  one : (dom P).Nodup
  other : (img P).Nodup
  left : ∀ x ∈ dom P, Reached W R x
  right : ∀ y ∈ img P, Reached V S y
/-- Related by pairs. -/
def Rel (W V : List Int) (P : Pairs) (x y : Int) : Prop := if thingB W x = true ∧ thingB V y = true then (x, y) ∈ P else x = y
theorem Rel.mono {W V : List Int} {P P' : Pairs} {x y : Int} (h : Rel W V P x y) (hs : ∀ z ∈ P, z ∈ P') : Rel W V P' x y := by
  unfold Rel at h ⊢
  split
  · rename_i hc; rw [if_pos hc] at h; exact hs _ h
  · rename_i hc; rw [if_neg hc] at h; exact h

theorem alikeP_grows (W V : List Int) (P : Pairs) (x y : Int) : ∃ t, (alikeP W V P x y).2 = P ++ t := by
  unfold alikeP
  split
  · split
    · exact ⟨[], by simp⟩
    · exact ⟨[(x, y)], rfl⟩
  · exact ⟨[], by simp⟩
theorem alikeP_rel {W V : List Int} {P : Pairs} {x y : Int} (h : (alikeP W V P x y).1 = true) : Rel W V (alikeP W V P x y).2 x y := by
  unfold alikeP at h ⊢
  unfold Rel
  split
  · rename_i hc
    rw [if_pos hc] at h
    split
    · rename_i hd
      rw [if_pos hd] at h
      exact of_decide_eq_true h
    · simp
  · rename_i hc
    rw [if_neg hc] at h
    exact of_decide_eq_true h
theorem alikeP_valid {W V R S : List Int} {P : Pairs} {x y : Int} (hv : Valid W V R S P) (hx : thingB W x = true → Reached W R x) (hy : thingB V y = true → Reached V S y) : Valid W V R S (alikeP W V P x y).2 := by
  unfold alikeP
  split
  · rename_i hc
    split
    · exact hv
    · rename_i hd
      have e1 : dom (P ++ [(x, y)]) = dom P ++ [x] := by simp [dom]
      have e2 : img (P ++ [(x, y)]) = img P ++ [y] := by simp [img]
      refine ⟨?_, ?_, fun z hz => ?_, fun z hz => ?_⟩
      · rw [e1, List.nodup_append]
        exact ⟨hv.one, by simp, fun a ha b hb => by rw [List.mem_singleton] at hb; subst hb; exact fun e => hd (Or.inl (e ▸ ha))⟩
      · rw [e2, List.nodup_append]
        exact ⟨hv.other, by simp, fun a ha b hb => by rw [List.mem_singleton] at hb; subst hb; exact fun e => hd (Or.inr (e ▸ ha))⟩
      · rw [e1] at hz
        rcases List.mem_append.1 hz with hz | hz
        · exact hv.left z hz
        · rw [List.mem_singleton] at hz; subst hz; exact hx hc.1
      · rw [e2] at hz
        rcases List.mem_append.1 hz with hz | hz
        · exact hv.right z hz
        · rw [List.mem_singleton] at hz; subst hz; exact hy hc.2
  · exact hv

/-- Two lists, place by place. -/
def Each (r : Int → Int → Prop) (xs ys : List Int) : Prop := xs.length = ys.length ∧ ∀ k, k < xs.length → r (wd xs k) (wd ys k)
theorem each_cons {r : Int → Int → Prop} {x y : Int} {xs ys : List Int} : Each r (x :: xs) (y :: ys) ↔ r x y ∧ Each r xs ys := by
  unfold Each
  constructor
  · rintro ⟨h1, h2⟩
    exact ⟨h2 0 (by simp), by simpa using h1, fun k hk => h2 (k + 1) (by simpa using hk)⟩
  · rintro ⟨h0, h1, h2⟩
    refine ⟨by simp [h1], fun k hk => ?_⟩
    cases k with
    | zero => exact h0
    | succ k => exact h2 k (by simpa using hk)
theorem Each.mono {r r' : Int → Int → Prop} {xs ys : List Int} (h : Each r xs ys) (hr : ∀ x y, r x y → r' x y) : Each r' xs ys := ⟨h.1, fun k hk => hr _ _ (h.2 k hk)⟩

/-- alike, over two lists. -/
theorem eqP_alike {W V R S : List Int} : ∀ (xs ys : List Int) (P : Pairs), xs.length = ys.length → Valid W V R S P → (∀ x ∈ xs, thingB W x = true → Reached W R x) → (∀ y ∈ ys, thingB V y = true → Reached V S y) →
    Valid W V R S (eqP (alikeP W V) P xs ys).2 ∧ (∃ t, (eqP (alikeP W V) P xs ys).2 = P ++ t) ∧ ((eqP (alikeP W V) P xs ys).1 = true → Each (Rel W V (eqP (alikeP W V) P xs ys).2) xs ys)
  | [], [], P, _, hv, _, _ => ⟨hv, ⟨[], by simp [eqP]⟩, fun _ => ⟨rfl, fun k hk => by simp at hk⟩⟩
  | x :: xs, y :: ys, P, hl, hv, hx, hy => by
    have hv1 := alikeP_valid (x := x) (y := y) hv (hx x (by simp)) (hy y (by simp))
    obtain ⟨t1, ht1⟩ := alikeP_grows W V P x y
    rw [eqP_cons]
    split
    · rename_i h1
      obtain ⟨a, ⟨t2, ht2⟩, c⟩ := eqP_alike xs ys (alikeP W V P x y).2 (by simpa using hl) hv1 (fun z hz => hx z (by simp [hz])) (fun z hz => hy z (by simp [hz]))
      refine ⟨a, ⟨t1 ++ t2, by rw [ht2, ht1, List.append_assoc]⟩, fun h => ?_⟩
      rw [each_cons]
      refine ⟨(alikeP_rel h1).mono fun z hz => by rw [ht2]; exact List.mem_append.2 (Or.inl hz), c h⟩
    · exact ⟨hv1, ⟨t1, ht1⟩, fun h => by cases h⟩
  | [], _ :: _, _, hl, _, _, _ => by simp at hl
  | _ :: _, [], _, hl, _, _, _ => by simp at hl
theorem eqP_same : ∀ (xs ys : List Int) (P : Pairs), xs.length = ys.length → (eqP sameP P xs ys).2 = P ∧ ((eqP sameP P xs ys).1 = true ↔ Each (· = ·) xs ys)
  | [], [], P, _ => ⟨rfl, by simp [eqP, Each]⟩
  | x :: xs, y :: ys, P, hl => by
    obtain ⟨h1, h2⟩ := eqP_same xs ys P (by simpa using hl)
    rw [each_cons, ← h2, eqP_cons]
    by_cases e : x = y
    · rw [if_pos (by simp [sameP, e])]
      exact ⟨h1, by simp [e, show (sameP P y y).2 = P from rfl]⟩
    · rw [if_neg (by simp [sameP, e])]
      exact ⟨rfl, by simp [e]⟩
  | [], _ :: _, _, hl => by simp at hl
  | _ :: _, [], _, hl => by simp at hl
theorem thing_zero (W : List Int) : thingB W 0 = false := by
  unfold thingB
  have : kindOf 0 = 2 := by decide
  rw [this]; rfl
theorem kept_thing {W D : List Int} {x : Int} (h : thingB W (keptP W D x) = true) : x ∈ D ∧ keptP W D x = x := by
  unfold keptP at h ⊢
  by_cases hc : x ∉ D ∧ thingB W x = true
  · rw [if_pos hc, thing_zero] at h; cases h
  · rw [if_neg hc] at h ⊢
    exact ⟨Classical.byContradiction fun hn => hc ⟨hn, h⟩, rfl⟩
theorem weakP_same {W V : List Int} {P : Pairs} {x y : Int} : (weakP W V P x y).2 = P ∧ ((weakP W V P x y).1 = true ↔ Rel W V P (keptP W (dom P) x) (keptP V (img P) y)) := by
  unfold weakP alikeP Rel
  split
  · rename_i hc
    obtain ⟨h1, h2⟩ := kept_thing hc.1
    rw [h2, if_pos (Or.inl h1)]
    exact ⟨rfl, by simp⟩
  · exact ⟨rfl, by simp⟩
theorem eqP_weak {W V : List Int} : ∀ (xs ys : List Int) (P : Pairs), xs.length = ys.length → (eqP (weakP W V) P xs ys).2 = P ∧ ((eqP (weakP W V) P xs ys).1 = true ↔ Each (fun x y => Rel W V P (keptP W (dom P) x) (keptP V (img P) y)) xs ys)
  | [], [], P, _ => ⟨rfl, by simp [eqP, Each]⟩
  | x :: xs, y :: ys, P, hl => by
    obtain ⟨h1, h2⟩ := eqP_weak (W := W) (V := V) xs ys P (by simpa using hl)
    obtain ⟨g1, g2⟩ := weakP_same (W := W) (V := V) (P := P) (x := x) (y := y)
    rw [each_cons, ← h2, ← g2, eqP_cons, g1]
    by_cases e : (weakP W V P x y).1 = true
    · rw [if_pos e]; exact ⟨h1, by simp [e]⟩
    · rw [if_neg e]; exact ⟨rfl, by simp [e]⟩
  | [], _ :: _, _, hl => by simp at hl
  | _ :: _, [], _, hl => by simp at hl

/-! Pairs that were looked at. -/

/-- A pair whose heads, class and slots are related. -/
structure Done (W V : List Int) (P : Pairs) (x y : Int) : Prop where
  hash : wd W (pl2 x + 1) = wd V (pl2 y + 1)
  form : formAt W (pl2 x) = formAt V (pl2 y)
  cls : Rel W V P (wd W (pl2 x)) (wd V (pl2 y))
  plain : formAt W (pl2 x) ≠ 1 → formAt W (pl2 x) ≠ 2 → Each (Rel W V P) (slotList W (pl2 x)) (slotList V (pl2 y))
  bytes : formAt W (pl2 x) = 1 → Each (· = ·) (slotList W (pl2 x)) (slotList V (pl2 y))
theorem Done.mono {W V : List Int} {P P' : Pairs} {x y : Int} (h : Done W V P x y) (hs : ∀ z ∈ P, z ∈ P') : Done W V P' x y :=
  ⟨h.hash, h.form, h.cls.mono hs, fun h1 h2 => (h.plain h1 h2).mono fun _ _ hr => hr.mono hs, h.bytes⟩

theorem class_lead' (W : List Int) (p : Nat) : wd W p ∈ leadsAt W p := by simp [leadsAt]
theorem slots_lead {W : List Int} {p : Nat} (h : formAt W p = 0) {o : Int} (ho : o ∈ slotList W p) : o ∈ leadsAt W p := by
  unfold leadsAt slotList at *; rw [if_pos h]; exact List.mem_cons_of_mem _ ho
theorem lead_of {W R : List Int} {x o : Int} (hx : Reached W R x) (ho : o ∈ leadsAt W (pl2 x)) : thingB W o = true → Reached W R o := fun ht => .step hx ho ht

/-- What a step does. -/
theorem step_spec {W V R S : List Int} {P P' : Pairs} {x y : Int} (hfo : ∀ p ∈ places W 2, formAt W p = 0 ∨ formAt W p = 1 ∨ formAt W p = 2) (hv : Valid W V R S P) (hxy : (x, y) ∈ P) (h : pairStep W V P x y = some P') :
    Valid W V R S P' ∧ (∃ t, P' = P ++ t) ∧ Done W V P' x y := by
  have hx := hv.left x (mem_dom hxy)
  have hy := hv.right y (mem_img hxy)
  unfold pairStep at h
  split at h
  case isFalse => cases h
  rename_i hc
  obtain ⟨c1, c2, c3⟩ := hc
  have hv1 := alikeP_valid (x := wd W (pl2 x)) (y := wd V (pl2 y)) hv (lead_of hx (class_lead' _ _)) (lead_of hy (class_lead' _ _))
  obtain ⟨t1, ht1⟩ := alikeP_grows W V P (wd W (pl2 x)) (wd V (pl2 y))
  have hr1 := alikeP_rel c3
  generalize (alikeP W V P (wd W (pl2 x)) (wd V (pl2 y))).2 = P1 at *
  split at h
  · rename_i f2
    injection h with h; subst h
    exact ⟨hv1, ⟨t1, ht1⟩, c1, c2, hr1, fun _ h2 => absurd f2 h2, fun h1 => by rw [f2] at h1; cases h1⟩
  · rename_i f2
    split at h
    case isFalse => cases h
    rename_i he
    injection h with h; subst h
    unfold eqF at he ⊢
    split at he
    case isFalse => cases he
    rename_i hl
    rw [if_pos hl] at *
    by_cases f1 : formAt W (pl2 x) = 1
    · have ew : wayP W V (formAt W (pl2 x)) = sameP := by unfold wayP; rw [if_pos f1]
      rw [ew] at he ⊢
      obtain ⟨e1, e2⟩ := eqP_same (slotList W (pl2 x)) (slotList V (pl2 y)) P1 hl
      rw [e1]
      exact ⟨hv1, ⟨t1, ht1⟩, c1, c2, hr1, fun h1 _ => absurd f1 h1, fun _ => e2.1 he⟩
    · have ew : wayP W V (formAt W (pl2 x)) = alikeP W V := by unfold wayP; rw [if_neg f1, if_neg f2]
      rw [ew] at he ⊢
      obtain ⟨p, _, hp, _, hpe⟩ := thing_ref hx.thing
      obtain ⟨q, _, hq, _, hqe⟩ := thing_ref hy.thing
      have f0 : formAt W (pl2 x) = 0 := by
        rcases hfo p hp with h | h | h
        · unfold pl2; rw [hpe]; exact h
        · exact absurd (by unfold pl2; rw [hpe]; exact h) f1
        · exact absurd (by unfold pl2; rw [hpe]; exact h) f2
      obtain ⟨a, ⟨t2, ht2⟩, c⟩ := eqP_alike (R := R) (S := S) (slotList W (pl2 x)) (slotList V (pl2 y)) P1 hl hv1 (fun z hz => lead_of hx (slots_lead f0 hz)) (fun z hz => lead_of hy (slots_lead (c2 ▸ f0) hz))
      refine ⟨a, ⟨t1 ++ t2, by rw [ht2, ht1, List.append_assoc]⟩, c1, c2, hr1.mono fun z hz => by rw [ht2]; exact List.mem_append.2 (Or.inl hz), fun _ _ => c he, fun h1 => absurd h1 f1⟩

/-- How far the pairs have been looked at. -/
structure Looked (W V R S : List Int) (P : Pairs) (n : Nat) : Prop where
  valid : Valid W V R S P
  rooted : Each (Rel W V P) R S
  done : ∀ i, i < n → Done W V P (pairAt P i).1 (pairAt P i).2
  le : n ≤ P.length
theorem pair_mem {P : Pairs} {n : Nat} (h : n < P.length) : ((pairAt P n).1, (pairAt P n).2) ∈ P := by
  unfold pairAt; rw [List.getD_eq_getElem?_getD, List.getElem?_eq_getElem h]; exact List.getElem_mem h
theorem pair_left {P t : Pairs} {n : Nat} (h : n < P.length) : pairAt (P ++ t) n = pairAt P n := by
  unfold pairAt; rw [List.getD_eq_getElem?_getD, List.getD_eq_getElem?_getD, List.getElem?_append_left h]
theorem Looked.next {W V R S : List Int} {P P' : Pairs} {n : Nat} (hfo : ∀ p ∈ places W 2, formAt W p = 0 ∨ formAt W p = 1 ∨ formAt W p = 2) (h : Looked W V R S P n) (hn : n < P.length) (hs : pairStep W V P (pairAt P n).1 (pairAt P n).2 = some P') : Looked W V R S P' (n + 1) := by
  obtain ⟨hv, ⟨t, ht⟩, hd⟩ := step_spec hfo h.valid (pair_mem hn) hs
  have hsub : ∀ z ∈ P, z ∈ P' := fun z hz => by rw [ht]; exact List.mem_append.2 (Or.inl hz)
  refine ⟨hv, h.rooted.mono fun _ _ hr => hr.mono hsub, fun i hi => ?_, by rw [ht, List.length_append]; omega⟩
  rw [ht, pair_left (by omega)]
  by_cases e : i = n
  · subst e; rw [← ht]; exact hd
  · rw [← ht]; exact (h.done i (by omega)).mono hsub
theorem Valid.short {W V R S : List Int} {P : Pairs} (h : Valid W V R S P) : P.length ≤ W.length := by
  have := short_of h.one h.left
  simpa [dom] using this
theorem loop_spec {W V R S : List Int} (hfo : ∀ p ∈ places W 2, formAt W p = 0 ∨ formAt W p = 1 ∨ formAt W p = 2) : ∀ (k : Nat) (P : Pairs) (n : Nat), W.length + 1 ≤ k + n → Looked W V R S P n → ∀ P', loopP W V k P n = some P' → Looked W V R S P' P'.length
  | 0, P, n, hk, hL, P', h => by
    have := hL.valid.short; have := hL.le; omega
  | k + 1, P, n, hk, hL, P', h => by
    unfold loopP at h
    split at h
    · rename_i hn
      cases hs : pairStep W V P (pairAt P n).1 (pairAt P n).2 with
      | none => rw [hs] at h; cases h
      | some P1 =>
        rw [hs] at h
        exact loop_spec hfo k P1 (n + 1) (by omega) (hL.next hfo hn hs) P' h
    · injection h with h; subst h
      have hle := hL.le
      have : n = P.length := by omega
      subst this; exact hL

end Go.Proofs.Ythdhaokjibfjdaa

/- Two heaps that are alike: the program's answer is the document's. No Go in sight. -/
namespace Go.Proofs.Ythdhaokjibfjdaa

/-- A reference of a heap. -/
def okRef (W : List Int) (o : Int) : Prop := (kindOf o == 1 || nilB W o) = true
theorem ok_thing {W : List Int} {o : Int} (h : okRef W o) (hk : kindOf o = 3) : thingB W o = true := by
  unfold okRef nilB at h
  rw [hk] at h
  simpa using h
theorem thing_kind {W : List Int} {o : Int} (h : thingB W o = true) : kindOf o = 3 := (thing_out h).1

/-- A heap that may be: what is known of its things. -/
structure Fine (W : List Int) : Prop where
  few : W.length ≤ 2000
  fit : unfit W 2 = none
  cls : ∀ p ∈ places W 2, okRef W (wd W p)
  slot : ∀ p ∈ places W 2, formAt W p ≠ 1 → ∀ k, k < slotsAt W p → okRef W (wd W (p + 3 + k))
  apart : ∀ p ∈ places W 2, ∀ q ∈ places W 2, wd W (p + 1) = wd W (q + 1) → p = q
  room : ∀ p ∈ places W 2, p + 3 + slotsAt W p ≤ W.length
  shape : ∀ p ∈ places W 2, wd W (p + 2) = 4 * (slotsAt W p : Int) + formAt W p
  form : ∀ p ∈ places W 2, formAt W p = 0 ∨ formAt W p = 1 ∨ formAt W p = 2
theorem places_nodup {W : List Int} : ∀ (n p : Nat), W.length - p ≤ n → (places W p).Nodup
  | 0, p, hn => by rw [places_end (by omega)]; exact List.nodup_nil
  | n + 1, p, hn => by
    by_cases h : p < W.length
    · rw [places_in h, List.nodup_cons]
      exact ⟨fun hm => by have := (place_ge hm).1; simp [nextAt] at this; omega, places_nodup n _ (by simp [nextAt]; omega)⟩
    · rw [places_end h]; exact List.nodup_nil
theorem fine_of {W : List Int} (h : (checkOf W).1 = 0) : Fine W := by
  obtain ⟨c1, c2, c3⟩ := check_fine h
  obtain ⟨f1, f2, _⟩ := front_out c1
  have hA := fault_all _ _ c3
  refine ⟨f2, c2, fun p hp => ?_, fun p hp hf k hk => ?_, fun p hp q hq e => fault_apart _ _ c3 (places_nodup _ 2 (Nat.le_refl _)) p hp q hq e, fun p hp => (fits_out (place_fit c2 hp).2.2.1).2.2.2.2, fun p hp => ?_, fun p hp => ?_⟩
  · unfold okRef; rw [(hA p hp).1]; simp
  · have := (bad_none _ _).1 (hA p hp).2.1 k hk
    unfold standB at this
    rw [if_neg hf] at this; exact this
  · have := fits_out (place_fit c2 hp).2.2.1
    unfold slotsAt formAt; omega
  · have := fits_out (place_fit c2 hp).2.2.1
    unfold formAt; omega

theorem reached_place {W R : List Int} {x : Int} (h : Reached W R x) : pl2 x ∈ places W 2 ∧ x = 2 * (pl2 x : Int) := by
  obtain ⟨p, hx, hm, _, he⟩ := thing_ref h.thing
  unfold pl2; rw [he]; exact ⟨hm, hx⟩
theorem Fine.lead {W R : List Int} (hW : Fine W) {x o : Int} (hx : Reached W R x) (ho : o ∈ leadsAt W (pl2 x)) : okRef W o := by
  have hp := (reached_place hx).1
  unfold leadsAt at ho
  rcases List.mem_cons.1 ho with rfl | ho
  · exact hW.cls _ hp
  · split at ho
    · rename_i f0
      obtain ⟨k, hk, e⟩ := List.getElem_of_mem ho
      have hk' : k < slotsAt W (pl2 x) := by rw [List.length_take, List.length_drop] at hk; omega
      have := hW.slot _ hp (by omega) k hk'
      rw [← slotList_at hk'] at this
      have e2 : wd (slotList W (pl2 x)) k = o := by
        unfold wd slotList; rw [List.getD_eq_getElem?_getD, List.getElem?_eq_getElem hk, e]; rfl
      rwa [e2] at this
    · cases ho
theorem Fine.one {W R : List Int} (hW : Fine W) {x x' : Int} (hx : Reached W R x) (hx' : Reached W R x') (h : wd W (pl2 x + 1) = wd W (pl2 x' + 1)) : x = x' := by
  obtain ⟨h1, e1⟩ := reached_place hx
  obtain ⟨h2, e2⟩ := reached_place hx'
  rw [e1, e2, hW.apart _ h1 _ h2 h]

theorem rel_left {W V : List Int} {P : Pairs} {x y : Int} (h : Rel W V P x y) (hy : okRef V y) (ht : thingB W x = true) : x ∈ dom P := by
  unfold Rel at h
  split at h
  · exact mem_dom h
  · rename_i hc
    subst h
    exact absurd ⟨ht, ok_thing hy (thing_kind ht)⟩ hc
theorem rel_right {W V : List Int} {P : Pairs} {x y : Int} (h : Rel W V P x y) (hx : okRef W x) (ht : thingB V y = true) : y ∈ img P := by
  unfold Rel at h
  split at h
  · exact mem_img h
  · rename_i hc
    subst h
    exact absurd ⟨ok_thing hx (thing_kind ht), ht⟩ hc
theorem pair_index {P : Pairs} {x y : Int} (h : (x, y) ∈ P) : ∃ i, i < P.length ∧ pairAt P i = (x, y) := by
  obtain ⟨i, hi, e⟩ := List.getElem_of_mem h
  exact ⟨i, hi, by unfold pairAt; rw [List.getD_eq_getElem?_getD, List.getElem?_eq_getElem hi, e]; rfl⟩
theorem Looked.at {W V R S : List Int} {P : Pairs} (h : Looked W V R S P P.length) {x y : Int} (hm : (x, y) ∈ P) : Done W V P x y := by
  obtain ⟨i, hi, e⟩ := pair_index hm
  have := h.done i hi
  rw [e] at this; exact this
theorem wd_index {xs : List Int} {o : Int} (h : o ∈ xs) : ∃ i, i < xs.length ∧ wd xs i = o := by
  obtain ⟨i, hi, e⟩ := List.getElem_of_mem h
  exact ⟨i, hi, by unfold wd; rw [List.getD_eq_getElem?_getD, List.getElem?_eq_getElem hi, e]; rfl⟩
theorem leads_cases {W : List Int} {p : Nat} {o : Int} (h : o ∈ leadsAt W p) : o = wd W p ∨ (formAt W p = 0 ∧ o ∈ slotList W p) := by
  unfold leadsAt at h
  rcases List.mem_cons.1 h with h | h
  · exact Or.inl h
  · split at h
    · exact Or.inr ⟨by assumption, h⟩
    · cases h

/-- In the end who is given is who is reached. -/
theorem Looked.all_left {W V R S : List Int} {P : Pairs} (hV : Fine V) (hS : ∀ y ∈ S, okRef V y) (h : Looked W V R S P P.length) {x : Int} (hx : Reached W R x) : x ∈ dom P := by
  induction hx with
  | root ho ht =>
    obtain ⟨i, hi, rfl⟩ := wd_index ho
    exact rel_left (h.rooted.2 i hi) (hS _ (wd_mem (by have := h.rooted.1; omega))) ht
  | @step x o hx ho ht ih =>
    obtain ⟨y, hy⟩ := dom_mem ih
    have hd := h.at hy
    have hyr := h.valid.right y (mem_img hy)
    rcases leads_cases ho with rfl | ⟨f0, ho⟩
    · exact rel_left hd.cls (hV.lead hyr (class_lead' _ _)) ht
    · obtain ⟨k, hk, rfl⟩ := wd_index ho
      have hE := hd.plain (by show formAt W (pl2 x) ≠ 1; unfold pl2; rw [f0]; decide) (by show formAt W (pl2 x) ≠ 2; unfold pl2; rw [f0]; decide)
      exact rel_left (hE.2 k hk) (hV.lead hyr (slots_lead (by rw [← hd.form]; exact f0) (wd_mem (by have := hE.1; unfold pl2 at this ⊢; omega)))) ht
theorem Looked.all_right {W V R S : List Int} {P : Pairs} (hW : Fine W) (hR : ∀ x ∈ R, okRef W x) (h : Looked W V R S P P.length) {y : Int} (hy : Reached V S y) : y ∈ img P := by
  induction hy with
  | root ho ht =>
    obtain ⟨i, hi, rfl⟩ := wd_index ho
    exact rel_right (h.rooted.2 i (by have := h.rooted.1; omega)) (hR _ (wd_mem (by have := h.rooted.1; omega))) ht
  | @step y o hy ho ht ih =>
    obtain ⟨x, hx⟩ := img_mem ih
    have hd := h.at hx
    have hxr := h.valid.left x (mem_dom hx)
    rcases leads_cases ho with rfl | ⟨f0, ho⟩
    · exact rel_right hd.cls (hW.lead hxr (class_lead' _ _)) ht
    · have f0' : formAt W (pl2 x) = 0 := by rw [hd.form]; exact f0
      obtain ⟨k, hk, rfl⟩ := wd_index ho
      have hE := hd.plain (by rw [f0']; decide) (by rw [f0']; decide)
      have hk' : k < (slotList W (pl2 x)).length := by have := hE.1; unfold pl2 at this ⊢; omega
      exact rel_right (hE.2 k hk') (hW.lead hxr (slots_lead f0' (wd_mem hk'))) ht

/-! The document's way. -/

/-- Marks that tell what is reached. -/
def Tells (W R : List Int) (A : List Bool) : Prop := A.length = W.length ∧ ∀ k, bt A k = true ↔ Reached W R (2 * (k : Int))
theorem Tells.at {W R : List Int} {A : List Bool} (h : Tells W R A) {x : Int} (hx : kindOf x = 3) : bt A (pl2 x) = true ↔ Reached W R x := by
  have := kind3 hx
  rw [h.2 (pl2 x), show 2 * (pl2 x : Int) = x by unfold pl2; omega]

def sameB (W : List Int) (A : List Bool) (V : List Int) (B : List Bool) (o q : Int) : Bool :=
  if kindOf o = 3 ∧ kindOf q = 3 then bt A (pl2 o) && bt B (pl2 q) && (wd W (pl2 o + 1) == wd V (pl2 q + 1)) else o == q
def weakB (A : List Bool) (x : Int) : Int := if kindOf x = 3 ∧ bt A (pl2 x) = false then 0 else x
def slotB (W : List Int) (A : List Bool) (V : List Int) (B : List Bool) (form x y : Int) : Bool :=
  if form = 1 then x == y else if form = 2 then sameB W A V B (weakB A x) (weakB B y) else sameB W A V B x y
def slotsB (W : List Int) (A : List Bool) (V : List Int) (B : List Bool) (p q k : Nat) : Nat → Bool
  | 0 => true
  | n + 1 => if slotB W A V B (formAt W p) (wd W (p + 3 + k)) (wd V (q + 3 + k)) = true then slotsB W A V B p q (k + 1) n else false
def thingsB (W : List Int) (A : List Bool) (V : List Int) (B : List Bool) (p q : Nat) : Bool :=
  if wd W (p + 2) = wd V (q + 2) then (if sameB W A V B (wd W p) (wd V q) = true then slotsB W A V B p q 0 (slotsAt W p) else false) else false
def hashedB (V : List Int) (B : List Bool) (h : Int) (k : Nat) : Nat → Option Nat
  | 0 => none
  | n + 1 => if bt B k = true ∧ wd V (k + 1) = h then some k else hashedB V B h (k + 1) n
def rootsB (W : List Int) (A : List Bool) (V : List Int) (B : List Bool) (R S : List Int) (k : Nat) : Nat → Bool
  | 0 => true
  | n + 1 => if sameB W A V B (wd R k) (wd S k) = true then rootsB W A V B R S (k + 1) n else false
def eachB (W : List Int) (A : List Bool) (V : List Int) (B : List Bool) (k : Nat) : Nat → Bool
  | 0 => true
  | n + 1 => if bt A k = true then (match hashedB V B (wd W (k + 1)) 0 V.length with | none => false | some q => if thingsB W A V B k q = true then eachB W A V B (k + 1) n else false) else eachB W A V B (k + 1) n
theorem eachB_succ (W : List Int) (A : List Bool) (V : List Int) (B : List Bool) (k n : Nat) : eachB W A V B k (n + 1) = if bt A k = true then (match hashedB V B (wd W (k + 1)) 0 V.length with | none => false | some q => if thingsB W A V B k q = true then eachB W A V B (k + 1) n else false) else eachB W A V B (k + 1) n := rfl
def refB (W : List Int) (A : List Bool) (V : List Int) (B : List Bool) (R S : List Int) : Bool :=
  if R.length = S.length then (if marks A = marks B then (if rootsB W A V B R S 0 R.length = true then eachB W A V B 0 W.length else false) else false) else false

theorem slotsB_iff {W : List Int} {A : List Bool} {V : List Int} {B : List Bool} {p q : Nat} : ∀ (n k : Nat), slotsB W A V B p q k n = true ↔ ∀ j, j < n → slotB W A V B (formAt W p) (wd W (p + 3 + (k + j))) (wd V (q + 3 + (k + j))) = true
  | 0, k => by simp [slotsB]
  | n + 1, k => by
    unfold slotsB
    split
    · rename_i h
      rw [slotsB_iff n (k + 1)]
      constructor
      · intro g j hj
        cases j with
        | zero => exact h
        | succ j => have := g j (by omega); rwa [show k + 1 + j = k + (j + 1) by omega] at this
      · intro g j hj
        have := g (j + 1) (by omega); rwa [show k + (j + 1) = k + 1 + j by omega] at this
    · rename_i h
      exact ⟨fun g => (by cases g), fun g => absurd (g 0 (by omega)) h⟩
theorem rootsB_iff {W : List Int} {A : List Bool} {V : List Int} {B : List Bool} {R S : List Int} : ∀ (n k : Nat), rootsB W A V B R S k n = true ↔ ∀ j, j < n → sameB W A V B (wd R (k + j)) (wd S (k + j)) = true
  | 0, k => by simp [rootsB]
  | n + 1, k => by
    unfold rootsB
    split
    · rename_i h
      rw [rootsB_iff n (k + 1)]
      constructor
      · intro g j hj
        cases j with
        | zero => exact h
        | succ j => have := g j (by omega); rwa [show k + 1 + j = k + (j + 1) by omega] at this
      · intro g j hj
        have := g (j + 1) (by omega); rwa [show k + (j + 1) = k + 1 + j by omega] at this
    · rename_i h
      exact ⟨fun g => (by cases g), fun g => absurd (g 0 (by omega)) h⟩
theorem eachB_iff {W : List Int} {A : List Bool} {V : List Int} {B : List Bool} : ∀ (n k : Nat), eachB W A V B k n = true ↔ ∀ j, j < n → bt A (k + j) = true → ∃ q, hashedB V B (wd W (k + j + 1)) 0 V.length = some q ∧ thingsB W A V B (k + j) q = true
  | 0, k => by simp [eachB]
  | n + 1, k => by
    have ih := eachB_iff (W := W) (A := A) (V := V) (B := B) n (k + 1)
    have split' : (∀ j, j < n + 1 → bt A (k + j) = true → ∃ q, hashedB V B (wd W (k + j + 1)) 0 V.length = some q ∧ thingsB W A V B (k + j) q = true) ↔
        (bt A k = true → ∃ q, hashedB V B (wd W (k + 1)) 0 V.length = some q ∧ thingsB W A V B k q = true) ∧ eachB W A V B (k + 1) n = true := by
      rw [ih]
      constructor
      · intro g
        refine ⟨g 0 (by omega), fun j hj => ?_⟩
        have := g (j + 1) (by omega); rwa [show k + (j + 1) = k + 1 + j by omega] at this
      · rintro ⟨g0, g⟩ j hj
        cases j with
        | zero => exact g0
        | succ j => have := g j (by omega); rwa [show k + 1 + j = k + (j + 1) by omega] at this
    rw [split', eachB_succ]
    split
    · rename_i hb
      cases hh : hashedB V B (wd W (k + 1)) 0 V.length with
      | none => simp [hb]
      | some q =>
        simp only [hb, true_implies]
        constructor
        · intro g
          split at g
          · rename_i ht; exact ⟨⟨q, rfl, ht⟩, g⟩
          · cases g
        · rintro ⟨⟨q', e, ht⟩, g⟩
          injection e with e; subst e
          rw [if_pos ht]; exact g
    · rename_i hb
      simp [hb]
theorem hashedB_some {V : List Int} {B : List Bool} {h : Int} : ∀ (n k : Nat) {q : Nat}, hashedB V B h k n = some q → bt B q = true ∧ wd V (q + 1) = h
  | 0, k, q, e => by cases e
  | n + 1, k, q, e => by
    unfold hashedB at e
    split at e
    · rename_i hc; injection e with e; subst e; exact hc
    · exact hashedB_some n (k + 1) e
theorem hashedB_ex {V : List Int} {B : List Bool} {h : Int} : ∀ (n k : Nat) {q : Nat}, k ≤ q → q < k + n → bt B q = true → wd V (q + 1) = h → ∃ q', hashedB V B h k n = some q'
  | 0, k, q, h1, h2, _, _ => by omega
  | n + 1, k, q, h1, h2, h3, h4 => by
    unfold hashedB
    split
    · exact ⟨k, rfl⟩
    · rename_i hc
      have hne : q ≠ k := fun e => hc (by rw [← e]; exact ⟨h3, h4⟩)
      exact hashedB_ex n (k + 1) (by omega) (by omega) h3 h4

theorem count_take (A : List Bool) : ∀ n, n ≤ A.length → (markedRefs A n).length = (A.take n).count true
  | 0, _ => by simp [markedRefs]
  | n + 1, h => by
    have ih := count_take A n (by omega)
    have hb : bt A n = A[n] := by unfold bt; rw [List.getD_eq_getElem?_getD, List.getElem?_eq_getElem (by omega)]; rfl
    rw [List.take_succ_eq_append_getElem (by omega), List.count_append, ← ih, ← hb]
    cases hv : bt A n with
    | true => rw [marked_yes hv]; simp
    | false => rw [marked_no hv]; simp
theorem Tells.marks {W R : List Int} {A : List Bool} (h : Tells W R A) : marks A = (reachList W R).length := by
  rw [← marked_all h.2, ← h.1, count_take A A.length (Nat.le_refl _), List.take_length]; rfl

/-- All that is said of two heaps and their roots. -/
structure Two (W V R S : List Int) (A B : List Bool) : Prop where
  one : Fine W
  other : Fine V
  roots : ∀ x ∈ R, okRef W x
  others : ∀ y ∈ S, okRef V y
  tellsA : Tells W R A
  tellsB : Tells V S B

/-- What is alike by hashes is, said of what is reached. -/
theorem Two.same {W V R S : List Int} {A B : List Bool} (T : Two W V R S A B) {x y : Int} (hx : okRef W x) (hy : okRef V y) :
    sameB W A V B x y = true ↔ (if thingB W x = true ∧ thingB V y = true then Reached W R x ∧ Reached V S y ∧ wd W (pl2 x + 1) = wd V (pl2 y + 1) else x = y) := by
  unfold sameB
  by_cases hk : kindOf x = 3 ∧ kindOf y = 3
  · rw [if_pos hk, if_pos ⟨ok_thing hx hk.1, ok_thing hy hk.2⟩, ← T.tellsA.at hk.1, ← T.tellsB.at hk.2]
    simp [and_assoc]
  · rw [if_neg hk, if_neg (fun h => hk ⟨thing_kind h.1, thing_kind h.2⟩)]
    simp
/-- Related by pairs that are all looked at: alike by hashes. -/
theorem Two.rel_same {W V R S : List Int} {A B : List Bool} (T : Two W V R S A B) {P : Pairs} (h : Looked W V R S P P.length) {x y : Int} (hx : okRef W x) (hy : okRef V y) (hr : Rel W V P x y) : sameB W A V B x y = true := by
  rw [T.same hx hy]
  unfold Rel at hr
  split
  · rename_i hc
    rw [if_pos hc] at hr
    exact ⟨h.valid.left x (mem_dom hr), h.valid.right y (mem_img hr), (h.at hr).hash⟩
  · rename_i hc
    rw [if_neg hc] at hr; exact hr
theorem ok_zero (W : List Int) : okRef W 0 := by
  unfold okRef nilB
  have : kindOf 0 = 2 := by decide
  rw [this]; rfl
theorem Two.kept_left {W V R S : List Int} {A B : List Bool} (T : Two W V R S A B) {P : Pairs} (h : Looked W V R S P P.length) {x : Int} (hx : okRef W x) : keptP W (dom P) x = weakB A x ∧ okRef W (weakB A x) := by
  have e : (x ∉ dom P ∧ thingB W x = true) ↔ (kindOf x = 3 ∧ bt A (pl2 x) = false) := by
    constructor
    · rintro ⟨h1, h2⟩
      have hk := thing_kind h2
      refine ⟨hk, Bool.eq_false_iff.2 fun hb => h1 (h.all_left T.other T.others ((T.tellsA.at hk).1 hb))⟩
    · rintro ⟨h1, h2⟩
      refine ⟨fun hm => ?_, ok_thing hx h1⟩
      rw [(T.tellsA.at h1).2 (h.valid.left x hm)] at h2; cases h2
  unfold keptP weakB
  by_cases hc : kindOf x = 3 ∧ bt A (pl2 x) = false
  · rw [if_pos hc, if_pos (e.2 hc)]; exact ⟨rfl, ok_zero W⟩
  · rw [if_neg hc, if_neg (fun h => hc (e.1 h))]; exact ⟨rfl, hx⟩
theorem Two.kept_right {W V R S : List Int} {A B : List Bool} (T : Two W V R S A B) {P : Pairs} (h : Looked W V R S P P.length) {y : Int} (hy : okRef V y) : keptP V (img P) y = weakB B y ∧ okRef V (weakB B y) := by
  have e : (y ∉ img P ∧ thingB V y = true) ↔ (kindOf y = 3 ∧ bt B (pl2 y) = false) := by
    constructor
    · rintro ⟨h1, h2⟩
      have hk := thing_kind h2
      refine ⟨hk, Bool.eq_false_iff.2 fun hb => h1 (h.all_right T.one T.roots ((T.tellsB.at hk).1 hb))⟩
    · rintro ⟨h1, h2⟩
      refine ⟨fun hm => ?_, ok_thing hy h1⟩
      rw [(T.tellsB.at h1).2 (h.valid.right y hm)] at h2; cases h2
  unfold keptP weakB
  by_cases hc : kindOf y = 3 ∧ bt B (pl2 y) = false
  · rw [if_pos hc, if_pos (e.2 hc)]; exact ⟨rfl, ok_zero V⟩
  · rw [if_neg hc, if_neg (fun h => hc (e.1 h))]; exact ⟨rfl, hy⟩

theorem Two.slots_eq {W V R S : List Int} {A B : List Bool} (T : Two W V R S A B) {p q : Nat} (hp : p ∈ places W 2) (hq : q ∈ places V 2) (hf : formAt W p = formAt V q) : wd W (p + 2) = wd V (q + 2) ↔ (slotList W p).length = (slotList V q).length := by
  rw [T.one.shape p hp, T.other.shape q hq, hf, slotList_length (T.one.room p hp), slotList_length (T.other.room q hq)]
  omega

/-- What the program finds, the document says. -/
theorem Two.hold_ref {W V R S : List Int} {A B : List Bool} (T : Two W V R S A B) (h : holdP W V R S = true) : refB W A V B R S = true := by
  unfold holdP at h
  split at h
  case isFalse => cases h
  rename_i h1
  have hRS : R.length = S.length := by
    unfold eqF at h1; split at h1
    · assumption
    · cases h1
  unfold eqF at h1 h
  rw [if_pos hRS] at h1 h
  have hv0 : Valid W V R S [] := ⟨by simp [dom], by simp [img], fun x hx => by simp [dom] at hx, fun x hx => by simp [img] at hx⟩
  obtain ⟨a1, _, a3⟩ := eqP_alike (R := R) (S := S) R S [] hRS hv0 (fun x hx ht => .root hx ht) (fun y hy ht => .root hy ht)
  have hL0 : Looked W V R S (eqP (alikeP W V) [] R S).2 0 := ⟨a1, a3 h1, fun i hi => by omega, Nat.zero_le _⟩
  cases hl : loopP W V (W.length + 1) (eqP (alikeP W V) [] R S).2 0 with
  | none => rw [hl] at h; cases h
  | some P =>
    rw [hl] at h
    have hL := loop_spec T.one.form _ _ _ (by omega) hL0 P hl
    have hw : ∀ z ∈ P, weakOne W V P z = true := List.all_eq_true.1 h
    have hdom : ∀ x, x ∈ dom P ↔ Reached W R x := fun x => ⟨hL.valid.left x, hL.all_left T.other T.others⟩
    have himg : ∀ y, y ∈ img P ↔ Reached V S y := fun y => ⟨hL.valid.right y, hL.all_right T.one T.roots⟩
    have hmk : marks A = marks B := by
      rw [T.tellsA.marks, T.tellsB.marks]
      have e1 := ((List.perm_ext_iff_of_nodup hL.valid.one (reach_nodup W R)).2 fun o => by rw [hdom o, mem_reach]).length_eq
      have e2 := ((List.perm_ext_iff_of_nodup hL.valid.other (reach_nodup V S)).2 fun o => by rw [himg o, mem_reach]).length_eq
      rw [← e1, ← e2]; simp [dom, img]
    unfold refB
    rw [if_pos hRS, if_pos hmk, if_pos]
    · rw [eachB_iff]
      intro j hj hb
      rw [Nat.zero_add] at hb ⊢
      have hjr := (T.tellsA.2 j).1 hb
      obtain ⟨y, hy⟩ := dom_mem ((hdom _).2 hjr)
      have hd := hL.at hy
      have hyr := (himg y).1 (mem_img hy)
      obtain ⟨hyp, hye⟩ := reached_place hyr
      obtain ⟨hjp, _⟩ := reached_place hjr
      have pj : pl2 (2 * (j : Int)) = j := by unfold pl2; omega
      rw [pj] at hjp
      have hbq : bt B (pl2 y) = true := (T.tellsB.2 _).2 (by rw [← hye]; exact hyr)
      have hql := (place_ge hyp).2
      obtain ⟨q', hq'⟩ := hashedB_ex (V := V) (B := B) (h := wd W (j + 1)) V.length 0 (q := pl2 y) (Nat.zero_le _) (by omega) hbq (by have := hd.hash; rw [pj] at this; exact this.symm)
      obtain ⟨b1, b2⟩ := hashedB_some _ _ hq'
      have hq'r := (T.tellsB.2 q').1 b1
      obtain ⟨hq'p, _⟩ := reached_place hq'r
      have pq : pl2 (2 * (q' : Int)) = q' := by unfold pl2; omega
      rw [pq] at hq'p
      have hqe : q' = pl2 y := T.other.apart q' hq'p (pl2 y) hyp (by rw [b2]; have := hd.hash; rw [pj] at this; exact this)
      subst hqe
      refine ⟨_, hq', ?_⟩
      have hform : formAt W j = formAt V (pl2 y) := by have := hd.form; rwa [pj] at this
      have hcls := hd.cls
      rw [pj] at hcls
      have hone := T.one.slot j hjp
      have hoth := T.other.slot (pl2 y) hyp
      have weak := hw _ hy
      unfold weakOne at weak
      simp only [pj] at weak
      have hlen : (slotList W j).length = (slotList V (pl2 y)).length := by
        rcases T.one.form j hjp with f | f | f
        · have := (hd.plain (by rw [pj, f]; decide) (by rw [pj, f]; decide)).1; rwa [pj] at this
        · have := (hd.bytes (by rw [pj, f])).1; rwa [pj] at this
        · rw [if_pos f] at weak
          unfold eqF at weak
          split at weak
          · assumption
          · cases weak
      have l1 := slotList_length (T.one.room j hjp)
      have l2 := slotList_length (T.other.room _ hyp)
      unfold thingsB
      rw [if_pos ((T.slots_eq hjp hyp hform).2 hlen), if_pos (T.rel_same hL (T.one.cls j hjp) (T.other.cls _ hyp) hcls), slotsB_iff]
      intro k hk
      rw [Nat.zero_add]
      have s1 := slotList_at (W := W) (p := j) (k := k) (by omega)
      have s2 := slotList_at (W := V) (p := pl2 y) (k := k) (by omega)
      rw [← s1, ← s2]
      unfold slotB
      rcases T.one.form j hjp with f | f | f
      · have := (hd.plain (by rw [pj, f]; decide) (by rw [pj, f]; decide)).2 k (by rw [pj]; omega)
        rw [pj] at this
        rw [if_neg (by rw [f]; decide), if_neg (by rw [f]; decide)]
        exact T.rel_same hL (by rw [s1]; exact hone (by rw [f]; decide) k (by omega)) (by rw [s2]; exact hoth (by rw [← hform, f]; decide) k (by omega)) this
      · have := (hd.bytes (by rw [pj, f])).2 k (by rw [pj]; omega)
        rw [pj] at this
        rw [if_pos f]; simpa using this
      · rw [if_neg (by rw [f]; decide), if_pos f]
        rw [if_pos f] at weak
        unfold eqF at weak
        rw [if_pos hlen] at weak
        have := ((eqP_weak (W := W) (V := V) (slotList W j) (slotList V (pl2 y)) P hlen).2.1 weak).2 k (by omega)
        have o1 : okRef W (wd (slotList W j) k) := by rw [s1]; exact hone (by rw [f]; decide) k (by omega)
        have o2 : okRef V (wd (slotList V (pl2 y)) k) := by rw [s2]; exact hoth (by rw [← hform, f]; decide) k (by omega)
        obtain ⟨k1, k2⟩ := T.kept_left hL o1
        obtain ⟨k3, k4⟩ := T.kept_right hL o2
        dsimp only at this
        rw [k1, k3] at this
        exact T.rel_same hL k2 k4 this
    · rw [rootsB_iff]
      intro j hj
      rw [Nat.zero_add]
      exact T.rel_same hL (T.roots _ (wd_mem hj)) (T.others _ (wd_mem (by omega))) (hL.rooted.2 j hj)

/-- Pairs of things with one hash. -/
structure Cons (W V R S : List Int) (P : Pairs) : Prop where
  valid : Valid W V R S P
  hash : ∀ x y, (x, y) ∈ P → wd W (pl2 x + 1) = wd V (pl2 y + 1)
theorem Two.mem_of {W V R S : List Int} {A B : List Bool} (T : Two W V R S A B) {P : Pairs} (h : Cons W V R S P) {x y : Int} (hx : Reached W R x) (hy : Reached V S y) (he : wd W (pl2 x + 1) = wd V (pl2 y + 1)) (hd : x ∈ dom P ∨ y ∈ img P) : (x, y) ∈ P := by
  rcases hd with hd | hd
  · obtain ⟨y', hm⟩ := dom_mem hd
    have : y' = y := T.other.one (h.valid.right y' (mem_img hm)) hy (by rw [← h.hash x y' hm]; exact he)
    subst this; exact hm
  · obtain ⟨x', hm⟩ := img_mem hd
    have : x' = x := T.one.one (h.valid.left x' (mem_dom hm)) hx (by rw [h.hash x' y hm]; exact he.symm)
    subst this; exact hm
theorem Two.alike_true {W V R S : List Int} {A B : List Bool} (T : Two W V R S A B) {P : Pairs} (h : Cons W V R S P) {x y : Int} (hx : okRef W x) (hy : okRef V y) (hs : sameB W A V B x y = true) : (alikeP W V P x y).1 = true ∧ Cons W V R S (alikeP W V P x y).2 := by
  rw [T.same hx hy] at hs
  have hval : thingB W x = true ∧ thingB V y = true → Valid W V R S (alikeP W V P x y).2 := fun hc => by
    rw [if_pos hc] at hs
    exact alikeP_valid h.valid (fun _ => hs.1) (fun _ => hs.2.1)
  unfold alikeP at hval ⊢
  by_cases hc : thingB W x = true ∧ thingB V y = true
  · have hval := hval hc
    rw [if_pos hc] at hs hval ⊢
    by_cases hd : x ∈ dom P ∨ y ∈ img P
    · rw [if_pos hd]
      exact ⟨decide_eq_true (T.mem_of h hs.1 hs.2.1 hs.2.2 hd), h⟩
    · rw [if_neg hd] at hval ⊢
      refine ⟨rfl, hval, fun a b hm => ?_⟩
      rcases List.mem_append.1 hm with hm | hm
      · exact h.hash a b hm
      · rw [List.mem_singleton] at hm; injection hm with e1 e2; subst e1 e2; exact hs.2.2
  · rw [if_neg hc] at hs ⊢
    exact ⟨decide_eq_true hs, h⟩
theorem Two.eqP_true {W V R S : List Int} {A B : List Bool} (T : Two W V R S A B) : ∀ (xs ys : List Int) (P : Pairs), Cons W V R S P → (∀ x ∈ xs, okRef W x) → (∀ y ∈ ys, okRef V y) → Each (fun x y => sameB W A V B x y = true) xs ys →
    (eqP (alikeP W V) P xs ys).1 = true ∧ Cons W V R S (eqP (alikeP W V) P xs ys).2
  | [], [], P, h, _, _, _ => ⟨rfl, h⟩
  | x :: xs, y :: ys, P, h, hx, hy, hE => by
    rw [each_cons] at hE
    obtain ⟨h1, h2⟩ := T.alike_true h (hx x (by simp)) (hy y (by simp)) hE.1
    rw [eqP_cons, if_pos h1]
    exact T.eqP_true xs ys _ h2 (fun z hz => hx z (by simp [hz])) (fun z hz => hy z (by simp [hz])) hE.2
  | [], _ :: _, _, _, _, _, hE => by have := hE.1; simp at this
  | _ :: _, [], _, _, _, _, hE => by have := hE.1; simp at this

theorem Two.things_out {W V R S : List Int} {A B : List Bool} (T : Two W V R S A B) {p q : Nat} (hp : p ∈ places W 2) (hq : q ∈ places V 2) (h : thingsB W A V B p q = true) :
    formAt W p = formAt V q ∧ sameB W A V B (wd W p) (wd V q) = true ∧ Each (fun x y => slotB W A V B (formAt W p) x y = true) (slotList W p) (slotList V q) := by
  unfold thingsB at h
  split at h
  case isFalse => cases h
  rename_i hs
  split at h
  case isFalse => cases h
  rename_i hc
  have hf : formAt W p = formAt V q := by unfold formAt; rw [hs]
  have hl := (T.slots_eq hp hq hf).1 hs
  have l1 := slotList_length (T.one.room p hp)
  have l2 := slotList_length (T.other.room q hq)
  refine ⟨hf, hc, hl, fun k hk => ?_⟩
  have := (slotsB_iff _ _).1 h k (by omega)
  rw [Nat.zero_add] at this
  rw [slotList_at (by omega), slotList_at (by omega)]; exact this
theorem Fine.slot_ok {W : List Int} (hW : Fine W) {p : Nat} (hp : p ∈ places W 2) (hf : formAt W p ≠ 1) : ∀ o ∈ slotList W p, okRef W o := fun o ho => by
  obtain ⟨k, hk, rfl⟩ := wd_index ho
  rw [slotList_length (hW.room p hp)] at hk
  rw [slotList_at hk]; exact hW.slot p hp hf k hk

theorem Two.step_true {W V R S : List Int} {A B : List Bool} (T : Two W V R S A B) {P : Pairs} (h : Cons W V R S P) {x y : Int} (hm : (x, y) ∈ P) (ht : thingsB W A V B (pl2 x) (pl2 y) = true) : ∃ P', pairStep W V P x y = some P' ∧ Cons W V R S P' := by
  obtain ⟨hp, _⟩ := reached_place (h.valid.left x (mem_dom hm))
  obtain ⟨hq, _⟩ := reached_place (h.valid.right y (mem_img hm))
  obtain ⟨hf, hc, hE⟩ := T.things_out hp hq ht
  obtain ⟨a1, a2⟩ := T.alike_true h (T.one.cls _ hp) (T.other.cls _ hq) hc
  unfold pairStep
  rw [if_pos ⟨h.hash x y hm, hf, a1⟩]
  generalize (alikeP W V P (wd W (pl2 x)) (wd V (pl2 y))).2 = P1 at *
  by_cases f2 : formAt W (pl2 x) = 2
  · rw [if_pos f2]; exact ⟨P1, rfl, a2⟩
  · rw [if_neg f2]
    unfold eqF
    rw [if_pos hE.1]
    by_cases f1 : formAt W (pl2 x) = 1
    · have ew : wayP W V (formAt W (pl2 x)) = sameP := by unfold wayP; rw [if_pos f1]
      obtain ⟨e1, e2⟩ := eqP_same (slotList W (pl2 x)) (slotList V (pl2 y)) P1 hE.1
      rw [ew, if_pos (e2.2 (hE.mono fun a b hr => by unfold slotB at hr; rw [if_pos f1] at hr; simpa using hr)), e1]
      exact ⟨P1, rfl, a2⟩
    · have ew : wayP W V (formAt W (pl2 x)) = alikeP W V := by unfold wayP; rw [if_neg f1, if_neg f2]
      obtain ⟨e1, e2⟩ := T.eqP_true (slotList W (pl2 x)) (slotList V (pl2 y)) P1 a2 (T.one.slot_ok hp f1) (T.other.slot_ok hq (by rw [← hf]; exact f1)) (hE.mono fun a b hr => by unfold slotB at hr; rw [if_neg f1, if_neg f2] at hr; exact hr)
      rw [ew, if_pos e1]
      exact ⟨_, rfl, e2⟩
theorem Two.loop_true {W V R S : List Int} {A B : List Bool} (T : Two W V R S A B) (hth : ∀ P, Cons W V R S P → ∀ x y, (x, y) ∈ P → thingsB W A V B (pl2 x) (pl2 y) = true) : ∀ (k : Nat) (P : Pairs) (n : Nat), Cons W V R S P → ∃ P', loopP W V k P n = some P' ∧ Cons W V R S P'
  | 0, P, _, h => ⟨P, rfl, h⟩
  | k + 1, P, n, h => by
    unfold loopP
    by_cases hn : n < P.length
    · rw [if_pos hn]
      obtain ⟨P1, hs, h1⟩ := T.step_true h (pair_mem hn) (hth P h _ _ (pair_mem hn))
      rw [hs]
      exact T.loop_true hth k P1 (n + 1) h1
    · rw [if_neg hn]; exact ⟨P, rfl, h⟩

/-- What the document says, the program finds. -/
theorem Two.ref_hold {W V R S : List Int} {A B : List Bool} (T : Two W V R S A B) (h : refB W A V B R S = true) : holdP W V R S = true := by
  unfold refB at h
  split at h
  case isFalse => cases h
  rename_i hRS
  split at h
  case isFalse => cases h
  split at h
  case isFalse => cases h
  rename_i hroots
  rw [rootsB_iff] at hroots
  rw [eachB_iff] at h
  have hth : ∀ P, Cons W V R S P → ∀ x y, (x, y) ∈ P → thingsB W A V B (pl2 x) (pl2 y) = true := fun P hP x y hm => by
    have hxr := hP.valid.left x (mem_dom hm)
    have hyr := hP.valid.right y (mem_img hm)
    obtain ⟨hp, hxe⟩ := reached_place hxr
    obtain ⟨hq, hye⟩ := reached_place hyr
    obtain ⟨q, hh, ht⟩ := h (pl2 x) (place_ge hp).2 (by rw [Nat.zero_add]; exact (T.tellsA.2 _).2 (by rw [← hxe]; exact hxr))
    rw [Nat.zero_add] at hh ht
    obtain ⟨b1, b2⟩ := hashedB_some _ _ hh
    have hqr := (T.tellsB.2 q).1 b1
    obtain ⟨hqp, _⟩ := reached_place hqr
    have pq : pl2 (2 * (q : Int)) = q := by unfold pl2; omega
    rw [pq] at hqp
    have : q = pl2 y := T.other.apart q hqp _ hq (by rw [b2]; exact hP.hash x y hm)
    subst this; exact ht
  have hv0 : Valid W V R S [] := ⟨by simp [dom], by simp [img], fun x hx => by simp [dom] at hx, fun x hx => by simp [img] at hx⟩
  have hc0 : Cons W V R S [] := ⟨hv0, fun x y hm => by cases hm⟩
  obtain ⟨e1, e2⟩ := T.eqP_true R S [] hc0 T.roots T.others ⟨hRS, fun k hk => by have := hroots k hk; rwa [Nat.zero_add] at this⟩
  obtain ⟨a1, _, a3⟩ := eqP_alike (R := R) (S := S) R S [] hRS hv0 (fun x hx ht => .root hx ht) (fun y hy ht => .root hy ht)
  have hL0 : Looked W V R S (eqP (alikeP W V) [] R S).2 0 := ⟨a1, a3 e1, fun i hi => by omega, Nat.zero_le _⟩
  obtain ⟨P, hl, hP⟩ := T.loop_true hth (W.length + 1) _ 0 e2
  have hL := loop_spec T.one.form _ _ _ (by omega) hL0 P hl
  unfold holdP eqF
  rw [if_pos hRS, if_pos e1, hl]
  show P.all (weakOne W V P) = true
  rw [List.all_eq_true]
  rintro ⟨x, y⟩ hm
  unfold weakOne
  dsimp only
  by_cases f2 : formAt W (pl2 x) = 2
  · rw [if_pos f2]
    obtain ⟨hp, _⟩ := reached_place (hP.valid.left x (mem_dom hm))
    obtain ⟨hq, _⟩ := reached_place (hP.valid.right y (mem_img hm))
    obtain ⟨hf, _, hE⟩ := T.things_out hp hq (hth P hP x y hm)
    unfold eqF
    rw [if_pos hE.1, (eqP_weak (W := W) (V := V) _ _ P hE.1).2]
    refine ⟨hE.1, fun k hk => ?_⟩
    have hs := hE.2 k hk
    unfold slotB at hs
    dsimp only at hs
    rw [if_neg (by rw [f2]; decide), if_pos f2] at hs
    have o1 := T.one.slot_ok hp (by rw [f2]; decide) _ (wd_mem hk)
    have o2 := T.other.slot_ok hq (by rw [← hf, f2]; decide) _ (wd_mem (show k < (slotList V (pl2 y)).length by have := hE.1; omega))
    obtain ⟨k1, k2⟩ := T.kept_left hL o1
    obtain ⟨k3, k4⟩ := T.kept_right hL o2
    dsimp only
    rw [k1, k3]
    rw [T.same k2 k4] at hs
    unfold Rel
    split
    · rename_i hc
      rw [if_pos hc] at hs
      exact T.mem_of hP hs.1 hs.2.1 hs.2.2 (Or.inl (hL.all_left T.other T.others hs.1))
    · rename_i hc
      rw [if_neg hc] at hs; exact hs
  · rw [if_neg f2]

/-- The two answers are one. -/
theorem Two.one_mind {W V R S : List Int} {A B : List Bool} (T : Two W V R S A B) : holdP W V R S = refB W A V B R S := by
  rw [Bool.eq_iff_iff]; exact ⟨T.hold_ref, T.ref_hold⟩

end Go.Proofs.Ythdhaokjibfjdaa

/- What chapter 4 says of what stays, as plain functions on lists of numbers: things laid anew, one behind the other, and what is true of them. No Go in sight. -/
namespace Go.Proofs.Ythdhaokjibfjdaa

/-- How many words a thing takes. -/
def roomAt (W : List Int) (p : Nat) : Nat := 3 + slotsAt W p
/-- Where the thing at p comes to stand, if those of a list are laid one behind the other from a place on; 0: it is none of them. -/
def newAt (W : List Int) : Nat → List Nat → Nat → Nat
  | _, [], _ => 0
  | top, q :: r, p => if q = p then top else newAt W (top + roomAt W q) r p
/-- What becomes of a reference. -/
def turnP (W : List Int) (ps : List Nat) (o : Int) : Int := if thingB W o = true then 2 * (newAt W 2 ps (pl2 o) : Int) else o
/-- The slots of a thing, turned. -/
def slotsW (t : Int → Int) (W : List Int) (p : Nat) : List Int := if formAt W p = 1 then slotList W p else (slotList W p).map t
/-- A thing, its references turned. -/
def thingW (t : Int → Int) (W : List Int) (p : Nat) : List Int := t (wd W p) :: wd W (p + 1) :: wd W (p + 2) :: slotsW t W p
/-- The things of a list, laid one behind the other. -/
def movedW (W : List Int) (ps : List Nat) : List Int := wd W 0 :: wd W 1 :: ps.flatMap (thingW (turnP W ps) W)
/-- How many words some things take. -/
def roomSum (W : List Int) : List Nat → Nat
  | [] => 0
  | p :: r => roomAt W p + roomSum W r

theorem roomSum_append (W : List Int) : ∀ (a b : List Nat), roomSum W (a ++ b) = roomSum W a + roomSum W b
  | [], b => by simp [roomSum]
  | p :: a, b => by rw [List.cons_append, roomSum, roomSum, roomSum_append W a b]; omega
theorem roomSum_perm {W : List Int} {a b : List Nat} (h : a.Perm b) : roomSum W a = roomSum W b := by
  induction h with
  | nil => rfl
  | cons x _ ih => rw [roomSum, roomSum, ih]
  | swap x y l => rw [roomSum, roomSum, roomSum, roomSum]; omega
  | trans _ _ h1 h2 => rw [h1, h2]
theorem roomSum_sub (W : List Int) : ∀ (a b : List Nat), a.Nodup → (∀ p ∈ a, p ∈ b) → roomSum W a ≤ roomSum W b
  | [], b, _, _ => by rw [roomSum]; omega
  | p :: a, b, hn, hs => by
    have hp := List.perm_cons_erase (hs p (List.mem_cons_self ..))
    obtain ⟨h1, h2⟩ := List.nodup_cons.1 hn
    have := roomSum_sub W a (b.erase p) h2 fun q hq => (List.mem_erase_of_ne (fun e : q = p => h1 (by rw [← e]; exact hq))).2 (hs q (List.mem_cons_of_mem _ hq))
    rw [roomSum_perm hp, roomSum, roomSum]; omega
theorem newAt_none {W : List Int} : ∀ {ps : List Nat} {top p : Nat}, p ∉ ps → newAt W top ps p = 0
  | [], _, _, _ => rfl
  | q :: r, top, p, h => by
    rw [newAt, if_neg (fun e : q = p => h (by rw [← e]; exact List.mem_cons_self ..)), newAt_none (fun hm => h (List.mem_cons_of_mem _ hm))]
theorem newAt_split {W : List Int} : ∀ {pre post : List Nat} {top p : Nat}, p ∉ pre → newAt W top (pre ++ p :: post) p = top + roomSum W pre
  | [], post, top, p, _ => by rw [List.nil_append, newAt, if_pos rfl, roomSum]; rfl
  | q :: r, post, top, p, h => by
    rw [List.cons_append, newAt, if_neg (fun e : q = p => h (by rw [← e]; exact List.mem_cons_self ..)), newAt_split (fun hm => h (List.mem_cons_of_mem _ hm)), roomSum]; omega
theorem slotsW_length {t : Int → Int} {W : List Int} {p : Nat} (h : p + 3 + slotsAt W p ≤ W.length) : (slotsW t W p).length = slotsAt W p := by
  unfold slotsW; split
  · exact slotList_length h
  · rw [List.length_map]; exact slotList_length h
theorem thingW_length {t : Int → Int} {W : List Int} {p : Nat} (h : p + 3 + slotsAt W p ≤ W.length) : (thingW t W p).length = roomAt W p := by
  unfold thingW roomAt; simp only [List.length_cons, slotsW_length h]; omega
theorem flat_length {t : Int → Int} {W : List Int} : ∀ (ps : List Nat), (∀ p ∈ ps, p + 3 + slotsAt W p ≤ W.length) → (ps.flatMap (thingW t W)).length = roomSum W ps
  | [], _ => rfl
  | p :: r, h => by
    rw [List.flatMap_cons, List.length_append, flat_length r fun q hq => h q (List.mem_cons_of_mem _ hq), thingW_length (h p (List.mem_cons_self ..)), roomSum]
theorem wd_right {a b : List Int} {n j : Nat} (h : a.length = n) : wd (a ++ b) (n + j) = wd b j := by
  unfold wd; rw [List.getD_eq_getElem?_getD, List.getD_eq_getElem?_getD, List.getElem?_append_right (by omega), show n + j - a.length = j by omega]

/-- All things of a heap: their words and the two ahead are all words. -/
theorem places_sum {W : List Int} : ∀ (n a : Nat), W.length - a ≤ n → a ≤ W.length → unfit W a = none → a + roomSum W (places W a) = W.length
  | 0, a, hn, ha, _ => by rw [places_end (by omega), roomSum]; omega
  | n + 1, a, hn, ha, hu => by
    by_cases h : a < W.length
    · obtain ⟨hf, hu'⟩ := unfit_head h hu
      have hl := (fits_out hf).2.2.2.2
      have := places_sum n (nextAt W a) (by simp [nextAt]; omega) (by simp [nextAt]; omega) hu'
      rw [places_in h, roomSum, roomAt]
      simp only [nextAt] at this ⊢
      omega
    · rw [places_end h, roomSum]; omega
theorem places_rise {W : List Int} : ∀ (n a : Nat), W.length - a ≤ n → (places W a).Pairwise (· < ·)
  | 0, a, hn => by rw [places_end (by omega)]; exact List.Pairwise.nil
  | n + 1, a, hn => by
    by_cases h : a < W.length
    · rw [places_in h]
      refine List.Pairwise.cons (fun q hq => ?_) (places_rise n _ (by simp [nextAt]; omega))
      have := place_ge hq; simp [nextAt] at this; omega
    · rw [places_end h]; exact List.Pairwise.nil
theorem fault_mk {W : List Int} : ∀ (ps : List Nat) (seen : List Int),
    (∀ p ∈ ps, nilB W (wd W p) = true ∧ badSlot W (formAt W p) (p + 3) (slotsAt W p) = none ∧ wd W (p + 1) ∉ seen ∧ 1 ≤ wd W (p + 1) ∧ wd W (p + 1) < wd W 1) →
    ps.Pairwise (fun p q => wd W (p + 1) ≠ wd W (q + 1)) → faultOf W seen ps = (0, 0)
  | [], _, _, _ => rfl
  | a :: r, seen, h, hp => by
    obtain ⟨c1, c2, c3, c4⟩ := h a (List.mem_cons_self ..)
    obtain ⟨p1, p2⟩ := List.pairwise_cons.1 hp
    rw [fault_next c1 (twice_mk ⟨c3, c4⟩) c2]
    refine fault_mk r _ (fun p hm => ?_) p2
    obtain ⟨d1, d2, d3, d4⟩ := h p (List.mem_cons_of_mem _ hm)
    refine ⟨d1, d2, fun hs => ?_, d4⟩
    rcases List.mem_append.1 hs with hs | hs
    · exact d3 hs
    · rw [List.mem_singleton] at hs; exact p1 p hm hs.symm

/-- Those that are reached, each once, in some order. -/
structure Moves (W R : List Int) (ps : List Nat) : Prop where
  may : (checkOf W).1 = 0
  roots : ∀ x ∈ R, okRef W x
  once : ps.Nodup
  all : ∀ p, p ∈ ps ↔ Reached W R (2 * (p : Int))

theorem pl2_two (p : Nat) : pl2 (2 * (p : Int)) = p := by unfold pl2; omega
namespace Moves
variable {W R : List Int} {ps : List Nat}
theorem fine (M : Moves W R ps) : Fine W := fine_of M.may
theorem place (M : Moves W R ps) {p : Nat} (h : p ∈ ps) : p ∈ places W 2 := by
  have := (reached_place ((M.all p).1 h)).1; rw [pl2_two] at this; exact this
theorem room (M : Moves W R ps) {p : Nat} (h : p ∈ ps) : p + 3 + slotsAt W p ≤ W.length := M.fine.room p (M.place h)
theorem two (M : Moves W R ps) : 2 ≤ W.length := (front_out (check_fine M.may).1).1
theorem length (M : Moves W R ps) : (movedW W ps).length = 2 + roomSum W ps := by
  unfold movedW; simp only [List.length_cons, flat_length ps fun p hp => M.room hp]; omega
theorem short (M : Moves W R ps) : (movedW W ps).length ≤ W.length := by
  have h1 := roomSum_sub W ps (places W 2) M.once fun p hp => M.place hp
  have h2 := places_sum _ 2 (Nat.le_refl _) M.two M.fine.fit
  rw [M.length]; omega
theorem few (M : Moves W R ps) : (movedW W ps).length ≤ 2000 := Nat.le_trans M.short M.fine.few
/-- The words as they lie about the thing that was at p. -/
theorem parts (M : Moves W R ps) {p : Nat} (h : p ∈ ps) : ∃ A B, movedW W ps = A ++ (thingW (turnP W ps) W p ++ B) ∧ A.length = newAt W 2 ps p := by
  obtain ⟨pre, post, e⟩ := List.append_of_mem h
  have hn : p ∉ pre := by
    have := M.once; rw [e, List.nodup_append] at this
    exact fun hm => this.2.2 p hm p (List.mem_cons_self ..) rfl
  refine ⟨wd W 0 :: wd W 1 :: pre.flatMap (thingW (turnP W ps) W), post.flatMap (thingW (turnP W ps) W), ?_, ?_⟩
  · unfold movedW
    conv => lhs; rw [show ps.flatMap (thingW (turnP W ps) W) = (pre ++ p :: post).flatMap (thingW (turnP W ps) W) by rw [← e]]
    rw [List.flatMap_append, List.flatMap_cons]; rfl
  · have h2 : newAt W 2 ps p = 2 + roomSum W pre := by conv => lhs; rw [e]
                                                       exact newAt_split hn
    rw [h2]
    simp only [List.length_cons, flat_length pre fun q hq => M.room (by rw [e]; exact List.mem_append.2 (Or.inl hq))]; omega
theorem word (M : Moves W R ps) {p j : Nat} (h : p ∈ ps) (hj : j < roomAt W p) : wd (movedW W ps) (newAt W 2 ps p + j) = wd (thingW (turnP W ps) W p) j := by
  obtain ⟨A, B, e, hl⟩ := M.parts h
  rw [e, wd_right hl, wd_left (by rw [thingW_length (M.room h)]; exact hj)]
theorem cls (M : Moves W R ps) {p : Nat} (h : p ∈ ps) : wd (movedW W ps) (newAt W 2 ps p) = turnP W ps (wd W p) := by
  have := M.word (j := 0) h (by unfold roomAt; omega); exact this
theorem hash (M : Moves W R ps) {p : Nat} (h : p ∈ ps) : wd (movedW W ps) (newAt W 2 ps p + 1) = wd W (p + 1) := M.word (j := 1) h (by unfold roomAt; omega)
theorem shape (M : Moves W R ps) {p : Nat} (h : p ∈ ps) : wd (movedW W ps) (newAt W 2 ps p + 2) = wd W (p + 2) := M.word (j := 2) h (by unfold roomAt; omega)
theorem nslots (M : Moves W R ps) {p : Nat} (h : p ∈ ps) : slotsAt (movedW W ps) (newAt W 2 ps p) = slotsAt W p := by unfold slotsAt; rw [M.shape h]
theorem form (M : Moves W R ps) {p : Nat} (h : p ∈ ps) : formAt (movedW W ps) (newAt W 2 ps p) = formAt W p := by unfold formAt; rw [M.shape h]
theorem slots (M : Moves W R ps) {p : Nat} (h : p ∈ ps) : slotList (movedW W ps) (newAt W 2 ps p) = slotsW (turnP W ps) W p := by
  obtain ⟨A, B, e, hl⟩ := M.parts h
  have hs := slotsW_length (t := turnP W ps) (M.room h)
  have e2 : movedW W ps = (A ++ [turnP W ps (wd W p), wd W (p + 1), wd W (p + 2)]) ++ (slotsW (turnP W ps) W p ++ B) := by rw [e]; simp [thingW]
  unfold slotList
  rw [M.nslots h, e2, List.drop_append_of_le_length (by simp; omega), List.drop_eq_nil_of_le (by simp; omega), List.nil_append, List.take_append_of_le_length (by omega), ← hs, List.take_length]
theorem ends (M : Moves W R ps) {p : Nat} (h : p ∈ ps) : newAt W 2 ps p + roomAt W p ≤ (movedW W ps).length := by
  obtain ⟨A, B, e, hl⟩ := M.parts h
  rw [e]; simp only [List.length_append, thingW_length (M.room h)]; omega
theorem slot (M : Moves W R ps) {p k : Nat} (h : p ∈ ps) (hk : k < slotsAt W p) : wd (movedW W ps) (newAt W 2 ps p + 3 + k) = if formAt W p = 1 then wd W (p + 3 + k) else turnP W ps (wd W (p + 3 + k)) := by
  rw [← slotList_at (W := movedW W ps) (by rw [M.nslots h]; exact hk), M.slots h]
  unfold slotsW
  split
  · exact slotList_at hk
  · have hl := slotList_length (M.room h)
    unfold wd
    rw [List.getD_eq_getElem?_getD, List.getElem?_map, List.getElem?_eq_getElem (by omega)]
    have := slotList_at hk
    unfold wd at this
    rw [List.getD_eq_getElem?_getD, List.getElem?_eq_getElem (by omega)] at this
    simp only [Option.map_some, Option.getD_some] at this ⊢
    rw [this]

/-- Where things begin now. -/
theorem places_from (M : Moves W R ps) : ∀ (post pre : List Nat), ps = pre ++ post → places (movedW W ps) (2 + roomSum W pre) = post.map (newAt W 2 ps) ∧ unfit (movedW W ps) (2 + roomSum W pre) = none
  | [], pre, e => by
    have hl := M.length
    rw [List.append_nil] at e
    rw [← e, places_end (by omega), unfit_end (by omega)]; exact ⟨rfl, rfl⟩
  | p :: post, pre, e => by
    have hm : p ∈ ps := by rw [e]; simp
    have hn : p ∉ pre := by
      have := M.once; rw [e, List.nodup_append] at this
      exact fun hm => this.2.2 p hm p (List.mem_cons_self ..) rfl
    have ha : newAt W 2 ps p = 2 + roomSum W pre := by conv => lhs; rw [e]
                                                       exact newAt_split hn
    have he := M.ends hm
    have hs := M.nslots hm
    have hf := fits_out (place_fit M.fine.fit (M.place hm)).2.2.1
    obtain ⟨i1, i2⟩ := M.places_from post (pre ++ [p]) (by rw [e]; simp)
    rw [roomSum_append, roomSum, roomSum] at i1 i2
    have hx : nextAt (movedW W ps) (2 + roomSum W pre) = 2 + (roomSum W pre + (roomAt W p + 0)) := by
      unfold nextAt; rw [← ha, hs, ha]; unfold roomAt; omega
    have hlt : 2 + roomSum W pre < (movedW W ps).length := by rw [← ha]; unfold roomAt at he; omega
    have hfit : fitsB (movedW W ps) (2 + roomSum W pre) = true := by
      rw [← ha]
      refine fits_mk ?_
      rw [M.shape hm, hs]
      unfold roomAt at he
      exact ⟨by omega, hf.2.1, hf.2.2.1, hf.2.2.2.1, by omega⟩
    rw [places_in hlt, unfit_in hlt hfit, hx, i1, i2, List.map_cons, ha]; exact ⟨rfl, rfl⟩
theorem places (M : Moves W R ps) : places (movedW W ps) 2 = ps.map (newAt W 2 ps) := (M.places_from ps [] rfl).1
theorem unfit (M : Moves W R ps) : unfit (movedW W ps) 2 = none := (M.places_from ps [] rfl).2
theorem begins (M : Moves W R ps) {p : Nat} (h : p ∈ ps) : newAt W 2 ps p ∈ Go.Proofs.Ythdhaokjibfjdaa.places (movedW W ps) 2 := by rw [M.places]; exact List.mem_map.2 ⟨p, h, rfl⟩
theorem inj (M : Moves W R ps) {p q : Nat} (hp : p ∈ ps) (hq : q ∈ ps) (h : newAt W 2 ps p = newAt W 2 ps q) : p = q := by
  refine M.fine.apart p (M.place hp) q (M.place hq) ?_
  rw [← M.hash hp, ← M.hash hq, h]
/-- A reference of who is reached, turned. -/
theorem turned (M : Moves W R ps) {x : Int} (h : Reached W R x) : pl2 x ∈ ps ∧ turnP W ps x = 2 * (newAt W 2 ps (pl2 x) : Int) ∧ pl2 (turnP W ps x) = newAt W 2 ps (pl2 x) ∧ thingB (movedW W ps) (turnP W ps x) = true := by
  obtain ⟨hp, e⟩ := reached_place h
  have hm : pl2 x ∈ ps := (M.all _).2 (by rw [← e]; exact h)
  have ht : turnP W ps x = 2 * (newAt W 2 ps (pl2 x) : Int) := by unfold turnP; rw [if_pos h.thing]
  refine ⟨hm, ht, by rw [ht, pl2_two], by rw [ht]; exact ref_thing M.few (M.begins hm)⟩
theorem stays (_M : Moves W R ps) {x : Int} (h : thingB W x = false) : turnP W ps x = x := by unfold turnP; rw [if_neg (by rw [h]; decide)]
theorem goes (M : Moves W R ps) {x : Int} (ht : thingB W x = true) (h : ¬ Reached W R x) : turnP W ps x = 0 := by
  obtain ⟨p, e, _, _, hp⟩ := thing_ref ht
  have : pl2 x ∉ ps := fun hm => h (by have := (M.all _).1 hm; unfold pl2 at this; rw [hp, ← e] at this; exact this)
  unfold turnP; rw [if_pos ht, newAt_none this]; rfl
theorem ok (M : Moves W R ps) {x : Int} (h : okRef W x) : okRef (movedW W ps) (turnP W ps x) := by
  cases ht : thingB W x with
  | false =>
    rw [M.stays ht]
    unfold okRef nilB at h ⊢
    rw [ht] at h
    simp only [Bool.or_false, Bool.or_eq_true] at h ⊢
    rcases h with h | h
    · exact Or.inl h
    · exact Or.inr (Or.inl h)
  | true =>
    by_cases hr : Reached W R x
    · have := (M.turned hr).2.2.2
      unfold okRef nilB; rw [this]; simp
    · rw [M.goes ht hr]; exact ok_zero _
theorem ok_roots (M : Moves W R ps) : ∀ y ∈ R.map (turnP W ps), okRef (movedW W ps) y := by
  intro y hy
  obtain ⟨x, hx, rfl⟩ := List.mem_map.1 hy
  exact M.ok (M.roots x hx)

/-- What was laid anew may be. -/
theorem check (M : Moves W R ps) : checkOf (movedW W ps) = (0, 0) := by
  obtain ⟨c1, c2, c3⟩ := check_fine M.may
  obtain ⟨f1, f2, f3, f4, f5⟩ := front_out c1
  have hl := M.length
  have hf : (frontOf (movedW W ps)).1 = 0 := by rw [front_ok (W := movedW W ps) (by have := M.few; omega) f3 (by show ¬ (wd W 1 < 1 ∨ 10001 < wd W 1); omega)]
  rw [check_things hf M.unfit, M.places]
  refine fault_mk _ _ (fun q hq => ?_) ?_
  · obtain ⟨p, hp, rfl⟩ := List.mem_map.1 hq
    obtain ⟨a1, a2, a3, a4, a5⟩ := fault_all _ _ c3 p (M.place hp)
    have hreach := (M.all p).1 hp
    rw [M.cls hp, M.hash hp]
    refine ⟨?_, ?_, by simp, a4, a5⟩
    · cases ht : thingB W (wd W p) with
      | false => rw [M.stays ht]; unfold nilB at a1 ⊢; rw [ht, Bool.or_false] at a1; rw [a1]; rfl
      | true =>
        have hr : Reached W R (wd W p) := .step hreach (by show wd W p ∈ leadsAt W (pl2 (2 * (p : Int))); rw [pl2_two]; exact class_lead' W p) ht
        unfold nilB; rw [(M.turned hr).2.2.2, Bool.or_true]
    · rw [bad_none, M.nslots hp, M.form hp]
      intro k hk
      have := (bad_none _ _).1 a2 k hk
      rw [M.slot hp hk]
      unfold standB at this ⊢
      split
      · rename_i h1; rw [if_pos h1] at this; exact this
      · rename_i h1; rw [if_neg h1] at this; exact M.ok this
  · rw [List.pairwise_map]
    refine List.Pairwise.imp_of_mem (fun {a b} ha hb hne => ?_) M.once
    rw [M.hash ha, M.hash hb]
    exact fun e => hne (M.fine.apart a (M.place ha) b (M.place hb) e)
theorem may' (M : Moves W R ps) : (checkOf (movedW W ps)).1 = 0 := by rw [M.check]
theorem lead (M : Moves W R ps) {p : Nat} (h : p ∈ ps) {o : Int} (ho : o ∈ leadsAt W p) : turnP W ps o ∈ leadsAt (movedW W ps) (newAt W 2 ps p) := by
  rcases leads_cases ho with rfl | ⟨hf, hs⟩
  · rw [← M.cls h]; exact class_lead' _ _
  · refine slots_lead (by rw [M.form h]; exact hf) ?_
    rw [M.slots h]; unfold slotsW; rw [if_neg (by rw [hf]; decide)]
    exact List.mem_map.2 ⟨o, hs, rfl⟩
/-- Who was reached is. -/
theorem reached (M : Moves W R ps) {x : Int} (h : Reached W R x) : Reached (movedW W ps) (R.map (turnP W ps)) (turnP W ps x) := by
  induction h with
  | root ho ht => exact .root (List.mem_map.2 ⟨_, ho, rfl⟩) (M.turned (.root ho ht)).2.2.2
  | @step x o hx ho ht ih =>
    refine .step ih ?_ (M.turned (.step hx ho ht)).2.2.2
    obtain ⟨t1, t2, t3, t4⟩ := M.turned hx
    have := M.lead t1 ho
    rw [← t3] at this; exact this
/-- All that is there is reached. -/
theorem all_reached (M : Moves W R ps) {q : Nat} (h : q ∈ Go.Proofs.Ythdhaokjibfjdaa.places (movedW W ps) 2) : Reached (movedW W ps) (R.map (turnP W ps)) (2 * (q : Int)) := by
  rw [M.places] at h
  obtain ⟨p, hp, rfl⟩ := List.mem_map.1 h
  have := M.reached ((M.all p).1 hp)
  rw [(M.turned ((M.all p).1 hp)).2.1, pl2_two] at this; exact this

/-! Alike to what was there. -/
theorem together (M : Moves W R ps) {A B : List Bool} (hA : Tells W R A) (hB : Tells (movedW W ps) (R.map (turnP W ps)) B) : Two W (movedW W ps) R (R.map (turnP W ps)) A B :=
  ⟨M.fine, fine_of M.may', M.roots, M.ok_roots, hA, hB⟩
theorem same_turn (M : Moves W R ps) {A B : List Bool} (hA : Tells W R A) (hB : Tells (movedW W ps) (R.map (turnP W ps)) B) {x : Int} (h : okRef W x) (hr : thingB W x = true → Reached W R x) : sameB W A (movedW W ps) B x (turnP W ps x) = true := by
  rw [(M.together hA hB).same h (M.ok h)]
  cases ht : thingB W x with
  | false => rw [M.stays ht]; simp
  | true =>
    obtain ⟨t1, t2, t3, t4⟩ := M.turned (hr ht)
    rw [if_pos ⟨rfl, t4⟩, t3]
    exact ⟨hr ht, M.reached (hr ht), (M.hash t1).symm⟩
theorem weak_turn (M : Moves W R ps) {A B : List Bool} (hA : Tells W R A) (hB : Tells (movedW W ps) (R.map (turnP W ps)) B) {x : Int} (h : okRef W x) : sameB W A (movedW W ps) B (weakB A x) (weakB B (turnP W ps x)) = true := by
  cases ht : thingB W x with
  | false =>
    have hk : kindOf x ≠ 3 := fun hk => by rw [ok_thing h hk] at ht; cases ht
    have e1 : weakB A x = x := by unfold weakB; rw [if_neg (fun h => hk h.1)]
    have e2 : weakB B x = x := by unfold weakB; rw [if_neg (fun h => hk h.1)]
    have := M.same_turn hA hB h (fun h => by rw [ht] at h; cases h)
    rw [M.stays ht] at this ⊢
    rw [e1, e2]; exact this
  | true =>
    have hk := thing_kind ht
    by_cases hr : Reached W R x
    · have e1 : weakB A x = x := by unfold weakB; rw [if_neg (fun h => by rw [(hA.at hk).2 hr] at h; cases h.2)]
      have hr' := M.reached hr
      have hk' := thing_kind hr'.thing
      have e2 : weakB B (turnP W ps x) = turnP W ps x := by unfold weakB; rw [if_neg (fun h => by rw [(hB.at hk').2 hr'] at h; cases h.2)]
      rw [e1, e2]; exact M.same_turn hA hB h fun _ => hr
    · have hb : bt A (pl2 x) = false := Bool.eq_false_iff.2 fun hb => hr ((hA.at hk).1 hb)
      have e1 : weakB A x = 0 := by unfold weakB; rw [if_pos ⟨hk, hb⟩]
      have e2 : weakB B 0 = 0 := by unfold weakB; split <;> rfl
      rw [M.goes ht hr, e1, e2]
      unfold sameB; rw [if_neg (by decide)]; rfl
theorem count (M : Moves W R ps) : (reachList W R).length = ps.length := by
  have : (reachList W R).Perm (ps.map fun p : Nat => 2 * (p : Int)) := by
    refine (List.perm_ext_iff_of_nodup (reach_nodup W R) ?_).2 fun o => ?_
    · unfold List.Nodup; rw [List.pairwise_map]; exact M.once.imp fun h e => h (by omega)
    · rw [mem_reach, List.mem_map]
      constructor
      · intro h; have e := (reached_place h).2; exact ⟨pl2 o, (M.all _).2 (by rw [← e]; exact h), e.symm⟩
      · rintro ⟨p, hp, rfl⟩; exact (M.all p).1 hp
  rw [this.length_eq, List.length_map]
/-- What was laid anew moves as it is. -/
theorem again (M : Moves W R ps) : Moves (movedW W ps) (R.map (turnP W ps)) (Go.Proofs.Ythdhaokjibfjdaa.places (movedW W ps) 2) :=
  ⟨M.may', M.ok_roots, places_nodup _ 2 (Nat.le_refl _), fun q => ⟨M.all_reached, fun h => by have := (reached_place h).1; rw [pl2_two] at this; exact this⟩⟩
theorem alike (M : Moves W R ps) {A B : List Bool} (hA : Tells W R A) (hB : Tells (movedW W ps) (R.map (turnP W ps)) B) : refB W A (movedW W ps) B R (R.map (turnP W ps)) = true := by
  have hK := fine_of M.may'
  unfold refB
  rw [if_pos (by simp), if_pos (by rw [hA.marks, hB.marks, M.count, M.again.count, M.places, List.length_map]), if_pos]
  · rw [eachB_iff]
    intro p hp hb
    rw [Nat.zero_add] at hb ⊢
    have hr := (hA.2 p).1 hb
    have hm := (M.all p).2 hr
    have hbB : bt B (newAt W 2 ps p) = true := (hB.2 _).2 (M.all_reached (M.begins hm))
    have hlt := (place_ge (M.begins hm)).2
    obtain ⟨q, hq⟩ := hashedB_ex (V := movedW W ps) (B := B) (h := wd W (p + 1)) (movedW W ps).length 0 (Nat.zero_le _) (by omega) hbB (M.hash hm)
    obtain ⟨q1, q2⟩ := hashedB_some _ _ hq
    have hqp : q ∈ Go.Proofs.Ythdhaokjibfjdaa.places (movedW W ps) 2 := by have := (reached_place ((hB.2 q).1 q1)).1; rw [pl2_two] at this; exact this
    have e : q = newAt W 2 ps p := hK.apart _ hqp _ (M.begins hm) (by rw [q2, M.hash hm])
    refine ⟨q, hq, ?_⟩
    rw [e]
    have lead : ∀ o ∈ leadsAt W p, thingB W o = true → Reached W R o := fun o ho ht => .step hr (by show o ∈ leadsAt W (pl2 (2 * (p : Int))); rw [pl2_two]; exact ho) ht
    have hpl := M.place hm
    unfold thingsB
    rw [if_pos (M.shape hm).symm, if_pos (by rw [M.cls hm]; exact M.same_turn hA hB (M.fine.cls p hpl) (lead _ (class_lead' W p))), slotsB_iff]
    intro k hk
    rw [Nat.zero_add, M.slot hm hk]
    unfold slotB
    by_cases h1 : formAt W p = 1
    · rw [if_pos h1, if_pos h1]; simp
    · rw [if_neg h1, if_neg h1]
      have hok := M.fine.slot p hpl h1 k hk
      by_cases h2 : formAt W p = 2
      · rw [if_pos h2]; exact M.weak_turn hA hB hok
      · rw [if_neg h2]
        refine M.same_turn hA hB hok (lead _ (slots_lead (by rcases M.fine.form p hpl with h | h | h; exact h; exact absurd h h1; exact absurd h h2) ?_))
        rw [← slotList_at hk]; exact wd_mem (by rw [slotList_length (M.room hm)]; exact hk)
  · rw [rootsB_iff]
    intro j hj
    rw [Nat.zero_add]
    have e : wd (R.map (turnP W ps)) j = turnP W ps (wd R j) := by
      unfold wd; rw [List.getD_eq_getElem?_getD, List.getElem?_map, List.getElem?_eq_getElem hj, List.getD_eq_getElem?_getD, List.getElem?_eq_getElem hj]; rfl
    rw [e]
    exact M.same_turn hA hB (M.roots _ (wd_mem hj)) fun ht => .root (wd_mem hj) ht
end Moves

/-! Laid as they lie. -/
theorem newAt_same {W : List Int} : ∀ (n a : Nat), W.length - a ≤ n → ∀ p ∈ places W a, newAt W a (places W a) p = p
  | 0, a, hn, p, hp => by rw [places_end (by omega)] at hp; cases hp
  | n + 1, a, hn, p, hp => by
    by_cases h : a < W.length
    · rw [places_in h] at hp ⊢
      rw [newAt]
      by_cases e : a = p
      · rw [if_pos e]; exact e
      · rw [if_neg e]
        rcases List.mem_cons.1 hp with h1 | h1
        · exact absurd h1.symm e
        · have := newAt_same n (nextAt W a) (by simp [nextAt]; omega) p h1
          rw [show a + roomAt W a = nextAt W a by unfold roomAt nextAt; omega]; exact this
    · rw [places_end h] at hp; cases hp
theorem turn_same {W : List Int} (o : Int) : turnP W (places W 2) o = o := by
  unfold turnP
  split
  · rename_i ht
    obtain ⟨p, e, hm, _, hp⟩ := thing_ref ht
    have hp' : pl2 o = p := hp
    rw [hp', newAt_same _ 2 (Nat.le_refl _) p hm]; exact e.symm
  · rfl
theorem slotsW_same {W : List Int} {t : Int → Int} (h : ∀ o, t o = o) (p : Nat) : slotsW t W p = slotList W p := by
  unfold slotsW
  split
  · rfl
  · rw [show t = id from funext h, List.map_id]
theorem drop_wd {W : List Int} {p : Nat} (h : p < W.length) : W.drop p = wd W p :: W.drop (p + 1) := by
  rw [List.drop_eq_getElem_cons h]; congr 1; unfold wd; rw [List.getD_eq_getElem?_getD, List.getElem?_eq_getElem h]; rfl
theorem flat_same {W : List Int} {t : Int → Int} (h : ∀ o, t o = o) : ∀ (n a : Nat), W.length - a ≤ n → a ≤ W.length → unfit W a = none → (places W a).flatMap (thingW t W) = W.drop a
  | 0, a, hn, ha, _ => by rw [places_end (by omega), List.drop_eq_nil_of_le (by omega)]; rfl
  | n + 1, a, hn, ha, hu => by
    by_cases hlt : a < W.length
    · obtain ⟨hf, hu'⟩ := unfit_head hlt hu
      have hl := (fits_out hf).2.2.2.2
      rw [places_in hlt, List.flatMap_cons, flat_same h n (nextAt W a) (by simp [nextAt]; omega) (by simp [nextAt]; omega) hu']
      unfold thingW
      rw [slotsW_same h, h]
      rw [drop_wd hlt, drop_wd (p := a + 1) (by omega), drop_wd (p := a + 1 + 1) (by omega)]
      simp only [List.cons_append]
      congr 3
      unfold slotList
      have e1 : W.drop (nextAt W a) = (W.drop (a + 3)).drop (slotsAt W a) := by rw [List.drop_drop]; rfl
      rw [e1, List.take_append_drop]
    · rw [places_end hlt, List.drop_eq_nil_of_le (by omega)]; rfl
theorem moved_same {W : List Int} (h2 : 2 ≤ W.length) (hu : unfit W 2 = none) : movedW W (places W 2) = W := by
  unfold movedW
  rw [flat_same (fun o => turn_same o) _ 2 (Nat.le_refl _) h2 hu, ← drop_wd (show 1 < W.length by omega), ← drop_wd (show 0 < W.length by omega), List.drop_zero]

/-! Sweeping: in their order. -/
/-- The places of those that are reached, rising. -/
noncomputable def stayP (W R : List Int) : List Nat := (reachList W R).map pl2
theorem stay_refs (W R : List Int) : (stayP W R).map (fun p : Nat => 2 * (p : Int)) = reachList W R := by
  unfold stayP
  rw [List.map_map]
  conv => rhs; rw [← List.map_id (reachList W R)]
  refine List.map_congr_left fun o ho => ?_
  exact (reached_place (mem_reach.1 ho)).2.symm
theorem mem_stay {W R : List Int} {p : Nat} : p ∈ stayP W R ↔ Reached W R (2 * (p : Int)) := by
  rw [← mem_reach, ← stay_refs, List.mem_map]
  constructor
  · intro h; exact ⟨p, h, rfl⟩
  · rintro ⟨q, hq, e⟩; rw [show p = q by omega]; exact hq
theorem stay_rises (W R : List Int) : (stayP W R).Pairwise (· < ·) := by
  have := reach_rises W R
  rw [← stay_refs, List.pairwise_map] at this
  exact this.imp fun h => by omega
theorem stay_moves {W R : List Int} (h : (checkOf W).1 = 0) (hr : ∀ x ∈ R, okRef W x) : Moves W R (stayP W R) :=
  ⟨h, hr, (stay_rises W R).imp fun h e => by omega, fun _ => mem_stay⟩
theorem rising_same {a b : List Nat} (ha : a.Pairwise (· < ·)) (hb : b.Pairwise (· < ·)) (h : ∀ p, p ∈ a ↔ p ∈ b) : a = b := by
  have hp : a.Perm b := (List.perm_ext_iff_of_nodup (ha.imp fun h e => by omega) (hb.imp fun h e => by omega)).2 h
  exact hp.eq_of_pairwise (le := fun x y => x ≤ y) (fun a b _ _ h1 h2 => by omega) (ha.imp fun h => by omega) (hb.imp fun h => by omega)
/-- As the document goes: along all things, those that are marked. -/
theorem stay_filter {W R : List Int} {A : List Bool} (h : Tells W R A) : (places W 2).filter (fun p => bt A p) = stayP W R := by
  refine rising_same (List.Pairwise.filter _ (places_rise _ 2 (Nat.le_refl _))) (stay_rises W R) fun p => ?_
  rw [List.mem_filter, mem_stay, h.2 p]
  refine ⟨fun h => h.2, fun h => ⟨?_, h⟩⟩
  have := (reached_place h).1; rw [pl2_two] at this; exact this
/-- The words that stay, and the roots. -/
noncomputable def sweptW (W R : List Int) : List Int := movedW W (stayP W R)
noncomputable def sweptR (W R : List Int) : List Int := R.map (turnP W (stayP W R))
/-- Swept once more all stays. -/
theorem swept_stay {W R : List Int} (h : (checkOf W).1 = 0) (hr : ∀ x ∈ R, okRef W x) : stayP (sweptW W R) (sweptR W R) = places (sweptW W R) 2 := by
  have M := stay_moves h hr
  refine rising_same (stay_rises _ _) (places_rise _ 2 (Nat.le_refl _)) fun p => ?_
  rw [mem_stay]
  exact ⟨fun h => by have := (reached_place h).1; rw [pl2_two] at this; exact this, fun h => M.all_reached h⟩
theorem swept_twice {W R : List Int} (h : (checkOf W).1 = 0) (hr : ∀ x ∈ R, okRef W x) : sweptW (sweptW W R) (sweptR W R) = sweptW W R ∧ sweptR (sweptW W R) (sweptR W R) = sweptR W R := by
  have M := stay_moves h hr
  have e := swept_stay h hr
  have f := fine_of M.may'
  have h2 := (front_out (check_fine M.may').1).1
  constructor
  · show movedW (sweptW W R) (stayP (sweptW W R) (sweptR W R)) = sweptW W R
    rw [e]
    exact moved_same h2 f.fit
  · show (sweptR W R).map (turnP (sweptW W R) (stayP (sweptW W R) (sweptR W R))) = sweptR W R
    rw [e]
    conv => rhs; rw [← List.map_id (sweptR W R)]
    exact List.map_congr_left fun o _ => turn_same o

end Go.Proofs.Ythdhaokjibfjdaa
