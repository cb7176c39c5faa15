/- What chapter 1 says of words, as plain functions on numbers, and what is true of them. No Go in sight. -/
import Derived.Laws.BitsLemmas
import Derived.WalkKit
namespace Go.Proofs.Ythdhaokjibfjdaa

/-- o & 1 of an int is what is left of o by 2. -/
theorem and_one_i64 (o : Int) : bits BinOp.and IntKind.i64 o 1 = o % 2 := by
  have e : ((BitVec.ofInt 64 o &&& 1#64).toNat : Int) = o % 2 := by
    rw [BitVec.toNat_and, BitVec.toNat_ofInt]
    show (((o % ((2 ^ 64 : Nat) : Int)).toNat &&& 1 : Nat) : Int) = o % 2
    rw [Nat.and_one_is_mod]
    omega
  have f : bits BinOp.and IntKind.i64 o 1 = IntKind.i64.wrap ((BitVec.ofInt 64 o &&& 1#64).toNat : Int) := rfl
  rw [f, e, IntKind.wrap_i64]
  omega

/-- The reference o is small. -/
def smallB (o : Int) : Bool := decide (o % 2 = 1 ∧ -2147483647 ≤ o ∧ o ≤ 2147483647)
/-- The kind of the reference o. -/
def kindOf (o : Int) : Int := if o = 0 then 2 else if smallB o = true then 1 else if o % 2 = 0 ∧ 4 ≤ o ∧ o ≤ 3998 then 3 else 0
/-- The number that o is of. -/
def valOf (o : Int) : Int := if smallB o = true then (o - 1) / 2 else 0
/-- The number n has a reference. -/
def fitB (n : Int) : Bool := decide (-1073741824 ≤ n ∧ n ≤ 1073741823)
/-- The reference of n. -/
def refOf (n : Int) : Int := if fitB n = true then 2 * n + 1 else 0
/-- What is reckoned of a and b by f has a reference. -/
def canB (f : Int → Int → Int) (a b : Int) : Bool := smallB a && smallB b && fitB (f (valOf a) (valOf b))
/-- The reference of what is reckoned of a and b by f. -/
def reck (f : Int → Int → Int) (a b : Int) : Int := if canB f a b = true then 2 * f (valOf a) (valOf b) + 1 else 0

theorem small_mk {o : Int} (h : o % 2 = 1) (h1 : -2147483647 ≤ o) (h2 : o ≤ 2147483647) : smallB o = true := by
  unfold smallB; exact decide_eq_true ⟨h, h1, h2⟩
theorem small_no {o : Int} (h : ¬ (o % 2 = 1 ∧ -2147483647 ≤ o ∧ o ≤ 2147483647)) : smallB o = false := by
  unfold smallB; exact decide_eq_false h
theorem small_out {o : Int} (h : smallB o = true) : o % 2 = 1 ∧ -2147483647 ≤ o ∧ o ≤ 2147483647 := by
  unfold smallB at h; exact of_decide_eq_true h
theorem small_not {o : Int} (h : smallB o = false) : ¬ (o % 2 = 1 ∧ -2147483647 ≤ o ∧ o ≤ 2147483647) := by
  unfold smallB at h; exact of_decide_eq_false h
theorem fit_mk {n : Int} (h1 : -1073741824 ≤ n) (h2 : n ≤ 1073741823) : fitB n = true := by
  unfold fitB; exact decide_eq_true ⟨h1, h2⟩
theorem fit_no {n : Int} (h : ¬ (-1073741824 ≤ n ∧ n ≤ 1073741823)) : fitB n = false := by
  unfold fitB; exact decide_eq_false h
theorem fit_out {n : Int} (h : fitB n = true) : -1073741824 ≤ n ∧ n ≤ 1073741823 := by
  unfold fitB at h; exact of_decide_eq_true h
theorem fit_not {n : Int} (h : fitB n = false) : ¬ (-1073741824 ≤ n ∧ n ≤ 1073741823) := by
  unfold fitB at h; exact of_decide_eq_false h

theorem kind_nil : kindOf 0 = 2 := rfl
theorem kind_small {o : Int} (h : smallB o = true) : kindOf o = 1 := by
  have := small_out h
  unfold kindOf
  rw [if_neg (by omega), if_pos h]
theorem kind_thing {o : Int} (h : o % 2 = 0) (h1 : 4 ≤ o) (h2 : o ≤ 3998) : kindOf o = 3 := by
  unfold kindOf
  rw [if_neg (by omega), if_neg (by rw [small_no (by omega)]; decide), if_pos ⟨h, h1, h2⟩]
theorem kind_none {o : Int} (h0 : o ≠ 0) (h : smallB o = false) (h1 : ¬ (o % 2 = 0 ∧ 4 ≤ o ∧ o ≤ 3998)) : kindOf o = 0 := by
  unfold kindOf
  rw [if_neg h0, if_neg (by rw [h]; decide), if_neg h1]
theorem kind_not {o : Int} (h : smallB o = false) : kindOf o ≠ 1 := by
  unfold kindOf
  rw [if_neg (c := smallB o = true) (by rw [h]; decide)]
  split
  · decide
  · split <;> decide

theorem val_small {o : Int} (h : smallB o = true) : valOf o = (o - 1) / 2 := by unfold valOf; rw [if_pos h]
theorem val_not {o : Int} (h : smallB o = false) : valOf o = 0 := by unfold valOf; rw [if_neg (by rw [h]; decide)]
theorem val_bd (o : Int) : -1073741824 ≤ valOf o ∧ valOf o ≤ 1073741823 := by
  cases h : smallB o
  · rw [val_not h]; omega
  · have := small_out h
    rw [val_small h]; omega
theorem ref_fit {n : Int} (h : fitB n = true) : refOf n = 2 * n + 1 := by unfold refOf; rw [if_pos h]
theorem ref_not {n : Int} (h : fitB n = false) : refOf n = 0 := by unfold refOf; rw [if_neg (by rw [h]; decide)]
/-- What is small is the reference of its number. -/
theorem small_ref {n : Int} (h : fitB n = true) : smallB (refOf n) = true := by
  have := fit_out h
  rw [ref_fit h]
  exact small_mk (by omega) (by omega) (by omega)
/-- .. which is its own. -/
theorem val_ref {n : Int} (h : fitB n = true) : valOf (refOf n) = n := by
  rw [val_small (small_ref h), ref_fit h]; omega
theorem reck_yes {f : Int → Int → Int} {a b : Int} (h : canB f a b = true) : reck f a b = 2 * f (valOf a) (valOf b) + 1 := by unfold reck; rw [if_pos h]
theorem reck_no {f : Int → Int → Int} {a b : Int} (h : canB f a b = false) : reck f a b = 0 := by unfold reck; rw [if_neg (by rw [h]; decide)]
theorem can_left {f : Int → Int → Int} {a b : Int} (h : smallB a = false) : canB f a b = false := by unfold canB; rw [h]; rfl
theorem can_right {f : Int → Int → Int} {a b : Int} (h : smallB b = false) : canB f a b = false := by unfold canB; rw [h, Bool.and_false]; rfl
theorem can_both {f : Int → Int → Int} {a b : Int} (h : smallB a = true) (g : smallB b = true) : canB f a b = fitB (f (valOf a) (valOf b)) := by unfold canB; rw [h, g]; rfl
theorem mul_bd (a b : Int) : -1152921504606846976 ≤ valOf a * valOf b ∧ valOf a * valOf b ≤ 1152921504606846976 := by
  have ha := val_bd a
  have hb := val_bd b
  have h1 : (valOf a).natAbs ≤ 1073741824 := by omega
  have h2 : (valOf b).natAbs ≤ 1073741824 := by omega
  have h3 : (valOf a * valOf b).natAbs ≤ 1152921504606846976 := by
    rw [Int.natAbs_mul]
    exact Nat.le_trans (Nat.mul_le_mul h1 h2) (by decide)
  omega
end Go.Proofs.Ythdhaokjibfjdaa
