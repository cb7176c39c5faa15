/- Chapter 8, plain: rows of bytes that package lex asks, and which bytes they tell. No seat's numbers in it. -/
import Derived.Test.YtkmnlmoalobmjadDoorLexNum
namespace Go.Proofs.YtkmnlmoalobmjadDoor

def lettersB : List UInt8 := [97, 98, 99, 100, 101, 102, 103, 104, 105, 106, 107, 108, 109, 110, 111, 112, 113, 114, 115, 116, 117, 118, 119, 120, 121, 122, 65, 66, 67, 68, 69, 70, 71, 72, 73, 74, 75, 76, 77, 78, 79, 80, 81, 82, 83, 84, 85, 86, 87, 88, 89, 90, 95]
def digitsB : List UInt8 := [48, 49, 50, 51, 52, 53, 54, 55, 56, 57]
def alnumB : List UInt8 := lettersB ++ digitsB
def blanksB : List UInt8 := [32, 10, 9]
def lineB : List UInt8 := [10]
def signsB : List UInt8 := [43, 45, 42, 60, 61, 33, 46, 44, 59, 58, 40, 41, 123, 125]
theorem all_bytes {p : Nat → Bool} (h : (List.range 256).all p = true) {c : Int} (hc : 0 ≤ c ∧ c ≤ 255) : p c.toNat = true :=
  List.all_eq_true.1 h _ (List.mem_range.2 (by omega))
/-- A row of bytes tells what p tells. -/
theorem told_by {l : List UInt8} {p : Int → Bool} (h : ((List.range 256).all fun n => decide (n.toUInt8 ∈ l) == p (n : Int)) = true) {c : Int} (hc : 0 ≤ c ∧ c ≤ 255) : decide (0 ≤ Lib.indexByte l c.toNat.toUInt8) = p c := by
  have h1 := all_bytes h hc
  simp only [beq_iff_eq] at h1
  rw [show ((c.toNat : Nat) : Int) = c by omega] at h1
  rw [← h1]
  exact decide_eq_decide.2 (index_mem _ _)
set_option maxRecDepth 100000 in
theorem tells_let {c : Int} (hc : 0 ≤ c ∧ c ≤ 255) : decide (0 ≤ Lib.indexByte lettersB c.toNat.toUInt8) = letB c := told_by (by decide +kernel) hc
set_option maxRecDepth 100000 in
theorem tells_dig {c : Int} (hc : 0 ≤ c ∧ c ≤ 255) : decide (0 ≤ Lib.indexByte digitsB c.toNat.toUInt8) = digB c := told_by (by decide +kernel) hc
set_option maxRecDepth 100000 in
theorem tells_aln {c : Int} (hc : 0 ≤ c ∧ c ≤ 255) : decide (0 ≤ Lib.indexByte alnumB c.toNat.toUInt8) = alnB c := told_by (by decide +kernel) hc
set_option maxRecDepth 100000 in
theorem tells_blank {c : Int} (hc : 0 ≤ c ∧ c ≤ 255) : decide (0 ≤ Lib.indexByte blanksB c.toNat.toUInt8) = blankB c := told_by (by decide +kernel) hc
set_option maxRecDepth 100000 in
theorem tells_sign {c : Int} (hc : 0 ≤ c ∧ c ≤ 255) : decide (0 ≤ Lib.indexByte signsB c.toNat.toUInt8) = signsL.contains c := told_by (p := fun c => signsL.contains c) (by decide +kernel) hc
set_option maxRecDepth 100000 in
theorem tells_line {c : Int} (hc : 0 ≤ c ∧ c ≤ 255) : decide (Lib.indexByte lineB c.toNat.toUInt8 < 0) = noteB c := by
  have h := told_by (l := lineB) (p := fun c => !noteB c) (by decide +kernel) hc
  by_cases hx : 0 ≤ Lib.indexByte lineB c.toNat.toUInt8
  · rw [decide_eq_true hx] at h
    rw [decide_eq_false (by omega)]
    cases hn : noteB c with
    | false => rfl
    | true => rw [hn] at h; cases h
  · rw [decide_eq_false hx] at h
    rw [decide_eq_true (by omega)]
    cases hn : noteB c with
    | true => rfl
    | false => rw [hn] at h; cases h
end Go.Proofs.YtkmnlmoalobmjadDoor
