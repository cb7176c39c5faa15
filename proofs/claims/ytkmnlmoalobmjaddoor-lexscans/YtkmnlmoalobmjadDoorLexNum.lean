/- Chapter 8, plain: what the library's Atoi tells of digits; which bytes a text has. No seat's numbers in it. -/
import Derived.Test.YtkmnlmoalobmjadDoorLexGap
import Derived.Test.YtkmnlmoalobmjadDoorTextBase
import Derived.Lib.AtoiAllCases
import Derived.Lib.Bytealg
import Derived.Lib.Strings
namespace Go.Proofs.YtkmnlmoalobmjadDoor

/-- The value of digits, behind what has come. -/
def decN (acc : Nat) : List UInt8 → Nat
  | [] => acc
  | c :: r => decN (acc * 10 + (c.toNat - 48)) r
theorem decN_ge : ∀ (l : List UInt8) (acc : Nat), acc ≤ decN acc l
  | [], acc => Nat.le_refl _
  | c :: r, acc => by
    unfold decN
    have := decN_ge r (acc * 10 + (c.toNat - 48))
    omega
theorem decN_snoc : ∀ (l : List UInt8) (acc : Nat) (c : UInt8), decN acc (l ++ [c]) = 10 * decN acc l + (c.toNat - 48)
  | [], acc, c => by show decN (acc * 10 + (c.toNat - 48)) [] = _; unfold decN; omega
  | d :: r, acc, c => by show decN (acc * 10 + (d.toNat - 48)) (r ++ [c]) = _; rw [decN_snoc r]; rfl
theorem parse_digs : ∀ (l : List UInt8) (acc : Nat), acc < 18446744073709551616 → (∀ c ∈ l, 48 ≤ c.toNat ∧ c.toNat ≤ 57) → (Lib.parseUint10 acc l = .ok (decN acc l) ∧ decN acc l < 18446744073709551616) ∨ (Lib.parseUint10 acc l = .range ∧ 18446744073709551616 ≤ decN acc l)
  | [], acc, ha, _ => Or.inl ⟨rfl, ha⟩
  | c :: r, acc, ha, h => by
    have hc := h c (List.mem_cons_self ..)
    unfold Lib.parseUint10 decN
    have hge := decN_ge r (acc * 10 + (c.toNat - 48))
    rw [if_pos hc]
    split
    · exact Or.inr ⟨rfl, by omega⟩
    · split
      · exact Or.inr ⟨rfl, by omega⟩
      · exact parse_digs r _ (by omega) fun x hx => h x (List.mem_cons_of_mem _ hx)
theorem decN_take (s : List UInt8) (hd : ∀ c ∈ s, 48 ≤ c.toNat ∧ c.toNat ≤ 57) : ∀ m, m ≤ s.length → ((decN 0 (s.take m) : Nat) : Int) = decU (s.map fun x => (x.toNat : Int)) 0 m
  | 0, _ => rfl
  | m + 1, h => by
    have ih := decN_take s hd m (by omega)
    have hm : m < s.length := by omega
    have hc := hd _ (List.getElem_mem hm)
    rw [List.take_add_one, List.getElem?_eq_getElem hm]
    show ((decN 0 (s.take m ++ [s[m]]) : Nat) : Int) = _
    rw [decN_snoc]
    unfold decU
    have e : wd (s.map fun x => (x.toNat : Int)) (0 + m) = (s[m].toNat : Int) := by
      unfold wd
      rw [Nat.zero_add, List.getD_eq_getElem?_getD, List.getElem?_map, List.getElem?_eq_getElem hm]; rfl
    rw [e, ← ih]
    omega
/-- Atoi of digits: their value, or out of range. -/
theorem atoi_digs {s : ByteArray} (h0 : 0 < s.size) (hd : ∀ j, j < s.size → digB (wd (nums s) j) = true) : (decU (nums s) 0 s.size ≤ 9223372036854775807 ∧ Lib.atoiAll s.data.toList = .ok (decU (nums s) 0 s.size)) ∨ (9223372036854775807 < decU (nums s) 0 s.size ∧ Lib.atoiAll s.data.toList = .range) := by
  have hl : s.data.toList.length = s.size := by rw [Array.length_toList]; rfl
  have hd' : ∀ c ∈ s.data.toList, 48 ≤ c.toNat ∧ c.toNat ≤ 57 := fun c hc => by
    obtain ⟨j, hj, rfl⟩ := List.mem_iff_getElem.1 hc
    have := hd j (by omega)
    unfold digB at this
    have e : wd (nums s) j = (s.data.toList[j].toNat : Int) := by
      unfold wd nums
      rw [List.getD_eq_getElem?_getD, List.getElem?_map, List.getElem?_eq_getElem hj]; rfl
    rw [e] at this
    have := of_decide_eq_true this
    omega
  have hv := decN_take _ hd' s.data.toList.length (Nat.le_refl _)
  rw [List.take_length, hl] at hv
  have hv : ((decN 0 s.data.toList : Nat) : Int) = decU (nums s) 0 s.size := hv
  rw [← hv]
  cases hs : s.data.toList with
  | nil => rw [hs] at hl; simp at hl; omega
  | cons c r =>
    have hc := hd' c (by rw [hs]; exact List.mem_cons_self ..)
    rw [Lib.atoiAll_plain c r (by omega) (by omega)]
    unfold Lib.parseMag
    rw [if_neg (by simp)]
    rcases parse_digs (c :: r) 0 (by omega) (by rw [← hs]; exact hd') with ⟨h1, h2⟩ | ⟨h1, h2⟩
    · rw [h1]
      unfold Lib.signless
      by_cases hb : 9223372036854775808 ≤ decN 0 (c :: r)
      · right; simp only; rw [if_pos hb]; exact ⟨by omega, rfl⟩
      · left; simp only; rw [if_neg hb]; exact ⟨by omega, rfl⟩
    · right; rw [h1]; exact ⟨by omega, rfl⟩
/-- A byte of a text, or none. -/
theorem index_mem (l : List UInt8) (c : UInt8) : (0 ≤ Lib.indexByte l c) ↔ c ∈ l := by
  induction l with
  | nil => simp [Lib.indexByte]
  | cons b l ih =>
    have hge := Lib.indexByte_ge l c
    unfold Lib.indexByte
    by_cases hb : b = c
    · subst hb; simp
    · rw [if_neg (by simpa using hb)]
      by_cases h1 : Lib.indexByte l c = -1
      · rw [if_pos (by simpa using h1)]
        have : ¬ c ∈ l := fun h => by have := ih.2 h; omega
        simp [this, Ne.symm hb]
      · rw [if_neg (by simpa using h1)]
        have : c ∈ l := ih.1 (by omega)
        simp [this]
        omega
end Go.Proofs.YtkmnlmoalobmjadDoor
