/- Strings: their bytes as numbers. Nothing of heaps in it. -/
import Derived.Test.YtmgmbgacdjebgaaMem
import Derived.Laws.BytesArg
import Derived.Laws.IdiomStrings
import Derived.Maps.OwnSet
import Derived.WalkSmall
import Derived.Deep.QuietTactic
import Derived.BigQuiet
import Derived.Deep.RegionLaw
namespace Go.Proofs.Ytmgmbgacdjebgaa
open Go.RowKit

theorem tyStr : Try.prog.underlying 9 = some .string := by kernel_rfl
theorem add_plain (b off j : Nat) : (⟨b, off, none⟩ : Addr).add j = ⟨b, off + j, none⟩ := by unfold Addr.add; split <;> simp_all
theorem wd_byte {xs : List Int} (h : ∀ c ∈ xs, 0 ≤ c ∧ c ≤ 255) (k : Nat) : 0 ≤ wd xs k ∧ wd xs k ≤ 255 := by
  unfold wd
  by_cases hk : k < xs.length
  · rw [List.getD_eq_getElem?_getD, List.getElem?_eq_getElem hk]; exact h _ (List.getElem_mem hk)
  · rw [List.getD_eq_getElem?_getD, List.getElem?_eq_none (by omega)]; simp
/-- The bytes of a string. -/
def nums (t : ByteArray) : List Int := t.data.toList.map fun x => (x.toNat : Int)
theorem nums_length (t : ByteArray) : (nums t).length = t.size := by
  unfold nums; rw [List.length_map, Array.length_toList]; rfl
theorem nums_byte (t : ByteArray) : ∀ c ∈ nums t, 0 ≤ c ∧ c ≤ 255 := fun c hc => by
  obtain ⟨x, _, rfl⟩ := List.mem_map.1 hc
  have := x.toNat_lt
  omega
theorem nums_at {t : ByteArray} {i : Nat} (h : i < t.size) : ((t[i]'h).toNat : Int) = wd (nums t) i := by
  have hl : i < (nums t).length := by rw [nums_length]; exact h
  unfold wd
  rw [List.getD_eq_getElem?_getD, List.getElem?_eq_getElem hl]
  simp [nums]
  rfl
theorem nums_str {xs : List Int} (h : ∀ c ∈ xs, 0 ≤ c ∧ c ≤ 255) : nums (strOfNums xs) = xs := by
  unfold nums
  rw [strOfNums_data, List.map_map]
  conv => rhs; rw [← List.map_id xs]
  refine List.map_congr_left fun c hc => ?_
  have := h c hc
  simp only [Function.comp, id]
  rw [UInt8.toNat_ofNat']
  omega
theorem str_nums (t : ByteArray) : strOfNums (nums t) = t := by
  cases t with
  | mk d =>
    unfold strOfNums nums
    rw [List.map_map]
    have e : (fun n : Int => UInt8.ofNat n.toNat) ∘ (fun x : UInt8 => (x.toNat : Int)) = id := by
      funext x
      simp
    rw [e, List.map_id]
theorem str_same {xs : List Int} (h : ∀ c ∈ xs, 0 ≤ c ∧ c ≤ 255) (t : ByteArray) : ((strOfNums xs).toList == t.toList) = (xs == nums t) := by
  have e : ((strOfNums xs).toList = t.toList) ↔ xs = nums t := by
    rw [ByteArray.toList_eq, ByteArray.toList_eq]
    constructor
    · intro e
      rw [← nums_str h]
      unfold nums
      rw [e]
    · intro e
      rw [e, str_nums]
  by_cases hx : xs = nums t
  · rw [beq_iff_eq.2 hx, beq_iff_eq.2 (e.2 hx)]
  · rw [beq_eq_false_iff_ne.2 hx, beq_eq_false_iff_ne.2 (fun x => hx (e.1 x))]
theorem str_inj {xs ys : List Int} (h : ∀ c ∈ xs, 0 ≤ c ∧ c ≤ 255) (h' : ∀ c ∈ ys, 0 ≤ c ∧ c ≤ 255) : ((strOfNums xs).toList == (strOfNums ys).toList) = (xs == ys) := by
  rw [str_same h, nums_str h']
theorem wrap_byte {c : Int} (h : 0 ≤ c ∧ c ≤ 255) : IntKind.u8.wrap c = c := by
  simp [IntKind.wrap, IntKind.bits, IntKind.signed]; omega
end Go.Proofs.Ytmgmbgacdjebgaa
