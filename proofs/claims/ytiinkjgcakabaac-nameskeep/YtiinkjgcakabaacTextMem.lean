/- Texts: a string's bytes as numbers, bytes laid one by one into a row, rows of strings. -/
import Derived.Test.YtiinkjgcakabaacBytesMem
import Derived.Test.YtiinkjgcakabaacNamesMore
namespace Go.Proofs.Ytiinkjgcakabaac
open Go.RowKit

/-- The bytes of a string. -/
def nums (t : ByteArray) : List Int := t.data.toList.map fun x => (x.toNat : Int)
theorem nums_length (t : ByteArray) : (nums t).length = t.size := by
  unfold nums; rw [List.length_map, Array.length_toList]; rfl
theorem nums_byte (t : ByteArray) : ∀ c ∈ nums t, 0 ≤ c ∧ c ≤ 255 := fun c hc => by
  obtain ⟨x, _, rfl⟩ := List.mem_map.1 hc
  have := x.toNat_lt
  omega
theorem nums_at {t : ByteArray} {i : Nat} (h : i < t.size) : ((t[i]'h).toNat : Int) = wd (nums t) i := by
  have hl : i < (nums t).length := by rw [nums_length]; exact h
  unfold wd
  rw [List.getD_eq_getElem?_getD, List.getElem?_eq_getElem hl]
  simp [nums]
  rfl
theorem nums_str {xs : List Int} (h : ∀ c ∈ xs, 0 ≤ c ∧ c ≤ 255) : nums (strOfNums xs) = xs := by
  unfold nums
  rw [strOfNums_data, List.map_map]
  conv => rhs; rw [← List.map_id xs]
  refine List.map_congr_left fun c hc => ?_
  have := h c hc
  simp only [Function.comp, id]
  rw [UInt8.toNat_ofNat']
  omega
theorem str_nums (t : ByteArray) : strOfNums (nums t) = t := by
  cases t with
  | mk d =>
    unfold strOfNums nums
    rw [List.map_map]
    have e : (fun n : Int => UInt8.ofNat n.toNat) ∘ (fun x : UInt8 => (x.toNat : Int)) = id := by
      funext x
      simp
    rw [e, List.map_id]
theorem str_same {xs : List Int} (h : ∀ c ∈ xs, 0 ≤ c ∧ c ≤ 255) (t : ByteArray) : ((strOfNums xs).toList == t.toList) = (xs == nums t) := by
  have e : ((strOfNums xs).toList = t.toList) ↔ xs = nums t := by
    rw [ByteArray.toList_eq, ByteArray.toList_eq]
    constructor
    · intro e
      rw [← nums_str h]
      unfold nums
      rw [e]
    · intro e
      rw [e, str_nums]
  by_cases hx : xs = nums t
  · rw [beq_iff_eq.2 hx, beq_iff_eq.2 (e.2 hx)]
  · rw [beq_eq_false_iff_ne.2 hx, beq_eq_false_iff_ne.2 (fun x => hx (e.1 x))]
theorem str_inj {xs ys : List Int} (h : ∀ c ∈ xs, 0 ≤ c ∧ c ≤ 255) (h' : ∀ c ∈ ys, 0 ≤ c ∧ c ≤ 255) : ((strOfNums xs).toList == (strOfNums ys).toList) = (xs == ys) := by
  rw [str_same h, nums_str h']
theorem wrap_byte {c : Int} (h : 0 ≤ c ∧ c ≤ 255) : IntKind.u8.wrap c = c := by
  simp [IntKind.wrap, IntKind.bits, IntKind.signed]; omega

theorem vals_set (xs : List Int) (j : Nat) (c : Int) : (vals xs).set j (.int .i64 c) = vals (xs.set j c) := by simp [List.map_set]
theorem bytesV_set (xs : List Int) (j : Nat) (c : Int) : (bytesV xs).set j (.int .u8 c) = bytesV (xs.set j c) := by simp [List.map_set]
theorem fill_all (xs : List Int) : fillP (List.replicate xs.length 0) 0 xs xs.length = xs := by
  refine eq_of_wd (by rw [fill_length]; simp) fun j hj => ?_
  rw [fill_length] at hj
  have := fill_in (M := List.replicate xs.length 0) (b := 0) (T := xs) xs.length j (by simp) (by simpa using hj)
  rwa [Nat.zero_add] at this
theorem own_cellB {w : World} {base cap b n : Nat} {xs : List Int} (hn : n = xs.length) (h : w.ownsRow base 5 1 (sl b n cap) n (bytesV xs)) {k : Nat} (hk : k < xs.length) : w.cell? ⟨b, k, none⟩ = some (.int .u8 (wd xs k)) := by
  rw [h.cellAt k (by omega)]
  simp [wd, List.getElem?_eq_getElem hk]
theorem own_brow {w : World} {base cap b n : Nat} {xs : List Int} (hn : n = xs.length) (h : w.ownsRow base 5 1 (sl b n cap) n (bytesV xs)) (hx : ∀ c ∈ xs, 0 ≤ c ∧ c ≤ 255) : BRow w b 0 xs :=
  ⟨own_lt h, fun k hk => by rw [Nat.zero_add]; exact own_cellB hn h hk, hx⟩

/-- Strings of numbers. -/
abbrev strsV (ts : List (List Int)) : List Value := ts.map fun xs => Value.string (strOfNums xs)
theorem strsV_one (ts : List (List Int)) : ∀ u ∈ strsV ts, u.oneCell' = true := fun u hu => by
  obtain ⟨_, _, rfl⟩ := List.mem_map.1 hu
  rfl
/-- A slice that reads as those strings. -/
def ReadsS (w : World) (v : Value) (ts : List (List Int)) : Prop :=
  ∃ ad c, v = .slice ad ts.length c ∧ (0 < ts.length → ∃ b off, ad = some ⟨b, off, none⟩ ∧ b < w.heap.size ∧ ∀ k, k < ts.length → w.cell? ⟨b, off + k, none⟩ = some (.string (strOfNums (ts.getD k []))))
theorem own_cellS {w : World} {base cap b n : Nat} {ts : List (List Int)} (h : w.ownsRow base 9 1 (sl b n cap) n (strsV ts)) {k : Nat} (hn : k < n) (hk : k < ts.length) : w.cell? ⟨b, k, none⟩ = some (.string (strOfNums (ts.getD k []))) := by
  rw [h.cellAt k (by omega)]
  simp [List.getElem?_eq_getElem hk]
theorem ReadsS.of_own {w : World} {B : Nat} {v : Value} {ts : List (List Int)} (h : w.ownsRow B 9 1 v ts.length (strsV ts)) : ReadsS w v ts := by
  rcases h.2 with ⟨rfl, h0⟩ | ⟨g, cap, cur, rfl, hg, r⟩
  · exact ⟨none, 0, by rw [h0], fun h => by omega⟩
  · exact ⟨_, _, rfl, fun _ => ⟨g, 0, rfl, (h.lt g rfl).2, fun k hk => by rw [Nat.zero_add]; exact own_cellS h hk hk⟩⟩
theorem ReadsS.below {w w' : World} {v : Value} {ts : List (List Int)} (h : ReadsS w v ts) (hb : Below w.heap.size w w') : ReadsS w' v ts := by
  obtain ⟨ad, c, hv, hr⟩ := h
  refine ⟨ad, c, hv, fun h0 => ?_⟩
  obtain ⟨b, off, he, hlt, hc⟩ := hr h0
  exact ⟨b, off, he, by have := hb.size; omega, fun k hk => by rw [hb.cell (p := ⟨b, off + k, none⟩) hlt]; exact hc k hk⟩
theorem infoS : (Try.prog.info? 9).map (fun i => (i.zero, i.size, i.bytes)) = some (some (.string ByteArray.empty), 1, 16) := by kernel_rfl
theorem tyStrs : Try.prog.underlying 47 = some (.slice 9) := by kernel_rfl
end Go.Proofs.Ytiinkjgcakabaac
