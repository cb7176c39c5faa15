/- Texts: a string's bytes as numbers, bytes laid one by one into a row, rows of strings. -/
import Derived.Test.YtmgmbgacdjebgaaBytesMem
import Derived.Test.YtmgmbgacdjebgaaNamesMore
namespace Go.Proofs.Ytmgmbgacdjebgaa
open Go.RowKit

theorem vals_set (xs : List Int) (j : Nat) (c : Int) : (vals xs).set j (.int .i64 c) = vals (xs.set j c) := by simp [List.map_set]
theorem bytesV_set (xs : List Int) (j : Nat) (c : Int) : (bytesV xs).set j (.int .u8 c) = bytesV (xs.set j c) := by simp [List.map_set]
theorem fill_all (xs : List Int) : fillP (List.replicate xs.length 0) 0 xs xs.length = xs := by
  refine eq_of_wd (by rw [fill_length]; simp) fun j hj => ?_
  rw [fill_length] at hj
  have := fill_in (M := List.replicate xs.length 0) (b := 0) (T := xs) xs.length j (by simp) (by simpa using hj)
  rwa [Nat.zero_add] at this
theorem own_cellB {w : World} {base cap b n : Nat} {xs : List Int} (hn : n = xs.length) (h : w.ownsRow base 5 1 (sl b n cap) n (bytesV xs)) {k : Nat} (hk : k < xs.length) : w.cell? ⟨b, k, none⟩ = some (.int .u8 (wd xs k)) := by
  rw [h.cellAt k (by omega)]
  simp [wd, List.getElem?_eq_getElem hk]
theorem own_brow {w : World} {base cap b n : Nat} {xs : List Int} (hn : n = xs.length) (h : w.ownsRow base 5 1 (sl b n cap) n (bytesV xs)) (hx : ∀ c ∈ xs, 0 ≤ c ∧ c ≤ 255) : BRow w b 0 xs :=
  ⟨own_lt h, fun k hk => by rw [Nat.zero_add]; exact own_cellB hn h hk, hx⟩

/-- Strings of numbers. -/
abbrev strsV (ts : List (List Int)) : List Value := ts.map fun xs => Value.string (strOfNums xs)
theorem strsV_one (ts : List (List Int)) : ∀ u ∈ strsV ts, u.oneCell' = true := fun u hu => by
  obtain ⟨_, _, rfl⟩ := List.mem_map.1 hu
  rfl
/-- A slice that reads as those strings. -/
def ReadsS (w : World) (v : Value) (ts : List (List Int)) : Prop :=
  ∃ ad c, v = .slice ad ts.length c ∧ (0 < ts.length → ∃ b off, ad = some ⟨b, off, none⟩ ∧ b < w.heap.size ∧ ∀ k, k < ts.length → w.cell? ⟨b, off + k, none⟩ = some (.string (strOfNums (ts.getD k []))))
theorem own_cellS {w : World} {base cap b n : Nat} {ts : List (List Int)} (h : w.ownsRow base 9 1 (sl b n cap) n (strsV ts)) {k : Nat} (hn : k < n) (hk : k < ts.length) : w.cell? ⟨b, k, none⟩ = some (.string (strOfNums (ts.getD k []))) := by
  rw [h.cellAt k (by omega)]
  simp [List.getElem?_eq_getElem hk]
theorem ReadsS.of_own {w : World} {B : Nat} {v : Value} {ts : List (List Int)} (h : w.ownsRow B 9 1 v ts.length (strsV ts)) : ReadsS w v ts := by
  rcases h.2 with ⟨rfl, h0⟩ | ⟨g, cap, cur, rfl, hg, r⟩
  · exact ⟨none, 0, by rw [h0], fun h => by omega⟩
  · exact ⟨_, _, rfl, fun _ => ⟨g, 0, rfl, (h.lt g rfl).2, fun k hk => by rw [Nat.zero_add]; exact own_cellS h hk hk⟩⟩
theorem ReadsS.below {w w' : World} {v : Value} {ts : List (List Int)} (h : ReadsS w v ts) (hb : Below w.heap.size w w') : ReadsS w' v ts := by
  obtain ⟨ad, c, hv, hr⟩ := h
  refine ⟨ad, c, hv, fun h0 => ?_⟩
  obtain ⟨b, off, he, hlt, hc⟩ := hr h0
  exact ⟨b, off, he, by have := hb.size; omega, fun k hk => by rw [hb.cell (p := ⟨b, off + k, none⟩) hlt]; exact hc k hk⟩
theorem infoS : (Try.prog.info? 9).map (fun i => (i.zero, i.size, i.bytes)) = some (some (.string ByteArray.empty), 1, 16) := by kernel_rfl
theorem tyStrs : Try.prog.underlying 30 = some (.slice 9) := by kernel_rfl
end Go.Proofs.Ytmgmbgacdjebgaa
