/- HeapKeeps holds for every heap and all numbers that can come in, with no condition: what is put into a slot is there and nothing else changes, and a thing that is made leaves the others as they are. -/
import Derived.Test.YtpapaadclkdbkaaNewGood
import Derived.Test.YtpapaadclkdbkaaPutGood
import Derived.Test.YtpapaadclkdbkaaKeepInts
import Derived.Test.YtpapaadclkdbkaaKeepPlain
namespace Go.Proofs.Ytpapaadclkdbkaa.heapKeeps
open Go.RowKit

theorem heap_below {W : List Int} {ad : Option Addr} {w w' : World} (hr : 2 ≤ W.length → ∃ b off, ad = some ⟨b, off, none⟩ ∧ Row w b off W) (hb : Below w.heap.size w w') : 2 ≤ W.length → ∃ b off, ad = some ⟨b, off, none⟩ ∧ Row w' b off W :=
  fun h => let ⟨b, off, e, r⟩ := hr h; ⟨b, off, e, r.same hb⟩
theorem keep {w w' : World} {o : Obj} (hb : Below (w.alloc o).heap.size (w.alloc o) w') {a : Addr} {v : Value} (h : w.cell? a = some v) : w'.cell? a = some v := by
  have hlt := World.block_lt_of_cell? w a h
  rw [(below_call hb).cell hlt]; exact h
theorem grew {w w' : World} {o : Obj} (hb : Below (w.alloc o).heap.size (w.alloc o) w') : w.heap.size < w'.heap.size := by
  have := hb.size; simp at this; omega

theorem box_front {w w' : World} {a : Value} {t : TypeId} {o : Obj} (hb : Below ((w.alloc (.cells #[a] t)).alloc o).heap.size ((w.alloc (.cells #[a] t)).alloc o) w') : w'.cell? ⟨w.heap.size, 0, none⟩ = some a ∧ w.heap.size < w'.heap.size := by
  have hs := hb.size
  refine ⟨?_, by simp at hs; omega⟩
  rw [hb.cell (p := ⟨w.heap.size, 0, none⟩) (by simp; omega)]; simp

/-- The smallest heap. -/
theorem tiny_may : (checkOf [0, 1]).1 = 0 := by
  rw [check_things (by decide) (unfit_end (by decide)), places_end (by decide)]; rfl
theorem tiny_nil : nilB [0, 1] 0 = true := by
  have : kindOf 0 = 2 := by decide
  simp [nilB, this]
/-- What New says of it. -/
def TinyAns (e : Ending) : Prop := ∃ g c, e = .returned (.tuple #[.agg #[sl g 6 c], .int .i64 4, .int .i64 0])
theorem tiny_new (b cap : Nat) (w : World) (hr : Row w b 0 [0, 1]) :
    Calls Try.prog 9 #[heapV (some ⟨b, 0, none⟩) 2 cap, .int .i64 0, .int .i64 0, .int .i64 1] w fun e w' => TinyAns e ∧ Below w.heap.size w w' := by
  refine (new_good [0, 1] (some ⟨b, 0, none⟩) cap 0 0 1 w (fun _ => ⟨b, 0, rfl, hr⟩) tiny_may tiny_nil (by decide) (by decide) (by decide) (by decide)).mono fun e w' hp => ⟨?_, hp.2⟩
  obtain ⟨g, c, he, _⟩ := hp.1
  exact ⟨g, c, he⟩
theorem tiny_row (w : World) (o : Obj) (t : TypeId) : Row ((w.alloc o).alloc (.cells #[.int .i64 0, .int .i64 1] t)) (w.heap.size + 1) 0 [0, 1] := by
  refine ⟨by simp, fun k hk => ?_, fun k => ?_⟩
  · rw [cell_at2 (by simp)]
    match k, hk with
    | 0, _ => rfl
    | 1, _ => rfl
  · match k with
    | 0 => decide
    | 1 => decide
    | k + 2 => show (Lit.int .i64 (wd [0, 1] (k + 2))).wf = true; unfold wd; simp; decide

/-- What Put can say. -/
theorem put_says (W : List Int) (ad : Option Addr) (cap : Nat) (o at' what : Int) (hm : W.length ≤ maxLen) :
    (∃ er : Int, (er != 0) = true ∧ ∀ w, (2 ≤ W.length → ∃ b off, ad = some ⟨b, off, none⟩ ∧ Row w b off W) → Calls Try.prog 14 #[heapV ad W.length cap, .int .i64 o, .int .i64 at', .int .i64 what] w fun e w' => e = putErr er ∧ Below w.heap.size w w') ∨
    (∃ p k : Nat, (checkOf W).1 = 0 ∧ o = 2 * (p : Int) ∧ at' = (k : Int) ∧ thingB W (2 * (p : Int)) = true ∧ p ∈ places W 2 ∧ k < slotsAt W p ∧ standB W (formAt W p) what = true) := by
  by_cases h : (checkOf W).1 = 0
  · cases ho : thingB W o with
    | false => exact Or.inl ⟨3, rfl, fun w hr => put_kind W ad cap o at' what w hr h ho⟩
    | true =>
      obtain ⟨p, rfl, hmem, _⟩ := thing_even ho
      by_cases hat : at' < 0 ∨ (slotsAt W p : Int) ≤ at'
      · exact Or.inl ⟨4, rfl, fun w hr => put_range W ad cap p at' what w hr h ho hmem hat⟩
      · obtain ⟨k, rfl⟩ := Int.eq_ofNat_of_zero_le (show 0 ≤ at' by omega)
        cases hs : standB W (formAt W p) what with
        | false => exact Or.inl ⟨2, rfl, fun w hr => put_form W ad cap p k what w hr h ho hmem (by omega) hs⟩
        | true => exact Or.inr ⟨p, k, h, rfl, rfl, ho, hmem, by omega, hs⟩
  · exact Or.inl ⟨7, rfl, fun w hr => put_heap W ad cap o at' what w hm hr h⟩

theorem big (ad : Option Addr) (n cap : Nat) (o at' what : Int) (w : World) (hm : n ≤ maxLen) (h : 5000 < n) :
    Calls Try.prog 5 #[.agg #[.slice ad n cap], .int .i64 o, .int .i64 at', .int .i64 what] w fun e w' => e = .returned (.bool true) ∧ Below w.heap.size w w' := by
  unfold maxLen at hm
  go_enter Try.func5, Try.ntmps5
  go_wp2_with (go_at_call 9; refine (tiny_new _ _ _ (tiny_row _ _ _)).mono ?_; rintro e w1 ⟨⟨g1, c1, rfl⟩, hb1⟩; obtain ⟨c0, hz⟩ := box_front hb1)
  go_ret
  exact ⟨rfl, (below2 hb1).alloc (by omega) _⟩

set_option maxHeartbeats 1000000 in
theorem walk_no (W : List Int) (ad : Option Addr) (cap : Nat) (o at' what er : Int) (w : World) (hl : W.length ≤ 5000) (hr : 2 ≤ W.length → ∃ b off, ad = some ⟨b, off, none⟩ ∧ Row w b off W) (her : (er != 0) = true)
    (hput : ∀ w, (2 ≤ W.length → ∃ b off, ad = some ⟨b, off, none⟩ ∧ Row w b off W) → Calls Try.prog 14 #[heapV ad W.length cap, .int .i64 o, .int .i64 at', .int .i64 what] w fun e w' => e = putErr er ∧ Below w.heap.size w w') :
    Calls Try.prog 5 #[.agg #[.slice ad W.length cap], .int .i64 o, .int .i64 at', .int .i64 what] w fun e w' => e = .returned (.bool true) ∧ Below w.heap.size w w' := by
  have HR : Hid (2 ≤ W.length → ∃ b off, ad = some ⟨b, off, none⟩ ∧ Row w b off W) := hr
  have HP : Hid (∀ w, (2 ≤ W.length → ∃ b off, ad = some ⟨b, off, none⟩ ∧ Row w b off W) → Calls Try.prog 14 #[heapV ad W.length cap, .int .i64 o, .int .i64 at', .int .i64 what] w fun e w' => e = putErr er ∧ Below w.heap.size w w') := hput
  clear hr hput
  go_enter Try.func5, Try.ntmps5
  go_wp2_with (first | (go_at_call 9; refine (tiny_new _ _ _ (tiny_row _ _ _)).mono ?_; rintro e w1 ⟨⟨g1, c1, rfl⟩, hb1⟩; obtain ⟨c0, hz⟩ := box_front hb1; have HR1 := heap_below HR.out (below2 hb1)) | (go_at_call 14; refine (HP.out _ (reads1 HR1)).mono ?_; rintro e w2 ⟨rfl, hb2⟩))
  go_ret
  exact ⟨rfl, (((below2 hb1).trans ((below_call hb2).mono (below2 hb1).size)).alloc (by have := (below2 hb1).size; have := (below_call hb2).size; omega) _)⟩

end Go.Proofs.Ytpapaadclkdbkaa.heapKeeps
