/- heap.New: a thing more, or what stands against it. -/
import Derived.Test.YtiinkjgcakabaacCheck
import Derived.Test.YtiinkjgcakabaacGrow
import Derived.Test.YtiinkjgcakabaacLaid
import Derived.Deep.CutRange
import Derived.Deep.DeepCutAuto
namespace Go.Proofs.Ytiinkjgcakabaac
open Go.RowKit

/-- What New, Look, Put say of words: nothing, and an error. -/
abbrev newErr (e : Int) : Ending := .returned (.tuple #[.agg #[.slice none 0 0], .int .i64 0, .int .i64 e])

theorem cell_set_past {w : World} {a : Addr} {v x : Value} {o : Obj} (h : w.cell? a = some v) : ((w.setCell a x).alloc o).cell? a = some x := by
  have hlt := World.block_lt_of_cell? w a h
  rw [cell_past _ (by simpa [World.setCell] using hlt)]
  exact World.cell?_setCell_same' w a x (by rw [h]; rfl)

set_option maxHeartbeats 1000000 in
theorem new_heap (W : List Int) (ad : Option Addr) (cap : Nat) (cl fo si : Int) (w : World) (hm : W.length ≤ maxLen) (hr : 2 ≤ W.length → ∃ b off, ad = some ⟨b, off, none⟩ ∧ Row w b off W) (h : (checkOf W).1 ≠ 0) :
    Calls Try.prog 45 #[heapV ad W.length cap, .int .i64 cl, .int .i64 fo, .int .i64 si] w fun e w' => e = newErr 7 ∧ Below w.heap.size w w' := by
  have hs : Hid (∀ w0, (2 ≤ W.length → ∃ b off, ad = some ⟨b, off, none⟩ ∧ Row w0 b off W) → Calls Try.prog 73 #[heapV ad W.length cap] w0 fun e w' => e = .returned (.tuple #[noView, .int .i64 7]) ∧ Below w0.heap.size w0 w') :=
    fun w0 hr0 => open_no W ad cap w0 hm hr0 h
  have HR : Hid (2 ≤ W.length → ∃ b off, ad = some ⟨b, off, none⟩ ∧ Row w b off W) := hr
  clear h hr
  go_enter Try.func45, Try.ntmps45
  go_wp2_with (first | (go_at_call 73; refine (hs.out _ (reads2 HR.out)).mono ?_; rintro e w1 ⟨rfl, hb1⟩; have hz : w.heap.size + 1 < w1.heap.size := (boxes11 hb1).2.2.2; have d0 := (boxes11 hb1).2.1; have d1 := (fun o => (boxes11 (hb1.alloc (by simp; omega) o)).2.1); have d2 := (fun o => (boxes11 (hb1.alloc (by simp; omega) o)).2.2.1)))
  have x1 := fun o => cell_set_past (o := o) (x := .slice none 0 0) d0
  refine bodyPost_ret (v := .tuple #[.agg #[.slice none 0 0], .int .i64 0, .int .i64 7]) (by simp [results, Try.results45, go_sem, x1]) rfl ⟨rfl, ?_⟩
  repeat (first | refine Below.setCell ?_ (by dsimp only; omega) _ | refine Below.alloc ?_ (by simp [World.setCell]; omega) _ | exact below2 hb1)

/-- A view of words that may be, in the middle of a call: what open has left. -/
theorem new_kind (W : List Int) (ad : Option Addr) (cap : Nat) (cl fo si : Int) (w : World) (hr : 2 ≤ W.length → ∃ b off, ad = some ⟨b, off, none⟩ ∧ Row w b off W) (h : (checkOf W).1 = 0) (hc : nilB W cl = false) :
    Calls Try.prog 45 #[heapV ad W.length cap, .int .i64 cl, .int .i64 fo, .int .i64 si] w fun e w' => e = newErr 3 ∧ Below w.heap.size w w' := by
  have hs : Hid (∀ w0, (2 ≤ W.length → ∃ b off, ad = some ⟨b, off, none⟩ ∧ Row w0 b off W) → Calls Try.prog 73 #[heapV ad W.length cap] w0 fun e w' => OpenAns W w0.heap.size e w' ∧ Below w0.heap.size w0 w') :=
    fun w0 hr0 => open_yes W ad cap w0 hr0 h
  have HR : Hid (2 ≤ W.length → ∃ b off, ad = some ⟨b, off, none⟩ ∧ Row w b off W) := hr
  clear h hr
  go_enter Try.func45, Try.ntmps45
  go_wp2_with (first | (go_at_call 73; refine (hs.out _ (reads2 HR.out)).mono ?_; rintro e w1 ⟨⟨b, cap', bm, rfl, hv, hb, hbm, hne⟩, hb1⟩; have hz : w.heap.size + 1 < w1.heap.size := (boxes11 hb1).2.2.2) | (go_at_call 74; refine (isNil_any W b cap' bm _ _ (hv.alloc _)).mono ?_; rintro e w2 ⟨rfl, hb2⟩; have hb12 := hb1.trans ((below_call hb2).mono hb1.size); obtain ⟨c0, d1, d2, hz2⟩ := boxes11 hb12))
  refine bodyPost_ret (v := .tuple #[.agg #[.slice none 0 0], .int .i64 0, .int .i64 3]) (by simp [results, Try.results45, go_sem, d1]) rfl ⟨rfl, ?_⟩
  repeat (first | refine Below.setCell ?_ (by dsimp only; omega) _ | exact below2 hb12)

set_option maxHeartbeats 1000000 in
theorem new_range (W : List Int) (ad : Option Addr) (cap : Nat) (cl fo si : Int) (w : World) (hr : 2 ≤ W.length → ∃ b off, ad = some ⟨b, off, none⟩ ∧ Row w b off W) (h : (checkOf W).1 = 0) (hc : nilB W cl = true) (hfs : (formB fo && sizeB si) = false) :
    Calls Try.prog 45 #[heapV ad W.length cap, .int .i64 cl, .int .i64 fo, .int .i64 si] w fun e w' => e = newErr 4 ∧ Below w.heap.size w w' := by
  have hs : Hid (∀ w0, (2 ≤ W.length → ∃ b off, ad = some ⟨b, off, none⟩ ∧ Row w0 b off W) → Calls Try.prog 73 #[heapV ad W.length cap] w0 fun e w' => OpenAns W w0.heap.size e w' ∧ Below w0.heap.size w0 w') :=
    fun w0 hr0 => open_yes W ad cap w0 hr0 h
  have HR : Hid (2 ≤ W.length → ∃ b off, ad = some ⟨b, off, none⟩ ∧ Row w b off W) := hr
  clear h hr
  have hw : formB fo = false ∨ (formB fo = true ∧ sizeB si = false) := by
    cases h1 : formB fo with
    | false => exact Or.inl rfl
    | true => rw [h1] at hfs; exact Or.inr ⟨rfl, hfs⟩
  clear hfs
  rcases hw with h1 | ⟨h1, h2⟩
  all_goals
    go_enter Try.func45, Try.ntmps45
    go_wp2_with (first | (go_at_call 73; refine (hs.out _ (reads2 HR.out)).mono ?_; rintro e w1 ⟨⟨b, cap', bm, rfl, hv, hb, hbm, hne⟩, hb1⟩; have hz : w.heap.size + 1 < w1.heap.size := (boxes11 hb1).2.2.2) | (go_at_call 74; refine (isNil_any W b cap' bm _ _ (hv.alloc _)).mono ?_; rintro e w2 ⟨rfl, hb2⟩; have hb12 := hb1.trans ((below_call hb2).mono hb1.size); obtain ⟨c0, d1, d2, hz2⟩ := boxes11 hb12) | (go_at_call 75; refine (isForm_any _ _).mono ?_; rintro e w3 ⟨rfl, rfl⟩) | (go_at_call 76; refine (isSize_any _ _).mono ?_; rintro e w3 ⟨rfl, rfl⟩))
    refine bodyPost_ret (v := .tuple #[.agg #[.slice none 0 0], .int .i64 0, .int .i64 4]) (by simp [results, Try.results45, go_sem, d1]) rfl ⟨rfl, ?_⟩
    repeat (first | refine Below.setCell ?_ (by dsimp only; omega) _ | exact below2 hb12)

set_option maxHeartbeats 1000000 in
theorem new_full (W : List Int) (ad : Option Addr) (cap : Nat) (cl fo si : Int) (w : World) (hr : 2 ≤ W.length → ∃ b off, ad = some ⟨b, off, none⟩ ∧ Row w b off W) (h : (checkOf W).1 = 0) (hc : nilB W cl = true) (h1 : formB fo = true) (h2 : sizeB si = true) (hfull : 2000 < (W.length : Int) + 3 + si ∨ 10000 < wd W 1) :
    Calls Try.prog 45 #[heapV ad W.length cap, .int .i64 cl, .int .i64 fo, .int .i64 si] w fun e w' => e = newErr 6 ∧ Below w.heap.size w w' := by
  have hs : Hid (∀ w0, (2 ≤ W.length → ∃ b off, ad = some ⟨b, off, none⟩ ∧ Row w0 b off W) → Calls Try.prog 73 #[heapV ad W.length cap] w0 fun e w' => OpenAns W w0.heap.size e w' ∧ Below w0.heap.size w0 w') :=
    fun w0 hr0 => open_yes W ad cap w0 hr0 h
  have HR : Hid (2 ≤ W.length → ∃ b off, ad = some ⟨b, off, none⟩ ∧ Row w b off W) := hr
  obtain ⟨hf, _⟩ := check_ok h
  obtain ⟨hl2, hl, _, _, _⟩ := front_out hf
  have hsi : 0 ≤ si ∧ si ≤ 60 := by unfold sizeB at h2; exact of_decide_eq_true h2
  clear h hr hf
  have hw : 2000 < (W.length : Int) + 3 + si ∨ ((W.length : Int) + 3 + si ≤ 2000 ∧ 10000 < wd W 1) := by omega
  clear hfull
  rcases hw with hw1 | ⟨hw1, hw2⟩
  all_goals
    go_enter Try.func45, Try.ntmps45
    go_wp2_with (first | (go_at_call 73; refine (hs.out _ (reads2 HR.out)).mono ?_; rintro e w1 ⟨⟨b, cap', bm, rfl, hv, hb, hbm, hne⟩, hb1⟩; have hz : w.heap.size + 1 < w1.heap.size := (boxes11 hb1).2.2.2) | (go_at_call 74; refine (isNil_any W b cap' bm _ _ (hv.alloc _)).mono ?_; rintro e w2 ⟨rfl, hb2⟩; have hb12 := hb1.trans ((below_call hb2).mono hb1.size); obtain ⟨c0, d1, d2, hz2⟩ := boxes11 hb12; obtain ⟨v0, v1⟩ := box_cells hb2; have hv2 := hv.same (below_call hb2); have hcn := hv2.cell (k := 1) (by omega)) | (go_at_call 75; refine (isForm_any _ _).mono ?_; rintro e w3 ⟨rfl, rfl⟩) | (go_at_call 76; refine (isSize_any _ _).mono ?_; rintro e w3 ⟨rfl, rfl⟩))
    refine bodyPost_ret (v := .tuple #[.agg #[.slice none 0 0], .int .i64 0, .int .i64 6]) (by simp [results, Try.results45, go_sem, d1]) rfl ⟨rfl, ?_⟩
    repeat (first | refine Below.setCell ?_ (by dsimp only; omega) _ | exact below2 hb12)


/-- The words with one thing more. -/
def newWords (W : List Int) (cl fo si : Int) : List Int := (W ++ [cl, wd W 1, 4 * si + fo] ++ List.replicate si.toNat 0).set 1 (wd W 1 + 1)

theorem new_vals (W : List Int) (cl fo : Int) (m : Nat) : (vals (W ++ [cl, wd W 1, 4 * (m : Int) + fo]) ++ List.replicate m (Value.int .i64 0)).set 1 (.int .i64 (wd W 1 + 1)) = vals (newWords W cl fo m) := by
  simp [newWords, vals, List.map_set]
theorem new_length (W : List Int) (cl fo : Int) (m : Nat) : (newWords W cl fo m).length = W.length + 3 + m := by
  simp [newWords]; omega
theorem own_base {w : World} {B b n cap : Nat} {xs : List Value} (h : w.ownsRow 0 3 1 (sl b n cap) n xs) (hB : B ≤ b) : w.ownsRow B 3 1 (sl b n cap) n xs := by
  obtain ⟨h1, h2⟩ := h
  refine ⟨h1, ?_⟩
  rcases h2 with ⟨h2, _⟩ | ⟨g, cap', cur, hv, _, r⟩
  · cases h2
  · have hv' := hv
    simp only [Value.slice.injEq, Option.some.injEq, Addr.mk.injEq, and_true, true_and] at hv
    obtain ⟨rfl, rfl⟩ := hv
    exact Or.inr ⟨b, cap, cur, rfl, hB, r⟩

/-- What New answers where it makes a thing. -/
def NewAns (W' : List Int) (o : Int) (e : Ending) (w : World) : Prop := ∃ g cap, e = .returned (.tuple #[.agg #[sl g W'.length cap], .int .i64 o, .int .i64 0]) ∧ w.ownsRow 0 3 1 (sl g W'.length cap) W'.length (vals W')

theorem cell_one_of {w : World} {g cap n : Nat} {W t : List Int} {r : List Value} (h : w.ownsRow 0 3 1 (sl g n cap) n (vals (W ++ t) ++ r)) (h2 : 2 ≤ W.length) (hn : 2 ≤ n) : w.cell? ⟨g, 1, none⟩ = some (.int .i64 (wd W 1)) := by
  rw [h.cellAt 1 (by omega), vals, List.map_append, List.append_assoc]
  rw [List.getElem?_append_left (by simp; omega)]
  simp [wd, List.getElem?_eq_getElem (show 1 < W.length by omega)]

end Go.Proofs.Ytiinkjgcakabaac
