/- heap.Look and heap.Put. -/
import Derived.Test.YtiinkjgcakabaacLook
import Derived.Test.YtiinkjgcakabaacGrow
namespace Go.Proofs.Ytiinkjgcakabaac
open Go.RowKit

/-- What Look answers where there is no thing. -/
abbrev lookErr (e : Int) : Ending := .returned (.tuple #[noThing, .int .i64 e])

/-- What Look answers of the thing at p. -/
def LookAns (W : List Int) (p B : Nat) (e : Ending) (w : World) : Prop := ∃ v, e = .returned (.tuple #[thingV (wd W p) (wd W (p + 1)) (formAt W p) v, .int .i64 0]) ∧ SlotsOwn B (slotsOf W p) v w

/-- What Put answers where nothing is put. -/
abbrev putErr (e : Int) : Ending := .returned (.tuple #[.agg #[.slice none 0 0], .int .i64 e])

set_option maxHeartbeats 1000000 in
theorem put_heap (W : List Int) (ad : Option Addr) (cap : Nat) (o at' what : Int) (w : World) (hm : W.length ≤ maxLen) (hr : 2 ≤ W.length → ∃ b off, ad = some ⟨b, off, none⟩ ∧ Row w b off W) (h : (checkOf W).1 ≠ 0) :
    Calls Try.prog 69 #[heapV ad W.length cap, .int .i64 o, .int .i64 at', .int .i64 what] w fun e w' => e = putErr 7 ∧ Below w.heap.size w w' := by
  have hs : Hid (∀ w0, (2 ≤ W.length → ∃ b off, ad = some ⟨b, off, none⟩ ∧ Row w0 b off W) → Calls Try.prog 73 #[heapV ad W.length cap] w0 fun e w' => e = .returned (.tuple #[noView, .int .i64 7]) ∧ Below w0.heap.size w0 w') :=
    fun w0 hr0 => open_no W ad cap w0 hm hr0 h
  have HR : Hid (2 ≤ W.length → ∃ b off, ad = some ⟨b, off, none⟩ ∧ Row w b off W) := hr
  clear h hr
  go_enter Try.func69, Try.ntmps69
  go_wp2_with (first | (go_at_call 73; refine (hs.out _ (reads2 HR.out)).mono ?_; rintro e w1 ⟨rfl, hb1⟩; obtain ⟨c0, d1, d2, hz⟩ := boxes11 hb1; have e1 := (fun o => (boxes11 (hb1.alloc (by simp; omega) o)).2.1); have e2 := (fun o => (boxes11 (hb1.alloc (by simp; omega) o)).2.2.1)))
  refine bodyPost_ret (v := .tuple #[.agg #[.slice none 0 0], .int .i64 7]) (by simp [results, Try.results69, go_sem, hz, d1]) rfl ⟨rfl, ?_⟩
  repeat (first | refine Below.setCell ?_ (by dsimp only; omega) _ | refine Below.alloc ?_ (by simp [World.setCell]; omega) _ | exact below2 hb1)

set_option maxHeartbeats 1000000 in
theorem put_kind (W : List Int) (ad : Option Addr) (cap : Nat) (o at' what : Int) (w : World) (hr : 2 ≤ W.length → ∃ b off, ad = some ⟨b, off, none⟩ ∧ Row w b off W) (h : (checkOf W).1 = 0) (ho : thingB W o = false) :
    Calls Try.prog 69 #[heapV ad W.length cap, .int .i64 o, .int .i64 at', .int .i64 what] w fun e w' => e = putErr 3 ∧ Below w.heap.size w w' := by
  have hs : Hid (∀ w0, (2 ≤ W.length → ∃ b off, ad = some ⟨b, off, none⟩ ∧ Row w0 b off W) → Calls Try.prog 73 #[heapV ad W.length cap] w0 fun e w' => OpenAns W w0.heap.size e w' ∧ Below w0.heap.size w0 w') :=
    fun w0 hr0 => open_yes W ad cap w0 hr0 h
  have HR : Hid (2 ≤ W.length → ∃ b off, ad = some ⟨b, off, none⟩ ∧ Row w b off W) := hr
  clear h hr
  go_enter Try.func69, Try.ntmps69
  go_wp2_with (first | (go_at_call 73; refine (hs.out _ (reads2 HR.out)).mono ?_; rintro e w1 ⟨⟨b, cap', bm, rfl, hv, hb, hbm, hne⟩, hb1⟩) | (go_at_call 79; refine (has_any W b cap' bm _ _ (hv.alloc _)).mono ?_; rintro e w2 ⟨rfl, hb2⟩; have hb12 := hb1.trans ((below_call hb2).mono hb1.size); obtain ⟨c0, d1, d2, hz⟩ := boxes11 hb12))
  refine bodyPost_ret (v := .tuple #[.agg #[.slice none 0 0], .int .i64 3]) (by simp [results, Try.results69, go_sem, d1]) rfl ⟨rfl, ?_⟩
  repeat (first | refine Below.setCell ?_ (by dsimp only; omega) _ | exact below2 hb12)

set_option maxHeartbeats 2000000 in
theorem put_range (W : List Int) (ad : Option Addr) (cap p : Nat) (at' what : Int) (w : World) (hr : 2 ≤ W.length → ∃ b off, ad = some ⟨b, off, none⟩ ∧ Row w b off W) (h : (checkOf W).1 = 0) (ho : thingB W (2 * (p : Int)) = true) (hmem : p ∈ places W 2) (hat : at' < 0 ∨ (slotsAt W p : Int) ≤ at') :
    Calls Try.prog 69 #[heapV ad W.length cap, .int .i64 (2 * (p : Int)), .int .i64 at', .int .i64 what] w fun e w' => e = putErr 4 ∧ Below w.heap.size w w' := by
  have hs : Hid (∀ w0, (2 ≤ W.length → ∃ b off, ad = some ⟨b, off, none⟩ ∧ Row w0 b off W) → Calls Try.prog 73 #[heapV ad W.length cap] w0 fun e w' => OpenAns W w0.heap.size e w' ∧ Below w0.heap.size w0 w') :=
    fun w0 hr0 => open_yes W ad cap w0 hr0 h
  have HR : Hid (2 ≤ W.length → ∃ b off, ad = some ⟨b, off, none⟩ ∧ Row w b off W) := hr
  obtain ⟨hf, hu⟩ := check_ok h
  obtain ⟨_, hl, _⟩ := front_out hf
  have hpl := (place_fit hu hmem).2.1
  have h2p : 2 * (p : Int) / 2 = (p : Int) := by omega
  have hw : at' < 0 ∨ (0 ≤ at' ∧ (slotsAt W p : Int) ≤ at') := by omega
  clear h hr hf hat
  rcases hw with hw | hw
  · go_enter Try.func69, Try.ntmps69
    go_wp2_with (first | (go_at_call 73; refine (hs.out _ (reads2 HR.out)).mono ?_; rintro e w1 ⟨⟨b, cap', bm, rfl, hv, hb, hbm, hne⟩, hb1⟩) | (go_at_call 79; refine (has_any W b cap' bm _ _ (hv.alloc _)).mono ?_; rintro e w2 ⟨rfl, hb2⟩; have hb12 := hb1.trans ((below_call hb2).mono hb1.size); obtain ⟨c0, d1, d2, hz⟩ := boxes11 hb12; obtain ⟨u0, u1⟩ := box_cells hb2; have hv2 := hv.same (below_call hb2)))
    refine bodyPost_ret (v := .tuple #[.agg #[.slice none 0 0], .int .i64 4]) (by simp [results, Try.results69, go_sem, d1]) rfl ⟨rfl, ?_⟩
    repeat (first | refine Below.setCell ?_ (by dsimp only; omega) _ | exact below2 hb12)
  · go_enter Try.func69, Try.ntmps69
    go_wp2_with (first | (go_at_call 73; refine (hs.out _ (reads2 HR.out)).mono ?_; rintro e w1 ⟨⟨b, cap', bm, rfl, hv, hb, hbm, hne⟩, hb1⟩) | (go_at_call 79; refine (has_any W b cap' bm _ _ (hv.alloc _)).mono ?_; rintro e w2 ⟨rfl, hb2⟩; have hb12 := hb1.trans ((below_call hb2).mono hb1.size); obtain ⟨u0, u1⟩ := box_cells hb2; have hv2 := hv.same (below_call hb2)) | (go_at_call 92; refine (slots_any W b cap' bm p _ hv2 hu hl hmem).mono ?_; rintro e w3 ⟨⟨ad3, c3, rfl, had3, hac3, hcm3⟩, hb3⟩; have hb13 := hb12.trans (hb3.mono hb12.size); obtain ⟨c0, d1, d2, hz⟩ := boxes11 hb13))
    refine bodyPost_ret (v := .tuple #[.agg #[.slice none 0 0], .int .i64 4]) (by simp [results, Try.results69, go_sem, d1]) rfl ⟨rfl, ?_⟩
    repeat (first | refine Below.setCell ?_ (by dsimp only; omega) _ | exact below2 hb13)

end Go.Proofs.Ytiinkjgcakabaac
