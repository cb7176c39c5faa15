/- heap.Look and heap.Put. -/
import Derived.Test.YtmgmbgacdjebgaaVPut
namespace Go.Proofs.Ytmgmbgacdjebgaa
open Go.RowKit

/-- What Look answers where there is no thing. -/
abbrev lookErr (e : Int) : Ending := .returned (.tuple #[noThing, .int .i64 e])

/-- What Look answers of the thing at p. -/
def LookAns (W : List Int) (p B : Nat) (e : Ending) (w : World) : Prop := ∃ v, e = .returned (.tuple #[thingV (wd W p) (wd W (p + 1)) (formAt W p) v, .int .i64 0]) ∧ SlotsOwn B (slotsOf W p) v w

/-- What Put answers where nothing is put. -/
abbrev putErr (e : Int) : Ending := .returned (.tuple #[.agg #[.slice none 0 0], .int .i64 e])

set_option maxHeartbeats 1000000 in
theorem put_heap (W : List Int) (ad : Option Addr) (cap : Nat) (o at' what : Int) (w : World) (hm : W.length ≤ maxLen) (hr : 2 ≤ W.length → ∃ b off, ad = some ⟨b, off, none⟩ ∧ Row w b off W) (h : (checkOf W).1 ≠ 0) :
    Calls Try.prog 33 #[heapV ad W.length cap, .int .i64 o, .int .i64 at', .int .i64 what] w fun e w' => e = putErr 7 ∧ Below w.heap.size w w' := by
  have hs : Hid (∀ w0, (2 ≤ W.length → ∃ b off, ad = some ⟨b, off, none⟩ ∧ Row w0 b off W) → Calls Try.prog 38 #[heapV ad W.length cap] w0 fun e w' => e = .returned (.tuple #[noView, .int .i64 7]) ∧ Below w0.heap.size w0 w') :=
    fun w0 hr0 => open_no W ad cap w0 hm hr0 h
  have HR : Hid (2 ≤ W.length → ∃ b off, ad = some ⟨b, off, none⟩ ∧ Row w b off W) := hr
  clear h hr
  go_enter Try.func33, Try.ntmps33
  go_wp2_with (first | (go_at_call 38; refine (hs.out _ (reads2 HR.out)).mono ?_; rintro e w1 ⟨rfl, hb1⟩; obtain ⟨c0, d1, d2, hz⟩ := boxes11 hb1; have e1 := (fun o => (boxes11 (hb1.alloc (by simp; omega) o)).2.1); have e2 := (fun o => (boxes11 (hb1.alloc (by simp; omega) o)).2.2.1)))
  refine bodyPost_ret (v := .tuple #[.agg #[.slice none 0 0], .int .i64 7]) (by simp [results, Try.results33, go_sem, hz, d1]) rfl ⟨rfl, ?_⟩
  repeat (first | refine Below.setCell ?_ (by dsimp only; omega) _ | refine Below.alloc ?_ (by simp [World.setCell]; omega) _ | exact below2 hb1)

/-- Put where the view's Put refuses. -/
theorem put_err (W : List Int) (ad : Option Addr) (cap : Nat) (o at' what er : Int) (w : World) (hr : 2 ≤ W.length → ∃ b off, ad = some ⟨b, off, none⟩ ∧ Row w b off W) (h : (checkOf W).1 = 0) (her : (er != 0) = true)
    (hput : ∀ b cap bm w0, IsView w0 b cap bm W → Calls Try.prog 44 #[viewV b W.length cap bm, .int .i64 o, .int .i64 at', .int .i64 what] w0 fun e w' => e = .returned (.int .i64 er) ∧ Below w0.heap.size w0 w') :
    Calls Try.prog 33 #[heapV ad W.length cap, .int .i64 o, .int .i64 at', .int .i64 what] w fun e w' => e = putErr er ∧ Below w.heap.size w w' := by
  have hs : Hid (∀ w0, (2 ≤ W.length → ∃ b off, ad = some ⟨b, off, none⟩ ∧ Row w0 b off W) → Calls Try.prog 38 #[heapV ad W.length cap] w0 fun e w' => OpenAns W w0.heap.size e w' ∧ Below w0.heap.size w0 w') :=
    fun w0 hr0 => open_yes W ad cap w0 hr0 h
  have HR : Hid (2 ≤ W.length → ∃ b off, ad = some ⟨b, off, none⟩ ∧ Row w b off W) := hr
  have HP : Hid (∀ b cap bm w0, IsView w0 b cap bm W → Calls Try.prog 44 #[viewV b W.length cap bm, .int .i64 o, .int .i64 at', .int .i64 what] w0 fun e w' => e = .returned (.int .i64 er) ∧ Below w0.heap.size w0 w') := hput
  clear h hr hput
  go_enter Try.func33, Try.ntmps33
  go_wp2_with (first | (go_at_call 38; refine (hs.out _ (reads2 HR.out)).mono ?_; rintro e w1 ⟨⟨b, cap', bm, rfl, hv, hb, hbm, hne⟩, hb1⟩) | (go_at_call 44; refine (HP.out b cap' bm _ (hv.alloc _)).mono ?_; rintro e w2 ⟨rfl, hb2⟩; have hb12 := hb1.trans ((below_call hb2).mono hb1.size); obtain ⟨c0, d1, d2, hz⟩ := boxes11 hb12))
  refine bodyPost_ret (v := .tuple #[.agg #[.slice none 0 0], .int .i64 er]) (by simp [results, Try.results33, go_sem, d1]) rfl ⟨rfl, ?_⟩
  repeat (first | refine Below.setCell ?_ (by dsimp only; omega) _ | exact below2 hb12)

theorem put_kind (W : List Int) (ad : Option Addr) (cap : Nat) (o at' what : Int) (w : World) (hr : 2 ≤ W.length → ∃ b off, ad = some ⟨b, off, none⟩ ∧ Row w b off W) (h : (checkOf W).1 = 0) (ho : thingB W o = false) :
    Calls Try.prog 33 #[heapV ad W.length cap, .int .i64 o, .int .i64 at', .int .i64 what] w fun e w' => e = putErr 3 ∧ Below w.heap.size w w' :=
  put_err W ad cap o at' what 3 w hr h rfl fun b cap bm w0 hv => vput_kind W b cap bm o at' what w0 hv ho
theorem put_range (W : List Int) (ad : Option Addr) (cap p : Nat) (at' what : Int) (w : World) (hr : 2 ≤ W.length → ∃ b off, ad = some ⟨b, off, none⟩ ∧ Row w b off W) (h : (checkOf W).1 = 0) (ho : thingB W (2 * (p : Int)) = true) (hmem : p ∈ places W 2) (hat : at' < 0 ∨ (slotsAt W p : Int) ≤ at') :
    Calls Try.prog 33 #[heapV ad W.length cap, .int .i64 (2 * (p : Int)), .int .i64 at', .int .i64 what] w fun e w' => e = putErr 4 ∧ Below w.heap.size w w' := by
  obtain ⟨hf, hu⟩ := check_ok h
  obtain ⟨_, hl, _⟩ := front_out hf
  exact put_err W ad cap (2 * (p : Int)) at' what 4 w hr h rfl fun b cap bm w0 hv => vput_range W b cap bm p at' what w0 hv hu hl ho hmem hat
end Go.Proofs.Ytmgmbgacdjebgaa
