/- heap.Look and heap.Put. -/
import Derived.Test.YtpapaadclkdbkaaVPut
namespace Go.Proofs.Ytpapaadclkdbkaa
open Go.RowKit

/-- What Look answers where there is no thing. -/
abbrev lookErr (e : Int) : Ending := .returned (.tuple #[noThing, .int .i64 e])

set_option maxHeartbeats 1000000 in
theorem look_heap (W : List Int) (ad : Option Addr) (cap : Nat) (o : Int) (w : World) (hm : W.length ≤ maxLen) (hr : 2 ≤ W.length → ∃ b off, ad = some ⟨b, off, none⟩ ∧ Row w b off W) (h : (checkOf W).1 ≠ 0) :
    Calls Try.prog 13 #[heapV ad W.length cap, .int .i64 o] w fun e w' => e = lookErr 7 ∧ Below w.heap.size w w' := by
  have hs : Hid (∀ w0, (2 ≤ W.length → ∃ b off, ad = some ⟨b, off, none⟩ ∧ Row w0 b off W) → Calls Try.prog 27 #[heapV ad W.length cap] w0 fun e w' => e = .returned (.tuple #[noView, .int .i64 7]) ∧ Below w0.heap.size w0 w') :=
    fun w0 hr0 => open_no W ad cap w0 hm hr0 h
  have HR : Hid (2 ≤ W.length → ∃ b off, ad = some ⟨b, off, none⟩ ∧ Row w b off W) := hr
  clear h hr
  go_enter Try.func13, Try.ntmps13
  go_wp2_with (first | (go_at_call 27; refine (hs.out _ (reads2 HR.out)).mono ?_; rintro e w1 ⟨rfl, hb1⟩; obtain ⟨⟨r0, r1, r2, r3⟩, ⟨t0, t1, t2, t3⟩, hz⟩ := box4 hb1; obtain ⟨⟨s0, s1, s2, s3⟩, ⟨q0, q1, q2, q3⟩, _⟩ := box4 (hb1.alloc (by simp; omega) (Obj.cells #[Value.slice none 0 0, Value.map none] 54))))
  refine bodyPost_ret (v := .tuple #[noThing, .int .i64 7]) (by simp [results, Try.results13, go_sem, hz, r0, r1, r2, r3]) rfl ⟨rfl, ?_⟩
  repeat (first | refine Below.setCell ?_ (by dsimp only; omega) _ | refine Below.alloc ?_ (by simp [World.setCell]; omega) _ | exact below2 hb1)

set_option maxHeartbeats 1000000 in
theorem look_kind (W : List Int) (ad : Option Addr) (cap : Nat) (o : Int) (w : World) (hr : 2 ≤ W.length → ∃ b off, ad = some ⟨b, off, none⟩ ∧ Row w b off W) (h : (checkOf W).1 = 0) (ho : thingB W o = false) :
    Calls Try.prog 13 #[heapV ad W.length cap, .int .i64 o] w fun e w' => e = lookErr 3 ∧ Below w.heap.size w w' := by
  have hs : Hid (∀ w0, (2 ≤ W.length → ∃ b off, ad = some ⟨b, off, none⟩ ∧ Row w0 b off W) → Calls Try.prog 27 #[heapV ad W.length cap] w0 fun e w' => OpenAns W w0.heap.size e w' ∧ Below w0.heap.size w0 w') :=
    fun w0 hr0 => open_yes W ad cap w0 hr0 h
  have HR : Hid (2 ≤ W.length → ∃ b off, ad = some ⟨b, off, none⟩ ∧ Row w b off W) := hr
  clear h hr
  go_enter Try.func13, Try.ntmps13
  go_wp2_with (first | (go_at_call 27; refine (hs.out _ (reads2 HR.out)).mono ?_; rintro e w1 ⟨⟨b, cap', bm, rfl, hv, hb, hbm, hne⟩, hb1⟩) | (go_at_call 31; refine (has_any W b cap' bm _ _ (hv.alloc _)).mono ?_; rintro e w2 ⟨rfl, hb2⟩; have hb12 := hb1.trans ((below_call hb2).mono hb1.size); obtain ⟨⟨r0, r1, r2, r3⟩, ⟨t0, t1, t2, t3⟩, hz⟩ := box4 hb12))
  refine bodyPost_ret (v := .tuple #[noThing, .int .i64 3]) (by simp [results, Try.results13, go_sem, r0, r1, r2, r3]) rfl ⟨rfl, ?_⟩
  repeat (first | refine Below.setCell ?_ (by dsimp only; omega) _ | exact below2 hb12)

/-- What Look answers of the thing at p. -/
def LookAns (W : List Int) (p B : Nat) (e : Ending) (w : World) : Prop := ∃ v, e = .returned (.tuple #[thingV (wd W p) (wd W (p + 1)) (formAt W p) v, .int .i64 0]) ∧ SlotsOwn B (slotsOf W p) v w

set_option maxHeartbeats 1000000 in
theorem look_yes (W : List Int) (ad : Option Addr) (cap p : Nat) (w : World) (hr : 2 ≤ W.length → ∃ b off, ad = some ⟨b, off, none⟩ ∧ Row w b off W) (h : (checkOf W).1 = 0) (ho : thingB W (2 * (p : Int)) = true) (hmem : p ∈ places W 2) :
    Calls Try.prog 13 #[heapV ad W.length cap, .int .i64 (2 * (p : Int))] w fun e w' => LookAns W p w.heap.size e w' ∧ Below w.heap.size w w' := by
  have hs : Hid (∀ w0, (2 ≤ W.length → ∃ b off, ad = some ⟨b, off, none⟩ ∧ Row w0 b off W) → Calls Try.prog 27 #[heapV ad W.length cap] w0 fun e w' => OpenAns W w0.heap.size e w' ∧ Below w0.heap.size w0 w') :=
    fun w0 hr0 => open_yes W ad cap w0 hr0 h
  have HR : Hid (2 ≤ W.length → ∃ b off, ad = some ⟨b, off, none⟩ ∧ Row w b off W) := hr
  obtain ⟨hf, hu⟩ := check_ok h
  obtain ⟨_, hl, _⟩ := front_out hf
  clear h hr hf
  go_enter Try.func13, Try.ntmps13
  go_wp2_with (first | (go_at_call 27; refine (hs.out _ (reads2 HR.out)).mono ?_; rintro e w1 ⟨⟨b, cap', bm, rfl, hv, hb, hbm, hne⟩, hb1⟩) | (go_at_call 31; refine (has_any W b cap' bm _ _ (hv.alloc _)).mono ?_; rintro e w2 ⟨rfl, hb2⟩; have hb12 := hb1.trans ((below_call hb2).mono hb1.size); have hv2 := hv.same (below_call hb2); obtain ⟨u0, u1⟩ := box_cells hb2) | (go_at_call 32; refine (vlook_any W b cap' bm p _ hv2 hu hl ho hmem).mono ?_; rintro e w3 ⟨⟨v3, rfl, ad3, c3, rfl, hs3⟩, hb3⟩; have hb13 := hb12.trans (hb3.mono hb12.size); obtain ⟨⟨r0, r1, r2, r3⟩, ⟨t0, t1, t2, t3⟩, hz⟩ := box4 hb13))
  refine bodyPost_ret (v := .tuple #[thingV (wd W p) (wd W (p + 1)) (formAt W p) (.slice ad3 (slotsOf W p).length c3), .int .i64 0]) (by simp [results, Try.results13, go_sem, r0, r1, r2, r3]) rfl ⟨⟨_, rfl, ad3, c3, rfl, fun h0 => ?_⟩, ?_⟩
  · obtain ⟨g, hg, hge, hown⟩ := hs3 h0
    have hge' : w.heap.size + 1 < g := by have := hb12.size; simp at this; omega
    refine ⟨g, hg, by omega, ?_⟩
    repeat (first | refine own_set' ?_ (by dsimp only; omega) _ | exact hown)
  · repeat (first | refine Below.setCell ?_ (by dsimp only; omega) _ | exact below2 hb13)


/-- What Put answers where nothing is put. -/
abbrev putErr (e : Int) : Ending := .returned (.tuple #[.agg #[.slice none 0 0], .int .i64 e])

set_option maxHeartbeats 1000000 in
theorem put_heap (W : List Int) (ad : Option Addr) (cap : Nat) (o at' what : Int) (w : World) (hm : W.length ≤ maxLen) (hr : 2 ≤ W.length → ∃ b off, ad = some ⟨b, off, none⟩ ∧ Row w b off W) (h : (checkOf W).1 ≠ 0) :
    Calls Try.prog 14 #[heapV ad W.length cap, .int .i64 o, .int .i64 at', .int .i64 what] w fun e w' => e = putErr 7 ∧ Below w.heap.size w w' := by
  have hs : Hid (∀ w0, (2 ≤ W.length → ∃ b off, ad = some ⟨b, off, none⟩ ∧ Row w0 b off W) → Calls Try.prog 27 #[heapV ad W.length cap] w0 fun e w' => e = .returned (.tuple #[noView, .int .i64 7]) ∧ Below w0.heap.size w0 w') :=
    fun w0 hr0 => open_no W ad cap w0 hm hr0 h
  have HR : Hid (2 ≤ W.length → ∃ b off, ad = some ⟨b, off, none⟩ ∧ Row w b off W) := hr
  clear h hr
  go_enter Try.func14, Try.ntmps14
  go_wp2_with (first | (go_at_call 27; refine (hs.out _ (reads2 HR.out)).mono ?_; rintro e w1 ⟨rfl, hb1⟩; obtain ⟨c0, d1, d2, hz⟩ := boxes11 hb1; have e1 := (fun o => (boxes11 (hb1.alloc (by simp; omega) o)).2.1); have e2 := (fun o => (boxes11 (hb1.alloc (by simp; omega) o)).2.2.1)))
  refine bodyPost_ret (v := .tuple #[.agg #[.slice none 0 0], .int .i64 7]) (by simp [results, Try.results14, go_sem, hz, d1]) rfl ⟨rfl, ?_⟩
  repeat (first | refine Below.setCell ?_ (by dsimp only; omega) _ | refine Below.alloc ?_ (by simp [World.setCell]; omega) _ | exact below2 hb1)

/-- Put where the view's Put refuses. -/
theorem put_err (W : List Int) (ad : Option Addr) (cap : Nat) (o at' what er : Int) (w : World) (hr : 2 ≤ W.length → ∃ b off, ad = some ⟨b, off, none⟩ ∧ Row w b off W) (h : (checkOf W).1 = 0) (her : (er != 0) = true)
    (hput : ∀ b cap bm w0, IsView w0 b cap bm W → Calls Try.prog 33 #[viewV b W.length cap bm, .int .i64 o, .int .i64 at', .int .i64 what] w0 fun e w' => e = .returned (.int .i64 er) ∧ Below w0.heap.size w0 w') :
    Calls Try.prog 14 #[heapV ad W.length cap, .int .i64 o, .int .i64 at', .int .i64 what] w fun e w' => e = putErr er ∧ Below w.heap.size w w' := by
  have hs : Hid (∀ w0, (2 ≤ W.length → ∃ b off, ad = some ⟨b, off, none⟩ ∧ Row w0 b off W) → Calls Try.prog 27 #[heapV ad W.length cap] w0 fun e w' => OpenAns W w0.heap.size e w' ∧ Below w0.heap.size w0 w') :=
    fun w0 hr0 => open_yes W ad cap w0 hr0 h
  have HR : Hid (2 ≤ W.length → ∃ b off, ad = some ⟨b, off, none⟩ ∧ Row w b off W) := hr
  have HP : Hid (∀ b cap bm w0, IsView w0 b cap bm W → Calls Try.prog 33 #[viewV b W.length cap bm, .int .i64 o, .int .i64 at', .int .i64 what] w0 fun e w' => e = .returned (.int .i64 er) ∧ Below w0.heap.size w0 w') := hput
  clear h hr hput
  go_enter Try.func14, Try.ntmps14
  go_wp2_with (first | (go_at_call 27; refine (hs.out _ (reads2 HR.out)).mono ?_; rintro e w1 ⟨⟨b, cap', bm, rfl, hv, hb, hbm, hne⟩, hb1⟩) | (go_at_call 33; refine (HP.out b cap' bm _ (hv.alloc _)).mono ?_; rintro e w2 ⟨rfl, hb2⟩; have hb12 := hb1.trans ((below_call hb2).mono hb1.size); obtain ⟨c0, d1, d2, hz⟩ := boxes11 hb12))
  refine bodyPost_ret (v := .tuple #[.agg #[.slice none 0 0], .int .i64 er]) (by simp [results, Try.results14, go_sem, d1]) rfl ⟨rfl, ?_⟩
  repeat (first | refine Below.setCell ?_ (by dsimp only; omega) _ | exact below2 hb12)

theorem put_kind (W : List Int) (ad : Option Addr) (cap : Nat) (o at' what : Int) (w : World) (hr : 2 ≤ W.length → ∃ b off, ad = some ⟨b, off, none⟩ ∧ Row w b off W) (h : (checkOf W).1 = 0) (ho : thingB W o = false) :
    Calls Try.prog 14 #[heapV ad W.length cap, .int .i64 o, .int .i64 at', .int .i64 what] w fun e w' => e = putErr 3 ∧ Below w.heap.size w w' :=
  put_err W ad cap o at' what 3 w hr h rfl fun b cap bm w0 hv => vput_kind W b cap bm o at' what w0 hv ho
theorem put_range (W : List Int) (ad : Option Addr) (cap p : Nat) (at' what : Int) (w : World) (hr : 2 ≤ W.length → ∃ b off, ad = some ⟨b, off, none⟩ ∧ Row w b off W) (h : (checkOf W).1 = 0) (ho : thingB W (2 * (p : Int)) = true) (hmem : p ∈ places W 2) (hat : at' < 0 ∨ (slotsAt W p : Int) ≤ at') :
    Calls Try.prog 14 #[heapV ad W.length cap, .int .i64 (2 * (p : Int)), .int .i64 at', .int .i64 what] w fun e w' => e = putErr 4 ∧ Below w.heap.size w w' := by
  obtain ⟨hf, hu⟩ := check_ok h
  obtain ⟨_, hl, _⟩ := front_out hf
  exact put_err W ad cap (2 * (p : Int)) at' what 4 w hr h rfl fun b cap bm w0 hv => vput_range W b cap bm p at' what w0 hv hu hl ho hmem hat
end Go.Proofs.Ytpapaadclkdbkaa
