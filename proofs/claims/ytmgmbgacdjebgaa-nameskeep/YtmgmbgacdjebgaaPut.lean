/- (View).Put, heap.Look and heap.Put. -/
import Derived.Test.YtmgmbgacdjebgaaLook
import Derived.Test.YtmgmbgacdjebgaaGrow
import Derived.Test.YtmgmbgacdjebgaaKeepPlain
import Derived.Deep.RegionHeld3
namespace Go.Proofs.Ytmgmbgacdjebgaa
open Go.RowKit

theorem held2_below {B : Nat} {x y : Value} {w w' : World} (h0 : w.cell? ⟨B, 0, none⟩ = some x) (h1 : w.cell? ⟨B, 1, none⟩ = some y) (hb : Below w.heap.size w w') : w'.cell? ⟨B, 0, none⟩ = some x ∧ w'.cell? ⟨B, 1, none⟩ = some y :=
  ⟨by rw [hb.cell (World.block_lt_of_cell? _ _ h0)]; exact h0, by rw [hb.cell (World.block_lt_of_cell? _ _ h1)]; exact h1⟩

theorem vput_kind (W : List Int) (b cap bm : Nat) (o at' what : Int) (w : World) (hv : IsView w b cap bm W) (ho : thingB W o = false) :
    Calls Try.prog 44 #[viewV b W.length cap bm, .int .i64 o, .int .i64 at', .int .i64 what] w fun e w' => e = .returned (.int .i64 3) ∧ Below w.heap.size w w' := by
  go_enter Try.func44, Try.ntmps44
  go_wp2_with (first | (go_at_call 48; refine (has_any W b cap bm _ _ (hv.alloc _)).mono ?_; rintro e w2 ⟨rfl, hb2⟩))
  go_ret
  exact ⟨rfl, below_call hb2⟩

set_option maxHeartbeats 2000000 in
theorem vput_range (W : List Int) (b cap bm p : Nat) (at' what : Int) (w : World) (hv : IsView w b cap bm W) (hu : unfit W 2 = none) (hl : W.length ≤ 2000) (ho : thingB W (2 * (p : Int)) = true) (hmem : p ∈ places W 2) (hat : at' < 0 ∨ (slotsAt W p : Int) ≤ at') :
    Calls Try.prog 44 #[viewV b W.length cap bm, .int .i64 (2 * (p : Int)), .int .i64 at', .int .i64 what] w fun e w' => e = .returned (.int .i64 4) ∧ Below w.heap.size w w' := by
  have hpl := (place_fit hu hmem).2.1
  have h2p : 2 * (p : Int) / 2 = (p : Int) := by omega
  have hw : at' < 0 ∨ (0 ≤ at' ∧ (slotsAt W p : Int) ≤ at') := by omega
  clear hat
  rcases hw with hw | hw
  · go_enter Try.func44, Try.ntmps44
    go_wp2_with (first | (go_at_call 48; refine (has_any W b cap bm _ _ (hv.alloc _)).mono ?_; rintro e w2 ⟨rfl, hb2⟩; obtain ⟨u0, u1⟩ := box_cells hb2))
    go_ret
    exact ⟨rfl, below_call hb2⟩
  · go_enter Try.func44, Try.ntmps44
    go_wp2_with (first | (go_at_call 48; refine (has_any W b cap bm _ _ (hv.alloc _)).mono ?_; rintro e w2 ⟨rfl, hb2⟩; obtain ⟨u0, u1⟩ := box_cells hb2; have hv2 := hv.same (below_call hb2)) | (go_at_call 50; refine (slots_any W b cap bm p _ hv2 hu hl hmem).mono ?_; rintro e w3 ⟨⟨ad3, c3, rfl, had3, hac3, hcm3⟩, hb3⟩))
    go_ret
    exact ⟨rfl, (below_call hb2).trans (hb3.mono (below_call hb2).size)⟩

set_option maxHeartbeats 4000000 in
theorem vput_form (W : List Int) (b cap bm p k : Nat) (what : Int) (w : World) (hv : IsView w b cap bm W) (hu : unfit W 2 = none) (hl : W.length ≤ 2000) (ho : thingB W (2 * (p : Int)) = true) (hmem : p ∈ places W 2) (hk : k < slotsAt W p) (hst : standB W (formAt W p) what = false) :
    Calls Try.prog 44 #[viewV b W.length cap bm, .int .i64 (2 * (p : Int)), .int .i64 k, .int .i64 what] w fun e w' => e = .returned (.int .i64 2) ∧ Below w.heap.size w w' := by
  obtain ⟨hp2, hpl, hfit, _⟩ := place_fit hu hmem
  have hfo := fits_out hfit
  have h2p : 2 * (p : Int) / 2 = (p : Int) := by omega
  have hwr0 := wrap_id (x := (p : Int)) (by omega) (by omega)
  clear hfit
  go_enter Try.func44, Try.ntmps44
  go_upto_region 5 with (first | (go_at_call 48; refine (has_any W b cap bm _ _ (hv.alloc _)).mono ?_; rintro e w2 ⟨rfl, hb2⟩; obtain ⟨u0, u1⟩ := box_cells hb2; have hv2 := hv.same (below_call hb2)) | (go_at_call 50; refine (slots_any W b cap bm p _ hv2 hu hl hmem).mono ?_; rintro e w3 ⟨⟨ad3, c3, rfl, had3, hac3, hcm3⟩, hb3⟩; have hb03 := (below_call hb2).trans (hb3.mono (below_call hb2).size); obtain ⟨v0, v1⟩ := held2_below u0 u1 hb3; have hv3 := hv2.same hb3))
  go_region_held3 (fun w' => w'.cell? ⟨w.heap.size, 0, none⟩ = some (sl b W.length cap) ∧ w'.cell? ⟨w.heap.size, 1, none⟩ = some (.map (some bm))) (go_keep)
    (first
      | (go_at_call 49; refine (form_any W b cap bm p _ hv3.drew.row (by omega) hl).mono ?_; rintro e w4 ⟨rfl, hb4⟩; have hv4 := hv3.drew.same hb4; obtain ⟨e0, e1⟩ := held2_below (w := w3.drew) v0 v1 hb4)
      | (go_at_call 59; refine (mayStand_any W b cap bm _ _ _ hv4).mono ?_; rintro e w5 ⟨rfl, hb5⟩; have hv5 := hv4.same hb5; obtain ⟨f0, f1⟩ := held2_below e0 e1 hb5; have h34 : Below w3.heap.size w3 w4 := (Below.refl _ _).drew.trans hb4; have h35 := h34.trans (hb5.mono h34.size); have hb05 := hb03.trans (h35.mono hb03.size)))
  go_wp2_with fail
  go_ret
  exact ⟨rfl, hb05⟩

/-- What Put does where it puts. -/
def VPutAns (W : List Int) (b cap bm p k : Nat) (what : Int) (w : World) (e : Ending) (w' : World) : Prop :=
  e = .returned (.int .i64 0) ∧ IsView w' b cap bm (W.set (p + 3 + k) what) ∧ (∀ j, j < w.heap.size → j ≠ b → w'.heap[j]? = w.heap[j]?) ∧ Below 0 w w'

set_option maxHeartbeats 4000000 in
theorem vput_good (W : List Int) (b cap bm p k : Nat) (what : Int) (w : World) (hv : IsView w b cap bm W) (h : (checkOf W).1 = 0) (ho : thingB W (2 * (p : Int)) = true) (hmem : p ∈ places W 2) (hk : k < slotsAt W p) (hst : standB W (formAt W p) what = true) (hww : (Lit.int .i64 what).wf = true) :
    Calls Try.prog 44 #[viewV b W.length cap bm, .int .i64 (2 * (p : Int)), .int .i64 k, .int .i64 what] w (VPutAns W b cap bm p k what w) := by
  obtain ⟨hf, hu⟩ := check_ok h
  obtain ⟨_, hl, _⟩ := front_out hf
  obtain ⟨hp2, hpl, hfit, _⟩ := place_fit hu hmem
  have hfo := fits_out hfit
  have h2p : 2 * (p : Int) / 2 = (p : Int) := by omega
  have hwr0 := wrap_id (x := (p : Int)) (by omega) (by omega)
  have H : Hid ((checkOf W).1 = 0) := h
  clear hfit hf h
  go_enter Try.func44, Try.ntmps44
  go_upto_region 5 with (first | (go_at_call 48; refine (has_any W b cap bm _ _ (hv.alloc _)).mono ?_; rintro e w2 ⟨rfl, hb2⟩; obtain ⟨u0, u1⟩ := box_cells hb2; have hv2 := hv.same (below_call hb2)) | (go_at_call 50; refine (slots_any W b cap bm p _ hv2 hu hl hmem).mono ?_; rintro e w3 ⟨⟨ad3, c3, rfl, had3, hac3, hcm3⟩, hb3⟩; have hb03 := (below_call hb2).trans (hb3.mono (below_call hb2).size); obtain ⟨v0, v1⟩ := held2_below u0 u1 hb3; have hv3 := hv2.same hb3))
  go_region_held3 (fun w' => w'.cell? ⟨w.heap.size, 0, none⟩ = some (sl b W.length cap) ∧ w'.cell? ⟨w.heap.size, 1, none⟩ = some (.map (some bm))) (go_keep)
    (first
      | (go_at_call 49; refine (form_any W b cap bm p _ hv3.drew.row (by omega) hl).mono ?_; rintro e w4 ⟨rfl, hb4⟩; have hv4 := hv3.drew.same hb4; obtain ⟨e0, e1⟩ := held2_below (w := w3.drew) v0 v1 hb4)
      | (go_at_call 59; refine (mayStand_any W b cap bm _ _ _ hv4).mono ?_; rintro e w5 ⟨rfl, hb5⟩; have hv5 := hv4.same hb5; obtain ⟨f0, f1⟩ := held2_below e0 e1 hb5; have h34 : Below w3.heap.size w3 w4 := (Below.refl _ _).drew.trans hb4; have h35 := h34.trans (hb5.mono h34.size); have hb05 := hb03.trans (h35.mono hb03.size)))
  clear u0 u1 v0 v1 e0 e1
  go_wp2_with (go_at_call 50; refine (slots_any W b cap bm p _ hv5 hu hl hmem).mono ?_; rintro e w6 ⟨⟨ad6, c6, rfl, had6, hac6, hcm6⟩, hb6⟩; have hadd := had6 (by omega); subst hadd; have hb06 := hb05.trans (hb6.mono hb05.size); have hv6 := hv5.same hb6; have hcw := hv6.cell (k := p + 3 + k) (by omega); have hfw := hv6.own.frozenAt (p + 3 + k); have hbl6 := hv6.lt)
  have hst6 := (hv6.own.stored (p + 3 + k) (.int .i64 what)).1
  have hvs : (vals W).set (p + 3 + k) (.int .i64 what) = vals (W.set (p + 3 + k) what) := by simp [vals, List.map_set]
  rw [hvs] at hst6
  have hln : (W.set (p + 3 + k) what).length = W.length := by simp
  go_ret
  refine ⟨rfl, ⟨by rw [hln]; exact hst6, ?_, ?_⟩, fun j hj hne => (Below.heap_setCell _ _ _ _ (by dsimp only; omega)).trans (hb06.block j hj), (hb06.mono (Nat.zero_le _)).setCell (Nat.zero_le _) _⟩
  · intro j
    by_cases e : p + 3 + k = j
    · subst e; rw [wd_set_same (by omega)]; exact hww
    · rw [wd_set_other e]; exact hv.wf j
  · have hbb : b ≠ bm := fun e => by
      have h1 := hv6.cell (k := 0) (by omega)
      obtain ⟨n, D, ⟨es, clock, hb0, _⟩, _⟩ := hv6.begun
      rw [e] at h1
      simp [World.cell?, hb0] at h1
    have hpk := put_keeps H.out hmem hk hst
    obtain ⟨n, D, ⟨es, clock, hb0, r⟩, hn, hh, ha⟩ := hv6.begun
    rw [hpk.1]
    refine ⟨n, D, ⟨es, clock, by rw [Below.heap_setCell _ _ _ _ (fun e => hbb e.symm)]; exact hb0, r⟩, hn, hh, fun q hq => ?_⟩
    rw [slots_same (wd_set_other (by have := slot_apart hmem hq hk; omega))]
    exact ha q hq

/-! heap.Look and heap.Put. -/
/-- What Look answers where there is no thing. -/
abbrev lookErr (e : Int) : Ending := .returned (.tuple #[noThing, .int .i64 e])

/-- What Look answers of the thing at p. -/
def LookAns (W : List Int) (p B : Nat) (e : Ending) (w : World) : Prop := ∃ v, e = .returned (.tuple #[thingV (wd W p) (wd W (p + 1)) (formAt W p) v, .int .i64 0]) ∧ SlotsOwn B (slotsOf W p) v w

/-- What Put answers where nothing is put. -/
abbrev putErr (e : Int) : Ending := .returned (.tuple #[.agg #[.slice none 0 0], .int .i64 e])

set_option maxHeartbeats 1000000 in
theorem put_heap (W : List Int) (ad : Option Addr) (cap : Nat) (o at' what : Int) (w : World) (hm : W.length ≤ maxLen) (hr : 2 ≤ W.length → ∃ b off, ad = some ⟨b, off, none⟩ ∧ Row w b off W) (h : (checkOf W).1 ≠ 0) :
    Calls Try.prog 33 #[heapV ad W.length cap, .int .i64 o, .int .i64 at', .int .i64 what] w fun e w' => e = putErr 7 ∧ Below w.heap.size w w' := by
  have hs : Hid (∀ w0, (2 ≤ W.length → ∃ b off, ad = some ⟨b, off, none⟩ ∧ Row w0 b off W) → Calls Try.prog 38 #[heapV ad W.length cap] w0 fun e w' => e = .returned (.tuple #[noView, .int .i64 7]) ∧ Below w0.heap.size w0 w') :=
    fun w0 hr0 => open_no W ad cap w0 hm hr0 h
  have HR : Hid (2 ≤ W.length → ∃ b off, ad = some ⟨b, off, none⟩ ∧ Row w b off W) := hr
  clear h hr
  go_enter Try.func33, Try.ntmps33
  go_wp2_with (first | (go_at_call 38; refine (hs.out _ (reads2 HR.out)).mono ?_; rintro e w1 ⟨rfl, hb1⟩; obtain ⟨c0, d1, d2, hz⟩ := boxes11 hb1; have e1 := (fun o => (boxes11 (hb1.alloc (by simp; omega) o)).2.1); have e2 := (fun o => (boxes11 (hb1.alloc (by simp; omega) o)).2.2.1)))
  refine bodyPost_ret (v := .tuple #[.agg #[.slice none 0 0], .int .i64 7]) (by simp [results, Try.results33, go_sem, hz, d1]) rfl ⟨rfl, ?_⟩
  repeat (first | refine Below.setCell ?_ (by dsimp only; omega) _ | refine Below.alloc ?_ (by simp [World.setCell]; omega) _ | exact below2 hb1)

/-- Put where the view's Put refuses. -/
theorem put_err (W : List Int) (ad : Option Addr) (cap : Nat) (o at' what er : Int) (w : World) (hr : 2 ≤ W.length → ∃ b off, ad = some ⟨b, off, none⟩ ∧ Row w b off W) (h : (checkOf W).1 = 0) (her : (er != 0) = true)
    (hput : ∀ b cap bm w0, IsView w0 b cap bm W → Calls Try.prog 44 #[viewV b W.length cap bm, .int .i64 o, .int .i64 at', .int .i64 what] w0 fun e w' => e = .returned (.int .i64 er) ∧ Below w0.heap.size w0 w') :
    Calls Try.prog 33 #[heapV ad W.length cap, .int .i64 o, .int .i64 at', .int .i64 what] w fun e w' => e = putErr er ∧ Below w.heap.size w w' := by
  have hs : Hid (∀ w0, (2 ≤ W.length → ∃ b off, ad = some ⟨b, off, none⟩ ∧ Row w0 b off W) → Calls Try.prog 38 #[heapV ad W.length cap] w0 fun e w' => OpenAns W w0.heap.size e w' ∧ Below w0.heap.size w0 w') :=
    fun w0 hr0 => open_yes W ad cap w0 hr0 h
  have HR : Hid (2 ≤ W.length → ∃ b off, ad = some ⟨b, off, none⟩ ∧ Row w b off W) := hr
  have HP : Hid (∀ b cap bm w0, IsView w0 b cap bm W → Calls Try.prog 44 #[viewV b W.length cap bm, .int .i64 o, .int .i64 at', .int .i64 what] w0 fun e w' => e = .returned (.int .i64 er) ∧ Below w0.heap.size w0 w') := hput
  clear h hr hput
  go_enter Try.func33, Try.ntmps33
  go_wp2_with (first | (go_at_call 38; refine (hs.out _ (reads2 HR.out)).mono ?_; rintro e w1 ⟨⟨b, cap', bm, rfl, hv, hb, hbm, hne⟩, hb1⟩) | (go_at_call 44; refine (HP.out b cap' bm _ (hv.alloc _)).mono ?_; rintro e w2 ⟨rfl, hb2⟩; have hb12 := hb1.trans ((below_call hb2).mono hb1.size); obtain ⟨c0, d1, d2, hz⟩ := boxes11 hb12))
  refine bodyPost_ret (v := .tuple #[.agg #[.slice none 0 0], .int .i64 er]) (by simp [results, Try.results33, go_sem, d1]) rfl ⟨rfl, ?_⟩
  repeat (first | refine Below.setCell ?_ (by dsimp only; omega) _ | exact below2 hb12)

theorem put_kind (W : List Int) (ad : Option Addr) (cap : Nat) (o at' what : Int) (w : World) (hr : 2 ≤ W.length → ∃ b off, ad = some ⟨b, off, none⟩ ∧ Row w b off W) (h : (checkOf W).1 = 0) (ho : thingB W o = false) :
    Calls Try.prog 33 #[heapV ad W.length cap, .int .i64 o, .int .i64 at', .int .i64 what] w fun e w' => e = putErr 3 ∧ Below w.heap.size w w' :=
  put_err W ad cap o at' what 3 w hr h rfl fun b cap bm w0 hv => vput_kind W b cap bm o at' what w0 hv ho
theorem put_range (W : List Int) (ad : Option Addr) (cap p : Nat) (at' what : Int) (w : World) (hr : 2 ≤ W.length → ∃ b off, ad = some ⟨b, off, none⟩ ∧ Row w b off W) (h : (checkOf W).1 = 0) (ho : thingB W (2 * (p : Int)) = true) (hmem : p ∈ places W 2) (hat : at' < 0 ∨ (slotsAt W p : Int) ≤ at') :
    Calls Try.prog 33 #[heapV ad W.length cap, .int .i64 (2 * (p : Int)), .int .i64 at', .int .i64 what] w fun e w' => e = putErr 4 ∧ Below w.heap.size w w' := by
  obtain ⟨hf, hu⟩ := check_ok h
  obtain ⟨_, hl, _⟩ := front_out hf
  exact put_err W ad cap (2 * (p : Int)) at' what 4 w hr h rfl fun b cap bm w0 hv => vput_range W b cap bm p at' what w0 hv hu hl ho hmem hat
end Go.Proofs.Ytmgmbgacdjebgaa
