/- heap.Put where the slot is there. -/
import Derived.Test.YtiinkjgcakabaacPut
namespace Go.Proofs.Ytiinkjgcakabaac
open Go.RowKit

theorem held2_below {B : Nat} {x y : Value} {w w' : World} (h0 : w.cell? ⟨B, 0, none⟩ = some x) (h1 : w.cell? ⟨B, 1, none⟩ = some y) (hb : Below w.heap.size w w') : w'.cell? ⟨B, 0, none⟩ = some x ∧ w'.cell? ⟨B, 1, none⟩ = some y :=
  ⟨by rw [hb.cell (World.block_lt_of_cell? _ _ h0)]; exact h0, by rw [hb.cell (World.block_lt_of_cell? _ _ h1)]; exact h1⟩

set_option maxHeartbeats 4000000 in
theorem put_form (W : List Int) (ad : Option Addr) (cap p k : Nat) (what : Int) (w : World) (hr : 2 ≤ W.length → ∃ b off, ad = some ⟨b, off, none⟩ ∧ Row w b off W) (h : (checkOf W).1 = 0) (ho : thingB W (2 * (p : Int)) = true) (hmem : p ∈ places W 2) (hk : k < slotsAt W p) (hst : standB W (formAt W p) what = false) :
    Calls Try.prog 69 #[heapV ad W.length cap, .int .i64 (2 * (p : Int)), .int .i64 k, .int .i64 what] w fun e w' => e = putErr 2 ∧ Below w.heap.size w w' := by
  have hs : Hid (∀ w0, (2 ≤ W.length → ∃ b off, ad = some ⟨b, off, none⟩ ∧ Row w0 b off W) → Calls Try.prog 73 #[heapV ad W.length cap] w0 fun e w' => OpenAns W w0.heap.size e w' ∧ Below w0.heap.size w0 w') :=
    fun w0 hr0 => open_yes W ad cap w0 hr0 h
  have HR : Hid (2 ≤ W.length → ∃ b off, ad = some ⟨b, off, none⟩ ∧ Row w b off W) := hr
  obtain ⟨hf, hu⟩ := check_ok h
  obtain ⟨_, hl, _⟩ := front_out hf
  obtain ⟨hp2, hpl, hfit, _⟩ := place_fit hu hmem
  have hfo := fits_out hfit
  have h2p : 2 * (p : Int) / 2 = (p : Int) := by omega
  have hwr0 := wrap_id (x := (p : Int)) (by omega) (by omega)
  clear h hr hf hfit
  go_enter Try.func69, Try.ntmps69
  go_upto_region 8 with (first | (go_at_call 73; refine (hs.out _ (reads2 HR.out)).mono ?_; rintro e w1 ⟨⟨b, cap', bm, rfl, hv, hb, hbm, hne⟩, hb1⟩) | (go_at_call 79; refine (has_any W b cap' bm _ _ (hv.alloc _)).mono ?_; rintro e w2 ⟨rfl, hb2⟩; have hb12 := hb1.trans ((below_call hb2).mono hb1.size); obtain ⟨u0, u1⟩ := box_cells hb2; have hv2 := hv.same (below_call hb2)) | (go_at_call 92; refine (slots_any W b cap' bm p _ hv2 hu hl hmem).mono ?_; rintro e w3 ⟨⟨ad3, c3, rfl, had3, hac3, hcm3⟩, hb3⟩; have hb13 := hb12.trans (hb3.mono hb12.size); obtain ⟨v0, v1⟩ := held2_below u0 u1 hb3; have hv3 := hv2.same hb3))
  go_region_held3 (fun w' => w'.cell? ⟨w1.heap.size, 0, none⟩ = some (sl b W.length cap') ∧ w'.cell? ⟨w1.heap.size, 1, none⟩ = some (.map (some bm))) (go_keep)
    (first
      | (go_at_call 94; refine (form_any W b cap' bm p _ hv3.drew.row (by omega) hl).mono ?_; rintro e w4 ⟨rfl, hb4⟩; have hv4 := hv3.drew.same hb4; obtain ⟨e0, e1⟩ := held2_below (w := w3.drew) v0 v1 hb4)
      | (go_at_call 93; refine (mayStand_any W b cap' bm _ _ _ hv4).mono ?_; rintro e w5 ⟨rfl, hb5⟩; have hv5 := hv4.same hb5; obtain ⟨f0, f1⟩ := held2_below e0 e1 hb5; have h34 : Below w3.heap.size w3 w4 := (Below.refl _ _).drew.trans hb4; have h35 := h34.trans (hb5.mono h34.size); have hb15 := hb13.trans (h35.mono hb13.size); obtain ⟨c0, d1, d2, hz⟩ := boxes11 hb15))
  go_wp2_with fail
  refine bodyPost_ret (v := .tuple #[.agg #[.slice none 0 0], .int .i64 2]) (by simp [results, Try.results69, go_sem, d1]) rfl ⟨rfl, ?_⟩
  repeat (first | refine Below.setCell ?_ (by dsimp only; omega) _ | exact below2 hb15)

/-- What Put answers where it puts. -/
def PutAns (W' : List Int) (e : Ending) (w : World) : Prop := ∃ g cap, e = .returned (.tuple #[.agg #[sl g W'.length cap], .int .i64 0]) ∧ w.ownsRow 0 3 1 (sl g W'.length cap) W'.length (vals W')

set_option maxHeartbeats 4000000 in
theorem put_good (W : List Int) (ad : Option Addr) (cap p k : Nat) (what : Int) (w : World) (hr : 2 ≤ W.length → ∃ b off, ad = some ⟨b, off, none⟩ ∧ Row w b off W) (h : (checkOf W).1 = 0) (ho : thingB W (2 * (p : Int)) = true) (hmem : p ∈ places W 2) (hk : k < slotsAt W p) (hst : standB W (formAt W p) what = true) :
    Calls Try.prog 69 #[heapV ad W.length cap, .int .i64 (2 * (p : Int)), .int .i64 k, .int .i64 what] w fun e w' => PutAns (W.set (p + 3 + k) what) e w' ∧ Below w.heap.size w w' := by
  have hs : Hid (∀ w0, (2 ≤ W.length → ∃ b off, ad = some ⟨b, off, none⟩ ∧ Row w0 b off W) → Calls Try.prog 73 #[heapV ad W.length cap] w0 fun e w' => OpenAns W w0.heap.size e w' ∧ Below w0.heap.size w0 w') :=
    fun w0 hr0 => open_yes W ad cap w0 hr0 h
  have HR : Hid (2 ≤ W.length → ∃ b off, ad = some ⟨b, off, none⟩ ∧ Row w b off W) := hr
  obtain ⟨hf, hu⟩ := check_ok h
  obtain ⟨_, hl, _⟩ := front_out hf
  obtain ⟨hp2, hpl, hfit, _⟩ := place_fit hu hmem
  have hfo := fits_out hfit
  have h2p : 2 * (p : Int) / 2 = (p : Int) := by omega
  have hwr0 := wrap_id (x := (p : Int)) (by omega) (by omega)
  clear h hr hf hfit
  go_enter Try.func69, Try.ntmps69
  go_upto_region 8 with (first | (go_at_call 73; refine (hs.out _ (reads2 HR.out)).mono ?_; rintro e w1 ⟨⟨b, cap', bm, rfl, hv, hb, hbm, hne⟩, hb1⟩) | (go_at_call 79; refine (has_any W b cap' bm _ _ (hv.alloc _)).mono ?_; rintro e w2 ⟨rfl, hb2⟩; have hb12 := hb1.trans ((below_call hb2).mono hb1.size); obtain ⟨u0, u1⟩ := box_cells hb2; have hv2 := hv.same (below_call hb2)) | (go_at_call 92; refine (slots_any W b cap' bm p _ hv2 hu hl hmem).mono ?_; rintro e w3 ⟨⟨ad3, c3, rfl, had3, hac3, hcm3⟩, hb3⟩; have hb13 := hb12.trans (hb3.mono hb12.size); obtain ⟨v0, v1⟩ := held2_below u0 u1 hb3; have hv3 := hv2.same hb3))
  go_region_held3 (fun w' => w'.cell? ⟨w1.heap.size, 0, none⟩ = some (sl b W.length cap') ∧ w'.cell? ⟨w1.heap.size, 1, none⟩ = some (.map (some bm))) (go_keep)
    (first
      | (go_at_call 94; refine (form_any W b cap' bm p _ hv3.drew.row (by omega) hl).mono ?_; rintro e w4 ⟨rfl, hb4⟩; have hv4 := hv3.drew.same hb4; obtain ⟨e0, e1⟩ := held2_below (w := w3.drew) v0 v1 hb4)
      | (go_at_call 93; refine (mayStand_any W b cap' bm _ _ _ hv4).mono ?_; rintro e w5 ⟨rfl, hb5⟩; have hv5 := hv4.same hb5; obtain ⟨f0, f1⟩ := held2_below e0 e1 hb5; have h34 : Below w3.heap.size w3 w4 := (Below.refl _ _).drew.trans hb4; have h35 := h34.trans (hb5.mono h34.size); have hb15 := hb13.trans (h35.mono hb13.size)))
  clear u0 u1 v0 v1 e0 e1
  go_wp2_with (go_at_call 92; refine (slots_any W b cap' bm p _ hv5 hu hl hmem).mono ?_; rintro e w6 ⟨⟨ad6, c6, rfl, had6, hac6, hcm6⟩, hb6⟩; have hadd := had6 (by omega); subst hadd; have hb16 := hb15.trans (hb6.mono hb15.size); obtain ⟨g0, g1⟩ := held2_below f0 f1 hb6; have hv6 := hv5.same hb6; have hcw := hv6.cell (k := p + 3 + k) (by omega); have hfw := hv6.own.frozenAt (p + 3 + k); obtain ⟨c0, d1, d2, hz⟩ := boxes11 hb16; have hbl : ¬ w1.heap.size = b := (by have := hv.lt; omega))
  have hb' : w.heap.size + 2 ≤ b := by simp at hb; omega
  have hst6 := (hv6.own.stored (p + 3 + k) (.int .i64 what)).1
  have hvs : (vals W).set (p + 3 + k) (.int .i64 what) = vals (W.set (p + 3 + k) what) := by simp [vals, List.map_set]
  rw [hvs] at hst6
  have hln : (W.set (p + 3 + k) what).length = W.length := by simp
  refine bodyPost_ret (v := .tuple #[.agg #[sl b W.length cap'], .int .i64 0]) (by simp [results, Try.results69, go_sem, d1]) rfl ⟨⟨b, cap', by rw [hln], ?_⟩, ?_⟩
  · rw [hln]
    exact own_set' hst6 (by dsimp only; omega) _
  · repeat (first | refine Below.setCell ?_ (by dsimp only; omega) _ | exact below2 hb16)

end Go.Proofs.Ytiinkjgcakabaac
