/- heap.Put where the slot is there. -/
import Derived.Test.YtmgmbgacdjebgaaPut
namespace Go.Proofs.Ytmgmbgacdjebgaa
open Go.RowKit

theorem put_form (W : List Int) (ad : Option Addr) (cap p k : Nat) (what : Int) (w : World) (hr : 2 ≤ W.length → ∃ b off, ad = some ⟨b, off, none⟩ ∧ Row w b off W) (h : (checkOf W).1 = 0) (ho : thingB W (2 * (p : Int)) = true) (hmem : p ∈ places W 2) (hk : k < slotsAt W p) (hst : standB W (formAt W p) what = false) :
    Calls Try.prog 33 #[heapV ad W.length cap, .int .i64 (2 * (p : Int)), .int .i64 k, .int .i64 what] w fun e w' => e = putErr 2 ∧ Below w.heap.size w w' := by
  obtain ⟨hf, hu⟩ := check_ok h
  obtain ⟨_, hl, _⟩ := front_out hf
  exact put_err W ad cap (2 * (p : Int)) k what 2 w hr h rfl fun b cap bm w0 hv => vput_form W b cap bm p k what w0 hv hu hl ho hmem hk hst

/-- What Put answers where it puts. -/
def PutAns (W' : List Int) (e : Ending) (w : World) : Prop := ∃ g cap, e = .returned (.tuple #[.agg #[sl g W'.length cap], .int .i64 0]) ∧ w.ownsRow 0 3 1 (sl g W'.length cap) W'.length (vals W')

theorem stand_wf {W : List Int} {f what : Int} (h : standB W f what = true) : (Lit.int .i64 what).wf = true := by
  have hb : -2147483647 ≤ what ∧ what ≤ 2147483647 := by
    unfold standB at h
    split at h
    · have := of_decide_eq_true h; omega
    · have h3 : kindOf what = 1 ∨ kindOf what = 2 ∨ kindOf what = 3 := by
        unfold nilB thingB at h
        simp only [Bool.or_eq_true, Bool.and_eq_true, beq_iff_eq] at h
        rcases h with h | h | h
        · exact Or.inl h
        · exact Or.inr (Or.inl h)
        · exact Or.inr (Or.inr h.1)
      unfold kindOf at h3
      split at h3
      · omega
      · split at h3
        · rename_i hs; have := small_out hs; omega
        · split at h3
          · omega
          · omega
  go_wf

set_option maxHeartbeats 4000000 in
theorem put_good (W : List Int) (ad : Option Addr) (cap p k : Nat) (what : Int) (w : World) (hr : 2 ≤ W.length → ∃ b off, ad = some ⟨b, off, none⟩ ∧ Row w b off W) (h : (checkOf W).1 = 0) (ho : thingB W (2 * (p : Int)) = true) (hmem : p ∈ places W 2) (hk : k < slotsAt W p) (hst : standB W (formAt W p) what = true) :
    Calls Try.prog 33 #[heapV ad W.length cap, .int .i64 (2 * (p : Int)), .int .i64 k, .int .i64 what] w fun e w' => PutAns (W.set (p + 3 + k) what) e w' ∧ Below w.heap.size w w' := by
  have hs : Hid (∀ w0, (2 ≤ W.length → ∃ b off, ad = some ⟨b, off, none⟩ ∧ Row w0 b off W) → Calls Try.prog 38 #[heapV ad W.length cap] w0 fun e w' => OpenAns W w0.heap.size e w' ∧ Below w0.heap.size w0 w') :=
    fun w0 hr0 => open_yes W ad cap w0 hr0 h
  have HR : Hid (2 ≤ W.length → ∃ b off, ad = some ⟨b, off, none⟩ ∧ Row w b off W) := hr
  have HP : Hid (∀ b cap bm w0, IsView w0 b cap bm W → Calls Try.prog 44 #[viewV b W.length cap bm, .int .i64 (2 * (p : Int)), .int .i64 k, .int .i64 what] w0 (VPutAns W b cap bm p k what w0)) :=
    fun b cap bm w0 hv => vput_good W b cap bm p k what w0 hv h ho hmem hk hst (stand_wf hst)
  have hln : (W.set (p + 3 + k) what).length = W.length := by simp
  have HL : Hid ((W.set (p + 3 + k) what).length = W.length) := hln
  clear h hr hln
  go_enter Try.func33, Try.ntmps33
  go_wp2_with (first | (go_at_call 38; refine (hs.out _ (reads2 HR.out)).mono ?_; rintro e w1 ⟨⟨b, cap', bm, rfl, hv, hb, hbm, hne⟩, hb1⟩; have hb' : w.heap.size + 2 ≤ b := (by simp at hb; omega); have hz1 : w.heap.size + 1 < w1.heap.size := (boxes11 hb1).2.2.2) | (go_at_call 44; refine (HP.out b cap' bm _ (hv.alloc _)).mono ?_; rintro e w2 ⟨rfl, hv2, hk2, hb02⟩; have hb12 : Below (w.heap.size + 2) w1 w2 := ⟨hb02.os, hb02.tape, hb02.output, (by have := hb02.size; simp at this; omega), (fun j hj => (hk2 j (by simp; omega) (by omega)).trans (Below.heap_alloc _ _ _ (by omega)))⟩; have hb02' : Below (w.heap.size + 2) ((w.alloc _).alloc _) w2 := (hb1.mono (by simp)).trans hb12; obtain ⟨c0, d1, d2, hz⟩ := boxes11 (hb02'.mono (by simp)); have b0 : w2.cell? ⟨w1.heap.size, 0, none⟩ = some (sl b W.length cap') := (by rw [World.cell?_of_block (a := ⟨w1.heap.size, 0, none⟩) (hk2 w1.heap.size (by simp) (by have := hv.lt; omega)), cell_at2 rfl]; rfl); have hzb : w1.heap.size < w2.heap.size := World.block_lt_of_cell? _ _ b0))
  have hA : Below w.heap.size w w2 := (((Below.refl _ _).alloc (Nat.le_refl _) _).alloc (by simp) _).trans (hb02'.mono (by omega))
  refine bodyPost_ret (v := .tuple #[.agg #[sl b W.length cap'], .int .i64 0]) (by simp [results, Try.results33, go_sem, d1]) rfl ⟨⟨b, cap', by rw [HL.out], own_set' hv2.own (by dsimp only; omega) _⟩, hA.setCell (by dsimp only; omega) _⟩
end Go.Proofs.Ytmgmbgacdjebgaa
