/- Several texts in one. -/
import Derived.Test.YthdhaokjibfjdaaLookX
import Derived.Test.YthdhaokjibfjdaaGrowX
import Derived.Test.YthdhaokjibfjdaaGh
import Derived.Deep.RegionHeld3
/- (View).Put, heap.Look and heap.Put. -/
namespace Go.Proofs.Ythdhaokjibfjdaa
open Go.RowKit

theorem held2_below {B : Nat} {x y : Value} {w w' : World} (h0 : w.cell? ⟨B, 0, none⟩ = some x) (h1 : w.cell? ⟨B, 1, none⟩ = some y) (hb : Below w.heap.size w w') : w'.cell? ⟨B, 0, none⟩ = some x ∧ w'.cell? ⟨B, 1, none⟩ = some y :=
  ⟨by rw [hb.cell (World.block_lt_of_cell? _ _ h0)]; exact h0, by rw [hb.cell (World.block_lt_of_cell? _ _ h1)]; exact h1⟩

theorem vput_kind (W : List Int) (b cap bm : Nat) (o at' what : Int) (w : World) (hv : IsView w b cap bm W) (ho : thingB W o = false) :
    Calls Try.prog 64 #[viewV b W.length cap bm, .int .i64 o, .int .i64 at', .int .i64 what] w fun e w' => e = .returned (.int .i64 3) ∧ Below w.heap.size w w' := by
  go_enter Try.func64, Try.ntmps64
  go_wp2_with (first | (go_at_call 42; refine (has_any W b cap bm _ _ (hv.alloc _)).mono ?_; rintro e w2 ⟨rfl, hb2⟩))
  go_ret
  exact ⟨rfl, below_call hb2⟩

set_option maxHeartbeats 2000000 in
theorem vput_range (W : List Int) (b cap bm p : Nat) (at' what : Int) (w : World) (hv : IsView w b cap bm W) (hu : unfit W 2 = none) (hl : W.length ≤ 2000) (ho : thingB W (2 * (p : Int)) = true) (hmem : p ∈ places W 2) (hat : at' < 0 ∨ (slotsAt W p : Int) ≤ at') :
    Calls Try.prog 64 #[viewV b W.length cap bm, .int .i64 (2 * (p : Int)), .int .i64 at', .int .i64 what] w fun e w' => e = .returned (.int .i64 4) ∧ Below w.heap.size w w' := by
  have hpl := (place_fit hu hmem).2.1
  have h2p : 2 * (p : Int) / 2 = (p : Int) := by omega
  have hw : at' < 0 ∨ (0 ≤ at' ∧ (slotsAt W p : Int) ≤ at') := by omega
  clear hat
  rcases hw with hw | hw
  · go_enter Try.func64, Try.ntmps64
    go_wp2_with (first | (go_at_call 42; refine (has_any W b cap bm _ _ (hv.alloc _)).mono ?_; rintro e w2 ⟨rfl, hb2⟩; obtain ⟨u0, u1⟩ := box_cells hb2))
    go_ret
    exact ⟨rfl, below_call hb2⟩
  · go_enter Try.func64, Try.ntmps64
    go_wp2_with (first | (go_at_call 42; refine (has_any W b cap bm _ _ (hv.alloc _)).mono ?_; rintro e w2 ⟨rfl, hb2⟩; obtain ⟨u0, u1⟩ := box_cells hb2; have hv2 := hv.same (below_call hb2)) | (go_at_call 67; refine (slots_any W b cap bm p _ hv2 hu hl hmem).mono ?_; rintro e w3 ⟨⟨ad3, c3, rfl, had3, hac3, hcm3⟩, hb3⟩))
    go_ret
    exact ⟨rfl, (below_call hb2).trans (hb3.mono (below_call hb2).size)⟩

set_option maxHeartbeats 4000000 in
theorem vput_form (W : List Int) (b cap bm p k : Nat) (what : Int) (w : World) (hv : IsView w b cap bm W) (hu : unfit W 2 = none) (hl : W.length ≤ 2000) (ho : thingB W (2 * (p : Int)) = true) (hmem : p ∈ places W 2) (hk : k < slotsAt W p) (hst : standB W (formAt W p) what = false) :
    Calls Try.prog 64 #[viewV b W.length cap bm, .int .i64 (2 * (p : Int)), .int .i64 k, .int .i64 what] w fun e w' => e = .returned (.int .i64 2) ∧ Below w.heap.size w w' := by
  obtain ⟨hp2, hpl, hfit, _⟩ := place_fit hu hmem
  have hfo := fits_out hfit
  have h2p : 2 * (p : Int) / 2 = (p : Int) := by omega
  have hwr0 := wrap_id (x := (p : Int)) (by omega) (by omega)
  clear hfit
  go_enter Try.func64, Try.ntmps64
  go_upto_region 5 with (first | (go_at_call 42; refine (has_any W b cap bm _ _ (hv.alloc _)).mono ?_; rintro e w2 ⟨rfl, hb2⟩; obtain ⟨u0, u1⟩ := box_cells hb2; have hv2 := hv.same (below_call hb2)) | (go_at_call 67; refine (slots_any W b cap bm p _ hv2 hu hl hmem).mono ?_; rintro e w3 ⟨⟨ad3, c3, rfl, had3, hac3, hcm3⟩, hb3⟩; have hb03 := (below_call hb2).trans (hb3.mono (below_call hb2).size); obtain ⟨v0, v1⟩ := held2_below u0 u1 hb3; have hv3 := hv2.same hb3))
  go_region_held3 (fun w' => w'.cell? ⟨w.heap.size, 0, none⟩ = some (sl b W.length cap) ∧ w'.cell? ⟨w.heap.size, 1, none⟩ = some (.map (some bm))) (go_keep)
    (first
      | (go_at_call 66; refine (form_any W b cap bm p _ hv3.drew.row (by omega) hl).mono ?_; rintro e w4 ⟨rfl, hb4⟩; have hv4 := hv3.drew.same hb4; obtain ⟨e0, e1⟩ := held2_below (w := w3.drew) v0 v1 hb4)
      | (go_at_call 75; refine (mayStand_any W b cap bm _ _ _ hv4).mono ?_; rintro e w5 ⟨rfl, hb5⟩; have hv5 := hv4.same hb5; obtain ⟨f0, f1⟩ := held2_below e0 e1 hb5; have h34 : Below w3.heap.size w3 w4 := (Below.refl _ _).drew.trans hb4; have h35 := h34.trans (hb5.mono h34.size); have hb05 := hb03.trans (h35.mono hb03.size)))
  go_wp2_with fail
  go_ret
  exact ⟨rfl, hb05⟩

/-- What Put does where it puts. -/
def VPutAns (W : List Int) (b cap bm p k : Nat) (what : Int) (w : World) (e : Ending) (w' : World) : Prop :=
  e = .returned (.int .i64 0) ∧ IsView w' b cap bm (W.set (p + 3 + k) what) ∧ (∀ j, j < w.heap.size → j ≠ b → w'.heap[j]? = w.heap[j]?) ∧ Below 0 w w'

set_option maxHeartbeats 4000000 in
theorem vput_good (W : List Int) (b cap bm p k : Nat) (what : Int) (w : World) (hv : IsView w b cap bm W) (h : (checkOf W).1 = 0) (ho : thingB W (2 * (p : Int)) = true) (hmem : p ∈ places W 2) (hk : k < slotsAt W p) (hst : standB W (formAt W p) what = true) (hww : (Lit.int .i64 what).wf = true) :
    Calls Try.prog 64 #[viewV b W.length cap bm, .int .i64 (2 * (p : Int)), .int .i64 k, .int .i64 what] w (VPutAns W b cap bm p k what w) := by
  obtain ⟨hf, hu⟩ := check_ok h
  obtain ⟨_, hl, _⟩ := front_out hf
  obtain ⟨hp2, hpl, hfit, _⟩ := place_fit hu hmem
  have hfo := fits_out hfit
  have h2p : 2 * (p : Int) / 2 = (p : Int) := by omega
  have hwr0 := wrap_id (x := (p : Int)) (by omega) (by omega)
  have H : Hid ((checkOf W).1 = 0) := h
  clear hfit hf h
  go_enter Try.func64, Try.ntmps64
  go_upto_region 5 with (first | (go_at_call 42; refine (has_any W b cap bm _ _ (hv.alloc _)).mono ?_; rintro e w2 ⟨rfl, hb2⟩; obtain ⟨u0, u1⟩ := box_cells hb2; have hv2 := hv.same (below_call hb2)) | (go_at_call 67; refine (slots_any W b cap bm p _ hv2 hu hl hmem).mono ?_; rintro e w3 ⟨⟨ad3, c3, rfl, had3, hac3, hcm3⟩, hb3⟩; have hb03 := (below_call hb2).trans (hb3.mono (below_call hb2).size); obtain ⟨v0, v1⟩ := held2_below u0 u1 hb3; have hv3 := hv2.same hb3))
  go_region_held3 (fun w' => w'.cell? ⟨w.heap.size, 0, none⟩ = some (sl b W.length cap) ∧ w'.cell? ⟨w.heap.size, 1, none⟩ = some (.map (some bm))) (go_keep)
    (first
      | (go_at_call 66; refine (form_any W b cap bm p _ hv3.drew.row (by omega) hl).mono ?_; rintro e w4 ⟨rfl, hb4⟩; have hv4 := hv3.drew.same hb4; obtain ⟨e0, e1⟩ := held2_below (w := w3.drew) v0 v1 hb4)
      | (go_at_call 75; refine (mayStand_any W b cap bm _ _ _ hv4).mono ?_; rintro e w5 ⟨rfl, hb5⟩; have hv5 := hv4.same hb5; obtain ⟨f0, f1⟩ := held2_below e0 e1 hb5; have h34 : Below w3.heap.size w3 w4 := (Below.refl _ _).drew.trans hb4; have h35 := h34.trans (hb5.mono h34.size); have hb05 := hb03.trans (h35.mono hb03.size)))
  clear u0 u1 v0 v1 e0 e1
  go_wp2_with (go_at_call 67; refine (slots_any W b cap bm p _ hv5 hu hl hmem).mono ?_; rintro e w6 ⟨⟨ad6, c6, rfl, had6, hac6, hcm6⟩, hb6⟩; have hadd := had6 (by omega); subst hadd; have hb06 := hb05.trans (hb6.mono hb05.size); have hv6 := hv5.same hb6; have hcw := hv6.cell (k := p + 3 + k) (by omega); have hfw := hv6.own.frozenAt (p + 3 + k); have hbl6 := hv6.lt)
  have hst6 := (hv6.own.stored (p + 3 + k) (.int .i64 what)).1
  have hvs : (vals W).set (p + 3 + k) (.int .i64 what) = vals (W.set (p + 3 + k) what) := by simp [vals, List.map_set]
  rw [hvs] at hst6
  have hln : (W.set (p + 3 + k) what).length = W.length := by simp
  go_ret
  refine ⟨rfl, ⟨by rw [hln]; exact hst6, ?_, ?_⟩, fun j hj hne => (Below.heap_setCell _ _ _ _ (by dsimp only; omega)).trans (hb06.block j hj), (hb06.mono (Nat.zero_le _)).setCell (Nat.zero_le _) _⟩
  · intro j
    by_cases e : p + 3 + k = j
    · subst e; rw [wd_set_same (by omega)]; exact hww
    · rw [wd_set_other e]; exact hv.wf j
  · have hbb : b ≠ bm := fun e => by
      have h1 := hv6.cell (k := 0) (by omega)
      obtain ⟨n, D, ⟨es, clock, hb0, _⟩, _⟩ := hv6.begun
      rw [e] at h1
      simp [World.cell?, hb0] at h1
    have hpk := put_keeps H.out hmem hk hst
    obtain ⟨n, D, ⟨es, clock, hb0, r⟩, hn, hh, ha⟩ := hv6.begun
    rw [hpk.1]
    refine ⟨n, D, ⟨es, clock, by rw [Below.heap_setCell _ _ _ _ (fun e => hbb e.symm)]; exact hb0, r⟩, hn, hh, fun q hq => ?_⟩
    rw [slots_same (wd_set_other (by have := slot_apart hmem hq hk; omega))]
    exact ha q hq

/-! heap.Look and heap.Put. -/
/-- What Look answers where there is no thing. -/
abbrev lookErr (e : Int) : Ending := .returned (.tuple #[noThing, .int .i64 e])

/-- What Look answers of the thing at p. -/
def LookAns (W : List Int) (p B : Nat) (e : Ending) (w : World) : Prop := ∃ v, e = .returned (.tuple #[thingV (wd W p) (wd W (p + 1)) (formAt W p) v, .int .i64 0]) ∧ SlotsOwn B (slotsOf W p) v w

/-- What Put answers where nothing is put. -/
abbrev putErr (e : Int) : Ending := .returned (.tuple #[.agg #[.slice none 0 0], .int .i64 e])

end Go.Proofs.Ythdhaokjibfjdaa

/- gessoref2.Look. -/
namespace Go.Proofs.Ythdhaokjibfjdaa
open Go.RowKit

theorem slots_row' {w : World} {b off : Nat} {W : List Int} {p : Nat} (h : Row w b off W) (hp : p + 3 + slotsAt W p ≤ W.length) : Row w b (off + (p + 3)) (slotsOf W p) := by
  refine ⟨h.lt, fun k hk => ?_, fun k => ?_⟩
  · rw [slots_length hp] at hk
    have := h.cell (p + 3 + k) (by omega)
    rw [slots_at hk, ← this, Nat.add_assoc]
  · by_cases hk : k < slotsAt W p
    · rw [slots_at hk]; exact h.wf _
    · have : wd (slotsOf W p) k = 0 := by
        unfold wd
        rw [List.getD_eq_getElem?_getD, List.getElem?_eq_none (by rw [slots_length hp]; omega)]; rfl
      rw [this]; decide
theorem slots_own {w : World} {B n : Nat} {v : Value} {xs : List Int} (hn : xs.length = n) (h : w.ownsRow B 3 1 v (0 + n) ([] ++ vals xs)) : SlotsOwn B xs v w := by
  simp only [Nat.zero_add, List.nil_append] at h
  subst hn
  rcases h.2 with ⟨rfl, h0⟩ | ⟨g, cap, cur, rfl, hg, r⟩
  · exact ⟨none, 0, by rw [h0], fun h => by omega⟩
  · exact ⟨_, _, rfl, fun _ => ⟨g, rfl, hg, own_mono (Nat.zero_le _) h⟩⟩
theorem below3' {w w' : World} {o1 o2 o3 : Obj} (hb : Below (w.heap.size + 3) (((w.alloc o1).alloc o2).alloc o3) w') : Below w.heap.size w w' :=
  ((((Below.refl _ _).alloc (Nat.le_refl _) _).alloc (by simp) _).alloc (by simp; omega) _).trans (hb.mono (by omega))
theorem twoBoxes {w w' : World} {o : Obj} {x0 x1 x2 x3 z0 z1 z2 z3 : Value} {t : TypeId} (hb : Below (w.heap.size + 3) (((w.alloc o).alloc (.cells #[x0, x1, x2, x3] t)).alloc (.cells #[z0, z1, z2, z3] t)) w') :
    (w'.cell? ⟨w.heap.size + 1, 0, none⟩ = some x0 ∧ w'.cell? ⟨w.heap.size + 1, 1, none⟩ = some x1 ∧ w'.cell? ⟨w.heap.size + 1, 2, none⟩ = some x2 ∧ w'.cell? ⟨w.heap.size + 1, 3, none⟩ = some x3) ∧
      (w'.frozen? ⟨w.heap.size + 1, 0, none⟩ = false ∧ w'.frozen? ⟨w.heap.size + 1, 1, none⟩ = false ∧ w'.frozen? ⟨w.heap.size + 1, 2, none⟩ = false ∧ w'.frozen? ⟨w.heap.size + 1, 3, none⟩ = false) ∧
      (w'.cell? ⟨w.heap.size + 1 + 1, 0, none⟩ = some z0 ∧ w'.cell? ⟨w.heap.size + 1 + 1, 1, none⟩ = some z1 ∧ w'.cell? ⟨w.heap.size + 1 + 1, 2, none⟩ = some z2 ∧ w'.cell? ⟨w.heap.size + 1 + 1, 3, none⟩ = some z3) ∧
      (w'.frozen? ⟨w.heap.size + 1 + 1, 0, none⟩ = false ∧ w'.frozen? ⟨w.heap.size + 1 + 1, 1, none⟩ = false ∧ w'.frozen? ⟨w.heap.size + 1 + 1, 2, none⟩ = false ∧ w'.frozen? ⟨w.heap.size + 1 + 1, 3, none⟩ = false) ∧ w.heap.size + 3 ≤ w'.heap.size := by
  have hs := hb.size
  have A : ∀ j, w'.cell? ⟨w.heap.size + 1, j, none⟩ = #[x0, x1, x2, x3][j]? := fun j => by
    rw [hb.cell (p := ⟨w.heap.size + 1, j, none⟩) (by dsimp only; omega), cell_past _ (by simp)]; exact cell_at2 (by simp)
  have A' : ∀ j, w'.frozen? ⟨w.heap.size + 1, j, none⟩ = false := fun j => by
    rw [hb.frozen (p := ⟨w.heap.size + 1, j, none⟩) (by dsimp only; omega), frozen_past _ (by simp)]; exact frozen_at2 (by simp)
  have Z : ∀ j, w'.cell? ⟨w.heap.size + 1 + 1, j, none⟩ = #[z0, z1, z2, z3][j]? := fun j => by
    rw [hb.cell (p := ⟨w.heap.size + 1 + 1, j, none⟩) (by dsimp only; omega)]; exact cell_at2 (by simp)
  have Z' : ∀ j, w'.frozen? ⟨w.heap.size + 1 + 1, j, none⟩ = false := fun j => by
    rw [hb.frozen (p := ⟨w.heap.size + 1 + 1, j, none⟩) (by dsimp only; omega)]; exact frozen_at2 (by simp)
  exact ⟨⟨A 0, A 1, A 2, A 3⟩, ⟨A' 0, A' 1, A' 2, A' 3⟩, ⟨Z 0, Z 1, Z 2, Z 3⟩, ⟨Z' 0, Z' 1, Z' 2, Z' 3⟩, by simp at hs; omega⟩

end Go.Proofs.Ythdhaokjibfjdaa

/- gessoref2.Look of a thing. -/
namespace Go.Proofs.Ythdhaokjibfjdaa
open Go.RowKit

end Go.Proofs.Ythdhaokjibfjdaa

/- heap.Put where the slot is there. -/
namespace Go.Proofs.Ythdhaokjibfjdaa
open Go.RowKit

/-- What Put answers where it puts. -/
def PutAns (W' : List Int) (e : Ending) (w : World) : Prop := ∃ g cap, e = .returned (.tuple #[.agg #[sl g W'.length cap], .int .i64 0]) ∧ w.ownsRow 0 3 1 (sl g W'.length cap) W'.length (vals W')

theorem stand_wf {W : List Int} {f what : Int} (h : standB W f what = true) : (Lit.int .i64 what).wf = true := by
  have hb : -2147483647 ≤ what ∧ what ≤ 2147483647 := by
    unfold standB at h
    split at h
    · have := of_decide_eq_true h; omega
    · have h3 : kindOf what = 1 ∨ kindOf what = 2 ∨ kindOf what = 3 := by
        unfold nilB thingB at h
        simp only [Bool.or_eq_true, Bool.and_eq_true, beq_iff_eq] at h
        rcases h with h | h | h
        · exact Or.inl h
        · exact Or.inr (Or.inl h)
        · exact Or.inr (Or.inr h.1)
      unfold kindOf at h3
      split at h3
      · omega
      · split at h3
        · rename_i hs; have := small_out hs; omega
        · split at h3
          · omega
          · omega
  go_wf

end Go.Proofs.Ythdhaokjibfjdaa

/- gessoref2.Put. -/
namespace Go.Proofs.Ythdhaokjibfjdaa
open Go.RowKit

theorem box47 {w w' : World} {x0 x1 x2 x3 : Value} {t : TypeId} (hb : Below (w.alloc (.cells #[x0, x1, x2, x3] t)).heap.size (w.alloc (.cells #[x0, x1, x2, x3] t)) w') :
    w'.cell? ⟨w.heap.size, 2, none⟩ = some x2 ∧ w'.cell? ⟨w.heap.size, 3, none⟩ = some x3 := by
  constructor
  · rw [hb.cell (p := ⟨w.heap.size, 2, none⟩) (by simp), cell_at2 rfl]; rfl
  · rw [hb.cell (p := ⟨w.heap.size, 3, none⟩) (by simp), cell_at2 rfl]; rfl

end Go.Proofs.Ythdhaokjibfjdaa

/- gessoref2.Put where it puts. -/
namespace Go.Proofs.Ythdhaokjibfjdaa
open Go.RowKit

theorem own_base' {w : World} {B b n cap : Nat} {xs : List Value} (h : w.ownsRow B 3 1 (sl b n cap) n xs) : w.ownsRow 0 3 1 (sl b n cap) n xs := own_mono (Nat.zero_le _) h

/-- What Put answers, in memory of its own from block B on. -/
def PutFrom (W' : List Int) (B : Nat) (e : Ending) (w : World) : Prop := ∃ g cap, e = .returned (.tuple #[.agg #[sl g W'.length cap], .int .i64 0]) ∧ B ≤ g ∧ w.ownsRow 0 3 1 (sl g W'.length cap) W'.length (vals W')
end Go.Proofs.Ythdhaokjibfjdaa
