/- gessoref2.Put. -/
import Derived.Test.YtmgmbgacdjebgaaRefLookYes
import Derived.Test.YtmgmbgacdjebgaaPutGood
namespace Go.Proofs.Ytmgmbgacdjebgaa
open Go.RowKit

theorem box47 {w w' : World} {x0 x1 x2 x3 : Value} {t : TypeId} (hb : Below (w.alloc (.cells #[x0, x1, x2, x3] t)).heap.size (w.alloc (.cells #[x0, x1, x2, x3] t)) w') :
    w'.cell? ⟨w.heap.size, 2, none⟩ = some x2 ∧ w'.cell? ⟨w.heap.size, 3, none⟩ = some x3 := by
  constructor
  · rw [hb.cell (p := ⟨w.heap.size, 2, none⟩) (by simp), cell_at2 rfl]; rfl
  · rw [hb.cell (p := ⟨w.heap.size, 3, none⟩) (by simp), cell_at2 rfl]; rfl

set_option maxHeartbeats 1000000 in
theorem rput_kind (W : List Int) (b off cap : Nat) (o at' what : Int) (w : World) (hr : Row w b off W) (hu : unfit W 2 = none) (hl : W.length ≤ 2000) (ho : thingB W o = false) :
    Calls Try.prog 30 #[heapV (some ⟨b, off, none⟩) W.length cap, .int .i64 o, .int .i64 at', .int .i64 what] w fun e w' => e = putErr 3 ∧ Below w.heap.size w w' := by
  go_enter Try.func30, Try.ntmps30
  go_wp2_with (go_at_call 27; refine (rlook_kind W b off cap _ _ ((hr.alloc _).alloc _) hu hl ho).mono ?_; rintro e w1 ⟨rfl, hb1⟩; obtain ⟨c0, d1, d2, hz⟩ := boxes11 hb1; have e1 := (fun o => (boxes11 (hb1.alloc (by simp; omega) o)).2.1); have e2 := (fun o => (boxes11 (hb1.alloc (by simp; omega) o)).2.2.1))
  refine bodyPost_ret (v := .tuple #[.agg #[.slice none 0 0], .int .i64 3]) (by simp [results, Try.results30, go_sem, hz, d1]) rfl ⟨rfl, ?_⟩
  repeat (first | refine Below.setCell ?_ (by dsimp only; omega) _ | refine Below.alloc ?_ (by simp [World.setCell]; omega) _ | exact below2 hb1)

set_option maxHeartbeats 2000000 in
theorem rput_range (W : List Int) (b off cap p : Nat) (at' what : Int) (w : World) (hr : Row w b off W) (hu : unfit W 2 = none) (hl : W.length ≤ 2000) (hcap : W.length ≤ cap) (ho : thingB W (2 * (p : Int)) = true) (hmem : p ∈ places W 2) (hat : at' < 0 ∨ (slotsAt W p : Int) ≤ at') :
    Calls Try.prog 30 #[heapV (some ⟨b, off, none⟩) W.length cap, .int .i64 (2 * (p : Int)), .int .i64 at', .int .i64 what] w fun e w' => e = putErr 4 ∧ Below w.heap.size w w' := by
  have hsl : (slotsOf W p).length = slotsAt W p := slots_length (fits_out (place_fit hu hmem).2.2.1).2.2.2.2
  have hw : at' < 0 ∨ (0 ≤ at' ∧ (slotsAt W p : Int) ≤ at') := by omega
  clear hat
  rcases hw with hw | hw
  all_goals
    go_enter Try.func30, Try.ntmps30
    go_wp2_with (go_at_call 27; refine (rlook_yes W b off cap p _ ((hr.alloc _).alloc _) hu hl hcap ho hmem).mono ?_; rintro e w1 ⟨⟨v1, rfl, ad1, c1, rfl, hs1⟩, hb1⟩; obtain ⟨c0, d1, d2, hz⟩ := boxes11 hb1; have e1 := (fun o => (boxes11 (hb1.alloc (by simp; omega) o)).2.1); have e2 := (fun o => (boxes11 (hb1.alloc (by simp; omega) o)).2.2.1))
    refine bodyPost_ret (v := .tuple #[.agg #[.slice none 0 0], .int .i64 4]) (by simp [results, Try.results30, go_sem, hz, d1]) rfl ⟨rfl, ?_⟩
    repeat (first | refine Below.setCell ?_ (by dsimp only; omega) _ | refine Below.alloc ?_ (by simp [World.setCell]; omega) _ | exact below2 hb1)

set_option maxHeartbeats 2000000 in
theorem rput_form (W : List Int) (b off cap p k : Nat) (what : Int) (w : World) (hr : Row w b off W) (hu : unfit W 2 = none) (hl : W.length ≤ 2000) (hcap : W.length ≤ cap) (ho : thingB W (2 * (p : Int)) = true) (hmem : p ∈ places W 2) (hk : k < slotsAt W p) (hst : standB W (formAt W p) what = false) :
    Calls Try.prog 30 #[heapV (some ⟨b, off, none⟩) W.length cap, .int .i64 (2 * (p : Int)), .int .i64 k, .int .i64 what] w fun e w' => e = putErr 2 ∧ Below w.heap.size w w' := by
  have hsl : (slotsOf W p).length = slotsAt W p := slots_length (fits_out (place_fit hu hmem).2.2.1).2.2.2.2
  have hr2 : Row ((w.alloc (.cells #[.slice (some ⟨b, off, none⟩) W.length cap] 24)).alloc (.cells #[.slice none 0 0] 24)) b off W := (hr.alloc _).alloc _
  go_enter Try.func30, Try.ntmps30
  go_wp2_with (first | (go_at_call 27; refine (rlook_yes W b off cap p _ hr2 hu hl hcap ho hmem).mono ?_; rintro e w1 ⟨⟨v1, rfl, ad1, c1, rfl, hs1⟩, hb1⟩; obtain ⟨c0, d1, d2, hz⟩ := boxes11 hb1; have hz0 : w.heap.size < w1.heap.size := (by omega); have e1 := (fun o => (boxes11 (hb1.alloc (by simp; omega) o)).2.1); have e2 := (fun o => (boxes11 (hb1.alloc (by simp; omega) o)).2.2.1)) | (go_at_call 25; refine (rstands_any W b off cap _ _ _ ((hr2.same hb1).alloc _) hu hl).mono ?_; rintro e w2 ⟨rfl, hw2⟩; rw [hw2]; clear hw2 w2))
  refine bodyPost_ret (v := .tuple #[.agg #[.slice none 0 0], .int .i64 2]) (by simp [results, Try.results30, go_sem, hz, d1]) rfl ⟨rfl, ?_⟩
  repeat (first | refine Below.setCell ?_ (by dsimp only; omega) _ | refine Below.alloc ?_ (by simp [World.setCell]; omega) _ | exact below2 hb1)

end Go.Proofs.Ytmgmbgacdjebgaa
