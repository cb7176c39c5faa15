/- names: the search in the table that a reference is of. -/
import Derived.Test.YtmgmbgacdjebgaaNSeat
import Derived.Test.YtmgmbgacdjebgaaNSearch
namespace Go.Proofs.Ytmgmbgacdjebgaa
open Go.RowKit

set_option maxRecDepth 20000 in
set_option maxHeartbeats 1000000 in
theorem searched_err (W : List Int) (ad : Option Addr) (cap : Nat) (o er : Int) (t : ByteArray) (w : World) (hr : 2 ≤ W.length → ∃ b off, ad = some ⟨b, off, none⟩ ∧ Row w b off W) (he : (er != 0) = true)
    (hs : Hid (∀ w0, (2 ≤ W.length → ∃ b off, ad = some ⟨b, off, none⟩ ∧ Row w0 b off W) → Calls Try.prog 20 #[heapV ad W.length cap, .int .i64 o] w0 fun e w' => e = .returned (.tuple #[noTab, .int .i64 er]) ∧ Below w0.heap.size w0 w')) :
    Calls Try.prog 17 #[heapV ad W.length cap, .int .i64 o, .string t] w fun e w' => e = .returned (.tuple #[noTab, .int .i64 (-1), .int .i64 er]) ∧ Below w.heap.size w w' := by
  have HR : Hid (2 ≤ W.length → ∃ b off, ad = some ⟨b, off, none⟩ ∧ Row w b off W) := hr
  clear hr
  go_enter Try.func17, Try.ntmps17
  go_wp2_with (go_at_call 20; refine (hs.out _ (reads2 HR.out)).mono ?_; rintro e w1 ⟨rfl, hb1⟩; obtain ⟨c0, ⟨c1, c2, c3⟩, ⟨f1, f2, f3⟩, hz⟩ := boxes13 hb1; have d := (fun o1 => boxes13 (hb1.alloc (by simp; omega) o1)); have d1 := (fun o1 => (d o1).2.1.1); have d2 := (fun o1 => (d o1).2.1.2.1); have d3 := (fun o1 => (d o1).2.1.2.2); have g1 := (fun o1 => (d o1).2.2.1.1); have g2 := (fun o1 => (d o1).2.2.1.2.1); have g3 := (fun o1 => (d o1).2.2.1.2.2); clear d)
  refine bodyPost_ret (v := .tuple #[noTab, .int .i64 (-1), .int .i64 er]) (by simp [results, Try.results17, go_sem, cell_past, c1, c2, c3, hz]) rfl ⟨rfl, ?_⟩
  repeat (first | refine Below.setCell ?_ (by dsimp only; omega) _ | refine Below.alloc ?_ (by simp [World.setCell]; omega) _ | exact below2 hb1)

set_option maxRecDepth 20000 in
set_option maxHeartbeats 1000000 in
theorem searched_size (W : List Int) (ad : Option Addr) (cap p : Nat) (t : ByteArray) (w : World) (hr : 2 ≤ W.length → ∃ b off, ad = some ⟨b, off, none⟩ ∧ Row w b off W) (h : (checkOf W).1 = 0) (ho : thingB W (2 * (p : Int)) = true) (hmem : p ∈ places W 2) (HB : Hid (tableB W (2 * (p : Int)) = true)) (ht : 60 < t.size) :
    Calls Try.prog 17 #[heapV ad W.length cap, .int .i64 (2 * (p : Int)), .string t] w fun e w' => e = .returned (.tuple #[noTab, .int .i64 (-1), .int .i64 1]) ∧ Below w.heap.size w w' := by
  have HR : Hid (2 ≤ W.length → ∃ b off, ad = some ⟨b, off, none⟩ ∧ Row w b off W) := hr
  have hti : (60 : Int) < (t.size : Int) := by omega
  clear hr
  go_enter Try.func17, Try.ntmps17
  go_wp2_with (go_at_call 20; refine (seating_yes W ad cap p _ (reads2 HR.out) h ho hmem HB).mono ?_; rintro e w1 ⟨⟨b, cap', bm, ad2, c2, rfl, hv, hsl, hb, hbm⟩, hb1⟩; obtain ⟨c0, ⟨c1, c2', c3⟩, ⟨f1, f2, f3⟩, hz⟩ := boxes13 hb1; have d := (fun o1 => boxes13 (hb1.alloc (by simp; omega) o1)); have d1 := (fun o1 => (d o1).2.1.1); have d2 := (fun o1 => (d o1).2.1.2.1); have d3 := (fun o1 => (d o1).2.1.2.2); have g1 := (fun o1 => (d o1).2.2.1.1); have g2 := (fun o1 => (d o1).2.2.1.2.1); have g3 := (fun o1 => (d o1).2.2.1.2.2); clear d)
  refine bodyPost_ret (v := .tuple #[noTab, .int .i64 (-1), .int .i64 1]) (by simp [results, Try.results17, go_sem, cell_past, c1, c2', c3, hz]) rfl ⟨rfl, ?_⟩
  repeat (first | refine Below.setCell ?_ (by dsimp only; omega) _ | refine Below.alloc ?_ (by simp [World.setCell]; omega) _ | exact below2 hb1)

/-- What searched answers where there is a table. -/
def SearchAns (W : List Int) (p B : Nat) (sv : Int) (e : Ending) (w : World) : Prop := ∃ b cap bm ad c, e = .returned (.tuple #[tabV' b W.length cap bm (.slice ad (slotsOf W p).length c), .int .i64 sv, .int .i64 0]) ∧ SlotsFrom B c ad (slotsOf W p) w

set_option maxRecDepth 20000 in
set_option maxHeartbeats 4000000 in
theorem searched_yes (W : List Int) (ad : Option Addr) (cap p : Nat) (t : ByteArray) (w : World) (hr : 2 ≤ W.length → ∃ b off, ad = some ⟨b, off, none⟩ ∧ Row w b off W) (h : (checkOf W).1 = 0) (ho : thingB W (2 * (p : Int)) = true) (hmem : p ∈ places W 2) (HB : Hid (tableB W (2 * (p : Int)) = true)) (ht : t.size ≤ 60)
    (h0 : 0 < (slotsOf W p).length) (hrows : ∀ j, j < (slotsOf W p).length → rowB W (wd (slotsOf W p) j) = true) (sv : Int) (HV : Hid (seatI (seatP W p (nums t)) = sv)) :
    Calls Try.prog 17 #[heapV ad W.length cap, .int .i64 (2 * (p : Int)), .string t] w fun e w' => SearchAns W p w.heap.size sv e w' ∧ Below w.heap.size w w' := by
  have HR : Hid (2 ≤ W.length → ∃ b off, ad = some ⟨b, off, none⟩ ∧ Row w b off W) := hr
  have HW : Hid (∀ j, j < (slotsOf W p).length → rowB W (wd (slotsOf W p) j) = true) := hrows
  have hti : ¬ (60 : Int) < (t.size : Int) := by omega
  clear hr hrows
  go_enter Try.func17, Try.ntmps17
  go_upto_region 6 with (go_at_call 20; refine (seating_yes W ad cap p _ (reads2 HR.out) h ho hmem HB).mono ?_; rintro e w1 ⟨⟨b, cap', bm, ad2, c2, rfl, hv, hsl, hb, hbm⟩, hb1⟩)
  obtain ⟨g, rfl, hgB, hown⟩ := hsl h0
  obtain ⟨wr, hwr⟩ : ∃ wr, (w1.alloc (.cells #[sl b W.length cap', .map (some bm), .slice (some ⟨g, 0, none⟩) (slotsOf W p).length c2] 48)) = wr := ⟨_, rfl⟩
  rw [hwr]
  have hz1 := hb1.size
  simp only [World.size_alloc] at hz1 hb hbm hgB
  have hA : Below ((w.alloc (.cells #[.slice ad W.length cap] 24)).alloc (.cells #[.slice none 0 0, .map none, .slice none 0 0] 48)).heap.size ((w.alloc (.cells #[.slice ad W.length cap] 24)).alloc (.cells #[.slice none 0 0, .map none, .slice none 0 0] 48)) wr := by
    rw [← hwr]; exact hb1.alloc (by simp; omega) _
  have hvr : IsView wr b cap' bm W := by rw [← hwr]; exact hv.alloc _
  have hsr : SlotsFrom (w.heap.size + 1 + 1) c2 (some ⟨g, 0, none⟩) (slotsOf W p) wr := by rw [← hwr]; exact SlotsFrom.alloc (fun _ => ⟨g, rfl, hgB, hown⟩) _
  have e0 : wr.cell? ⟨w1.heap.size, 0, none⟩ = some (sl b W.length cap') := by rw [← hwr, cell_at2 rfl]; rfl
  have e1 : wr.cell? ⟨w1.heap.size, 1, none⟩ = some (.map (some bm)) := by rw [← hwr, cell_at2 rfl]; rfl
  have e2 : wr.cell? ⟨w1.heap.size, 2, none⟩ = some (.slice (some ⟨g, 0, none⟩) (slotsOf W p).length c2) := by rw [← hwr, cell_at2 rfl]; rfl
  have l0 : w1.heap.size < wr.heap.size := by rw [← hwr]; simp
  have n1 : ¬ w1.heap.size = w.heap.size + 1 := by omega
  have n2 : ¬ w.heap.size + 1 = w1.heap.size := by omega
  obtain ⟨gl, hgl⟩ : ∃ gl : g < wr.heap.size, True := ⟨by have := own_lt hown; omega, trivial⟩
  have HC : Hid (∀ k, k < (slotsOf W p).length → wr.cell? ⟨g, 0 + k, none⟩ = some (.int .i64 (wd (slotsOf W p) k))) := by
    obtain ⟨b', o', eb, _, hc⟩ := hsr.at h0
    simp only [Option.some.injEq, Addr.mk.injEq, and_true] at eb
    obtain ⟨rfl, rfl⟩ := eb
    exact hc
  clear hwr hv hown hsl hgl
  go_region_held3 (fun w' => w'.cell? ⟨w1.heap.size, 0, none⟩ = some (sl b W.length cap') ∧ w'.cell? ⟨w1.heap.size, 1, none⟩ = some (.map (some bm)) ∧ w'.cell? ⟨w1.heap.size, 2, none⟩ = some (.slice (some ⟨g, 0, none⟩) (slotsOf W p).length c2)) (go_keep) (first | (go_at_call 31; refine (search_any W b cap' bm p g 0 c2 t _ hvr.drew h hmem h0 HW.out gl HC.out ht sv HV).mono ?_; rintro e w2 ⟨rfl, hb2⟩; have hb3 := below_drew hb2; have a0 := (hb3.cell (p := ⟨w1.heap.size, 0, none⟩) l0).trans e0; have a1 := (hb3.cell (p := ⟨w1.heap.size, 1, none⟩) l0).trans e1; have a2 := (hb3.cell (p := ⟨w1.heap.size, 2, none⟩) l0).trans e2; have hB3 := hA.trans (hb3.mono hA.size); have HS3 := hsr.same hb3; obtain ⟨c0, ⟨c1, c2', c3⟩, ⟨f1, f2, f3⟩, hz⟩ := boxes13 hB3))
  all_goals go_wp2_with fail
  all_goals
    refine bodyPost_ret (v := .tuple #[tabV' b W.length cap' bm (.slice (some ⟨g, 0, none⟩) (slotsOf W p).length c2), .int .i64 sv, .int .i64 0]) (by simp [results, Try.results17, go_sem, c1, c2', c3]) rfl ⟨⟨b, cap', bm, _, c2, rfl, ?_⟩, ?_⟩
    · refine SlotsFrom.mono (B := w.heap.size + 1 + 1) ?_ (by omega)
      repeat (first | refine SlotsFrom.set ?_ (by dsimp only; omega) _ | exact HS3)
    · repeat (first | refine Below.setCell ?_ (by dsimp only; omega) _ | exact below2 hB3)
end Go.Proofs.Ytmgmbgacdjebgaa
