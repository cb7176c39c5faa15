/- names: the table that a reference is of, or what stands against it. -/
import Derived.Test.YtmgmbgacdjebgaaNTable
namespace Go.Proofs.Ytmgmbgacdjebgaa
open Go.RowKit

/-- No table. -/
abbrev noTab : Value := .agg #[.slice none 0 0, .map none, .slice none 0 0]
/-- Slots of one's own, from block B on. -/
def SlotsFrom (B c : Nat) (ad : Option Addr) (xs : List Int) (w : World) : Prop := 0 < xs.length → ∃ g, ad = some ⟨g, 0, none⟩ ∧ B ≤ g ∧ w.ownsRow 0 3 1 (sl g xs.length c) xs.length (vals xs)
theorem SlotsFrom.at {B c : Nat} {ad : Option Addr} {xs : List Int} {w : World} (h : SlotsFrom B c ad xs w) : SlotsAt ad xs w := slots_at_own h
theorem slots_from {B c : Nat} {ad : Option Addr} {xs : List Int} {w : World} (h : 0 < xs.length → ∃ g, ad = some ⟨g, 0, none⟩ ∧ B ≤ g ∧ w.ownsRow 0 3 1 (sl g xs.length c) xs.length (vals xs)) : SlotsFrom B c ad xs w := h
theorem SlotsFrom.set {B c : Nat} {ad : Option Addr} {xs : List Int} {w : World} (h : SlotsFrom B c ad xs w) {a : Addr} (ha : a.block < B) (x : Value) : SlotsFrom B c ad xs (w.setCell a x) := fun h0 => by
  obtain ⟨g, e, hg, ho⟩ := h h0
  exact ⟨g, e, hg, own_set' ho (by omega) x⟩
theorem SlotsFrom.same {B c : Nat} {ad : Option Addr} {xs : List Int} {w w' : World} (h : SlotsFrom B c ad xs w) (hb : Below w.heap.size w w') : SlotsFrom B c ad xs w' := fun h0 => by
  obtain ⟨g, e, hg, ho⟩ := h h0
  exact ⟨g, e, hg, ownsRow_below ho hb (own_lt ho)⟩
theorem SlotsFrom.alloc {B c : Nat} {ad : Option Addr} {xs : List Int} {w : World} (h : SlotsFrom B c ad xs w) (o : Obj) : SlotsFrom B c ad xs (w.alloc o) := h.same ((Below.refl _ _).alloc (Nat.le_refl _) o)
theorem SlotsFrom.mono {B B' c : Nat} {ad : Option Addr} {xs : List Int} {w : World} (h : SlotsFrom B c ad xs w) (hB : B' ≤ B) : SlotsFrom B' c ad xs w := fun h0 => by
  obtain ⟨g, e, hg, ho⟩ := h h0
  exact ⟨g, e, by omega, ho⟩

theorem boxes13 {w w' : World} {a x y z : Value} {t t' : TypeId} (hb : Below ((w.alloc (.cells #[a] t)).alloc (.cells #[x, y, z] t')).heap.size ((w.alloc (.cells #[a] t)).alloc (.cells #[x, y, z] t')) w') :
    w'.cell? ⟨w.heap.size, 0, none⟩ = some a ∧ (w'.cell? ⟨w.heap.size + 1, 0, none⟩ = some x ∧ w'.cell? ⟨w.heap.size + 1, 1, none⟩ = some y ∧ w'.cell? ⟨w.heap.size + 1, 2, none⟩ = some z) ∧
      (w'.frozen? ⟨w.heap.size + 1, 0, none⟩ = false ∧ w'.frozen? ⟨w.heap.size + 1, 1, none⟩ = false ∧ w'.frozen? ⟨w.heap.size + 1, 2, none⟩ = false) ∧ w.heap.size + 1 < w'.heap.size := by
  have hs := hb.size
  have A : ∀ j, w'.cell? ⟨w.heap.size + 1, j, none⟩ = #[x, y, z][j]? := fun j => by
    rw [hb.cell (p := ⟨w.heap.size + 1, j, none⟩) (by simp)]; exact cell_at2 (by simp)
  have A' : ∀ j, w'.frozen? ⟨w.heap.size + 1, j, none⟩ = false := fun j => by
    rw [hb.frozen (p := ⟨w.heap.size + 1, j, none⟩) (by simp)]; exact frozen_at2 (by simp)
  refine ⟨?_, ⟨A 0, A 1, A 2⟩, ⟨A' 0, A' 1, A' 2⟩, by simp at hs; omega⟩
  rw [hb.cell (p := ⟨w.heap.size, 0, none⟩) (by simp; omega), cell_past _ (by simp)]; simp
theorem box3d {w w' : World} {x0 x1 x2 : Value} {t : TypeId} (hb : Below (w.alloc (.cells #[x0, x1, x2] t)).drew.heap.size (w.alloc (.cells #[x0, x1, x2] t)).drew w') :
    (w'.cell? ⟨w.heap.size, 0, none⟩ = some x0 ∧ w'.cell? ⟨w.heap.size, 1, none⟩ = some x1 ∧ w'.cell? ⟨w.heap.size, 2, none⟩ = some x2) ∧
      (w'.frozen? ⟨w.heap.size, 0, none⟩ = false ∧ w'.frozen? ⟨w.heap.size, 1, none⟩ = false ∧ w'.frozen? ⟨w.heap.size, 2, none⟩ = false) ∧ w.heap.size < w'.heap.size ∧ Below w.heap.size w w' := by
  have hB : Below (w.heap.size + 1) (w.alloc (.cells #[x0, x1, x2] t)) w' := (Below.refl _ _).drew.trans (hb.mono (by simp))
  have hs := hB.size
  have A : ∀ j, w'.cell? ⟨w.heap.size, j, none⟩ = #[x0, x1, x2][j]? := fun j => by
    rw [hB.cell (p := ⟨w.heap.size, j, none⟩) (by simp)]; exact cell_at2 rfl
  have A' : ∀ j, w'.frozen? ⟨w.heap.size, j, none⟩ = false := fun j => by
    rw [hB.frozen (p := ⟨w.heap.size, j, none⟩) (by simp)]; exact frozen_at2 rfl
  exact ⟨⟨A 0, A 1, A 2⟩, ⟨A' 0, A' 1, A' 2⟩, by simp at hs; omega, ((Below.refl _ _).alloc (Nat.le_refl _) _).trans (hB.mono (by omega))⟩

theorem slots_b {w w2 : World} {x0 x1 x2 : Value} {t : TypeId} {c : Nat} {ad : Option Addr} {xs : List Int} (_ : Below (w.alloc (.cells #[x0, x1, x2] t)).drew.heap.size (w.alloc (.cells #[x0, x1, x2] t)).drew w2)
    (h : 0 < xs.length → ∃ g, ad = some ⟨g, 0, none⟩ ∧ (w.alloc (.cells #[x0, x1, x2] t)).drew.heap.size ≤ g ∧ w2.ownsRow 0 3 1 (sl g xs.length c) xs.length (vals xs)) : SlotsFrom (w.heap.size + 1) c ad xs w2 := SlotsFrom.mono (slots_from h) (by simp)
theorem tabK {w2 w3 : World} {B : Nat} {x0 x1 x2 y0 y1 y2 : Value} (m0 : w2.cell? ⟨B, 0, none⟩ = some y0) (m1 : w2.cell? ⟨B, 1, none⟩ = some y1) (m2 : w2.cell? ⟨B, 2, none⟩ = some y2) (hb : Below (((w2.setCell ⟨B, 0, none⟩ x0).setCell ⟨B, 1, none⟩ x1).setCell ⟨B, 2, none⟩ x2).heap.size (((w2.setCell ⟨B, 0, none⟩ x0).setCell ⟨B, 1, none⟩ x1).setCell ⟨B, 2, none⟩ x2) w3) :
    w3.cell? ⟨B, 0, none⟩ = some x0 ∧ w3.cell? ⟨B, 1, none⟩ = some x1 ∧ w3.cell? ⟨B, 2, none⟩ = some x2 := by
  have hlt := World.block_lt_of_cell? w2 _ m0
  have hs : (((w2.setCell ⟨B, 0, none⟩ x0).setCell ⟨B, 1, none⟩ x1).setCell ⟨B, 2, none⟩ x2).heap.size = w2.heap.size := by simp [World.setCell]
  refine ⟨?_, ?_, ?_⟩
  · rw [hb.cell (p := ⟨B, 0, none⟩) (by rw [hs]; exact hlt)]; simp [go_sem, m0]
  · rw [hb.cell (p := ⟨B, 1, none⟩) (by rw [hs]; exact hlt)]; simp [go_sem, m1]
  · rw [hb.cell (p := ⟨B, 2, none⟩) (by rw [hs]; exact hlt)]; simp [go_sem, m2]

set_option maxRecDepth 20000 in
set_option maxHeartbeats 1000000 in
theorem seating_heap (W : List Int) (ad : Option Addr) (cap : Nat) (o : Int) (w : World) (hm : W.length ≤ maxLen) (hr : 2 ≤ W.length → ∃ b off, ad = some ⟨b, off, none⟩ ∧ Row w b off W) (h : (checkOf W).1 ≠ 0) :
    Calls Try.prog 20 #[heapV ad W.length cap, .int .i64 o] w fun e w' => e = .returned (.tuple #[noTab, .int .i64 7]) ∧ Below w.heap.size w w' := by
  have hs : Hid (∀ w0, (2 ≤ W.length → ∃ b off, ad = some ⟨b, off, none⟩ ∧ Row w0 b off W) → Calls Try.prog 34 #[heapV ad W.length cap] w0 fun e w' => e = .returned (.tuple #[noView, .agg #[.int .i64 (checkOf W).1, .int .i64 (checkOf W).2]]) ∧ Below w0.heap.size w0 w') :=
    fun w0 hr0 => see_no W ad cap w0 hm hr0 h
  generalize checkOf W = F at h hs
  have hb : (F.1 != 0) = true := by simpa using h
  have HR : Hid (2 ≤ W.length → ∃ b off, ad = some ⟨b, off, none⟩ ∧ Row w b off W) := hr
  clear h hr
  go_enter Try.func20, Try.ntmps20
  go_wp2_with (go_at_call 34; refine (hs.out _ (reads2 HR.out)).mono ?_; rintro e w1 ⟨rfl, hb1⟩; obtain ⟨c0, ⟨c1, c2, c3⟩, ⟨f1, f2, f3⟩, hz⟩ := boxes13 hb1; have d := (fun o1 o2 => boxes13 ((hb1.alloc (by simp; omega) o1).alloc (by simp; omega) o2)); have d1 := (fun o1 o2 => (d o1 o2).2.1.1); have d2 := (fun o1 o2 => (d o1 o2).2.1.2.1); have d3 := (fun o1 o2 => (d o1 o2).2.1.2.2); have g1 := (fun o1 o2 => (d o1 o2).2.2.1.1); have g2 := (fun o1 o2 => (d o1 o2).2.2.1.2.1); have g3 := (fun o1 o2 => (d o1 o2).2.2.1.2.2); clear d)
  refine bodyPost_ret (v := .tuple #[noTab, .int .i64 7]) (by simp [results, Try.results20, go_sem, d1, d2, d3]) rfl ⟨rfl, ?_⟩
  repeat (first | refine Below.setCell ?_ (by dsimp only; omega) _ | exact ((below2 hb1).alloc (by omega) _).alloc (by simp; omega) _)

/-- What seating answers where there is a table. -/
def TabAns (W : List Int) (p B : Nat) (e : Ending) (w : World) : Prop := ∃ b cap bm ad c, e = .returned (.tuple #[tabV' b W.length cap bm (.slice ad (slotsOf W p).length c), .int .i64 0]) ∧ IsView w b cap bm W ∧ SlotsFrom B c ad (slotsOf W p) w ∧ B ≤ b ∧ B ≤ bm

set_option maxRecDepth 20000 in
set_option maxHeartbeats 4000000 in
theorem seating_kind (W : List Int) (ad : Option Addr) (cap : Nat) (o : Int) (w : World) (hr : 2 ≤ W.length → ∃ b off, ad = some ⟨b, off, none⟩ ∧ Row w b off W) (h : (checkOf W).1 = 0) (ho : thingB W o = false) :
    Calls Try.prog 20 #[heapV ad W.length cap, .int .i64 o] w fun e w' => e = .returned (.tuple #[noTab, .int .i64 3]) ∧ Below w.heap.size w w' := by
  have hs : Hid (∀ w0, (2 ≤ W.length → ∃ b off, ad = some ⟨b, off, none⟩ ∧ Row w0 b off W) → Calls Try.prog 34 #[heapV ad W.length cap] w0 fun e w' => ViewAns W w0.heap.size e w' ∧ Below w0.heap.size w0 w') :=
    fun w0 hr0 => see_yes W ad cap w0 hr0 h
  have HR : Hid (2 ≤ W.length → ∃ b off, ad = some ⟨b, off, none⟩ ∧ Row w b off W) := hr
  clear h hr
  have hfd := fld3
  go_enter Try.func20, Try.ntmps20
  go_upto_region 4 with (go_at_call 34; refine (hs.out _ (reads2 HR.out)).mono ?_; rintro e w1 ⟨⟨b, cap', bm, rfl, hv, hb, hbm, hne⟩, hb1⟩)
  obtain ⟨wr, hwr⟩ : ∃ wr, ((w1.alloc (.cells #[sl b W.length cap', .map (some bm)] 46)).alloc (.cells #[.int .i64 0, .int .i64 0] 35)) = wr := ⟨_, rfl⟩
  rw [hwr]
  have hz1 := hb1.size
  simp only [World.size_alloc] at hz1 hb hbm
  have hA : Below ((w.alloc (.cells #[.slice ad W.length cap] 24)).alloc (.cells #[.slice none 0 0, .map none, .slice none 0 0] 48)).heap.size ((w.alloc (.cells #[.slice ad W.length cap] 24)).alloc (.cells #[.slice none 0 0, .map none, .slice none 0 0] 48)) wr := by
    rw [← hwr]; exact (hb1.alloc (by simp; omega) _).alloc (by simp; omega) _
  have hvr : IsView wr b cap' bm W := by rw [← hwr]; exact (hv.alloc _).alloc _
  have e0 : wr.cell? ⟨w1.heap.size, 0, none⟩ = some (sl b W.length cap') := by rw [← hwr, cell_past _ (by simp), cell_at2 rfl]; rfl
  have e1 : wr.cell? ⟨w1.heap.size, 1, none⟩ = some (.map (some bm)) := by rw [← hwr, cell_past _ (by simp), cell_at2 rfl]; rfl
  have hzr : wr.heap.size = w1.heap.size + 2 := by rw [← hwr]; simp
  have HZ : Hid (wr.heap.size = w1.heap.size + 2) := hzr
  have n0 := World.new_ne wr _ e0
  have l0 : w1.heap.size < wr.heap.size := by omega
  have l1 : w.heap.size + 1 < wr.heap.size := by omega
  have lb : b < w1.heap.size := hv.lt
  have lm : bm < w1.heap.size := hv.begun.lt
  clear hwr hzr hv hs
  go_region_held3 (fun w' => w'.cell? ⟨w1.heap.size, 0, none⟩ = some (sl b W.length cap') ∧ w'.cell? ⟨w1.heap.size, 1, none⟩ = some (.map (some bm))) (go_keep) (first | (go_at_call 35; refine (vlook_no W b cap' bm o _ (by first | exact hvr.drew | exact (hvr.alloc _).drew) ho).mono ?_; rintro e w2 ⟨rfl, hb2⟩; have hb3 : Below wr.heap.size wr w2 := (by first | exact below_drew hb2 | exact (box3d hb2).2.2.2); have a0 := (hb3.cell (p := ⟨w1.heap.size, 0, none⟩) l0).trans e0; have a1 := (hb3.cell (p := ⟨w1.heap.size, 1, none⟩) l0).trans e1; have s3 := hb3.size; have hv2 := hvr.same hb3; (try (have q0 := box3d hb2; obtain ⟨⟨m0, m1, m2⟩, ⟨f0, f1, f2⟩, mz, _⟩ := q0))))
  all_goals
    have hW2 := hA.trans (hb3.mono hA.size)
    have hs2 := hW2.size
    simp only [World.size_alloc] at hs2
    go_wp2_with (go_at_call 36; refine (isTable_kind W b cap' bm 0 0 none o _ (by repeat (first | refine IsView.setCell ?_ (by dsimp only; omega) (by dsimp only; omega) _ | refine IsView.alloc ?_ _ | exact hv2)) ho).mono ?_; rintro e w3 ⟨rfl, hb4⟩; have hB3 : Below ((w.alloc (.cells #[.slice ad W.length cap] 24)).alloc (.cells #[.slice none 0 0, .map none, .slice none 0 0] 48)).heap.size ((w.alloc (.cells #[.slice ad W.length cap] 24)).alloc (.cells #[.slice none 0 0, .map none, .slice none 0 0] 48)) w3 := (by refine Below.trans ?_ (hb4.mono (by simp [World.setCell]; omega)); repeat (first | refine Below.setCell ?_ (by simp; omega) _ | refine Below.alloc ?_ (by simp; omega) _ | exact hW2)); obtain ⟨c0, ⟨c1, c2, c3⟩, ⟨f1', f2', f3'⟩, hz⟩ := boxes13 hB3)
    refine bodyPost_ret (v := .tuple #[noTab, .int .i64 3]) (by simp [results, Try.results20, go_sem, c1, c2, c3]) rfl ⟨rfl, ?_⟩
    repeat (first | refine Below.setCell ?_ (by dsimp only; omega) _ | exact below2 hB3)
set_option maxRecDepth 20000 in
set_option maxHeartbeats 4000000 in
theorem seating_not (W : List Int) (ad : Option Addr) (cap p : Nat) (w : World) (hr : 2 ≤ W.length → ∃ b off, ad = some ⟨b, off, none⟩ ∧ Row w b off W) (h : (checkOf W).1 = 0) (ho : thingB W (2 * (p : Int)) = true) (hmem : p ∈ places W 2) (HB : Hid (tableB W (2 * (p : Int)) = false)) :
    Calls Try.prog 20 #[heapV ad W.length cap, .int .i64 (2 * (p : Int))] w fun e w' => e = .returned (.tuple #[noTab, .int .i64 3]) ∧ Below w.heap.size w w' := by
  obtain ⟨hf, hu⟩ := check_ok h
  obtain ⟨_, hl, _⟩ := front_out hf
  have hs : Hid (∀ w0, (2 ≤ W.length → ∃ b off, ad = some ⟨b, off, none⟩ ∧ Row w0 b off W) → Calls Try.prog 34 #[heapV ad W.length cap] w0 fun e w' => ViewAns W w0.heap.size e w' ∧ Below w0.heap.size w0 w') :=
    fun w0 hr0 => see_yes W ad cap w0 hr0 h
  have HR : Hid (2 ≤ W.length → ∃ b off, ad = some ⟨b, off, none⟩ ∧ Row w b off W) := hr
  clear h hr hf
  have hfd := fld3
  go_enter Try.func20, Try.ntmps20
  go_upto_region 4 with (go_at_call 34; refine (hs.out _ (reads2 HR.out)).mono ?_; rintro e w1 ⟨⟨b, cap', bm, rfl, hv, hb, hbm, hne⟩, hb1⟩)
  obtain ⟨wr, hwr⟩ : ∃ wr, ((w1.alloc (.cells #[sl b W.length cap', .map (some bm)] 46)).alloc (.cells #[.int .i64 0, .int .i64 0] 35)) = wr := ⟨_, rfl⟩
  rw [hwr]
  have hz1 := hb1.size
  simp only [World.size_alloc] at hz1 hb hbm
  have hA : Below ((w.alloc (.cells #[.slice ad W.length cap] 24)).alloc (.cells #[.slice none 0 0, .map none, .slice none 0 0] 48)).heap.size ((w.alloc (.cells #[.slice ad W.length cap] 24)).alloc (.cells #[.slice none 0 0, .map none, .slice none 0 0] 48)) wr := by
    rw [← hwr]; exact (hb1.alloc (by simp; omega) _).alloc (by simp; omega) _
  have hvr : IsView wr b cap' bm W := by rw [← hwr]; exact (hv.alloc _).alloc _
  have e0 : wr.cell? ⟨w1.heap.size, 0, none⟩ = some (sl b W.length cap') := by rw [← hwr, cell_past _ (by simp), cell_at2 rfl]; rfl
  have e1 : wr.cell? ⟨w1.heap.size, 1, none⟩ = some (.map (some bm)) := by rw [← hwr, cell_past _ (by simp), cell_at2 rfl]; rfl
  have hzr : wr.heap.size = w1.heap.size + 2 := by rw [← hwr]; simp
  have HZ : Hid (wr.heap.size = w1.heap.size + 2) := hzr
  have n0 := World.new_ne wr _ e0
  have l0 : w1.heap.size < wr.heap.size := by omega
  have l1 : w.heap.size + 1 < wr.heap.size := by omega
  have lb : b < w1.heap.size := hv.lt
  have lm : bm < w1.heap.size := hv.begun.lt
  clear hwr hzr hv hs
  go_region_held3 (fun w' => w'.cell? ⟨w1.heap.size, 0, none⟩ = some (sl b W.length cap') ∧ w'.cell? ⟨w1.heap.size, 1, none⟩ = some (.map (some bm))) (go_keep) (first | (go_at_call 35; refine (vlook_any W b cap' bm p _ (by first | exact hvr.drew | exact (hvr.alloc _).drew) hu hl ho hmem).mono ?_; rintro e w2 ⟨⟨v2, rfl, ad2, cc2, rfl, hsl2⟩, hb2⟩; have HSA : SlotsFrom wr.heap.size cc2 ad2 (slotsOf W p) w2 := (SlotsFrom.mono (slots_from hsl2) (by simp)); (try (have HSB := slots_b hb2 hsl2)); clear hsl2; have hb3 : Below wr.heap.size wr w2 := (by first | exact below_drew hb2 | exact (box3d hb2).2.2.2); have a0 := (hb3.cell (p := ⟨w1.heap.size, 0, none⟩) l0).trans e0; have a1 := (hb3.cell (p := ⟨w1.heap.size, 1, none⟩) l0).trans e1; have s3 := hb3.size; have hv2 := hvr.same hb3; (try (have q0 := box3d hb2; obtain ⟨⟨m0, m1, m2⟩, ⟨f0, f1, f2⟩, mz, _⟩ := q0))))
  all_goals
    have hW2 := hA.trans (hb3.mono hA.size)
    have hs2 := hW2.size
    simp only [World.size_alloc] at hs2
    go_wp2_with (go_at_call 36; refine (isTable_thing W b cap' bm p cc2 ad2 _ (by repeat (first | refine IsView.setCell ?_ (by dsimp only; omega) (by dsimp only; omega) _ | refine IsView.alloc ?_ _ | exact hv2)) hu hl ho hmem (by first | exact (((HSB.set (by simp) _).set (by simp) _).set (by simp) _).at | exact (HSA.alloc _).at) _ HB).mono ?_; rintro e w3 ⟨rfl, hb4⟩; have hB3 : Below ((w.alloc (.cells #[.slice ad W.length cap] 24)).alloc (.cells #[.slice none 0 0, .map none, .slice none 0 0] 48)).heap.size ((w.alloc (.cells #[.slice ad W.length cap] 24)).alloc (.cells #[.slice none 0 0, .map none, .slice none 0 0] 48)) w3 := (by refine Below.trans ?_ (hb4.mono (by simp [World.setCell]; omega)); repeat (first | refine Below.setCell ?_ (by simp; omega) _ | refine Below.alloc ?_ (by simp; omega) _ | exact hW2)); obtain ⟨c0, ⟨c1, c2, c3⟩, ⟨f1', f2', f3'⟩, hz⟩ := boxes13 hB3)
    refine bodyPost_ret (v := .tuple #[noTab, .int .i64 3]) (by simp [results, Try.results20, go_sem, c1, c2, c3]) rfl ⟨rfl, ?_⟩
    repeat (first | refine Below.setCell ?_ (by dsimp only; omega) _ | exact below2 hB3)
set_option maxRecDepth 20000 in
set_option maxHeartbeats 4000000 in
theorem seating_yes (W : List Int) (ad : Option Addr) (cap p : Nat) (w : World) (hr : 2 ≤ W.length → ∃ b off, ad = some ⟨b, off, none⟩ ∧ Row w b off W) (h : (checkOf W).1 = 0) (ho : thingB W (2 * (p : Int)) = true) (hmem : p ∈ places W 2) (HB : Hid (tableB W (2 * (p : Int)) = true)) :
    Calls Try.prog 20 #[heapV ad W.length cap, .int .i64 (2 * (p : Int))] w fun e w' => TabAns W p w.heap.size e w' ∧ Below w.heap.size w w' := by
  obtain ⟨hf, hu⟩ := check_ok h
  obtain ⟨_, hl, _⟩ := front_out hf
  have hs : Hid (∀ w0, (2 ≤ W.length → ∃ b off, ad = some ⟨b, off, none⟩ ∧ Row w0 b off W) → Calls Try.prog 34 #[heapV ad W.length cap] w0 fun e w' => ViewAns W w0.heap.size e w' ∧ Below w0.heap.size w0 w') :=
    fun w0 hr0 => see_yes W ad cap w0 hr0 h
  have HR : Hid (2 ≤ W.length → ∃ b off, ad = some ⟨b, off, none⟩ ∧ Row w b off W) := hr
  clear h hr hf
  have hfd := fld3
  go_enter Try.func20, Try.ntmps20
  go_upto_region 4 with (go_at_call 34; refine (hs.out _ (reads2 HR.out)).mono ?_; rintro e w1 ⟨⟨b, cap', bm, rfl, hv, hb, hbm, hne⟩, hb1⟩)
  obtain ⟨wr, hwr⟩ : ∃ wr, ((w1.alloc (.cells #[sl b W.length cap', .map (some bm)] 46)).alloc (.cells #[.int .i64 0, .int .i64 0] 35)) = wr := ⟨_, rfl⟩
  rw [hwr]
  have hz1 := hb1.size
  simp only [World.size_alloc] at hz1 hb hbm
  have hA : Below ((w.alloc (.cells #[.slice ad W.length cap] 24)).alloc (.cells #[.slice none 0 0, .map none, .slice none 0 0] 48)).heap.size ((w.alloc (.cells #[.slice ad W.length cap] 24)).alloc (.cells #[.slice none 0 0, .map none, .slice none 0 0] 48)) wr := by
    rw [← hwr]; exact (hb1.alloc (by simp; omega) _).alloc (by simp; omega) _
  have hvr : IsView wr b cap' bm W := by rw [← hwr]; exact (hv.alloc _).alloc _
  have e0 : wr.cell? ⟨w1.heap.size, 0, none⟩ = some (sl b W.length cap') := by rw [← hwr, cell_past _ (by simp), cell_at2 rfl]; rfl
  have e1 : wr.cell? ⟨w1.heap.size, 1, none⟩ = some (.map (some bm)) := by rw [← hwr, cell_past _ (by simp), cell_at2 rfl]; rfl
  have hzr : wr.heap.size = w1.heap.size + 2 := by rw [← hwr]; simp
  have HZ : Hid (wr.heap.size = w1.heap.size + 2) := hzr
  have n0 := World.new_ne wr _ e0
  have l0 : w1.heap.size < wr.heap.size := by omega
  have l1 : w.heap.size + 1 < wr.heap.size := by omega
  have lb : b < w1.heap.size := hv.lt
  have lm : bm < w1.heap.size := hv.begun.lt
  clear hwr hzr hv hs
  go_region_held3 (fun w' => w'.cell? ⟨w1.heap.size, 0, none⟩ = some (sl b W.length cap') ∧ w'.cell? ⟨w1.heap.size, 1, none⟩ = some (.map (some bm))) (go_keep) (first | (go_at_call 35; refine (vlook_any W b cap' bm p _ (by first | exact hvr.drew | exact (hvr.alloc _).drew) hu hl ho hmem).mono ?_; rintro e w2 ⟨⟨v2, rfl, ad2, cc2, rfl, hsl2⟩, hb2⟩; have HSA : SlotsFrom wr.heap.size cc2 ad2 (slotsOf W p) w2 := (SlotsFrom.mono (slots_from hsl2) (by simp)); (try (have HSB := slots_b hb2 hsl2)); clear hsl2; have hb3 : Below wr.heap.size wr w2 := (by first | exact below_drew hb2 | exact (box3d hb2).2.2.2); have a0 := (hb3.cell (p := ⟨w1.heap.size, 0, none⟩) l0).trans e0; have a1 := (hb3.cell (p := ⟨w1.heap.size, 1, none⟩) l0).trans e1; have s3 := hb3.size; have hv2 := hvr.same hb3; (try (have q0 := box3d hb2; obtain ⟨⟨m0, m1, m2⟩, ⟨f0, f1, f2⟩, mz, _⟩ := q0))))
  all_goals
    have hW2 := hA.trans (hb3.mono hA.size)
    have hs2 := hW2.size
    simp only [World.size_alloc] at hs2
    go_wp2_with (go_at_call 36; refine (isTable_thing W b cap' bm p cc2 ad2 _ (by repeat (first | refine IsView.setCell ?_ (by dsimp only; omega) (by dsimp only; omega) _ | refine IsView.alloc ?_ _ | exact hv2)) hu hl ho hmem (by first | exact (((HSB.set (by simp) _).set (by simp) _).set (by simp) _).at | exact (HSA.alloc _).at) _ HB).mono ?_; rintro e w3 ⟨rfl, hb4⟩; have hB3 : Below ((w.alloc (.cells #[.slice ad W.length cap] 24)).alloc (.cells #[.slice none 0 0, .map none, .slice none 0 0] 48)).heap.size ((w.alloc (.cells #[.slice ad W.length cap] 24)).alloc (.cells #[.slice none 0 0, .map none, .slice none 0 0] 48)) w3 := (by refine Below.trans ?_ (hb4.mono (by simp [World.setCell]; omega)); repeat (first | refine Below.setCell ?_ (by simp; omega) _ | refine Below.alloc ?_ (by simp; omega) _ | exact hW2)); obtain ⟨c0, ⟨c1, c2, c3⟩, ⟨f1', f2', f3'⟩, hz⟩ := boxes13 hB3; have hv3 : IsView w3 b cap' bm W := (IsView.same (by repeat (first | refine IsView.setCell ?_ (by dsimp only; omega) (by dsimp only; omega) _ | refine IsView.alloc ?_ _ | exact hv2)) hb4); have HS3 : SlotsFrom wr.heap.size cc2 ad2 (slotsOf W p) w3 := (by first | exact ((((HSB.set (by simp) _).set (by simp) _).set (by simp) _).same hb4).mono (by omega) | exact (HSA.alloc _).same hb4); (first | (have kk := tabK m0 m1 m2 hb4; obtain ⟨k0, k1, k2⟩ := kk) | (have kk := box3v hb4; obtain ⟨k0, k1, k2, _⟩ := kk)))
    refine bodyPost_ret (v := .tuple #[tabV' b W.length cap' bm (.slice ad2 (slotsOf W p).length cc2), .int .i64 0]) (by simp [results, Try.results20, go_sem, c1, c2, c3]) rfl ⟨⟨b, cap', bm, ad2, cc2, rfl, ?_, ?_, by omega, by omega⟩, ?_⟩
    · repeat (first | refine IsView.setCell ?_ (by dsimp only; omega) (by dsimp only; omega) _ | exact hv3)
    · refine SlotsFrom.mono (B := wr.heap.size) ?_ (by omega)
      repeat (first | refine SlotsFrom.set ?_ (by dsimp only; omega) _ | exact HS3)
    · repeat (first | refine Below.setCell ?_ (by dsimp only; omega) _ | exact below2 hB3)
end Go.Proofs.Ytmgmbgacdjebgaa
