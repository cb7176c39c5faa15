/- Package count: tallyOf, Counts, Trial. -/
import Derived.Test.YthdhaokjibfjdaaCtBackX
import Derived.Test.YthdhaokjibfjdaaGl
import Derived.Test.YthdhaokjibfjdaaRSeeX
namespace Go.Proofs.Ythdhaokjibfjdaa
open Go.RowKit
open Go.Maps (Keyed keyOf_int_mk)

theorem tally_start (W : List Int) (b cap bm r : Nat) (w : World) (hr : r ≤ 1000000) :
    TalI b W.length cap bm (w.heap.size + 2) (w.heap.size + 2) (w.heap.size + 3) r (fun _ => 0) (fun k => k < w.heap.size + 2) ((((w.alloc (.cells #[sl b W.length cap, .map (some bm)] 46)).alloc (.cells #[.slice none 0 0, .map none, .map none] 55)).alloc (.map #[] 0)).alloc (.cells #[sl b W.length cap, .map (some bm), .map (some (w.heap.size + 2))] 55)) := by
  have hs : (((w.alloc (.cells #[sl b W.length cap, .map (some bm)] 46)).alloc (.cells #[.slice none 0 0, .map none, .map none] 55)).alloc (.map #[] 0)).heap.size = w.heap.size + 3 := by simp
  have hs2 : ((w.alloc (.cells #[sl b W.length cap, .map (some bm)] 46)).alloc (.cells #[.slice none 0 0, .map none, .map none] 55)).heap.size = w.heap.size + 2 := by simp
  have hm := CMap.new ((w.alloc (.cells #[sl b W.length cap, .map (some bm)] 46)).alloc (.cells #[.slice none 0 0, .map none, .map none] 55))
  rw [hs2] at hm
  refine ⟨?_, ?_, ?_, ⟨0, hm.blk (Below.heap_alloc _ _ _ (by rw [hs]; omega)), fun o => ⟨by simp, by simp⟩, by omega⟩, ⟨by omega, by omega, by omega⟩, fun k hk => ⟨by omega, by simp; omega⟩⟩
  · rw [cell_at2 hs.symm]; rfl
  · rw [cell_at2 hs.symm]; rfl
  · rw [cell_at2 hs.symm]; rfl

/-- The box of what tallyOf answers. -/
theorem tally_box {w w2 : World} {o1 o3 o4 : Obj} (h : KeptC (fun k => k < w.heap.size + 2) ((((w.alloc o1).alloc (.cells #[.slice none 0 0, .map none, .map none] 55)).alloc o3).alloc o4) w2) :
    w2.heap[w.heap.size + 1]? = some (.cells #[.slice none 0 0, .map none, .map none] 55 (0, 0)) := by
  rw [h (w.heap.size + 1) (by omega), Below.heap_alloc _ _ _ (by simp), Below.heap_alloc _ _ _ (by simp)]
  have := heap_alloc_new (w.alloc o1) (.cells #[.slice none 0 0, .map none, .map none] 55)
  simpa using this
theorem box3_cells {w : World} {X : Nat} {a b c : Value} {t : TypeId} (h : w.heap[X]? = some (.cells #[a, b, c] t (0, 0))) : (w.cell? ⟨X, 0, none⟩ = some a ∧ w.cell? ⟨X, 1, none⟩ = some b ∧ w.cell? ⟨X, 2, none⟩ = some c) ∧ ∀ k, w.frozen? ⟨X, k, none⟩ = false :=
  ⟨⟨cell_of_row _ _ _ _ _ _ h, cell_of_row _ _ _ _ _ _ h, cell_of_row _ _ _ _ _ _ h⟩, fun _ => frozen_of_row _ _ _ _ _ h⟩

set_option maxRecDepth 20000 in
set_option maxHeartbeats 4000000 in
theorem tallyOf_any (W R : List Int) (b cap bm r : Nat) (rad : Option Addr) (rc : Nat) (w : World) (hv : IsView w b cap bm W) (hroots : RootsAt rad R w) (hu : unfit W 2 = none) (hl : W.length ≤ 2000) (hrl : R.length ≤ 5000) (hr : r ≤ 600000) :
    Calls Try.prog 21 #[viewV b W.length cap bm, .slice rad R.length rc] w fun e w' => (∃ mm, e = .returned (tallyV b W.length cap bm mm) ∧ w.heap.size ≤ mm ∧ Tal w' mm r (tallyC W R)) ∧ Below w.heap.size w w' := by
  have hmm := @run_makeMap Try.prog
  have hpf := ctplaces_few hl
  have hbl := hv.lt
  have hbml := hv.begun.lt
  have hst := tally_start W b cap bm (r + 100 * (places W 2).length + R.length) w (by omega)
  have hX : tallyC W R = (thingsOf W (allLeads W)).foldl (addC 1) ((thingsOf W R).foldl (addC 1) fun _ => 0) := (tally_is W R).symm
  have HX : Hid (tallyC W R = (thingsOf W (allLeads W)).foldl (addC 1) ((thingsOf W R).foldl (addC 1) fun _ => 0)) := hX
  have HR : Hid (RootsAt rad R w) := hroots
  have HW : Hid (∀ o1 o2 o3 o4, Below w.heap.size w ((((w.alloc o1).alloc o2).alloc o3).alloc o4)) := fun o1 o2 o3 o4 => ((((Below.refl _ _).alloc (Nat.le_refl _) _).alloc (by simp) _).alloc (by simp; omega) _).alloc (by simp; omega) _
  clear hX hroots
  have s0 := hst.b0
  have s1 := hst.b1
  have s2 := hst.b2
  go_enter Try.func21, Try.ntmps21
  go_wp2_with (first
    | (go_at_call 48; refine (cteachGiven_any (tallyGive_does b W.length cap bm (w.heap.size + 2) (w.heap.size + 2) (w.heap.size + 3)) W b cap bm (w.heap.size + 2) r _ (fun k => k < w.heap.size + 2) _ hv1 (by omega) (by omega) hu hl hI1).mono ?_; rintro e w2 ⟨rfl, hI2, hK2, hB2⟩; have y0 := hI2.b0; have y1 := hI2.b1; have y2 := hI2.b2; have l2 := hI2.lt; obtain ⟨⟨z0, z1, z2⟩, zf⟩ := box3_cells (tally_box (hK1.trans hK2)); have zf0 := zf 0; have zf1 := zf 1; have zf2 := zf 2; have zl : w.heap.size + 1 < w2.heap.size := (by omega))
    | (go_at_call 47; refine (cteach_any (tallyGive_does b W.length cap bm (w.heap.size + 2) (w.heap.size + 2) (w.heap.size + 3)) W R b cap bm (w.heap.size + 2) rc (r + 100 * (places W 2).length) rad (fun _ => 0) (fun k => k < w.heap.size + 2) _ (hv.same (HW.out _ _ _ _)) (by omega) (by omega) hst (fun h0 => by obtain ⟨rb, ro, e, hrow⟩ := HR.out h0; exact ⟨rb, ro, e, hrow.same (HW.out _ _ _ _), Nat.lt_of_lt_of_le hrow.lt (by omega)⟩) (by omega)).mono ?_; rintro e w1 ⟨rfl, hI1, hK1, hB1⟩; have x0 := hI1.b0; have x1 := hI1.b1; have x2 := hI1.b2; have l1 := hI1.lt; have hv1 := ctview_low (hv.same (HW.out _ _ _ _)) hB1 (by omega) (by omega)))
  refine bodyPost_ret (v := tallyV b W.length cap bm (w.heap.size + 2)) (by simp [results, Try.results21, go_sem, z0, z1, z2]) rfl ⟨⟨w.heap.size + 2, rfl, by omega, ?_⟩, ?_⟩
  · rw [HX.out]
    obtain ⟨T, t1, t2⟩ := hI2.map
    exact ⟨T, t1.blk (by rw [Below.heap_setCell _ _ _ _ (by dsimp only; omega), Below.heap_setCell _ _ _ _ (by dsimp only; omega), Below.heap_setCell _ _ _ _ (by dsimp only; omega)]), t2⟩
  · have hA := (HW.out _ _ _ _).trans ((hB1.trans hB2).mono (by omega))
    refine Below.setCell ?_ (by dsimp only; omega) _
    refine Below.setCell ?_ (by dsimp only; omega) _
    refine Below.setCell ?_ (by dsimp only; omega) _
    exact hA

set_option maxHeartbeats 2000000 in
theorem counts_no (W roots : List Int) (ad rad : Option Addr) (cap rcap : Nat) (w : World) (hm : W.length ≤ maxLen) (hr : WordsAt ad W w) (hroots : RootsAt rad roots w) (hrl : roots.length ≤ 5000) (h : (rootsOf W roots).1 ≠ 0) :
    Calls Try.prog 11 #[heapV ad W.length cap, .slice rad roots.length rcap] w fun e w' => e = .returned (.tuple #[.slice none 0 0, .agg #[.int .i64 (rootsOf W roots).1, .int .i64 (rootsOf W roots).2]]) ∧ Below w.heap.size w w' := by
  have hs : Hid (∀ w0, WordsAt ad W w0 → RootsAt rad roots w0 → Calls Try.prog 16 #[heapV ad W.length cap, .slice rad roots.length rcap] w0 fun e w' => e = .returned (.tuple #[noView, .agg #[.int .i64 (rootsOf W roots).1, .int .i64 (rootsOf W roots).2]]) ∧ Below w0.heap.size w0 w') :=
    fun w0 h1 h2 => rsee_bad W roots ad rad cap rcap w0 hm h1 h2 hrl h
  have HR : Hid (WordsAt ad W w) := hr
  have HO : Hid (RootsAt rad roots w) := hroots
  generalize rootsOf W roots = F at *
  have hb : (F.1 != 0) = true := by simpa using h
  clear h hr hroots
  go_enter Try.func11, Try.ntmps11
  go_wp2_with (go_at_call 16; refine (hs.out _ (reads2 HR.out) (HO.out.below (((Below.refl _ _).alloc (Nat.le_refl _) _).alloc (by simp) _))).mono ?_; rintro e w1 ⟨rfl, hb1⟩; obtain ⟨c0, c1, c2, c3, c4, hz⟩ := boxes1 hb1; have hz0 : w.heap.size < w1.heap.size := (by omega); obtain ⟨d0, d1, d2, d3, d4, _⟩ := boxes1 ((hb1.alloc (by simp; omega) (Obj.cells #[Value.slice none 0 0, Value.map none] 46)).alloc (by simp; omega) (Obj.cells #[Value.int IntKind.i64 F.1, Value.int IntKind.i64 F.2] 33)))
  go_region
  all_goals go_wp2_with fail
  have r0 : ∀ o1 o2, ((((w1.setCell ⟨w.heap.size + 1, 0, none⟩ (.int .i64 F.1)).setCell ⟨w.heap.size + 1, 1, none⟩ (.int .i64 F.2)).alloc o1).alloc o2).cell? ⟨w.heap.size + 1, 0, none⟩ = some (.int .i64 F.1) := fun o1 o2 => by
    rw [cell_past _ (by simp [World.setCell]; omega), cell_past _ (by simp [World.setCell]; omega), World.cell?_setCell_other _ _ _ _ (by simp)]
    exact World.cell?_setCell_same' _ _ _ (by rw [c1]; rfl)
  have r1 : ∀ o1 o2, ((((w1.setCell ⟨w.heap.size + 1, 0, none⟩ (.int .i64 F.1)).setCell ⟨w.heap.size + 1, 1, none⟩ (.int .i64 F.2)).alloc o1).alloc o2).cell? ⟨w.heap.size + 1, 1, none⟩ = some (.int .i64 F.2) := fun o1 o2 => by
    rw [cell_past _ (by simp [World.setCell]; omega), cell_past _ (by simp [World.setCell]; omega)]
    exact World.cell?_setCell_same' _ _ _ (by rw [World.cell?_setCell_other _ _ _ _ (by simp), c2]; rfl)
  all_goals refine bodyPost_ret (v := .tuple #[.slice none 0 0, .agg #[.int .i64 F.1, .int .i64 F.2]]) (by simp [results, Try.results11, go_sem, r0, r1]) rfl ⟨rfl, ?_⟩
  all_goals repeat (first | refine Below.drew ?_ | refine Below.setCell ?_ (by dsimp only; omega) _ | refine Below.alloc ?_ (by first | omega | (simp [World.setCell]; omega)) _ | exact below2 hb1)

set_option maxHeartbeats 2000000 in
theorem trial_no (W roots : List Int) (ad rad : Option Addr) (cap rcap : Nat) (w : World) (hm : W.length ≤ maxLen) (hr : WordsAt ad W w) (hroots : RootsAt rad roots w) (hrl : roots.length ≤ 5000) (h : (rootsOf W roots).1 ≠ 0) :
    Calls Try.prog 8 #[heapV ad W.length cap, .slice rad roots.length rcap] w fun e w' => e = .returned (.tuple #[.slice none 0 0, .agg #[.int .i64 (rootsOf W roots).1, .int .i64 (rootsOf W roots).2]]) ∧ Below w.heap.size w w' := by
  have hs : Hid (∀ w0, WordsAt ad W w0 → RootsAt rad roots w0 → Calls Try.prog 16 #[heapV ad W.length cap, .slice rad roots.length rcap] w0 fun e w' => e = .returned (.tuple #[noView, .agg #[.int .i64 (rootsOf W roots).1, .int .i64 (rootsOf W roots).2]]) ∧ Below w0.heap.size w0 w') :=
    fun w0 h1 h2 => rsee_bad W roots ad rad cap rcap w0 hm h1 h2 hrl h
  have HR : Hid (WordsAt ad W w) := hr
  have HO : Hid (RootsAt rad roots w) := hroots
  generalize rootsOf W roots = F at *
  have hb : (F.1 != 0) = true := by simpa using h
  clear h hr hroots
  go_enter Try.func8, Try.ntmps8
  go_wp2_with (go_at_call 16; refine (hs.out _ (reads2 HR.out) (HO.out.below (((Below.refl _ _).alloc (Nat.le_refl _) _).alloc (by simp) _))).mono ?_; rintro e w1 ⟨rfl, hb1⟩; obtain ⟨c0, c1, c2, c3, c4, hz⟩ := boxes1 hb1; have hz0 : w.heap.size < w1.heap.size := (by omega); obtain ⟨d0, d1, d2, d3, d4, _⟩ := boxes1 ((hb1.alloc (by simp; omega) (Obj.cells #[Value.slice none 0 0, Value.map none] 46)).alloc (by simp; omega) (Obj.cells #[Value.int IntKind.i64 F.1, Value.int IntKind.i64 F.2] 33)))
  go_region
  all_goals go_wp2_with fail
  have r0 : ∀ o1 o2, ((((w1.setCell ⟨w.heap.size + 1, 0, none⟩ (.int .i64 F.1)).setCell ⟨w.heap.size + 1, 1, none⟩ (.int .i64 F.2)).alloc o1).alloc o2).cell? ⟨w.heap.size + 1, 0, none⟩ = some (.int .i64 F.1) := fun o1 o2 => by
    rw [cell_past _ (by simp [World.setCell]; omega), cell_past _ (by simp [World.setCell]; omega), World.cell?_setCell_other _ _ _ _ (by simp)]
    exact World.cell?_setCell_same' _ _ _ (by rw [c1]; rfl)
  have r1 : ∀ o1 o2, ((((w1.setCell ⟨w.heap.size + 1, 0, none⟩ (.int .i64 F.1)).setCell ⟨w.heap.size + 1, 1, none⟩ (.int .i64 F.2)).alloc o1).alloc o2).cell? ⟨w.heap.size + 1, 1, none⟩ = some (.int .i64 F.2) := fun o1 o2 => by
    rw [cell_past _ (by simp [World.setCell]; omega), cell_past _ (by simp [World.setCell]; omega)]
    exact World.cell?_setCell_same' _ _ _ (by rw [World.cell?_setCell_other _ _ _ _ (by simp), c2]; rfl)
  all_goals refine bodyPost_ret (v := .tuple #[.slice none 0 0, .agg #[.int .i64 F.1, .int .i64 F.2]]) (by simp [results, Try.results8, go_sem, r0, r1]) rfl ⟨rfl, ?_⟩
  all_goals repeat (first | refine Below.drew ?_ | refine Below.setCell ?_ (by dsimp only; omega) _ | refine Below.alloc ?_ (by first | omega | (simp [World.setCell]; omega)) _ | exact below2 hb1)

/-- The numbers of the counts. -/
theorem refs_gone (W R : List Int) : refs (goneP W R) = goneL W R := rfl
theorem boxC {w w' : World} {x y z : Value} {t : TypeId} {o2 : Obj} {w0 : World} (e : w0 = w.alloc (.cells #[x, y, z] t)) (hb : Below (w0.alloc o2).heap.size (w0.alloc o2) w') : w'.cell? ⟨w.heap.size, 0, none⟩ = some x ∧ w'.cell? ⟨w.heap.size, 1, none⟩ = some y ∧ w'.cell? ⟨w.heap.size, 2, none⟩ = some z := by
  subst e
  have hb' := below_call hb
  obtain ⟨a, b, c, _⟩ := box3 hb'
  exact ⟨a, b, c⟩

set_option maxRecDepth 20000 in
set_option maxHeartbeats 4000000 in
theorem counts_yes (W roots : List Int) (ad rad : Option Addr) (cap rcap : Nat) (w : World) (hr : WordsAt ad W w) (hroots : RootsAt rad roots w) (hrl : roots.length ≤ 5000) (h : (rootsOf W roots).1 = 0) :
    Calls Try.prog 11 #[heapV ad W.length cap, .slice rad roots.length rcap] w fun e w' => CtAns (countsP W roots) e w' ∧ Below w.heap.size w w' := by
  have hs : Hid (∀ w0, WordsAt ad W w0 → RootsAt rad roots w0 → Calls Try.prog 16 #[heapV ad W.length cap, .slice rad roots.length rcap] w0 fun e w' => ViewAns W w0.heap.size e w' ∧ Below w0.heap.size w0 w') :=
    fun w0 h1 h2 => rsee_good W roots ad rad cap rcap w0 h1 h2 hrl h
  obtain ⟨hc, _, _⟩ := roots_zero h
  obtain ⟨hf, hu⟩ := check_ok hc
  obtain ⟨_, hl, _⟩ := front_out hf
  have HR : Hid (WordsAt ad W w) := hr
  have HO : Hid (RootsAt rad roots w) := hroots
  have HCP : Hid ((places W 2).map (fun p : Nat => tallyC W roots (2 * (p : Int))) = countsP W roots) := tally_counts hl
  have hpf := ctplaces_few hl
  clear h hr hroots hc hf
  go_enter Try.func11, Try.ntmps11
  go_wp2_with (first
    | (go_at_call 16; refine (hs.out _ (reads2 HR.out) (HO.out.below (((Below.refl _ _).alloc (Nat.le_refl _) _).alloc (by simp) _))).mono ?_; rintro e w1 ⟨⟨b, cap', bm, rfl, hv, hb, hbm, hne⟩, hb1⟩; obtain ⟨c0, c1, c2, c3, c4, hz⟩ := boxes1 hb1; have hz0 : w.heap.size < w1.heap.size := (by omega); have HO1 : Hid (RootsAt rad roots w1) := HO.out.below (below2 hb1); have hbl1 := hv.lt; have hbm1 := hv.begun.lt)
    | (go_at_call 21; refine (tallyOf_any W roots b cap' bm 0 rad rcap _ ((hv.alloc _).alloc _) (HO1.out.below (((Below.refl _ _).alloc (Nat.le_refl _) _).alloc (by simp) _)) hu hl hrl (by omega)).mono ?_; rintro e w2 ⟨⟨mm, rfl, hmm, hT⟩, hb2⟩; have hbW := below2 hb2; have hzW := hbW.size; have vz := (twos hb2).1; have vo := (twos hb2).2.1; have hzT := (twos hb2).2.2.2.2; have hz12 : w1.heap.size < w2.heap.size := (by omega))
    | (go_at_call 26; refine (things_any W b cap' bm _ ((hv.same hbW).alloc _) hu hl).mono ?_; rintro e w3 ⟨⟨tad, tc, rfl, hown3⟩, hb3⟩; have hb23 := below_call hb3; obtain ⟨t0, t1, t2, hz3⟩ := box3 hb3))
  obtain ⟨T, ⟨n, D, hD0, hDn, hDa⟩, hTc, hTr⟩ := hT
  have hmml := hD0.lt
  have hD1 := ownsMap_below hD0 hb23 hmml
  have hln : (refs (places W 2)).length = (places W 2).length := refs_length _
  have hown3' : w3.ownsRow (w2.heap.size + 1) 3 1 (.slice tad (refs (places W 2)).length tc) (refs (places W 2)).length (vals (refs (places W 2))) := by simpa using hown3
  have HL : Hid ((refs (places W 2)).length = (places W 2).length) := hln
  have HOW : Hid (w3.ownsRow (w2.heap.size + 1) 3 1 (.slice tad (refs (places W 2)).length tc) (refs (places W 2)).length (vals (refs (places W 2)))) := hown3'
  have HDa : Hid (∀ o : Int, D.atKey (.int .i64 o) (.lit (.int .i64 0)) = .lit (.int .i64 (tallyC W roots o))) := hDa
  have z23 := hb23.size
  have hb13 := hbW.trans (hb23.mono hzW)
  have d1 := through hb13 c1 (by dsimp only; omega)
  have d2 := through hb13 c2 (by dsimp only; omega)
  have d3 := throughF hb13 c3 (by dsimp only; omega)
  have d4 := throughF hb13 c4 (by dsimp only; omega)
  have hall := (below2 hb1).trans (hb13.mono (below2 hb1).size)
  have hz33 : w.heap.size + 1 < w3.heap.size := by have := hb13.size; omega
  clear hown3 hown3' hln hD0 hDa hb3 hTc vz vo hzT hb2 hb1 c0 c1 c2 c3 c4 hs HR HO HO1 hmm hTr
  go_loopw [9, 28] (fun v s wr => ∃ (i : Nat) (pre : List Int), s = .int .i64 i ∧ i ≤ (refs (places W 2)).length ∧ Hid (countsP W roots = pre ++ ((places W 2).drop i).map (fun p : Nat => tallyC W roots (2 * (p : Int)))) ∧ pre.length = i ∧ wr.ownsRow w3.heap.size 3 1 v pre.length (vals pre) ∧ Below w3.heap.size w3 wr) (fun _ s _ => (refs (places W 2)).length - (intOf s).toNat)
  case atStart => exact ⟨0, [], rfl, Nat.zero_le _, HCP.out.symm, rfl, World.ownsRow_nil _ _ _ _, Below.refl _ _⟩
  case round =>
    obtain ⟨i, pre, rfl, hi', HK, hpre, hown, hB⟩ := hrel
    by_cases hlt : i < (refs (places W 2)).length
    · have hii : (i : Int) < ((refs (places W 2)).length : Int) := by omega
      have hi2 : i < (places W 2).length := by have := HL.out; omega
      obtain ⟨g, cg, hsh, hge, hown0⟩ := own_shape HOW.out (fun e => by injection e with _ h1 _; omega)
      simp only [Value.slice.injEq, true_and] at hsh
      obtain ⟨rfl, rfl⟩ := hsh
      have hcl := own_cell hown0 hlt
      have hgl := own_lt hown0
      have hcw := through hB hcl hgl
      have hgw : g < wr.heap.size := Nat.lt_of_lt_of_le hgl hB.size
      have hmem : (places W 2)[i] ∈ places W 2 := List.getElem_mem hi2
      have hwdi : wd (refs (places W 2)) i = 2 * ((places W 2)[i] : Int) := by
        unfold wd refs; rw [List.getD_eq_getElem?_getD, List.getElem?_map, List.getElem?_eq_getElem hi2]; rfl
      have hpg := (place_ge hmem).2
      rw [hwdi] at hcw
      have x0 := through hB t0 hz3
      have x1 := through hB t1 hz3
      have x2 := through hB t2 hz3
      have hzb := World.block_lt_of_cell? _ _ x0
      have hD := ownsMap_below hD1 hB (by omega)
      have hav := HDa.out (2 * ((places W 2)[i] : Int))
      have hwp1 := wrap_id (x := (i : Int) + 1) (by omega) (by omega)
      have HK' : Hid (countsP W roots = (pre ++ [tallyC W roots (2 * ((places W 2)[i] : Int))]) ++ ((places W 2).drop (i + 1)).map (fun p : Nat => tallyC W roots (2 * (p : Int)))) := by
        have := HK.out
        rw [List.drop_eq_getElem_cons hi2, List.map_cons] at this
        show _ = _
        rw [this, List.append_assoc]; rfl
      clear HK hcl hwdi hmem
      generalize (places W 2)[i] = q at *
      have hwf : (Lit.int .i64 (2 * (q : Int))).wf = true := by go_wf
      generalize tallyC W roots (2 * (q : Int)) = X at *
      go_wp2_with (first | (at_lookup; refine wpList_lookup_own_int _ rfl _ _ 44 rfl 3 3 .i64 key3 ty59 ty3 (zero3 _) mm n D rfl hD _ _ rfl (keyOf_int_mk ty3 hwf) ?_; intro y hat hwc; have hcs : X = y := (by rw [hav] at hat; simp at hat; exact hat); subst hcs; clear hat hwc) | (at_builtin; refine wpList_append_where rfl (.tmp 32) (.tmp 37) rfl w3.heap.size pre.length 1 _ (.int .i64 X) (vals pre) rfl (hown.alloc _) ⟨wr.heap.size, 0, none⟩ rfl (cell_one_new _ _ _) rfl (by have := HL.out; omega) (by have := hB.size; simp; omega) ?_; intro v' w4 hown4 hg4 hw4))
      have hsz4 := hg4.size
      have hB4 : Below w3.heap.size w3 w4 := (hB.alloc hB.size _).grown hg4 (by have := hB.size; simp; omega) (fun k hk => (hown.lt k hk).1)
      go_roundw
      case rel => exact ⟨i + 1, pre ++ [X], by first | rfl | simp, by omega, HK', by simp; omega, by rw [List.length_append, show vals (pre ++ [X]) = vals pre ++ [.int .i64 X] by simp [vals]]; exact hown4, hB4⟩
      case measure => simp [intOf]; omega
    · have hii : ¬ (i : Int) < ((refs (places W 2)).length : Int) := by omega
      have HE : Hid (countsP W roots = pre) := by
        have := HK.out
        rw [List.drop_eq_nil_of_le (by have := HL.out; omega)] at this
        show _ = _
        rw [this]; simp
      clear HK
      have e1 := through hB d1 hz33
      have e2 := through hB d2 hz33
      have e3 := throughF hB d3 hz33
      have e4 := throughF hB d4 hz33
      have hzr : w.heap.size + 1 < wr.heap.size := Nat.lt_of_lt_of_le hz33 hB.size
      obtain ⟨pad, pc, hvp⟩ := own_form hown
      subst hvp
      go_wp2_with fail
      have hA := hall.trans (hB.mono hall.size)
      refine bodyPost_ret (v := .tuple #[.slice pad pre.length pc, .agg #[.int .i64 0, .int .i64 0]]) (by simp [results, Try.results11, go_sem, e1, e2]; omega) rfl ⟨?_, ?_⟩
      · rw [HE.out]
        have hw3 : w.heap.size + 1 < w3.heap.size := hz33
        refine ⟨pad, pc, rfl, Reads.of_own (B := w3.heap.size) (own_same hown fun g hg => ?_)⟩
        have := (hown.lt g hg).1
        rw [Below.heap_setCell _ _ _ _ (by dsimp only; omega), Below.heap_setCell _ _ _ _ (by dsimp only; omega)]
      · refine Below.setCell ?_ (by dsimp only; omega) _
        refine Below.setCell ?_ (by dsimp only; omega) _
        exact hA

set_option maxRecDepth 20000 in
set_option maxHeartbeats 4000000 in
theorem trial_yes (W roots : List Int) (ad rad : Option Addr) (cap rcap : Nat) (w : World) (hr : WordsAt ad W w) (hroots : RootsAt rad roots w) (hrl : roots.length ≤ 5000) (h : (rootsOf W roots).1 = 0) :
    Calls Try.prog 8 #[heapV ad W.length cap, .slice rad roots.length rcap] w fun e w' => CtAns (goneL W roots) e w' ∧ Below w.heap.size w w' := by
  have hs : Hid (∀ w0, WordsAt ad W w0 → RootsAt rad roots w0 → Calls Try.prog 16 #[heapV ad W.length cap, .slice rad roots.length rcap] w0 fun e w' => ViewAns W w0.heap.size e w' ∧ Below w0.heap.size w0 w') :=
    fun w0 h1 h2 => rsee_good W roots ad rad cap rcap w0 h1 h2 hrl h
  obtain ⟨hc, _, _⟩ := roots_zero h
  obtain ⟨hf, hu⟩ := check_ok hc
  obtain ⟨_, hl, _⟩ := front_out hf
  have HR : Hid (WordsAt ad W w) := hr
  have HO : Hid (RootsAt rad roots w) := hroots
  have HTK : Hid ((thingsOf W (allLeads W)).foldl (addC (-1)) (tallyC W roots) = rootC W roots) := taken_is W roots
  have hpf := ctplaces_few hl
  clear h hr hroots hc hf
  go_enter Try.func8, Try.ntmps8
  go_wp2_with (first
    | (go_at_call 16; refine (hs.out _ (reads2 HR.out) (HO.out.below (((Below.refl _ _).alloc (Nat.le_refl _) _).alloc (by simp) _))).mono ?_; rintro e w1 ⟨⟨b, cap', bm, rfl, hv, hb, hbm, hne⟩, hb1⟩; obtain ⟨c0, c1, c2, c3, c4, hz⟩ := boxes1 hb1; have hz0 : w.heap.size < w1.heap.size := (by omega); have HO1 : Hid (RootsAt rad roots w1) := HO.out.below (below2 hb1); have hbl1 := hv.lt; have hbm1 := hv.begun.lt)
    | (go_at_call 21; refine (tallyOf_any W roots b cap' bm (300000 + 100 * (places W 2).length) rad rcap _ ((hv.alloc _).alloc _) (HO1.out.below (((Below.refl _ _).alloc (Nat.le_refl _) _).alloc (by simp) _)) hu hl hrl (by omega)).mono ?_; rintro e w2 ⟨⟨mm, rfl, hmm, hT⟩, hb2⟩; have hbW := below2 hb2; have hzW := hbW.size; have hzT := (twos hb2).2.2.2.2; have hz12 : w1.heap.size < w2.heap.size := (by omega); have hmm' : w1.heap.size ≤ mm := (by simp at hmm; omega); have hm2 := hT.lt; obtain ⟨t0, t1, t2, _⟩ := box3 (Below.refl (w2.alloc (.cells #[sl b W.length cap', .map (some bm), .map (some mm)] 55)).heap.size (w2.alloc (.cells #[sl b W.length cap', .map (some bm), .map (some mm)] 55))); have hbA : Below w2.heap.size w2 (w2.alloc (.cells #[sl b W.length cap', .map (some bm), .map (some mm)] 55)) := (Below.refl _ _).alloc (Nat.le_refl _) _)
    | (go_at_call 22; refine (takeAway_any W b cap' bm mm w1.heap.size 300000 (tallyC W roots) _ ((hv.same hbW).same hbA) (by omega) (by omega) (by omega) hu hl (hT.same hbA)).mono ?_; rw [HTK.out]; rintro e w3 ⟨rfl, hT3, hK3, hB3⟩; have k0 := hK3.cell ⟨by simp, by omega⟩ t0; have k1 := hK3.cell ⟨by simp, by omega⟩ t1; have k2 := hK3.cell ⟨by simp, by omega⟩ t2; have hl3 : w2.heap.size < w3.heap.size := World.block_lt_of_cell? _ _ k0; have hv3 := ctview_low ((hv.same hbW).same hbA) hB3 hbl1 hbm1; have hB13 := (hbW.trans (hbA.mono hzW)).trans hB3)
    | (go_at_call 23; refine (giveBack_any W roots b cap' bm mm w1.heap.size 0 _ hv3 (by omega) (by omega) (by omega) hu hl (by simpa using hT3) (by omega)).mono ?_; rintro e w4 ⟨⟨rfl, c, hT4, hgone⟩, hK4, hB4⟩; have j0 := hK4.cell ⟨by omega, by omega⟩ k0; have j1 := hK4.cell ⟨by omega, by omega⟩ k1; have j2 := hK4.cell ⟨by omega, by omega⟩ k2; have hl4 : w2.heap.size < w4.heap.size := World.block_lt_of_cell? _ _ j0; have hv4 := ctview_low hv3 hB4 hbl1 hbm1; have hB14 := hB13.trans hB4; obtain ⟨T4, hM4, _, _⟩ := hT4; have HGN : Hid (((places W 2).filter fun p : Nat => decide (c (2 * (p : Int)) = 0)) = goneP W roots) := hgone; clear hgone)
    | (go_at_call 24; refine (ctall_any asksZero W b cap' bm mm T4 c _ hv4 hu hl hM4).mono ?_; rw [HGN.out, refs_gone]; rintro e w5 ⟨⟨gad, gc, rfl, hown5⟩, hb5⟩; have hB15 := hB14.trans (hb5.mono hB14.size); have d1 := through hB15 c1 (by dsimp only; omega); have d2 := through hB15 c2 (by dsimp only; omega); have d3 := throughF hB15 c3 (by dsimp only; omega); have d4 := throughF hB15 c4 (by dsimp only; omega); have hz5 := hB15.size; have hz15 : w.heap.size + 1 < w5.heap.size := (by omega)))
  have hall := (below2 hb1).trans (hB15.mono (below2 hb1).size)
  have hz4 := hB14.size
  refine bodyPost_ret (v := .tuple #[.slice gad (goneL W roots).length gc, .agg #[.int .i64 0, .int .i64 0]]) (by simp [results, Try.results8, go_sem, d1, d2]) rfl ⟨?_, ?_⟩
  · refine ⟨gad, gc, rfl, Reads.of_own (B := w4.heap.size) (own_same hown5 fun g hg => ?_)⟩
    have := (hown5.lt g hg).1
    rw [Below.heap_setCell _ _ _ _ (by dsimp only; omega), Below.heap_setCell _ _ _ _ (by dsimp only; omega)]
  · refine Below.setCell ?_ (by dsimp only; omega) _
    refine Below.setCell ?_ (by dsimp only; omega) _
    exact hall
end Go.Proofs.Ythdhaokjibfjdaa
