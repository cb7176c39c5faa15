/- reach.Reach: what is reached, or the fault of a heap and roots. -/
import Derived.Test.YthdhaokjibfjdaaGc
import Derived.Test.YthdhaokjibfjdaaRSeeX
namespace Go.Proofs.Ythdhaokjibfjdaa
open Go.RowKit

set_option maxHeartbeats 2000000 in
theorem hreach_no (W roots : List Int) (ad rad : Option Addr) (cap rcap : Nat) (w : World) (hm : W.length ≤ maxLen) (hr : WordsAt ad W w) (hroots : RootsAt rad roots w) (hrl : roots.length ≤ 5000) (h : (rootsOf W roots).1 ≠ 0) :
    Calls Try.prog 7 #[heapV ad W.length cap, .slice rad roots.length rcap] w fun e w' => e = .returned (.tuple #[.slice none 0 0, .agg #[.int .i64 (rootsOf W roots).1, .int .i64 (rootsOf W roots).2]]) ∧ Below w.heap.size w w' := by
  have hs : Hid (∀ w0, WordsAt ad W w0 → RootsAt rad roots w0 → Calls Try.prog 16 #[heapV ad W.length cap, .slice rad roots.length rcap] w0 fun e w' => e = .returned (.tuple #[noView, .agg #[.int .i64 (rootsOf W roots).1, .int .i64 (rootsOf W roots).2]]) ∧ Below w0.heap.size w0 w') :=
    fun w0 h1 h2 => rsee_bad W roots ad rad cap rcap w0 hm h1 h2 hrl h
  have HR : Hid (WordsAt ad W w) := hr
  have HO : Hid (RootsAt rad roots w) := hroots
  generalize rootsOf W roots = F at *
  have hb : (F.1 != 0) = true := by simpa using h
  clear h hr hroots
  go_enter Try.func7, Try.ntmps7
  go_wp2_with (go_at_call 16; refine (hs.out _ (reads2 HR.out) (HO.out.below (((Below.refl _ _).alloc (Nat.le_refl _) _).alloc (by simp) _))).mono ?_; rintro e w1 ⟨rfl, hb1⟩; obtain ⟨c0, c1, c2, c3, c4, hz⟩ := boxes1 hb1; have hz0 : w.heap.size < w1.heap.size := (by omega); obtain ⟨d0, d1, d2, d3, d4, _⟩ := boxes1 ((hb1.alloc (by simp; omega) (Obj.cells #[Value.slice none 0 0, Value.map none] 46)).alloc (by simp; omega) (Obj.cells #[Value.int IntKind.i64 F.1, Value.int IntKind.i64 F.2] 33)))
  go_region
  all_goals go_wp2_with fail
  have r0 : ∀ o1 o2, ((((w1.setCell ⟨w.heap.size + 1, 0, none⟩ (.int .i64 F.1)).setCell ⟨w.heap.size + 1, 1, none⟩ (.int .i64 F.2)).alloc o1).alloc o2).cell? ⟨w.heap.size + 1, 0, none⟩ = some (.int .i64 F.1) := fun o1 o2 => by
    rw [cell_past _ (by simp [World.setCell]; omega), cell_past _ (by simp [World.setCell]; omega), World.cell?_setCell_other _ _ _ _ (by simp)]
    exact World.cell?_setCell_same' _ _ _ (by rw [c1]; rfl)
  have r1 : ∀ o1 o2, ((((w1.setCell ⟨w.heap.size + 1, 0, none⟩ (.int .i64 F.1)).setCell ⟨w.heap.size + 1, 1, none⟩ (.int .i64 F.2)).alloc o1).alloc o2).cell? ⟨w.heap.size + 1, 1, none⟩ = some (.int .i64 F.2) := fun o1 o2 => by
    rw [cell_past _ (by simp [World.setCell]; omega), cell_past _ (by simp [World.setCell]; omega)]
    exact World.cell?_setCell_same' _ _ _ (by rw [World.cell?_setCell_other _ _ _ _ (by simp), c2]; rfl)
  all_goals refine bodyPost_ret (v := .tuple #[.slice none 0 0, .agg #[.int .i64 F.1, .int .i64 F.2]]) (by simp [results, Try.results7, go_sem, r0, r1]) rfl ⟨rfl, ?_⟩
  all_goals repeat (first | refine Below.drew ?_ | refine Below.setCell ?_ (by dsimp only; omega) _ | refine Below.alloc ?_ (by first | omega | (simp [World.setCell]; omega)) _ | exact below2 hb1)

/-- What Reach answers where there is no fault. -/
def ReachEnd (B : Nat) (xs : List Int) (e : Ending) (w : World) : Prop := ∃ ad c, e = .returned (.tuple #[.slice ad xs.length c, .agg #[.int .i64 0, .int .i64 0]]) ∧ w.ownsRow B 3 1 (.slice ad xs.length c) xs.length (vals xs)

set_option maxHeartbeats 2000000 in
theorem hreach_yes (W roots : List Int) (ad rad : Option Addr) (cap rcap : Nat) (w : World) (hr : WordsAt ad W w) (hroots : RootsAt rad roots w) (hrl : roots.length ≤ 5000) (h : (rootsOf W roots).1 = 0) :
    Calls Try.prog 7 #[heapV ad W.length cap, .slice rad roots.length rcap] w fun e w' => ReachEnd w.heap.size (reachList W roots) e w' ∧ Below w.heap.size w w' := by
  have hs : Hid (∀ w0, WordsAt ad W w0 → RootsAt rad roots w0 → Calls Try.prog 16 #[heapV ad W.length cap, .slice rad roots.length rcap] w0 fun e w' => ViewAns W w0.heap.size e w' ∧ Below w0.heap.size w0 w') :=
    fun w0 h1 h2 => rsee_good W roots ad rad cap rcap w0 h1 h2 hrl h
  obtain ⟨hc, _, _⟩ := roots_zero h
  obtain ⟨hf, hu⟩ := check_ok hc
  obtain ⟨_, hl, _⟩ := front_out hf
  have HR : Hid (WordsAt ad W w) := hr
  have HO : Hid (RootsAt rad roots w) := hroots
  clear h hr hroots hc hf
  go_enter Try.func7, Try.ntmps7
  go_wp2_with (first | (go_at_call 16; refine (hs.out _ (reads2 HR.out) (HO.out.below (((Below.refl _ _).alloc (Nat.le_refl _) _).alloc (by simp) _))).mono ?_; rintro e w1 ⟨⟨b, cap', bm, rfl, hv, hb, hbm, hne⟩, hb1⟩; obtain ⟨c0, c1, c2, c3, c4, hz⟩ := boxes1 hb1; have hz0 : w.heap.size < w1.heap.size := (by omega); have HO1 : Hid (RootsAt rad roots w1) := HO.out.below (below2 hb1)) | (go_at_call 20; refine (from_any W roots b cap' bm rad rcap _ ((hv.alloc _).alloc _) (HO1.out.below (((Below.refl _ _).alloc (Nat.le_refl _) _).alloc (by simp) _)) hu hl hrl).mono ?_; rintro e w2 ⟨⟨ad2, k2, rfl, hown2⟩, hb2⟩; have hbW := below2 hb2; have d1 := through hbW c1 (by dsimp only; omega); have d2 := through hbW c2 (by dsimp only; omega); have d3 := throughF hbW c3 (by dsimp only; omega); have d4 := throughF hbW c4 (by dsimp only; omega)))
  have hall := (below2 hb1).trans (hbW.mono (below2 hb1).size)
  refine bodyPost_ret (v := .tuple #[.slice ad2 (reachList W roots).length k2, .agg #[.int .i64 0, .int .i64 0]]) (by simp [results, Try.results7, go_sem, d1, d2]) rfl ⟨⟨ad2, k2, rfl, ?_⟩, ?_⟩
  · have h1 : w1.heap.size ≤ ((w1.alloc (.cells #[sl b W.length cap', .map (some bm)] 46)).alloc (.cells #[.int .i64 0, .int .i64 0] 33)).heap.size := by simp; omega
    have h2 : ∀ g, (Value.slice ad2 (reachList W roots).length k2).ownBlock = some g → w.heap.size + 1 < g := fun g hg => by have := (hown2.lt g hg).1; simp at this; omega
    have h3 := own_mono (show w.heap.size ≤ _ from Nat.le_trans (Nat.le_of_lt hz0) h1) hown2
    exact own_same h3 fun g hg => by
      have := h2 g hg
      rw [Below.heap_setCell _ _ _ _ (by dsimp only; omega), Below.heap_setCell _ _ _ _ (by dsimp only; omega)]
  · repeat (first | refine Below.setCell ?_ (by dsimp only; omega) _ | exact hall)

end Go.Proofs.Ythdhaokjibfjdaa
