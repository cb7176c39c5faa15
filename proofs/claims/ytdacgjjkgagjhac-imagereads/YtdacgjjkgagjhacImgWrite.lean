/- image.Write. -/
import Derived.Test.YtdacgjjkgagjhacLists
import Derived.Test.YtdacgjjkgagjhacImageMore
namespace Go.Proofs.Ytdacgjjkgagjhac
open Go.RowKit

set_option maxHeartbeats 2000000 in
theorem iwrite_bad (W roots : List Int) (ad rad : Option Addr) (cap rcap : Nat) (w : World) (hm : W.length ≤ maxLen) (hr : WordsAt ad W w) (hroots : RootsAt rad roots w) (hrl : roots.length ≤ 5000) (h : (rootsOf W roots).1 ≠ 0) :
    Calls Try.prog 12 #[heapV ad W.length cap, .slice rad roots.length rcap] w fun e w' => e = .returned (.tuple #[.slice none 0 0, .agg #[.int .i64 (rootsOf W roots).1, .int .i64 (rootsOf W roots).2]]) ∧ Below w.heap.size w w' := by
  have hs : Hid (∀ w0, WordsAt ad W w0 → RootsAt rad roots w0 → Calls Try.prog 20 #[heapV ad W.length cap, .slice rad roots.length rcap] w0 fun e w' => e = .returned (.tuple #[noView, .agg #[.int .i64 (rootsOf W roots).1, .int .i64 (rootsOf W roots).2]]) ∧ Below w0.heap.size w0 w') :=
    fun w0 h1 h2 => rsee_bad W roots ad rad cap rcap w0 hm h1 h2 hrl h
  have HR : Hid (WordsAt ad W w) := hr
  have HO : Hid (RootsAt rad roots w) := hroots
  generalize rootsOf W roots = F at *
  have hb : (F.1 != 0) = true := by simpa using h
  clear h hr hroots
  go_enter Try.func12, Try.ntmps12
  go_wp2_with (go_at_call 20; refine (hs.out _ (reads2 HR.out) (HO.out.below (((Below.refl _ _).alloc (Nat.le_refl _) _).alloc (by simp) _))).mono ?_; rintro e w1 ⟨rfl, hb1⟩; obtain ⟨c0, c1, c2, c3, c4, hz⟩ := boxes1 hb1; have hz0 : w.heap.size < w1.heap.size := (by omega))
  go_region
  all_goals go_wp2_with fail
  all_goals refine bodyPost_ret (v := .tuple #[.slice none 0 0, .agg #[.int .i64 F.1, .int .i64 F.2]]) (by simp [results, Try.results12, go_sem, cell_past, c1, c2, hz, hz0]) rfl ⟨rfl, ?_⟩
  all_goals repeat (first | refine Below.drew ?_ | refine Below.setCell ?_ (by dsimp only; omega) _ | refine Below.alloc ?_ (by first | omega | (simp; omega)) _ | exact below2 hb1)

set_option maxHeartbeats 2000000 in
theorem iwrite_many (W roots : List Int) (ad rad : Option Addr) (cap rcap : Nat) (w : World) (hr : WordsAt ad W w) (hroots : RootsAt rad roots w) (hrl : roots.length ≤ 5000) (h : (rootsOf W roots).1 = 0) (h6 : 600 < roots.length) :
    Calls Try.prog 12 #[heapV ad W.length cap, .slice rad roots.length rcap] w fun e w' => e = .returned (.tuple #[.slice none 0 0, .agg #[.int .i64 1, .int .i64 0]]) ∧ Below w.heap.size w w' := by
  have hs : Hid (∀ w0, WordsAt ad W w0 → RootsAt rad roots w0 → Calls Try.prog 20 #[heapV ad W.length cap, .slice rad roots.length rcap] w0 fun e w' => ViewAns W w0.heap.size e w' ∧ Below w0.heap.size w0 w') :=
    fun w0 h1 h2 => rsee_good W roots ad rad cap rcap w0 h1 h2 hrl h
  have HR : Hid (WordsAt ad W w) := hr
  have HO : Hid (RootsAt rad roots w) := hroots
  have hgt : (600 : Int) < (roots.length : Int) := by omega
  clear h hr hroots h6
  go_enter Try.func12, Try.ntmps12
  go_wp2_with (go_at_call 20; refine (hs.out _ (reads2 HR.out) (HO.out.below (((Below.refl _ _).alloc (Nat.le_refl _) _).alloc (by simp) _))).mono ?_; rintro e w1 ⟨⟨b, cap', bm, rfl, _, _, _, _⟩, hb1⟩; obtain ⟨c0, c1, c2, c3, c4, hz⟩ := boxes1 hb1; have hz0 : w.heap.size < w1.heap.size := (by omega))
  refine bodyPost_ret (v := .tuple #[.slice none 0 0, .agg #[.int .i64 1, .int .i64 0]]) (by simp [results, Try.results12, go_sem, cell_past, c1, c2, hz, hz0]) rfl ⟨rfl, ?_⟩
  repeat (first | refine Below.drew ?_ | refine Below.setCell ?_ (by dsimp only; omega) _ | refine Below.alloc ?_ (by first | omega | (simp; omega)) _ | exact below2 hb1)

/-- What Write answers. -/
def WriteAns (B : Nat) (xs : List Int) (e : Ending) (w : World) : Prop := ∃ g cap, e = .returned (.tuple #[sl g xs.length cap, .agg #[.int .i64 0, .int .i64 0]]) ∧ B ≤ g ∧ HasB w g cap xs
theorem under_words {W : List Int} {ad : Option Addr} {w w' : World} {B : Nat} (hr : WordsAt ad W w) (h2 : 2 ≤ W.length) (hb : Below w.heap.size w w') (hB : w.heap.size ≤ B) : RowUnder B ad W w' := fun _ => by
  obtain ⟨b, off, e, r⟩ := hr h2
  exact ⟨b, off, e, r.same hb, by have := r.lt; omega⟩
theorem under_roots {R : List Int} {ad : Option Addr} {w w' : World} {B : Nat} (hr : RootsAt ad R w) (hb : Below w.heap.size w w') (hB : w.heap.size ≤ B) : RowUnder B ad R w' := fun h => by
  obtain ⟨b, off, e, r⟩ := hr h
  exact ⟨b, off, e, r.same hb, by have := r.lt; omega⟩

set_option maxRecDepth 20000 in
set_option maxHeartbeats 1000000 in
theorem iwrite_good (W roots : List Int) (ad rad : Option Addr) (cap rcap : Nat) (w : World) (hr : WordsAt ad W w) (hroots : RootsAt rad roots w) (h : (rootsOf W roots).1 = 0) (h6 : roots.length ≤ 600) :
    Calls Try.prog 12 #[heapV ad W.length cap, .slice rad roots.length rcap] w fun e w' => WriteAns w.heap.size (imageB W roots) e w' ∧ Below w.heap.size w w' := by
  obtain ⟨hc, _, _⟩ := roots_zero h
  obtain ⟨f1, f2, _⟩ := front_out (check_fine hc).1
  have hrl : roots.length ≤ 5000 := by omega
  have hmW : ∀ x ∈ W, Mild x := words_mild hc
  have hmR : ∀ x ∈ roots, Mild x := fun x hx => ok_mild (ok_rootsOf h x hx)
  have hs : Hid (∀ w0, WordsAt ad W w0 → RootsAt rad roots w0 → Calls Try.prog 20 #[heapV ad W.length cap, .slice rad roots.length rcap] w0 fun e w' => ViewAns W w0.heap.size e w' ∧ Below w0.heap.size w0 w') :=
    fun w0 h1 h2 => rsee_good W roots ad rad cap rcap w0 h1 h2 hrl h
  have hlW := listB_short hmW ⟨by omega, by omega⟩
  have hlR := listB_short hmR ⟨by omega, by omega⟩
  have HA : Hid (∀ (B : Nat) (v : Value) (w0 : World), OwnB w0 B v [71, 69] → RowUnder B ad W w0 → B ≤ w0.heap.size → Calls Try.prog 21 #[v, .slice ad W.length cap] w0 fun e w' => AnsB B ([71, 69] ++ listB W) e w' ∧ Below B w0 w') :=
    fun B v w0 h1 h2 h3 => appendList_any B v [71, 69] W ad cap w0 h1 h2 h3 hmW (by omega) (by simp; omega)
  have HB : Hid (∀ (B : Nat) (v : Value) (w0 : World), OwnB w0 B v ([71, 69] ++ listB W) → RowUnder B rad roots w0 → B ≤ w0.heap.size → Calls Try.prog 21 #[v, .slice rad roots.length rcap] w0 fun e w' => AnsB B (imageB W roots) e w' ∧ Below B w0 w') :=
    fun B v w0 h1 h2 h3 => by
      have := appendList_any B v ([71, 69] ++ listB W) roots rad rcap w0 h1 h2 h3 hmR (by omega) (by simp; omega)
      have e : [71, 69] ++ listB W ++ listB roots = imageB W roots := by unfold imageB; simp
      rw [e] at this; exact this
  have HR : Hid (WordsAt ad W w) := hr
  have HO : Hid (RootsAt rad roots w) := hroots
  have hng : ¬ (600 : Int) < (roots.length : Int) := by omega
  have hW2 : 2 ≤ W.length := f1
  have kc : Hid (∀ (w : World) (k : Nat) (C : Array Value), w.heap.size = k → (convert 33 33 (.slice (some ⟨k, 0, none⟩) 2 2)).run Try.prog (w.alloc (.cells C 5)) = .ok (.slice (some ⟨k, 0, none⟩) 2 2) (w.alloc (.cells C 5 (C.size, C.size + 1)))) := fun w k C hk => by
    subst hk; exact Go.Lib.run_convert_bytes_const (P := Try.prog) w 33 5 C 2 2 tyBs tyB
  generalize imageB W roots = I at *
  clear h hr hroots h6 hc f1 f2 hmW hmR hlW hlR hrl
  go_enter Try.func12, Try.ntmps12
  go_wp2_with (first | (go_at_call 20; refine (hs.out _ (reads2 HR.out) (HO.out.below (((Below.refl _ _).alloc (Nat.le_refl _) _).alloc (by simp) _))).mono ?_; rintro e w1 ⟨⟨b, cap', bm, rfl, _, _, _, _⟩, hb1⟩; obtain ⟨c0, c1, c2, c3, c4, hz⟩ := boxes1 hb1; have hz0 : w.heap.size < w1.heap.size := (by omega); have kc1 := kc.out ((w1.alloc (.cells #[sl b W.length cap', .map (some bm)] 46)).alloc (.cells #[.int .i64 0, .int .i64 0] 27)) (w1.heap.size + 1 + 1) #[.int .u8 71, .int .u8 69] (by simp); have hbA : Below w1.heap.size w1 (((w1.alloc (.cells #[sl b W.length cap', .map (some bm)] 46)).alloc (.cells #[.int .i64 0, .int .i64 0] 27)).alloc (.cells #[.int .u8 71, .int .u8 69] 5 (2, 3))) := ((((Below.refl _ _).alloc (Nat.le_refl _) _).alloc (by simp) _).alloc (by simp; omega) _); have e0 := through hbA c0 hz0; have hown : Hid (OwnB (((w1.alloc (.cells #[sl b W.length cap', .map (some bm)] 46)).alloc (.cells #[.int .i64 0, .int .i64 0] 27)).alloc (.cells #[.int .u8 71, .int .u8 69] 5 (2, 3))) w1.heap.size (.slice (some ⟨w1.heap.size + 1 + 1, 0, none⟩) 2 2) [71, 69]) := (Or.inr ⟨w1.heap.size + 1 + 1, 2, rfl, by omega, by (have := hasB_const ((w1.alloc (.cells #[sl b W.length cap', .map (some bm)] 46)).alloc (.cells #[.int .i64 0, .int .i64 0] 27)) [71, 69] #[.int .u8 71, .int .u8 69] rfl (by simp); simpa using this)⟩); have hbW := (below2 hb1).trans (hbA.mono (below2 hb1).size); have hs0 := (below2 hb1).size; have hsA := hbA.size) | (go_at_call_of 21 (Value.slice ad W.length cap); refine (HA.out w1.heap.size _ _ hown.out (under_words HR.out hW2 hbW hs0) hsA).mono ?_; rintro e w2 ⟨⟨g2, cap2, rfl, hg2, hh2⟩, hb2⟩; have hbB := hbA.trans hb2; have hs2 := hb2.size; have hown2 : Hid (OwnB w2 w1.heap.size (sl g2 ([71, 69] ++ listB W).length cap2) ([71, 69] ++ listB W)) := (Or.inr ⟨g2, cap2, rfl, hg2, hh2⟩); have hbW2 := (below2 hb1).trans (hbB.mono (below2 hb1).size); have hsB := hbB.size) | (go_at_call_of 21 (Value.slice rad roots.length rcap); refine (HB.out w1.heap.size _ _ hown2.out (under_roots HO.out hbW2 hs0) hsB).mono ?_; rintro e w3 ⟨⟨g3, cap3, rfl, hg3, hh3⟩, hb3⟩; have hbC := hbB.trans hb3; have k1 := through hbC c1 hz; have k2 := through hbC c2 hz; have y1 := throughF hbC c3 hz; have y2 := throughF hbC c4 hz; have hs3 := hbC.size))
  have hne : g3 ≠ w.heap.size + 1 := by omega
  refine bodyPost_ret (v := .tuple #[sl g3 I.length cap3, .agg #[.int .i64 0, .int .i64 0]]) (by simp [results, Try.results12, go_sem, k1, k2]) rfl ⟨⟨g3, cap3, rfl, by omega, ?_⟩, ?_⟩
  · exact (hh3.block (Below.heap_setCell _ _ _ _ (by dsimp only; exact hne)) (by simp [World.setCell])).block (Below.heap_setCell _ _ _ _ (by dsimp only; exact hne)) (by simp [World.setCell])
  · have hbD := (below2 hb1).trans (hbC.mono (below2 hb1).size)
    exact (hbD.setCell (by dsimp only; omega) _).setCell (by dsimp only; omega) _
end Go.Proofs.Ytdacgjjkgagjhac
