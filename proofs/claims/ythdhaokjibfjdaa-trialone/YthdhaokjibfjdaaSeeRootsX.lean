/- reach.See and gessoref2.Roots: the fault of a heap and roots, or the view. -/
import Derived.Test.YthdhaokjibfjdaaRefReachX
import Derived.Test.YthdhaokjibfjdaaRefLoopX
import Derived.Test.YthdhaokjibfjdaaCheckX
namespace Go.Proofs.Ythdhaokjibfjdaa
open Go.RowKit

/-- The first root from k on, of n, that is no reference. -/
def badRoot (W roots : List Int) (k : Nat) : Nat → Option Nat
  | 0 => none
  | n + 1 => if fitsRef W (wd roots k) = true then badRoot W roots (k + 1) n else some k
theorem root_yes {W roots : List Int} {k n : Nat} (h : fitsRef W (wd roots k) = true) : badRoot W roots k (n + 1) = badRoot W roots (k + 1) n := by
  conv => lhs; unfold badRoot
  rw [if_pos h]
theorem root_no {W roots : List Int} {k n : Nat} (h : fitsRef W (wd roots k) = false) : badRoot W roots k (n + 1) = some k := by
  unfold badRoot; rw [if_neg (by rw [h]; decide)]
/-- The fault of a heap and roots. -/
def rootsOf (W roots : List Int) : Int × Int :=
  if (checkOf W).1 = 0 then (match badRoot W roots 0 roots.length with | some k => (3, (k : Int)) | none => (0, 0)) else checkOf W
theorem roots_heap {W roots : List Int} (h : (checkOf W).1 ≠ 0) : rootsOf W roots = checkOf W := by unfold rootsOf; rw [if_neg h]
theorem roots_bad {W roots : List Int} {k : Nat} (h : (checkOf W).1 = 0) (hb : badRoot W roots 0 roots.length = some k) : rootsOf W roots = (3, (k : Int)) := by unfold rootsOf; rw [if_pos h, hb]
theorem roots_ok {W roots : List Int} (h : (checkOf W).1 = 0) (hb : badRoot W roots 0 roots.length = none) : rootsOf W roots = (0, 0) := by unfold rootsOf; rw [if_pos h, hb]

theorem through {w w' : World} {B : Nat} {a : Addr} {v : Value} (hb : Below B w w') (h : w.cell? a = some v) (hB : a.block < B) : w'.cell? a = some v := by rw [hb.cell hB]; exact h
theorem throughF {w w' : World} {B : Nat} {a : Addr} {v : Bool} (hb : Below B w w') (h : w.frozen? a = v) (hB : a.block < B) : w'.frozen? a = v := by rw [hb.frozen hB]; exact h
theorem twos {w w' : World} {x y z v : Value} {t t' : TypeId} (hb : Below ((w.alloc (.cells #[x, y] t)).alloc (.cells #[z, v] t')).heap.size ((w.alloc (.cells #[x, y] t)).alloc (.cells #[z, v] t')) w') :
    w'.cell? ⟨w.heap.size, 0, none⟩ = some x ∧ w'.cell? ⟨w.heap.size, 1, none⟩ = some y ∧ w'.cell? ⟨w.heap.size + 1, 0, none⟩ = some z ∧ w'.cell? ⟨w.heap.size + 1, 1, none⟩ = some v ∧ w.heap.size + 1 < w'.heap.size := by
  have hs := hb.size
  refine ⟨?_, ?_, ?_, ?_, by simp at hs; omega⟩
  · rw [hb.cell (p := ⟨w.heap.size, 0, none⟩) (by simp; omega), cell_past _ (by simp)]; simp
  · rw [hb.cell (p := ⟨w.heap.size, 1, none⟩) (by simp; omega), cell_past _ (by simp)]; simp
  · rw [hb.cell (p := ⟨w.heap.size + 1, 0, none⟩) (by simp), cell_at2 (by simp)]; rfl
  · rw [hb.cell (p := ⟨w.heap.size + 1, 1, none⟩) (by simp), cell_at2 (by simp)]; rfl

/-- Where the words lie that came in. -/
abbrev WordsAt (ad : Option Addr) (W : List Int) (w : World) : Prop := 2 ≤ W.length → ∃ b off, ad = some ⟨b, off, none⟩ ∧ Row w b off W

set_option maxHeartbeats 2000000 in
theorem rsee_no (W roots : List Int) (ad rad : Option Addr) (cap rcap : Nat) (w : World) (hm : W.length ≤ maxLen) (hr : WordsAt ad W w) (h : (checkOf W).1 ≠ 0) :
    Calls Try.prog 16 #[heapV ad W.length cap, .slice rad roots.length rcap] w fun e w' => e = .returned (.tuple #[noView, .agg #[.int .i64 (checkOf W).1, .int .i64 (checkOf W).2]]) ∧ Below w.heap.size w w' := by
  have hs : Hid (∀ w0, WordsAt ad W w0 → Calls Try.prog 31 #[heapV ad W.length cap] w0 fun e w' => e = .returned (.tuple #[noView, .agg #[.int .i64 (checkOf W).1, .int .i64 (checkOf W).2]]) ∧ Below w0.heap.size w0 w') :=
    fun w0 hr0 => see_no W ad cap w0 hm hr0 h
  have HR : Hid (WordsAt ad W w) := hr
  generalize checkOf W = F at *
  have hb : (F.1 != 0) = true := by simpa using h
  clear h hr
  go_enter Try.func16, Try.ntmps16
  go_wp2_with (go_at_call 31; refine (hs.out _ (fun h => let ⟨b, off, e, r⟩ := HR.out h; ⟨b, off, e, ((r.alloc _).alloc _).alloc _⟩)).mono ?_; rintro e w1 ⟨rfl, hb1⟩; have hz : w.heap.size + 1 + 1 < w1.heap.size := (by have := hb1.size; simp at this; omega); obtain ⟨c0, c1, c2, c3, c4, c5, c6, c7, c8, _⟩ := boxes3 hb1; have hz1 : w.heap.size + 1 < w1.heap.size := (by omega); obtain ⟨d0, d1, d2, d3, d4, d5, d6, d7, d8, _⟩ := boxes3 ((hb1.alloc (by simp; omega) (Obj.cells #[Value.slice none 0 0, Value.map none] 46)).alloc (by simp; omega) (Obj.cells #[Value.int IntKind.i64 F.1, Value.int IntKind.i64 F.2] 33)))
  go_region
  all_goals go_wp2_with fail
  all_goals refine bodyPost_ret (v := .tuple #[noView, .agg #[.int .i64 F.1, .int .i64 F.2]]) (by simp [results, Try.results16, go_sem, d1, d2, d3, d4]) rfl ⟨rfl, ?_⟩
  all_goals repeat (first | refine Below.drew ?_ | refine Below.setCell ?_ (by dsimp only; omega) _ | exact ((below3 hb1).alloc (by omega) _).alloc (by simp; omega) _)

set_option maxHeartbeats 4000000 in
/-- In the midst: the view stands. -/
theorem rsee_yes (W roots : List Int) (ad rad : Option Addr) (cap rcap : Nat) (w : World) (hr : WordsAt ad W w) (hroots : RootsAt rad roots w) (h : (checkOf W).1 = 0) (hrl : roots.length ≤ 5000) :
    Calls Try.prog 16 #[heapV ad W.length cap, .slice rad roots.length rcap] w fun e w' =>
      ((badRoot W roots 0 roots.length = none ∧ ViewAns W w.heap.size e w') ∨ ∃ k, badRoot W roots 0 roots.length = some k ∧ e = .returned (.tuple #[noView, .agg #[.int .i64 3, .int .i64 (k : Nat)]])) ∧ Below w.heap.size w w' := by
  have hs : Hid (∀ w0, WordsAt ad W w0 → Calls Try.prog 31 #[heapV ad W.length cap] w0 fun e w' => ViewAns W w0.heap.size e w' ∧ Below w0.heap.size w0 w') :=
    fun w0 hr0 => see_yes W ad cap w0 hr0 h
  have HR : Hid (WordsAt ad W w) := hr
  have HO : Hid (RootsAt rad roots w) := hroots
  clear h hr hroots
  go_enter Try.func16, Try.ntmps16
  go_wp2_with (go_at_call 31; refine (hs.out _ (fun h => let ⟨b, off, e, r⟩ := HR.out h; ⟨b, off, e, ((r.alloc _).alloc _).alloc _⟩)).mono ?_; rintro e w1 ⟨⟨b, cap', bm, rfl, hv, hb, hbm, hne⟩, hb1⟩; have hz : w.heap.size + 1 + 1 < w1.heap.size := (by have := hb1.size; simp at this; omega); obtain ⟨c0, c1, c2, c3, c4, c5, c6, c7, c8, _⟩ := boxes3 hb1; have hz1 : w.heap.size + 1 < w1.heap.size := (by omega))
  go_loopw [22] (fun s wr => ∃ (i : Nat), s = .int .i64 i ∧ i ≤ roots.length ∧ Hid (badRoot W roots 0 roots.length = badRoot W roots i (roots.length - i)) ∧ Below ((w1.alloc (.cells #[sl b W.length cap', .map (some bm)] 46)).alloc (.cells #[.int .i64 0, .int .i64 0] 33)).heap.size ((w1.alloc (.cells #[sl b W.length cap', .map (some bm)] 46)).alloc (.cells #[.int .i64 0, .int .i64 0] 33)) wr) (fun s _ => roots.length - (intOf s).toNat)
  case atStart => exact ⟨0, rfl, Nat.zero_le _, rfl, Below.refl _ _⟩
  case round =>
    obtain ⟨i, rfl, hi, hbad, hbel⟩ := hrel
    obtain ⟨t0, t1, t2, t3, hzz⟩ := twos hbel
    have hbW := below2 hbel
    have r1 := through hbW c1 (by dsimp only; omega)
    have r2 := through hbW c2 (by dsimp only; omega)
    have r3 := through hbW c3 (by dsimp only; omega)
    have r4 := through hbW c4 (by dsimp only; omega)
    have f5 := throughF hbW c5 (by dsimp only; omega)
    have f6 := throughF hbW c6 (by dsimp only; omega)
    have f7 := throughF hbW c7 (by dsimp only; omega)
    have f8 := throughF hbW c8 (by dsimp only; omega)
    have hvr := ((hv.alloc (.cells #[sl b W.length cap', .map (some bm)] 46)).alloc (.cells #[.int .i64 0, .int .i64 0] 33)).same hbel
    have hall := (below3 hb1).trans (hbW.mono (below3 hb1).size)
    by_cases hlt : i < roots.length
    · obtain ⟨rb, ro, hrad, hrr⟩ := HO.out (by omega)
      have hcr := (hrr.same hall).cell i hlt
      subst hrad
      have hn : roots.length - i = (roots.length - (i + 1)) + 1 := by omega
      cases hf : fitsRef W (wd roots i) with
      | true =>
        have Hb : Hid (badRoot W roots 0 roots.length = badRoot W roots (i + 1) (roots.length - (i + 1))) := by
          have := hbad.out
          rw [hn, root_yes hf] at this; exact this
        clear hbad
        go_wp2_with (go_at_call 32; refine (isRef_any W b cap' bm _ _ hvr).mono ?_; rintro e w2 ⟨rfl, hb2⟩)
        go_roundw
        case rel => exact ⟨i + 1, by first | rfl | simp, by omega, Hb, hbel.trans (hb2.mono hbel.size)⟩
        case measure => simp [intOf]; omega
      | false =>
        have Hb : Hid (badRoot W roots 0 roots.length = some i) := by
          have := hbad.out
          rw [hn, root_no hf] at this; exact this
        clear hbad
        go_wp2_with (go_at_call 32; refine (isRef_any W b cap' bm _ _ hvr).mono ?_; rintro e w2 ⟨rfl, hb2⟩; have s1 := through hb2 r1 (by dsimp only; omega); have s2 := through hb2 r2 (by dsimp only; omega); have s3 := through hb2 r3 (by dsimp only; omega); have s4 := through hb2 r4 (by dsimp only; omega); have g5 := throughF hb2 f5 (by dsimp only; omega); have g6 := throughF hb2 f6 (by dsimp only; omega); have g7 := throughF hb2 f7 (by dsimp only; omega); have g8 := throughF hb2 f8 (by dsimp only; omega))
        have hall2 := hall.trans (hb2.mono hall.size)
        refine bodyPost_ret (v := .tuple #[noView, .agg #[.int .i64 3, .int .i64 (i : Nat)]]) (by simp [results, Try.results16, go_sem, s1, s2, s3, s4]) rfl ⟨Or.inr ⟨i, Hb.out, rfl⟩, ?_⟩
        repeat (first | refine Below.setCell ?_ (by dsimp only; omega) _ | exact hall2)
    · have Hb : Hid (badRoot W roots 0 roots.length = none) := by
        have := hbad.out
        rw [show roots.length - i = 0 by omega] at this; exact this
      clear hbad
      go_wp2_with fail
      refine bodyPost_ret (v := .tuple #[viewV b W.length cap' bm, .agg #[.int .i64 0, .int .i64 0]]) (by simp [results, Try.results16, go_sem, r1, r2, r3, r4]) rfl ⟨Or.inl ⟨Hb.out, b, cap', bm, rfl, ?_, ?_, ?_, hne⟩, ?_⟩
      · have h1 : w.heap.size + 1 + 1 < b := by simp at hb; omega
        have h2 : w.heap.size + 1 + 1 < bm := by simp at hbm; omega
        repeat (first | refine IsView.setCell ?_ (by dsimp only; omega) (by dsimp only; omega) _ | exact hvr)
      · simp at hb; omega
      · simp at hbm; omega
      · repeat (first | refine Below.setCell ?_ (by dsimp only; omega) _ | exact hall)

end Go.Proofs.Ythdhaokjibfjdaa
