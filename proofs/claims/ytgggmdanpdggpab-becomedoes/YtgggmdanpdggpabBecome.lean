/- become.renamed, One, Two: some become others, or what stands against it. -/
import Derived.Test.YtgggmdanpdggpabBecTurn
import Derived.Test.YtgggmdanpdggpabBecLists
import Derived.Test.YtgggmdanpdggpabRelaid
import Derived.Test.YtgggmdanpdggpabRSee
namespace Go.Proofs.Ytgggmdanpdggpab
open Go.RowKit

/-- A fault, and nothing else. -/
def FaultAns (F : Int × Int) (e : Ending) : Prop := e = .returned (.tuple #[.agg #[.slice none 0 0], .slice none 0 0, .agg #[.int .i64 F.1, .int .i64 F.2]])
theorem twosF {w w' : World} {x y z v : Value} {t t' : TypeId} (hb : Below ((w.alloc (.cells #[x, y] t)).alloc (.cells #[z, v] t')).heap.size ((w.alloc (.cells #[x, y] t)).alloc (.cells #[z, v] t')) w') :
    w'.frozen? ⟨w.heap.size + 1, 0, none⟩ = false ∧ w'.frozen? ⟨w.heap.size + 1, 1, none⟩ = false := by
  refine ⟨?_, ?_⟩
  · rw [hb.frozen (p := ⟨w.heap.size + 1, 0, none⟩) (by simp), frozen_at2 (by simp)]
  · rw [hb.frozen (p := ⟨w.heap.size + 1, 1, none⟩) (by simp), frozen_at2 (by simp)]

set_option maxHeartbeats 2000000 in
theorem renamed_no (W F T roots : List Int) (ad fad tad rad : Option Addr) (cap fc tc rcap : Nat) (both : Bool) (w : World) (hm : W.length ≤ maxLen) (hr : WordsAt ad W w) (hroots : RootsAt rad roots w) (hrl : roots.length ≤ 5000) (h : (rootsOf W roots).1 ≠ 0) :
    Calls Try.prog 39 #[heapV ad W.length cap, .slice fad F.length fc, .slice tad T.length tc, .slice rad roots.length rcap, .bool both] w fun e w' => FaultAns (rootsOf W roots) e ∧ Below w.heap.size w w' := by
  have hs : Hid (∀ w0, WordsAt ad W w0 → RootsAt rad roots w0 → Calls Try.prog 25 #[heapV ad W.length cap, .slice rad roots.length rcap] w0 fun e w' => e = .returned (.tuple #[noView, .agg #[.int .i64 (rootsOf W roots).1, .int .i64 (rootsOf W roots).2]]) ∧ Below w0.heap.size w0 w') :=
    fun w0 h1 h2 => rsee_bad W roots ad rad cap rcap w0 hm h1 h2 hrl h
  have HR : Hid (WordsAt ad W w) := hr
  have HO : Hid (RootsAt rad roots w) := hroots
  unfold FaultAns
  generalize rootsOf W roots = G at *
  have hb : (G.1 != 0) = true := by simpa using h
  clear h hr hroots
  go_enter Try.func39, Try.ntmps39
  go_wp2_with (go_at_call 25; refine (hs.out _ (fun h => let ⟨b, off, e, r⟩ := HR.out h; ⟨b, off, e, ((r.alloc _).alloc _).alloc _⟩) (HO.out.below ((((Below.refl _ _).alloc (Nat.le_refl _) _).alloc (by simp) _).alloc (by simp; omega) _))).mono ?_; rintro e w1 ⟨rfl, hb1⟩; obtain ⟨⟨c1, c2, c3⟩, ⟨f1, f2, f3⟩, hz⟩ := sweepBoxes hb1; have hz0 : w.heap.size + 1 < w1.heap.size := (by omega); obtain ⟨⟨d1, d2, d3⟩, ⟨g1, g2, g3⟩, hz'⟩ := sweepBoxes ((hb1.alloc (by simp; omega) (Obj.cells #[Value.slice none 0 0, Value.map none] 50)).alloc (by simp; omega) (Obj.cells #[Value.int IntKind.i64 G.1, Value.int IntKind.i64 G.2] 28)))
  go_region
  all_goals go_wp2_with fail
  all_goals refine bodyPost_ret (v := .tuple #[.agg #[.slice none 0 0], .slice none 0 0, .agg #[.int .i64 G.1, .int .i64 G.2]]) (by simp [results, Try.results39, go_sem, d1, d2, d3]) rfl ⟨rfl, ?_⟩
  all_goals repeat (first | refine Below.drew ?_ | refine Below.setCell ?_ (by dsimp only; omega) _ | refine Below.alloc ?_ (by first | omega | (simp; omega)) _ | exact below3 hb1)

theorem grew1' {w w' : World} {o : Obj} (hb : Below (w.alloc o).heap.size (w.alloc o) w') : w.heap.size < w'.heap.size := by
  have := hb.size; simp at this; omega

set_option maxHeartbeats 4000000 in
theorem renamed_lists (W F T roots : List Int) (ad fad tad rad : Option Addr) (cap fc tc rcap : Nat) (both : Bool) (w : World) (hr : WordsAt ad W w) (hF : RootsAt fad F w) (hT : RootsAt tad T w) (hroots : RootsAt rad roots w) (hn : F.length ≤ 5000) (hrl : roots.length ≤ 5000) (h : (rootsOf W roots).1 = 0) (hk : (kindsOf W F T).1 ≠ 0) :
    Calls Try.prog 39 #[heapV ad W.length cap, .slice fad F.length fc, .slice tad T.length tc, .slice rad roots.length rcap, .bool both] w fun e w' => FaultAns (kindsOf W F T) e ∧ Below w.heap.size w w' := by
  have hs : Hid (∀ w0, WordsAt ad W w0 → RootsAt rad roots w0 → Calls Try.prog 25 #[heapV ad W.length cap, .slice rad roots.length rcap] w0 fun e w' => ViewAns W w0.heap.size e w' ∧ Below w0.heap.size w0 w') :=
    fun w0 h1 h2 => rsee_good W roots ad rad cap rcap w0 h1 h2 hrl h
  have HR : Hid (WordsAt ad W w) := hr
  have HO : Hid (RootsAt rad roots w) := hroots
  have HF : Hid (RootsAt fad F w) := hF
  have HT : Hid (RootsAt tad T w) := hT
  have HLs : Hid (∀ b cap bm w0, IsView w0 b cap bm W → RootsAt fad F w0 → RootsAt tad T w0 → Calls Try.prog 61 #[viewV b W.length cap bm, .slice fad F.length fc, .slice tad T.length tc] w0 fun e w' => e = .returned (.agg #[.int .i64 (kindsOf W F T).1, .int .i64 (kindsOf W F T).2]) ∧ Below w0.heap.size w0 w') :=
    fun b cap bm w0 h1 h2 h3 => lists_any W F T b cap bm fad tad fc tc w0 h1 h2 h3 hn
  unfold FaultAns
  generalize kindsOf W F T = G at *
  have hbG : (G.1 != 0) = true := by simpa using hk
  clear h hr hroots hF hT hk
  go_enter Try.func39, Try.ntmps39
  go_wp2_with (first | (go_at_call 25; refine (hs.out _ (fun h => let ⟨b, off, e, r⟩ := HR.out h; ⟨b, off, e, ((r.alloc _).alloc _).alloc _⟩) (HO.out.below ((((Below.refl _ _).alloc (Nat.le_refl _) _).alloc (by simp) _).alloc (by simp; omega) _))).mono ?_; rintro e w1 ⟨⟨b, cap', bm, rfl, hv, hb, hbm, hne⟩, hb1⟩; obtain ⟨⟨d1, d2, d3⟩, ⟨e1, e2, e3⟩, hz⟩ := sweepBoxes hb1; have HO1 : Hid (RootsAt rad roots w1) := HO.out.below (below3 hb1); have HF1 : Hid (RootsAt fad F w1) := HF.out.below (below3 hb1); have HT1 : Hid (RootsAt tad T w1) := HT.out.below (below3 hb1); have hv1 := (hv.alloc (.cells #[sl b W.length cap', .map (some bm)] 50)).alloc (.cells #[.int .i64 0, .int .i64 0] 28)) | (go_at_call 61; refine (HLs.out b cap' bm _ hv1 (HF1.out.below (((Below.refl _ _).alloc (Nat.le_refl _) _).alloc (by simp) _)) (HT1.out.below (((Below.refl _ _).alloc (Nat.le_refl _) _).alloc (by simp) _))).mono ?_; rintro e w2 ⟨rfl, hb2⟩; obtain ⟨vb0, vb1, vb2, vb3, hzz2⟩ := twos hb2; obtain ⟨vg2, vg3⟩ := twosF hb2; have hq2 : Below w1.heap.size w1 w2 := below2 hb2; have m1 := through hq2 d1 (by dsimp only; omega); have m2 := through hq2 d2 (by dsimp only; omega); have m3 := through hq2 d3 (by dsimp only; omega); have mf1 := throughF hq2 e1 (by dsimp only; omega); have mf2 := throughF hq2 e2 (by dsimp only; omega); have mf3 := throughF hq2 e3 (by dsimp only; omega); have hz2 : w.heap.size + 1 + 1 < w2.heap.size := (by omega); have hz21 : w1.heap.size < w2.heap.size := (by omega); have hz20 : w.heap.size + 1 < w2.heap.size := (by omega); have HF3 : Hid (RootsAt fad F (w2.alloc (.cells #[.int .i64 0, .int .i64 0] 28))) := (HF1.out.below hq2).below ((Below.refl _ _).alloc (Nat.le_refl _) _); have HT3 : Hid (RootsAt tad T (w2.alloc (.cells #[.int .i64 0, .int .i64 0] 28))) := (HT1.out.below hq2).below ((Below.refl _ _).alloc (Nat.le_refl _) _); have hv2 := hv1.same hb2))
  go_region
  all_goals go_wp2_with fail
  all_goals refine bodyPost_ret (v := .tuple #[.agg #[.slice none 0 0], .slice none 0 0, .agg #[.int .i64 G.1, .int .i64 G.2]]) (by simp [results, Try.results39, go_sem, m1, m2, m3, hz20, hz2]) rfl ⟨rfl, ?_⟩
  all_goals have hend := (below3 hb1).trans (hq2.mono (below3 hb1).size)
  all_goals repeat (first | refine Below.drew ?_ | refine Below.setCell ?_ (by dsimp only; omega) _ | refine Below.alloc ?_ (by first | omega | (simp; omega)) _ | exact hend)

set_option maxHeartbeats 4000000 in
theorem renamed_twice (W F T roots : List Int) (ad fad tad rad : Option Addr) (cap fc tc rcap : Nat) (both : Bool) (w : World) (hr : WordsAt ad W w) (hF : RootsAt fad F w) (hT : RootsAt tad T w) (hroots : RootsAt rad roots w) (hn : F.length ≤ 5000) (hrl : roots.length ≤ 5000) (h : (rootsOf W roots).1 = 0) (hk : kindsOf W F T = (0, 0)) (hl : F.length = T.length) (i : Nat) (hi : i < F.length) (hti : twAt both F T i = true) (htj : ∀ j, j < i → twAt both F T j = false) :
    Calls Try.prog 39 #[heapV ad W.length cap, .slice fad F.length fc, .slice tad T.length tc, .slice rad roots.length rcap, .bool both] w fun e w' => FaultAns (5, (i : Int)) e ∧ Below w.heap.size w w' := by
  have hs : Hid (∀ w0, WordsAt ad W w0 → RootsAt rad roots w0 → Calls Try.prog 25 #[heapV ad W.length cap, .slice rad roots.length rcap] w0 fun e w' => ViewAns W w0.heap.size e w' ∧ Below w0.heap.size w0 w') :=
    fun w0 h1 h2 => rsee_good W roots ad rad cap rcap w0 h1 h2 hrl h
  have HR : Hid (WordsAt ad W w) := hr
  have HO : Hid (RootsAt rad roots w) := hroots
  have HF : Hid (RootsAt fad F w) := hF
  have HT : Hid (RootsAt tad T w) := hT
  have HLs : Hid (∀ b cap bm w0, IsView w0 b cap bm W → RootsAt fad F w0 → RootsAt tad T w0 → Calls Try.prog 61 #[viewV b W.length cap bm, .slice fad F.length fc, .slice tad T.length tc] w0 fun e w' => e = .returned (.agg #[.int .i64 0, .int .i64 0]) ∧ Below w0.heap.size w0 w') :=
    fun b cap bm w0 h1 h2 h3 => by have := lists_any W F T b cap bm fad tad fc tc w0 h1 h2 h3 hn; rwa [hk] at this
  have HB : Hid (∀ w0, RootsAt fad F w0 → RootsAt tad T w0 → Calls Try.prog 62 #[.slice fad F.length fc, .slice tad T.length tc, .bool both] w0 fun e w' => e = .returned (.tuple #[.map none, .agg #[.int .i64 5, .int .i64 (i : Int)]]) ∧ Below w0.heap.size w0 w') := fun w0 h1 h2 => by
    refine (becoming_any F T fad tad fc tc both w0 h1 h2 hl hn).mono fun e w' hp => ⟨?_, hp.2⟩
    rcases hp.1 with ⟨j, _, hj, hjj, he⟩ | ⟨hno, _⟩
    · have : j = i := by
        by_cases h1 : j < i
        · rw [htj j h1] at hj; cases hj
        · by_cases h2 : i < j
          · rw [hjj i h2] at hti; cases hti
          · omega
      rw [← this]; exact he
    · rw [hno i hi] at hti; cases hti
  unfold FaultAns
  clear h hr hroots hF hT hk hti htj hl
  go_enter Try.func39, Try.ntmps39
  go_wp2_with (first | (go_at_call 25; refine (hs.out _ (fun h => let ⟨b, off, e, r⟩ := HR.out h; ⟨b, off, e, ((r.alloc _).alloc _).alloc _⟩) (HO.out.below ((((Below.refl _ _).alloc (Nat.le_refl _) _).alloc (by simp) _).alloc (by simp; omega) _))).mono ?_; rintro e w1 ⟨⟨b, cap', bm, rfl, hv, hb, hbm, hne⟩, hb1⟩; obtain ⟨⟨d1, d2, d3⟩, ⟨e1, e2, e3⟩, hz⟩ := sweepBoxes hb1; have HO1 : Hid (RootsAt rad roots w1) := HO.out.below (below3 hb1); have HF1 : Hid (RootsAt fad F w1) := HF.out.below (below3 hb1); have HT1 : Hid (RootsAt tad T w1) := HT.out.below (below3 hb1); have hv1 := (hv.alloc (.cells #[sl b W.length cap', .map (some bm)] 50)).alloc (.cells #[.int .i64 0, .int .i64 0] 28)) | (go_at_call 61; refine (HLs.out b cap' bm _ hv1 (HF1.out.below (((Below.refl _ _).alloc (Nat.le_refl _) _).alloc (by simp) _)) (HT1.out.below (((Below.refl _ _).alloc (Nat.le_refl _) _).alloc (by simp) _))).mono ?_; rintro e w2 ⟨rfl, hb2⟩; obtain ⟨vb0, vb1, vb2, vb3, hzz2⟩ := twos hb2; obtain ⟨vg2, vg3⟩ := twosF hb2; have hq2 : Below w1.heap.size w1 w2 := below2 hb2; have m1 := through hq2 d1 (by dsimp only; omega); have m2 := through hq2 d2 (by dsimp only; omega); have m3 := through hq2 d3 (by dsimp only; omega); have mf1 := throughF hq2 e1 (by dsimp only; omega); have mf2 := throughF hq2 e2 (by dsimp only; omega); have mf3 := throughF hq2 e3 (by dsimp only; omega); have hz2 : w.heap.size + 1 + 1 < w2.heap.size := (by omega); have hz21 : w1.heap.size < w2.heap.size := (by omega); have hz20 : w.heap.size + 1 < w2.heap.size := (by omega); have HF3 : Hid (RootsAt fad F (w2.alloc (.cells #[.int .i64 0, .int .i64 0] 28))) := (HF1.out.below hq2).below ((Below.refl _ _).alloc (Nat.le_refl _) _); have HT3 : Hid (RootsAt tad T (w2.alloc (.cells #[.int .i64 0, .int .i64 0] 28))) := (HT1.out.below hq2).below ((Below.refl _ _).alloc (Nat.le_refl _) _); have hv2 := hv1.same hb2) | (go_at_call 62; refine (HB.out _ HF3.out HT3.out).mono ?_; rintro e w3 ⟨rfl, hb3⟩; have hq23 : Below w2.heap.size w2 w3 := below_call hb3; have hq3 : Below w1.heap.size w1 w3 := hq2.trans (hq23.mono hq2.size); have o1 := through hq23 m1 (by dsimp only; omega); have o2 := through hq23 m2 (by dsimp only; omega); have o3 := through hq23 m3 (by dsimp only; omega); have of1 := throughF hq23 mf1 (by dsimp only; omega); have of2 := throughF hq23 mf2 (by dsimp only; omega); have of3 := throughF hq23 mf3 (by dsimp only; omega); have vc0 := through hq23 vb0 (by dsimp only; omega); have vc1 := through hq23 vb1 (by dsimp only; omega); have vc2 := through hq23 vb2 (by dsimp only; omega); have vc3 := through hq23 vb3 (by dsimp only; omega); have vh2 := throughF hq23 vg2 (by dsimp only; omega); have vh3 := throughF hq23 vg3 (by dsimp only; omega); have hz3 : w1.heap.size + 1 < w3.heap.size := (by have := hq23.size; omega); have hz32 : w2.heap.size < w3.heap.size := (grew1' hb3); have hz33 : w.heap.size + 1 + 1 < w3.heap.size := (by omega)))
  go_region
  all_goals go_wp2_with fail
  all_goals refine bodyPost_ret (v := .tuple #[.agg #[.slice none 0 0], .slice none 0 0, .agg #[.int .i64 5, .int .i64 (i : Int)]]) (by simp [results, Try.results39, go_sem, o1, o2, o3]) rfl ⟨rfl, ?_⟩
  all_goals have hend := (below3 hb1).trans (hq3.mono (below3 hb1).size)
  all_goals repeat (first | refine Below.drew ?_ | refine Below.setCell ?_ (by dsimp only; omega) _ | refine Below.alloc ?_ (by first | omega | (simp; omega)) _ | exact hend)
end Go.Proofs.Ytgggmdanpdggpab
