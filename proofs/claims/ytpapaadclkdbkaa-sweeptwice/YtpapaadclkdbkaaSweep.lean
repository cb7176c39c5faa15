/- sweep.Collect: what nobody comes to goes. -/
import Derived.Test.YtpapaadclkdbkaaTurning
import Derived.Test.YtpapaadclkdbkaaReachGo
import Derived.Test.YtpapaadclkdbkaaRelaid
namespace Go.Proofs.Ytpapaadclkdbkaa
open Go.RowKit

set_option maxHeartbeats 2000000 in
theorem collect_no (W roots : List Int) (ad rad : Option Addr) (cap rcap : Nat) (w : World) (hm : W.length ≤ maxLen) (hr : WordsAt ad W w) (hroots : RootsAt rad roots w) (hrl : roots.length ≤ 5000) (h : (rootsOf W roots).1 ≠ 0) :
    Calls Try.prog 20 #[heapV ad W.length cap, .slice rad roots.length rcap] w fun e w' => e = .returned (.tuple #[.agg #[.slice none 0 0], .slice none 0 0, .agg #[.int .i64 (rootsOf W roots).1, .int .i64 (rootsOf W roots).2]]) ∧ Below w.heap.size w w' := by
  have hs : Hid (∀ w0, WordsAt ad W w0 → RootsAt rad roots w0 → Calls Try.prog 34 #[heapV ad W.length cap, .slice rad roots.length rcap] w0 fun e w' => e = .returned (.tuple #[noView, .agg #[.int .i64 (rootsOf W roots).1, .int .i64 (rootsOf W roots).2]]) ∧ Below w0.heap.size w0 w') :=
    fun w0 h1 h2 => rsee_bad W roots ad rad cap rcap w0 hm h1 h2 hrl h
  have HR : Hid (WordsAt ad W w) := hr
  have HO : Hid (RootsAt rad roots w) := hroots
  generalize rootsOf W roots = F at *
  have hb : (F.1 != 0) = true := by simpa using h
  clear h hr hroots
  go_enter Try.func20, Try.ntmps20
  go_wp2_with (go_at_call 34; refine (hs.out _ (fun h => let ⟨b, off, e, r⟩ := HR.out h; ⟨b, off, e, ((r.alloc _).alloc _).alloc _⟩) (HO.out.below ((((Below.refl _ _).alloc (Nat.le_refl _) _).alloc (by simp) _).alloc (by simp; omega) _))).mono ?_; rintro e w1 ⟨rfl, hb1⟩; obtain ⟨⟨c1, c2, c3⟩, ⟨f1, f2, f3⟩, hz⟩ := sweepBoxes hb1; have hz0 : w.heap.size + 1 < w1.heap.size := (by omega); obtain ⟨⟨d1, d2, d3⟩, ⟨g1, g2, g3⟩, hz'⟩ := sweepBoxes ((hb1.alloc (by simp; omega) (Obj.cells #[Value.slice none 0 0, Value.map none] 54)).alloc (by simp; omega) (Obj.cells #[Value.int IntKind.i64 F.1, Value.int IntKind.i64 F.2] 29)))
  go_region
  all_goals go_wp2_with fail
  all_goals refine bodyPost_ret (v := .tuple #[.agg #[.slice none 0 0], .slice none 0 0, .agg #[.int .i64 F.1, .int .i64 F.2]]) (by simp [results, Try.results20, go_sem, d1, d2, d3]) rfl ⟨rfl, ?_⟩
  all_goals repeat (first | refine Below.drew ?_ | refine Below.setCell ?_ (by dsimp only; omega) _ | refine Below.alloc ?_ (by first | omega | (simp; omega)) _ | exact below3 hb1)

set_option maxHeartbeats 8000000 in
theorem collect_yes (W roots : List Int) (ad rad : Option Addr) (cap rcap : Nat) (w : World) (hr : WordsAt ad W w) (hroots : RootsAt rad roots w) (hrl : roots.length ≤ 5000) (h : (rootsOf W roots).1 = 0) (M : Moves W roots (stayP W roots)) :
    Calls Try.prog 20 #[heapV ad W.length cap, .slice rad roots.length rcap] w fun e w' => CollectAns (sweptW W roots) (sweptR W roots) w.heap.size e w' ∧ Below w.heap.size w w' := by
  have hs : Hid (∀ w0, WordsAt ad W w0 → RootsAt rad roots w0 → Calls Try.prog 34 #[heapV ad W.length cap, .slice rad roots.length rcap] w0 fun e w' => ViewAns W w0.heap.size e w' ∧ Below w0.heap.size w0 w') :=
    fun w0 h1 h2 => rsee_good W roots ad rad cap rcap w0 h1 h2 hrl h
  obtain ⟨i0, hi, hz0, hz1, hz2⟩ := info_parts info3
  have hu := M.fine.fit
  have hl := M.fine.few
  have h2 := M.two
  have HR : Hid (WordsAt ad W w) := hr
  have HO : Hid (RootsAt rad roots w) := hroots
  have hrefs : reachList W roots = refs (stayP W roots) := (stay_refs W roots).symm
  have HX : Hid (sweptW W roots = movedW W (stayP W roots) ∧ sweptR W roots = roots.map (turnP W (stayP W roots))) := ⟨rfl, rfl⟩
  have HF : Hid (∀ b cap bm rad rc w, IsView w b cap bm W → RootsAt rad roots w → Calls Try.prog 35 #[viewV b W.length cap bm, .slice rad roots.length rc] w fun e w' => OwnedAny w.heap.size (refs (stayP W roots)) e w' ∧ Below w.heap.size w w') := fun b cap bm rad rc w hv hr => by
    have := from_any W roots b cap bm rad rc w hv hr hu hl hrl
    rwa [hrefs] at this
  generalize stayP W roots = ps at *
  have hpp : ∀ p ∈ ps, p ∈ places W 2 := fun p hp => M.place hp
  have hpw := refs_wf (ps := ps) fun p hp => by have := (place_ge (hpp p hp)).2; omega
  have hpl' : ps.length ≤ 2000 := by have := M.count; have h3 := reach_length W roots; omega
  have hT := fun b cap bm Bm Bv mm => turning_turns W ps b cap bm Bm Bv mm hpp hl
  have HK : Hid (laidT (turnP W ps) W ps ps.length = sweptW W roots) := by rw [HX.out.1]; exact laidT_end (turnP W ps) W ps
  have hlen : ∀ i, (laidT (turnP W ps) W ps i).length ≤ 2000 := fun i => Nat.le_trans (laid_length M i) hl
  have HRel : Hid (∀ b cap bm Bm Bv mm sad sc w, TurnI W ps b cap bm Bm Bv mm w → RootsAt sad (refs ps) w → Calls Try.prog 37 #[viewV b W.length cap bm, .slice sad (refs ps).length sc, .func (.func 65) #[] #[.pointer (some ⟨Bm, 0, none⟩), .pointer (some ⟨Bv, 0, none⟩)]] w fun e w' => HeapAns (sweptW W roots) w.heap.size e w' ∧ Below w.heap.size w w') := fun b cap bm Bm Bv mm sad sc w hI hst => by
    have := relaid_any _ _ (turnP W ps) _ (hT b cap bm Bm Bv mm) W ps b cap bm sad sc w hI hI.view hst M.fine h2 hpp hpl' hlen
    rwa [HK.out] at this
  clear h hr hroots hrefs HK hlen
  go_enter Try.func20, Try.ntmps20
  go_wp2_with (first | (go_at_call 34; refine (hs.out _ (fun h => let ⟨b, off, e, r⟩ := HR.out h; ⟨b, off, e, ((r.alloc _).alloc _).alloc _⟩) (HO.out.below ((((Below.refl _ _).alloc (Nat.le_refl _) _).alloc (by simp) _).alloc (by simp; omega) _))).mono ?_; rintro e w1 ⟨⟨b, cap', bm, rfl, hv, hb, hbm, hne⟩, hb1⟩; have hz : w.heap.size + 1 + 1 < w1.heap.size := (sweepBoxes hb1).2.2; have HO1 : Hid (RootsAt rad roots w1) := HO.out.below (below3 hb1); have hv1 := (hv.alloc (.cells #[sl b W.length cap', .map (some bm)] 54)).alloc (.cells #[.int .i64 0, .int .i64 0] 29)) | (go_at_call 35; refine (HF.out b cap' bm rad rcap _ hv1 (HO1.out.below (((Below.refl _ _).alloc (Nat.le_refl _) _).alloc (by simp) _))).mono ?_; rintro e w2 ⟨⟨ad2, k2, rfl, hown2⟩, hb2⟩; have hv2 := hv1.same hb2; obtain ⟨vb0, vb1, _, _, hzz2⟩ := twos hb2; have hst2 := own_roots hown2 hpw) | (go_at_call 36; refine (turning_any W ps b cap' bm ad2 k2 _ hv2 hst2 M.once hpp hu h2 hl).mono ?_; rintro e w3 ⟨⟨Bm, Bv, mm, rfl, hI3⟩, hb3⟩; have hst3 := hst2.below hb3; have vc0 := through hb3 vb0 (by dsimp only; omega); have vc1 := through hb3 vb1 (by dsimp only; omega); have hb13 : Below w1.heap.size w1 w3 := ((below2 hb2).trans (hb3.mono (below2 hb2).size)); have HO3 : Hid (RootsAt rad roots w3) := HO1.out.below hb13) | (go_at_call 37; refine (HRel.out b cap' bm Bm Bv mm ad2 k2 _ hI3 hst3).mono ?_; rintro e w4 ⟨⟨g4, k4, rfl, hg4, hown4⟩, hb4⟩) | (go_at_call 38; refine (turnedAll_any _ _ (turnP W ps) _ (hT b cap' bm Bm Bv mm) roots rad rcap _ (hI3.below hb4) (HO3.out.below hb4) hrl).mono ?_; rintro e w5 ⟨⟨g5, k5, rfl, hg5, hown5⟩, hb5⟩; have hb35 : Below w3.heap.size w3 w5 := hb4.trans (hb5.mono hb4.size); have hb15 : Below w1.heap.size w1 w5 := hb13.trans (hb35.mono hb13.size); obtain ⟨⟨d1, d2, d3⟩, ⟨e1, e2, e3⟩, hz5⟩ := sweepBoxes (hb1.trans (hb15.mono hb1.size))))
  have hz4 := hb13.size
  have hz6 := hb4.size
  have hB05 : Below w.heap.size w w5 := (below3 hb1).trans (hb15.mono (below3 hb1).size)
  have hownK : w5.ownsRow 0 3 1 (sl g4 (sweptW W roots).length k4) (sweptW W roots).length (vals (sweptW W roots)) := own_same hown4 fun g' hg' => hb5.block g' (hown4.lt g' hg').2
  have hlR : (sweptR W roots).length = roots.length := by rw [HX.out.2, List.length_map]
  rw [List.length_map, ← HX.out.2] at hown5
  generalize sweptW W roots = K at *
  refine bodyPost_ret (v := .tuple #[.agg #[sl g4 K.length k4], sl g5 roots.length k5, .agg #[.int .i64 0, .int .i64 0]]) (by simp [results, Try.results20, go_sem, d1, d2, d3]) rfl ⟨⟨g4, k4, g5, k5, by rw [hlR], by omega, by omega, ?_, ?_⟩, ?_⟩
  · repeat (first | refine own_set' ?_ (by dsimp only; omega) _ | exact hownK)
  · rw [hlR]
    repeat (first | refine own_set' ?_ (by dsimp only; omega) _ | exact hown5)
  · repeat (first | refine Below.setCell ?_ (by dsimp only; omega) _ | exact hB05)
end Go.Proofs.Ytpapaadclkdbkaa
