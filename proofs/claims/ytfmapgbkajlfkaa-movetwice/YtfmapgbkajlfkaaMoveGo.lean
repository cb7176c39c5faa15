/- move.Collect: things move to a new heap, in the order in which they are come to. -/
import Derived.Test.YtfmapgbkajlfkaaMoveFrom
import Derived.Test.YtfmapgbkajlfkaaSeeRoots
import Derived.Test.YtfmapgbkajlfkaaMoveMore
import Derived.Deep.RegionHeld3
namespace Go.Proofs.Ytfmapgbkajlfkaa
open Go.RowKit

/-- What lies in a box of five cells, whatever is made behind it. -/
def Five (w : World) (B : Nat) (z0 z1 z2 z3 z4 : Value) : Prop :=
  (w.cell? ⟨B, 0, none⟩ = some z0 ∧ w.cell? ⟨B, 1, none⟩ = some z1 ∧ w.cell? ⟨B, 2, none⟩ = some z2 ∧ w.cell? ⟨B, 3, none⟩ = some z3 ∧ w.cell? ⟨B, 4, none⟩ = some z4) ∧
  (w.frozen? ⟨B, 0, none⟩ = false ∧ w.frozen? ⟨B, 1, none⟩ = false ∧ w.frozen? ⟨B, 2, none⟩ = false ∧ w.frozen? ⟨B, 3, none⟩ = false ∧ w.frozen? ⟨B, 4, none⟩ = false) ∧ B < w.heap.size
theorem Five.new (w : World) (z0 z1 z2 z3 z4 : Value) (t : TypeId) : Five (w.alloc (.cells #[z0, z1, z2, z3, z4] t)) w.heap.size z0 z1 z2 z3 z4 :=
  ⟨⟨by rw [cell_at2 rfl]; rfl, by rw [cell_at2 rfl]; rfl, by rw [cell_at2 rfl]; rfl, by rw [cell_at2 rfl]; rfl, by rw [cell_at2 rfl]; rfl⟩, ⟨by rw [frozen_at2 rfl], by rw [frozen_at2 rfl], by rw [frozen_at2 rfl], by rw [frozen_at2 rfl], by rw [frozen_at2 rfl]⟩, by simp⟩
theorem Five.below {w w' : World} {B : Nat} {z0 z1 z2 z3 z4 : Value} (h : Five w B z0 z1 z2 z3 z4) (hb : Below w.heap.size w w') : Five w' B z0 z1 z2 z3 z4 := by
  obtain ⟨⟨a0, a1, a2, a3, a4⟩, ⟨b0, b1, b2, b3, b4⟩, hB⟩ := h
  exact ⟨⟨through hb a0 hB, through hb a1 hB, through hb a2 hB, through hb a3 hB, through hb a4 hB⟩, ⟨throughF hb b0 hB, throughF hb b1 hB, throughF hb b2 hB, throughF hb b3 hB, throughF hb b4 hB⟩, by have := hb.size; omega⟩
theorem five1 {w w' : World} {z0 z1 z2 z3 z4 : Value} {t : TypeId} (hb : Below (w.alloc (.cells #[z0, z1, z2, z3, z4] t)).drew.heap.size (w.alloc (.cells #[z0, z1, z2, z3, z4] t)).drew w') : Five w' w.heap.size z0 z1 z2 z3 z4 := ((Five.new w z0 z1 z2 z3 z4 t).below (Below.refl _ _).drew).below hb
theorem five2 {w w' : World} {z0 z1 z2 z3 z4 : Value} {t : TypeId} {o : Obj} (hb : Below ((w.alloc (.cells #[z0, z1, z2, z3, z4] t)).alloc o).drew.heap.size ((w.alloc (.cells #[z0, z1, z2, z3, z4] t)).alloc o).drew w') : Five w' w.heap.size z0 z1 z2 z3 z4 := (((Five.new w z0 z1 z2 z3 z4 t).below ((Below.refl _ _).alloc (Nat.le_refl _) _)).below (Below.refl _ _).drew).below hb
theorem five3 {w w' : World} {z0 z1 z2 z3 z4 : Value} {t : TypeId} {o : Obj} (hb : Below ((w.alloc o).alloc (.cells #[z0, z1, z2, z3, z4] t)).drew.heap.size ((w.alloc o).alloc (.cells #[z0, z1, z2, z3, z4] t)).drew w') : Five w' (w.heap.size + 1) z0 z1 z2 z3 z4 := by
  have := ((Five.new (w.alloc o) z0 z1 z2 z3 z4 t).below (Below.refl _ _).drew).below hb
  simpa using this

/-- The five cells, stored. -/
abbrev set5 (w : World) (Q : Nat) (a0 a1 a2 a3 a4 : Value) : World := ((((w.setCell ⟨Q, 0, none⟩ a0).setCell ⟨Q, 1, none⟩ a1).setCell ⟨Q, 2, none⟩ a2).setCell ⟨Q, 3, none⟩ a3).setCell ⟨Q, 4, none⟩ a4
theorem Five.put {w : World} {Q : Nat} {z0 z1 z2 z3 z4 : Value} (h : Five w Q z0 z1 z2 z3 z4) (a0 a1 a2 a3 a4 : Value) : Five (set5 w Q a0 a1 a2 a3 a4) Q a0 a1 a2 a3 a4 := by
  obtain ⟨⟨c0, c1, c2, c3, c4⟩, ⟨b0, b1, b2, b3, b4⟩, hB⟩ := h
  have oth : ∀ (w : World) (i j : Nat) (v u : Value), i ≠ j → w.cell? ⟨Q, j, none⟩ = some u → (w.setCell ⟨Q, i, none⟩ v).cell? ⟨Q, j, none⟩ = some u := fun w i j v u hij hc => by
    rw [World.cell?_setCell_other _ _ _ _ (fun e => hij (by injection e))]; exact hc
  have own : ∀ (w : World) (i : Nat) (v u : Value), w.cell? ⟨Q, i, none⟩ = some u → (w.setCell ⟨Q, i, none⟩ v).cell? ⟨Q, i, none⟩ = some v := fun w i v u hc => World.cell?_setCell_same' _ _ _ (by rw [hc]; rfl)
  refine ⟨⟨?_, ?_, ?_, ?_, ?_⟩, ⟨?_, ?_, ?_, ?_, ?_⟩, by simpa [World.setCell] using hB⟩
  · exact oth _ _ _ _ _ (by decide) (oth _ _ _ _ _ (by decide) (oth _ _ _ _ _ (by decide) (oth _ _ _ _ _ (by decide) (own _ _ _ _ c0))))
  · exact oth _ _ _ _ _ (by decide) (oth _ _ _ _ _ (by decide) (oth _ _ _ _ _ (by decide) (own _ _ _ _ (oth _ _ _ _ _ (by decide) c1))))
  · exact oth _ _ _ _ _ (by decide) (oth _ _ _ _ _ (by decide) (own _ _ _ _ (oth _ _ _ _ _ (by decide) (oth _ _ _ _ _ (by decide) c2))))
  · exact oth _ _ _ _ _ (by decide) (own _ _ _ _ (oth _ _ _ _ _ (by decide) (oth _ _ _ _ _ (by decide) (oth _ _ _ _ _ (by decide) c3))))
  · exact own _ _ _ _ (oth _ _ _ _ _ (by decide) (oth _ _ _ _ _ (by decide) (oth _ _ _ _ _ (by decide) (oth _ _ _ _ _ (by decide) c4))))
  all_goals simp only [World.frozen?_setCell]; assumption
theorem below_put5 {w w' : World} {B Q : Nat} {a0 a1 a2 a3 a4 : Value} (h : Below B w w') (hQ : B ≤ Q) : Below B w (set5 w' Q a0 a1 a2 a3 a4) :=
  ((((h.setCell (p := ⟨Q, 0, none⟩) hQ _).setCell (p := ⟨Q, 1, none⟩) hQ _).setCell (p := ⟨Q, 2, none⟩) hQ _).setCell (p := ⟨Q, 3, none⟩) hQ _).setCell (p := ⟨Q, 4, none⟩) hQ _
theorem IntMap.put5 {w : World} {mm top Q : Nat} {F : Int → Option Int} {a0 a1 a2 a3 a4 : Value} (h : IntMap w mm top F) (hne : mm ≠ Q) : IntMap (set5 w Q a0 a1 a2 a3 a4) mm top F := by
  refine h.block ?_
  unfold set5
  rw [Below.heap_setCell _ _ _ _ hne, Below.heap_setCell _ _ _ _ hne, Below.heap_setCell _ _ _ _ hne, Below.heap_setCell _ _ _ _ hne, Below.heap_setCell _ _ _ _ hne]
theorem mover_new {W : List Int} {b cap bm mm Q : Nat} {w2 wx : World} (hv : IsView w2 b cap bm W) (hB : Below w2.heap.size w2 wx) (h5 : Five wx Q (sl b W.length cap) (.map (some bm)) (.map (some mm)) (.slice none 0 0) (.int .i64 2)) (hm : IntMap wx mm 0 (fun _ => none)) (lm : w2.heap.size ≤ mm) (lq : w2.heap.size ≤ Q) (ne : mm ≠ Q) :
    MoverP W b cap bm mm Q w2.heap.size wx.heap.size 0 (fun _ => none) [] (.slice none 0 0) 2 wx := by
  obtain ⟨⟨c0, c1, c2, c3, c4⟩, ⟨_, _, _, b3, b4⟩, hQ⟩ := h5
  exact ⟨hv.same hB, hv.lt, hv.begun.lt, lm, lq, ne, hm.lt, hQ, Nat.le_refl _, c0, c1, c2, c3, c4, b3, b4, hm, World.ownsRow_nil _ _ _ _⟩
theorem IntMap.same {w w' : World} {mm top : Nat} {F : Int → Option Int} (h : IntMap w mm top F) (hb : Below w.heap.size w w') : IntMap w' mm top F := h.below hb h.lt
theorem map_first {w w' : World} {o : Obj} (hb : Below ((w.alloc (.map #[] 0)).alloc o).drew.heap.size ((w.alloc (.map #[] 0)).alloc o).drew w') : IntMap w' w.heap.size 0 (fun _ => none) :=
  (((IntMap.new w).same ((Below.refl _ _).alloc (Nat.le_refl _) _)).same (Below.refl _ _).drew).same hb
theorem map_second {w w' : World} {o : Obj} (hb : Below ((w.alloc o).alloc (.map #[] 0)).drew.heap.size ((w.alloc o).alloc (.map #[] 0)).drew w') : IntMap w' (w.heap.size + 1) 0 (fun _ => none) := by
  have := ((IntMap.new (w.alloc o)).same (Below.refl _ _).drew).same hb
  simpa using this
theorem map_only {w w' : World} (hb : Below (w.alloc (.map #[] 0)).drew.heap.size (w.alloc (.map #[] 0)).drew w') : IntMap w' w.heap.size 0 (fun _ => none) :=
  ((IntMap.new w).same (Below.refl _ _).drew).same hb

/-- What moveFrom does, for who goes on with it. -/
theorem moveFrom_fix (W roots : List Int) (b cap bm mm Q L N : Nat) (rad : Option Addr) (rc : Nat) (w : World) (hC0 : Mover W b cap bm mm Q L N [] (.slice none 0 0) w)
    (hroots : 0 < roots.length → ∃ rb ro, rad = some ⟨rb, ro, none⟩ ∧ Row w rb ro roots ∧ rb < L) (hu : unfit W 2 = none) (h2 : 2 ≤ W.length) (hl : W.length ≤ 2000) (hrl : roots.length ≤ 5000) :
    Calls Try.prog 18 #[.pointer (some ⟨Q, 0, none⟩), .slice rad roots.length rc] w fun e w' => e = .returned (.tuple #[]) ∧ (∃ fa fc, (w'.cell? ⟨Q, 0, none⟩ = some (sl b W.length cap) ∧ w'.cell? ⟨Q, 1, none⟩ = some (.map (some bm)) ∧ w'.cell? ⟨Q, 3, none⟩ = some (.slice fa (bfsF W roots).length fc)) ∧ Hid (AnewI W ((bfsF W roots).map pl2) b cap bm mm Q w') ∧ Hid (RootsAt fa (refs ((bfsF W roots).map pl2)) w') ∧ Q < w'.heap.size) ∧ Below L w w' := by
  refine (moveFrom_any W roots b cap bm mm Q L N rad rc w hC0 hroots hu h2 hl hrl).mono ?_
  rintro e w' ⟨rfl, ⟨f, vf, hBf, hF, hC⟩, hB⟩
  have ef := hBf.last (bfsF_is W roots)
  subst ef
  have hC' : MoverP _ _ _ _ _ _ _ _ _ _ _ _ _ _ := hC
  obtain ⟨fa, fc, rfl⟩ := own_form hC'.own
  refine ⟨rfl, ⟨fa, fc, ⟨hC'.q0, hC'.q1, hC'.q3⟩, ⟨hC'.q0, hC'.q1, hC'.q2, ?_, hC'.view⟩, ?_, by have := hC'.nq; have := hC'.size; omega⟩, hB⟩
  · have := hC'.map; rwa [List.length_map]
  · have hw := refs_wf (ps := (bfsF W roots).map pl2) fun p hp => by have := (place_ge (hF.place p hp)).2; omega
    rw [hF.refs] at hw
    show RootsAt fa (refs ((bfsF W roots).map pl2)) w'
    rw [hF.refs]
    exact own_roots hC'.own hw

set_option maxHeartbeats 2000000 in
theorem mcollect_no (W roots : List Int) (ad rad : Option Addr) (cap rcap : Nat) (w : World) (hm : W.length ≤ maxLen) (hr : WordsAt ad W w) (hroots : RootsAt rad roots w) (hrl : roots.length ≤ 5000) (h : (rootsOf W roots).1 ≠ 0) :
    Calls Try.prog 7 #[heapV ad W.length cap, .slice rad roots.length rcap] w fun e w' => e = .returned (.tuple #[.agg #[.slice none 0 0], .slice none 0 0, .agg #[.int .i64 (rootsOf W roots).1, .int .i64 (rootsOf W roots).2]]) ∧ Below w.heap.size w w' := by
  have hs : Hid (∀ w0, WordsAt ad W w0 → RootsAt rad roots w0 → Calls Try.prog 16 #[heapV ad W.length cap, .slice rad roots.length rcap] w0 fun e w' => e = .returned (.tuple #[noView, .agg #[.int .i64 (rootsOf W roots).1, .int .i64 (rootsOf W roots).2]]) ∧ Below w0.heap.size w0 w') :=
    fun w0 h1 h2 => rsee_bad W roots ad rad cap rcap w0 hm h1 h2 hrl h
  have HR : Hid (WordsAt ad W w) := hr
  have HO : Hid (RootsAt rad roots w) := hroots
  generalize rootsOf W roots = F at *
  have hb : (F.1 != 0) = true := by simpa using h
  clear h hr hroots
  go_enter Try.func7, Try.ntmps7
  go_wp2_with (go_at_call 16; refine (hs.out _ (fun h => let ⟨b, off, e, r⟩ := HR.out h; ⟨b, off, e, ((r.alloc _).alloc _).alloc _⟩) (HO.out.below ((((Below.refl _ _).alloc (Nat.le_refl _) _).alloc (by simp) _).alloc (by simp; omega) _))).mono ?_; rintro e w1 ⟨rfl, hb1⟩; obtain ⟨⟨c1, c2, c3⟩, ⟨f1, f2, f3⟩, hz⟩ := sweepBoxes hb1; have hz0 : w.heap.size + 1 < w1.heap.size := (by omega); obtain ⟨⟨d1, d2, d3⟩, ⟨g1, g2, g3⟩, hz'⟩ := sweepBoxes ((hb1.alloc (by simp; omega) (Obj.cells #[Value.slice none 0 0, Value.map none] 40)).alloc (by simp; omega) (Obj.cells #[Value.int IntKind.i64 F.1, Value.int IntKind.i64 F.2] 28)))
  go_region
  all_goals go_wp2_with fail
  all_goals refine bodyPost_ret (v := .tuple #[.agg #[.slice none 0 0], .slice none 0 0, .agg #[.int .i64 F.1, .int .i64 F.2]]) (by simp [results, Try.results7, go_sem, d1, d2, d3]) rfl ⟨rfl, ?_⟩
  all_goals repeat (first | refine Below.drew ?_ | refine Below.setCell ?_ (by dsimp only; omega) _ | refine Below.alloc ?_ (by first | omega | (simp; omega)) _ | exact below3 hb1)

set_option maxRecDepth 20000 in
set_option maxHeartbeats 8000000 in
theorem mcollect_own (W roots : List Int) (ad rad : Option Addr) (cap rcap : Nat) (w : World) (hr : WordsAt ad W w) (hroots : RootsAt rad roots w) (hrl : roots.length ≤ 5000) (h : (rootsOf W roots).1 = 0) :
    Calls Try.prog 7 #[heapV ad W.length cap, .slice rad roots.length rcap] w fun e w' => CollectAns (mvW W roots) (mvR W roots) w.heap.size e w' ∧ Below w.heap.size w w' := by
  have hs : Hid (∀ w0, WordsAt ad W w0 → RootsAt rad roots w0 → Calls Try.prog 16 #[heapV ad W.length cap, .slice rad roots.length rcap] w0 fun e w' => ViewAns W w0.heap.size e w' ∧ Below w0.heap.size w0 w') :=
    fun w0 h1 h2 => rsee_good W roots ad rad cap rcap w0 h1 h2 hrl h
  obtain ⟨hc, _, _⟩ := roots_zero h
  have M := mv_moves hc (ok_rootsOf h)
  obtain ⟨i0, hi, hz0, hz1, hz2⟩ := info_parts info3
  have hu := M.fine.fit
  have hl := M.fine.few
  have h2 := M.two
  have hmm := @run_makeMap Try.prog
  have HR : Hid (WordsAt ad W w) := hr
  have HO : Hid (RootsAt rad roots w) := hroots
  have HM : Hid (Moves W roots ((bfsF W roots).map pl2)) := M
  clear h hr hroots hc M
  go_enter Try.func7, Try.ntmps7
  go_upto_region 4 with (go_at_call 16; refine (hs.out _ (fun h => let ⟨b, off, e, r⟩ := HR.out h; ⟨b, off, e, ((r.alloc _).alloc _).alloc _⟩) (HO.out.below ((((Below.refl _ _).alloc (Nat.le_refl _) _).alloc (by simp) _).alloc (by simp; omega) _))).mono ?_; rintro e w1 ⟨⟨b, cap', bm, rfl, hv, hb, hbm, hne⟩, hb1⟩; have hz : w.heap.size + 1 + 1 < w1.heap.size := (sweepBoxes hb1).2.2; have HO1 : Hid (RootsAt rad roots w1) := HO.out.below (below3 hb1); have hv1 := (hv.alloc (.cells #[sl b W.length cap', .map (some bm)] 40)).alloc (.cells #[.int .i64 0, .int .i64 0] 28))
  obtain ⟨w2, hw2⟩ : ∃ w2, w2 = ((w1.alloc (.cells #[sl b W.length cap', .map (some bm)] 40)).alloc (.cells #[.int .i64 0, .int .i64 0] 28)) := ⟨_, rfl⟩
  have hb12 : Below w1.heap.size w1 w2 := by rw [hw2]; exact ((Below.refl _ _).alloc (Nat.le_refl _) _).alloc (by simp) _
  obtain ⟨v0, v1, _, _, hz2'⟩ : w2.cell? ⟨w1.heap.size, 0, none⟩ = some (sl b W.length cap') ∧ w2.cell? ⟨w1.heap.size, 1, none⟩ = some (.map (some bm)) ∧ w2.cell? ⟨w1.heap.size + 1, 0, none⟩ = some (.int .i64 0) ∧ w2.cell? ⟨w1.heap.size + 1, 1, none⟩ = some (.int .i64 0) ∧ w1.heap.size + 1 < w2.heap.size := by rw [hw2]; exact twos (Below.refl _ _)
  rw [← hw2] at hv1 ⊢
  have hz21 : w1.heap.size < w2.heap.size := by omega
  have hlb := hv1.lt
  have hlbm := hv1.begun.lt
  clear hw2 hv
  go_cut [9] from 21 to 26 (fun s9 wx => ∃ Q mm, s9 = .pointer (some ⟨Q, 0, none⟩) ∧ Hid (MoverP W b cap' bm mm Q w2.heap.size wx.heap.size 0 (fun _ => none) [] (.slice none 0 0) 2 wx) ∧ Below w2.heap.size w2 wx)
  case first =>
    have n1 : ¬ w1.heap.size = w2.heap.size := by omega
    have n2 : ¬ w2.heap.size = w1.heap.size := by omega
    have n3 : ¬ w1.heap.size = w2.heap.size + 1 := by omega
    have n4 : ¬ w2.heap.size + 1 = w1.heap.size := by omega
    go_region_held3 (fun w' => w'.cell? ⟨w1.heap.size, 0, none⟩ = some (sl b W.length cap') ∧ w'.cell? ⟨w1.heap.size, 1, none⟩ = some (.map (some bm))) (go_keep) (first | (go_at_call 17; refine (vfront_any W b cap' bm _ (hv1.same (by first | exact (Below.refl _ _).drew | exact ((Below.refl _ _).alloc (Nat.le_refl _) _).drew | exact (Below.refl _ _).drew.alloc (Nat.le_refl _) _ | exact (((Below.refl _ _).alloc (Nat.le_refl _) _).alloc (by simp) _).drew)) h2 hl).mono ?_; rintro e w3 ⟨⟨g3, k3, rfl, hg3, hown3⟩, hb3⟩; clear hg3 hown3; have hb23 : Below w2.heap.size w2 w3 := (by first | exact (Below.refl _ _).drew.trans (hb3.mono (by simp)) | exact ((Below.refl _ _).alloc (Nat.le_refl _) _).drew.trans (hb3.mono (by simp)) | exact (((Below.refl _ _).alloc (Nat.le_refl _) _).alloc (by simp) _).drew.trans (hb3.mono (by simp; omega))); have u0 := through hb23 v0 hz21; have u1 := through hb23 v1 hz21; have u2 : w1.heap.size < w3.heap.size := (Nat.lt_of_lt_of_le hz21 hb23.size); have n5 : ¬ w1.heap.size = w3.heap.size := (by omega); have n6 : ¬ w3.heap.size = w1.heap.size := (by omega); have n7 : ¬ w1.heap.size = w3.heap.size + 1 := (by omega); have n8 : ¬ w3.heap.size + 1 = w1.heap.size := (by omega); (try (have q5 := five1 hb3; obtain ⟨⟨x0, x1, x2, x3, x4⟩, ⟨y0, y1, y2, y3, y4⟩, hzz⟩ := q5)); (try (have q5 := five2 hb3; obtain ⟨⟨x0, x1, x2, x3, x4⟩, ⟨y0, y1, y2, y3, y4⟩, hzz⟩ := q5)); (try (have q5 := five3 hb3; obtain ⟨⟨x0, x1, x2, x3, x4⟩, ⟨y0, y1, y2, y3, y4⟩, hzz⟩ := q5))))
    all_goals have z3 := hb23.size
    · go_wp2_with fail
      go_meet
      case rel => exact ⟨w3.heap.size, w2.heap.size, rfl, mover_new hv1 (hb23.alloc hb23.size _) (Five.new _ _ _ _ _ _ _) ((map_only hb3).same ((Below.refl _ _).alloc (Nat.le_refl _) _)) (Nat.le_refl _) z3 (by have := (map_only hb3).lt; omega), hb23.alloc hb23.size _⟩
    · go_wp2_with fail
      go_meet
      case rel => exact ⟨w2.heap.size + 1, w2.heap.size, rfl, mover_new hv1 (below_put5 hb23 (by omega)) ((five3 hb3).put _ _ _ _ _) ((map_first hb3).put5 (by omega)) (Nat.le_refl _) (by omega) (by omega), below_put5 hb23 (by omega)⟩
    · go_wp2_with fail
      go_meet
      case rel =>
        have hA : Below w2.heap.size w2 (w3.alloc (.map #[] 0)) := hb23.alloc hb23.size _
        have h5 := Five.new (w3.alloc (.map #[] 0)) (sl b W.length cap') (.map (some bm)) (.map (some w3.heap.size)) (.slice none 0 0) (.int .i64 2) 45
        simp only [World.size_alloc] at h5
        exact ⟨w3.heap.size + 1, w3.heap.size, rfl, mover_new hv1 (hA.alloc hA.size _) h5 ((IntMap.new w3).same ((Below.refl _ _).alloc (Nat.le_refl _) _)) z3 (by omega) (by omega), hA.alloc hA.size _⟩
    · go_wp2_with fail
      go_meet
      case rel =>
        have hA : Below w2.heap.size w2 (w3.alloc (.cells #[sl b W.length cap', .map (some bm), .map (some (w3.heap.size + 1)), .slice none 0 0, .int .i64 2] 45)) := hb23.alloc hb23.size _
        have hm5 := IntMap.new (w3.alloc (.cells #[sl b W.length cap', .map (some bm), .map (some (w3.heap.size + 1)), .slice none 0 0, .int .i64 2] 45))
        simp only [World.size_alloc] at hm5
        exact ⟨w3.heap.size, w3.heap.size + 1, rfl, mover_new hv1 (hA.alloc hA.size _) ((Five.new w3 _ _ _ _ _ _).below ((Below.refl _ _).alloc (Nat.le_refl _) _)) hm5 (by omega) z3 (by omega), hA.alloc hA.size _⟩
    · go_wp2_with fail
      go_meet
      case rel => exact ⟨w2.heap.size, w2.heap.size + 1, rfl, mover_new hv1 (below_put5 hb23 (Nat.le_refl _)) ((five2 hb3).put _ _ _ _ _) ((map_second hb3).put5 (by omega)) (by omega) (Nat.le_refl _) (by omega), below_put5 hb23 (Nat.le_refl _)⟩
    · go_wp2_with fail
      go_meet
      case rel =>
        have hA := below_put5 (a0 := sl b W.length cap') (a1 := .map (some bm)) (a2 := .map (some w3.heap.size)) (a3 := .slice none 0 0) (a4 := .int .i64 2) hb23 (Nat.le_refl _)
        have h5 := ((five1 hb3).put (sl b W.length cap') (.map (some bm)) (.map (some w3.heap.size)) (.slice none 0 0) (.int .i64 2)).below ((Below.refl _ _).alloc (Nat.le_refl _) (.map #[] 0))
        have hm5 := IntMap.new (set5 w3 w2.heap.size (sl b W.length cap') (.map (some bm)) (.map (some w3.heap.size)) (.slice none 0 0) (.int .i64 2))
        have hz5 : (set5 w3 w2.heap.size (sl b W.length cap') (.map (some bm)) (.map (some w3.heap.size)) (.slice none 0 0) (.int .i64 2)).heap.size = w3.heap.size := by simp [World.setCell]
        rw [hz5] at hm5
        exact ⟨w2.heap.size, w3.heap.size, rfl, mover_new hv1 (hA.alloc hA.size _) h5 hm5 z3 (Nat.le_refl _) (by have := (five1 hb3).2.2; omega), hA.alloc hA.size _⟩
  case rest =>
    obtain ⟨Q, mm, rfl, HC2, hb2x⟩ := hcut
    have HR2 : Hid (0 < roots.length → ∃ rb ro, rad = some ⟨rb, ro, none⟩ ∧ Row wc rb ro roots ∧ rb < w2.heap.size) := fun h0 => by
      obtain ⟨rb, ro, e, hrow⟩ := HO1.out h0
      have hlt := hrow.lt
      exact ⟨rb, ro, e, (hrow.same hb12).same hb2x, by omega⟩
    have hb0c : Below w.heap.size w wc := (below3 hb1).trans ((hb12.trans (hb2x.mono hb12.size)).mono (below3 hb1).size)
    obtain ⟨⟨r1, r2, r3⟩, ⟨s1, s2, s3⟩, hzr⟩ := sweepBoxes hb1
    have hbz : Below w1.heap.size w1 wc := hb12.trans (hb2x.mono hb12.size)
    have r1c := through hbz r1 (by dsimp only; omega)
    have r2c := through hbz r2 (by dsimp only; omega)
    have r3c := through hbz r3 (by dsimp only; omega)
    have s1c := throughF hbz s1 (by dsimp only; omega)
    have s2c := throughF hbz s2 (by dsimp only; omega)
    have s3c := throughF hbz s3 (by dsimp only; omega)
    clear r1 r2 r3 s1 s2 s3
    have hrefl : (refs ((bfsF W roots).map pl2)).length = (bfsF W roots).length := by unfold refs; rw [List.length_map, List.length_map]
    have hpp : ∀ p ∈ (bfsF W roots).map pl2, p ∈ places W 2 := fun p hp => HM.out.place hp
    have hT := anew_turns W ((bfsF W roots).map pl2) b cap' bm mm Q hpp hl
    have hpl' : ((bfsF W roots).map pl2).length ≤ 2000 := by have := HM.out.count; have h3 := reach_length W roots; omega
    have hlen : ∀ i, (laidT (turnP W ((bfsF W roots).map pl2)) W ((bfsF W roots).map pl2) i).length ≤ 2000 := fun i => Nat.le_trans (laid_length HM.out i) hl
    have HRel : Hid (∀ sad sc w, AnewI W ((bfsF W roots).map pl2) b cap' bm mm Q w → RootsAt sad (refs ((bfsF W roots).map pl2)) w → Calls Try.prog 19 #[viewV b W.length cap' bm, .slice sad (bfsF W roots).length sc, .func (.func 20) #[.pointer (some ⟨Q, 0, none⟩)] #[]] w fun e w' => HeapAns (mvW W roots) w.heap.size e w' ∧ Below w.heap.size w w') := fun sad sc w hI hst => by
      have := relaidB_any _ _ _ (turnP W ((bfsF W roots).map pl2)) _ hT W ((bfsF W roots).map pl2) b cap' bm sad sc w hI hI.view hst HM.out.fine h2 hpp hpl' hlen
      rw [laidT_end, hrefl] at this
      exact this
    have HTA : Hid (∀ w, AnewI W ((bfsF W roots).map pl2) b cap' bm mm Q w → RootsAt rad roots w → Calls Try.prog 21 #[.slice rad roots.length rcap, .func (.func 20) #[.pointer (some ⟨Q, 0, none⟩)] #[]] w fun e w' => Owned w.heap.size (mvR W roots) e w' ∧ Below w.heap.size w w') := fun w hI hst => turnedAllB_any _ _ _ (turnP W ((bfsF W roots).map pl2)) _ hT roots rad rcap w hI hst hrl
    have HFr : Hid (∀ w', Below w2.heap.size wc w' → RootsAt rad roots w') := fun w' hb h0 => by
      obtain ⟨rb, ro, e, hrow, hlt⟩ := HR2.out h0
      exact ⟨rb, ro, e, hrow.below hb hlt⟩
    clear hT hlen hpp hpl' hrefl
    go_wp2_with (first | (go_at_call 18; refine (moveFrom_fix W roots b cap' bm mm Q w2.heap.size wc.heap.size rad rcap _ HC2.out HR2.out hu h2 hl hrl).mono ?_; rintro e w4 ⟨rfl, ⟨fa, fc, ⟨q0, q1, q3⟩, hI4, hst4, hq4⟩, hB4⟩; have hz24 : w2.heap.size ≤ w4.heap.size := (by have := hB4.size; have := hb2x.size; omega)) | (go_at_call 19; refine (HRel.out fa fc _ hI4.out hst4.out).mono ?_; rintro e w5 ⟨⟨g5, k5, rfl, hg5, hown5⟩, hb5⟩) | (go_at_call 21; refine (HTA.out _ (hI4.out.below hb5) (HFr.out _ (hB4.trans (hb5.mono (by omega))))).mono ?_; rintro e w6 ⟨⟨g6, k6, rfl, hg6, hown6⟩, hb6⟩; have hbc6 : Below w2.heap.size wc w6 := (hB4.trans (hb5.mono (by omega))).trans (hb6.mono (by have := hb5.size; omega)); have d1 := through hbc6 r1c (by dsimp only; omega); have d2 := through hbc6 r2c (by dsimp only; omega); have d3 := through hbc6 r3c (by dsimp only; omega); have e1 := throughF hbc6 s1c (by dsimp only; omega); have e2 := throughF hbc6 s2c (by dsimp only; omega); have e3 := throughF hbc6 s3c (by dsimp only; omega); have hz6 : w.heap.size + 1 + 1 < w6.heap.size := (by have := hbc6.size; have := hb2x.size; omega)))
    have hb06 : Below w.heap.size w w6 := hb0c.trans (hbc6.mono (by omega))
    have hz4 : w.heap.size + 1 + 1 < w4.heap.size := by have := hB4.size; have := hb2x.size; omega
    have hz5 := hb5.size
    have hownK : w6.ownsRow 0 3 1 (sl g5 (mvW W roots).length k5) (mvW W roots).length (vals (mvW W roots)) := own_same hown5 fun g' hg' => hb6.block g' (hown5.lt g' hg').2
    generalize mvW W roots = K at *
    generalize mvR W roots = L at *
    refine bodyPost_ret (v := .tuple #[.agg #[sl g5 K.length k5], sl g6 L.length k6, .agg #[.int .i64 0, .int .i64 0]]) (by simp [results, Try.results7, go_sem, d1, d2, d3]) rfl ⟨⟨g5, k5, g6, k6, rfl, by omega, by omega, ?_, ?_⟩, ?_⟩
    · repeat (first | refine own_set' ?_ (by dsimp only; omega) _ | exact hownK)
    · repeat (first | refine own_set' ?_ (by dsimp only; omega) _ | exact hown6)
    · repeat (first | refine Below.setCell ?_ (by dsimp only; omega) _ | exact hb06)
theorem all_wf {xs : List Int} {rad : Option Addr} {w : World} (h : RootsAt rad xs w) : AllWf xs := by
  by_cases h0 : 0 < xs.length
  · obtain ⟨b, off, _, hrow⟩ := h h0; exact hrow.wf
  · have e0 : xs = [] := List.eq_nil_of_length_eq_zero (by omega)
    subst e0; exact wf_mk (by simp)
theorem mcollect_yes (W roots : List Int) (ad rad : Option Addr) (cap rcap : Nat) (w : World) (hr : WordsAt ad W w) (hroots : RootsAt rad roots w) (hrl : roots.length ≤ 5000) (h : (rootsOf W roots).1 = 0) (_hcp : W.length ≤ cap) :
    Calls Try.prog 7 #[heapV ad W.length cap, .slice rad roots.length rcap] w fun e w' => MvAns (mvW W roots) (mvR W roots) e w' ∧ Below w.heap.size w w' := by
  obtain ⟨hc, _, _⟩ := roots_zero h
  have M := mv_moves hc (ok_rootsOf h)
  have hwfW : AllWf W := by obtain ⟨b, off, _, hrow⟩ := hr M.two; exact hrow.wf
  refine (mcollect_own W roots ad rad cap rcap w hr hroots hrl h).mono fun e w' hp => ⟨?_, hp.2⟩
  obtain ⟨g, c, g', c', rfl, _, _, hK, hL⟩ := hp.1
  exact ⟨some ⟨g, 0, none⟩, c, some ⟨g', 0, none⟩, c', rfl, fun _ => ⟨g, 0, rfl, own_reads hK (M.wf hwfW)⟩, fun _ => ⟨g', 0, rfl, own_reads hL (M.wf_roots (all_wf hroots))⟩⟩
end Go.Proofs.Ytfmapgbkajlfkaa
