/- SweepTwice holds for every heap and all roots that can come in, with no condition: what was collected once stays as it is, and is alike to what was there. -/
import Derived.Test.YtpapaadclkdbkaaLawKit
import Derived.Test.YtpapaadclkdbkaaSweep
import Derived.Test.YtpapaadclkdbkaaMoveMore
import Derived.Test.YtpapaadclkdbkaaKeepInts
import Derived.Test.YtpapaadclkdbkaaAlikeGo
namespace Go.Proofs.Ytpapaadclkdbkaa.sweepTwice
open Go.ChangeShapes Go.WideShapes Go.ChangeAt Go.RowKit Go.Joins Go.Deep

/-! The document's example. -/
abbrev W0 : List Int := [0, 3, 0, 1, 0, 0, 2, 4, 0]
theorem unfit0 : unfit W0 2 = none := by
  rw [unfit_in (by decide) (by decide), show nextAt W0 2 = 5 by decide, unfit_in (by decide) (by decide), show nextAt W0 5 = 9 by decide, unfit_end (by decide)]
theorem places0 : places W0 2 = [2, 5] := by
  rw [places_in (by decide), show nextAt W0 2 = 5 by decide, places_in (by decide), show nextAt W0 5 = 9 by decide, places_end (by decide)]
theorem check0 : checkOf W0 = (0, 0) := by
  rw [check_things (by decide) unfit0, places0]; decide
theorem thing10 : thingB W0 10 = true := by unfold thingB beginB; rw [places0]; decide
theorem ok10 : ∀ x ∈ [(10 : Int)], okRef W0 x := fun x hx => by
  rw [List.mem_singleton] at hx; subst hx
  unfold okRef nilB; rw [thing10]; decide
theorem moves0 : Moves W0 [10] (stayP W0 [10]) := stay_moves (by rw [check0]) ok10
theorem reached0 {o : Int} : Reached W0 [10] o ↔ o = 10 := by
  constructor
  · intro h
    induction h with
    | root ho _ => exact List.mem_singleton.1 ho
    | @step x o _ ho ht ih =>
      subst ih
      have e : leadsAt W0 ((10 : Int) / 2).toNat = [0, 0] := by decide
      rw [e] at ho
      have : o = 0 := by simpa using ho
      subst this
      rw [thing_zero] at ht; cases ht
  · rintro rfl; exact .root (List.mem_singleton_self _) thing10
theorem stay0 : stayP W0 [10] = [5] := by
  refine rising_same (stay_rises _ _) (List.pairwise_singleton _ _) fun p => ?_
  rw [mem_stay, reached0, List.mem_singleton]; omega
theorem roots0 : (rootsOf W0 [10]).1 = 0 := by rw [rootsOf_ok (by rw [check0]) ok10]
theorem len0 : (sweptW W0 [10]).length = 6 := by
  show (movedW W0 (stayP W0 [10])).length = 6
  rw [moves0.length, stay0]; decide
theorem new0 : sweptR W0 [10] = [4] := by
  unfold sweptR; rw [stay0]
  show [turnP W0 [5] 10] = [4]
  unfold turnP; rw [if_pos thing10]; decide

theorem boxes12f {w w' : World} {x y z : Value} {t t' : TypeId} (hb : Below ((w.alloc (.cells #[x] t)).alloc (.cells #[y, z] t')).heap.size ((w.alloc (.cells #[x] t)).alloc (.cells #[y, z] t')) w') :
    w'.frozen? ⟨w.heap.size, 0, none⟩ = false ∧ w'.frozen? ⟨w.heap.size + 1, 0, none⟩ = false ∧ w'.frozen? ⟨w.heap.size + 1, 1, none⟩ = false := by
  refine ⟨?_, ?_, ?_⟩
  · rw [hb.frozen (p := ⟨w.heap.size, 0, none⟩) (by simp; omega), frozen_past _ (by simp), frozen_at2 rfl]
  · rw [hb.frozen (p := ⟨w.heap.size + 1, 0, none⟩) (by simp), frozen_at2 (by simp)]
  · rw [hb.frozen (p := ⟨w.heap.size + 1, 1, none⟩) (by simp), frozen_at2 (by simp)]

theorem row_lit9 (w : World) (o : Obj) : Row (((w.alloc o).alloc (.cells #[.int .i64 0, .int .i64 3, .int .i64 0, .int .i64 1, .int .i64 0, .int .i64 0, .int .i64 2, .int .i64 4, .int .i64 0] 3)).alloc (.cells #[.int .i64 10] 3)) (w.heap.size + 1) 0 W0 := by
  refine ⟨by simp, fun k hk => ?_, fun k => ?_⟩
  · have hk9 : k < 9 := hk
    rw [cell_past _ (by simp), cell_at2 (by simp), Nat.zero_add]
    match k, hk9 with
    | 0, _ => rfl
    | 1, _ => rfl
    | 2, _ => rfl
    | 3, _ => rfl
    | 4, _ => rfl
    | 5, _ => rfl
    | 6, _ => rfl
    | 7, _ => rfl
    | 8, _ => rfl
  · exact wf_mk (xs := W0) (by decide) k
theorem row_lit1 (w : World) (o o' : Obj) : RootsAt (some ⟨w.heap.size + 1 + 1, 0, none⟩) [10] (((w.alloc o).alloc o').alloc (.cells #[.int .i64 10] 3)) := fun _ => by
  refine ⟨w.heap.size + 1 + 1, 0, rfl, by simp, fun k hk => ?_, fun k => wf_mk (xs := [10]) (by decide) k⟩
  have hk1 : k < 1 := hk
  rw [cell_at2 (by simp), Nat.zero_add]
  match k, hk1 with
  | 0, _ => rfl

/-- What Collect answers of the example. -/
def Col0 (e : Ending) (w : World) : Prop := ∃ g c g' c', e = .returned (.tuple #[.agg #[sl g 6 c], sl g' 1 c', .agg #[.int .i64 0, .int .i64 0]]) ∧ w.cell? ⟨g', 0, none⟩ = some (.int .i64 4) ∧ g' < w.heap.size
theorem collect0 (b b' : Nat) (w : World) (h1 : Row w b 0 W0) (h2 : RootsAt (some ⟨b', 0, none⟩) [10] w) :
    Calls Try.prog 20 #[heapV (some ⟨b, 0, none⟩) 9 9, .slice (some ⟨b', 0, none⟩) 1 1] w fun e w' => Col0 e w' ∧ Below w.heap.size w w' := by
  refine (collect_yes W0 [10] (some ⟨b, 0, none⟩) (some ⟨b', 0, none⟩) 9 1 w (fun _ => ⟨b, 0, rfl, h1⟩) h2 (by decide) roots0 moves0).mono fun e w' hp => ⟨?_, hp.2⟩
  obtain ⟨g, c, g', c', he, _, _, _, hL⟩ := hp.1
  rw [new0] at he hL
  rw [len0] at he
  exact ⟨g, c, g', c', he, own_cell (W := [4]) hL (by decide), own_lt hL⟩

set_option maxHeartbeats 4000000 in
theorem big (ad rad : Option Addr) (n cap rn rc : Nat) (w : World) (hm : n ≤ maxLen) (hrm : rn ≤ maxLen) (h : 5000 < n ∨ 5000 < rn) :
    Calls Try.prog 8 #[.agg #[.slice ad n cap], .slice rad rn rc] w fun e w' => e = .returned (.bool true) ∧ Below w.heap.size w w' := by
  go_enter Try.func8, Try.ntmps8
  go_wp2_with (first | (go_at_call 20; refine (collect0 _ _ _ (row_lit9 _ _) (row_lit1 _ _ _)).mono ?_; rintro e w1 ⟨⟨g, c, g', c', rfl, hcl, hgl⟩, hb1⟩; have kk : w1.cell? ⟨w.heap.size, 0, none⟩ = some (.slice ad n cap) := (by rw [hb1.cell (p := ⟨w.heap.size, 0, none⟩) (by simp; omega), cell_past _ (by simp; omega), cell_past _ (by simp), cell_at2 rfl]; rfl); have zz : w.heap.size < w1.heap.size := (by have := hb1.size; simp at this; omega)) | (go_at_call 25; refine (kvast_yes ad rad n cap rn rc _ hm hrm h).mono ?_; rintro e w2 ⟨rfl, hb2⟩))
  go_ret
  exact ⟨rfl, (below3 hb1).trans ((below2 hb2).mono (below3 hb1).size)⟩

set_option maxHeartbeats 8000000 in
theorem walk_no (W roots : List Int) (ad rad : Option Addr) (cap rcap : Nat) (w : World) (hl : W.length ≤ 5000) (hrl : roots.length ≤ 5000) (hr : WordsAt ad W w) (hroots : RootsAt rad roots w) (h : (rootsOf W roots).1 ≠ 0) :
    Calls Try.prog 8 #[.agg #[.slice ad W.length cap], .slice rad roots.length rcap] w fun e w' => e = .returned (.bool true) ∧ Below w.heap.size w w' := by
  have HR : Hid (WordsAt ad W w) := hr
  have HO : Hid (RootsAt rad roots w) := hroots
  have h6 : Hid (∀ w0, WordsAt ad W w0 → RootsAt rad roots w0 → Calls Try.prog 20 #[heapV ad W.length cap, .slice rad roots.length rcap] w0 fun e w' => e = .returned (.tuple #[.agg #[.slice none 0 0], .slice none 0 0, .agg #[.int .i64 (rootsOf W roots).1, .int .i64 (rootsOf W roots).2]]) ∧ Below w0.heap.size w0 w') :=
    fun w0 h1 h2 => collect_no W roots ad rad cap rcap w0 (by unfold maxLen; omega) h1 h2 hrl h
  generalize rootsOf W roots = F at *
  have hb : (F.1 != 0) = true := by simpa using h
  clear h hr hroots
  go_enter Try.func8, Try.ntmps8
  go_wp2_with (first | (go_at_call_of 20 (W.length); refine (h6.out _ HR2.out HO2.out).mono ?_; rintro e w3 ⟨rfl, hb3⟩; have r0 := through hb3 q0 z20; have r1 := through hb3 q1 z21; have r2 := through hb3 q2 z21; have t0 := throughF hb3 p0 z20; have t1 := throughF hb3 p1 z21; have t2 := throughF hb3 p2 z21; have z30 : w1.heap.size < w3.heap.size := (by have := hb3.size; omega); have z31 : w1.heap.size + 1 < w3.heap.size := (by have := hb3.size; omega)) | (go_at_call 20; refine (collect0 _ _ _ (row_lit9 _ _) (row_lit1 _ _ _)).mono ?_; rintro e w1 ⟨⟨g, c, g', c', rfl, hcl, hgl⟩, hb1⟩; have kk : w1.cell? ⟨w.heap.size, 0, none⟩ = some (.slice ad W.length cap) := (by rw [hb1.cell (p := ⟨w.heap.size, 0, none⟩) (by simp; omega), cell_past _ (by simp; omega), cell_past _ (by simp), cell_at2 rfl]; rfl); have zz : w.heap.size < w1.heap.size := (by have := hb1.size; simp at this; omega); have HR1 : Hid (WordsAt ad W w1) := HR.out.below (below3 hb1); have HO1 : Hid (RootsAt rad roots w1) := HO.out.below (below3 hb1)) | (go_at_call 25; refine (kvast_no ad rad _ cap _ rcap _ hl hrl).mono ?_; rintro e w2 ⟨rfl, hb2⟩; obtain ⟨q0, q1, q2, z21⟩ := boxes12 hb2; obtain ⟨p0, p1, p2⟩ := boxes12f hb2; have k2 := through (below2 hb2) kk zz; have z20 : w1.heap.size < w2.heap.size := (by omega); have z2 : w.heap.size < w2.heap.size := (by omega); have HR2 : Hid (WordsAt ad W w2) := HR1.out.below (below2 hb2); have HO2 : Hid (RootsAt rad roots w2) := HO1.out.below (below2 hb2)))
  go_ret
  have hb12 := (below3 hb1).trans ((below2 hb2).mono (below3 hb1).size)
  have hb13 := hb12.trans (hb3.mono hb12.size)
  exact ⟨rfl, ((hb13.setCell (by dsimp only; omega) _).setCell (by dsimp only; omega) _).setCell (by dsimp only; omega) _⟩

/-- What lies in the two boxes behind three stores into them. -/
theorem set3 {w : World} {a : Nat} {x y z x' y' z' : Value} (c0 : w.cell? ⟨a, 0, none⟩ = some x') (c1 : w.cell? ⟨a + 1, 0, none⟩ = some y') (c2 : w.cell? ⟨a + 1, 1, none⟩ = some z') (f1 : w.frozen? ⟨a + 1, 0, none⟩ = false) (f2 : w.frozen? ⟨a + 1, 1, none⟩ = false) :
    let v := ((w.setCell ⟨a, 0, none⟩ x).setCell ⟨a + 1, 0, none⟩ y).setCell ⟨a + 1, 1, none⟩ z
    v.cell? ⟨a, 0, none⟩ = some x ∧ v.cell? ⟨a + 1, 0, none⟩ = some y ∧ v.cell? ⟨a + 1, 1, none⟩ = some z ∧ v.frozen? ⟨a + 1, 0, none⟩ = false ∧ v.frozen? ⟨a + 1, 1, none⟩ = false ∧ v.heap.size = w.heap.size := by
  refine ⟨?_, ?_, ?_, by simpa using f1, by simpa using f2, by simp [World.setCell]⟩
  · rw [World.cell?_setCell_other _ _ _ _ (by simp), World.cell?_setCell_other _ _ _ _ (by simp)]
    exact World.cell?_setCell_same' _ _ _ (by rw [c0]; rfl)
  · rw [World.cell?_setCell_other _ _ _ _ (by simp)]
    exact World.cell?_setCell_same' _ _ _ (by rw [World.cell?_setCell_other _ _ _ _ (by simp), c1]; rfl)
  · exact World.cell?_setCell_same' _ _ _ (by rw [World.cell?_setCell_other _ _ _ _ (by simp), World.cell?_setCell_other _ _ _ _ (by simp), c2]; rfl)

set_option maxHeartbeats 8000000 in
theorem walk_yes (W roots : List Int) (ad rad : Option Addr) (cap rcap : Nat) (w : World) (hrl : roots.length ≤ 5000) (hr : WordsAt ad W w) (hroots : RootsAt rad roots w) (h : (rootsOf W roots).1 = 0) :
    Calls Try.prog 8 #[.agg #[.slice ad W.length cap], .slice rad roots.length rcap] w fun e w' => e = .returned (.bool true) ∧ Below w.heap.size w w' := by
  obtain ⟨hc, _, h00⟩ := roots_zero h
  have M := stay_moves hc (ok_rootsOf h)
  have hl := M.fine.few
  have h2 := M.two
  have hwfW : AllWf W := by obtain ⟨b, off, _, hrow⟩ := hr h2; exact hrow.wf
  have hwfR : AllWf roots := by
    by_cases h0 : 0 < roots.length
    · obtain ⟨b, off, _, hrow⟩ := hroots h0; exact hrow.wf
    · have e0 : roots = [] := List.eq_nil_of_length_eq_zero (by omega)
      subst e0; exact wf_mk (by simp)
  have hwK := swept_wf M hwfW
  have hwL := sweptR_wf M hwfR
  have HR : Hid (WordsAt ad W w) := hr
  have HO : Hid (RootsAt rad roots w) := hroots
  have hKc : (checkOf (sweptW W roots)).1 = 0 := M.may'
  have hKo : ∀ y ∈ sweptR W roots, okRef (sweptW W roots) y := M.ok_roots
  have h6 : Hid (∀ w0, WordsAt ad W w0 → RootsAt rad roots w0 → Calls Try.prog 20 #[heapV ad W.length cap, .slice rad roots.length rcap] w0 fun e w' => CollectAns (sweptW W roots) (sweptR W roots) w0.heap.size e w' ∧ Below w0.heap.size w0 w') :=
    fun w0 h1 h2 => collect_yes W roots ad rad cap rcap w0 h1 h2 hrl h M
  have hhold : Hid (holdP W (sweptW W roots) roots (sweptR W roots) = true) := M.holds
  have hLl : (sweptR W roots).length ≤ 5000 := by unfold sweptR; rw [List.length_map]; exact hrl
  have hKl : (sweptW W roots).length ≤ 2000 := M.few
  have htwice := swept_twice hc (ok_rootsOf h)
  have hok := ok_rootsOf h
  generalize sweptW W roots = K at *
  generalize sweptR W roots = L at *
  have hl5 : W.length ≤ 5000 := by omega
  have hK0 : (rootsOf K L).1 = 0 := by rw [rootsOf_ok hKc hKo]
  have h8 : Hid (∀ (g c g' c' : Nat) w0, Row w0 g 0 K → RootsAt (some ⟨g', 0, none⟩) L w0 → Calls Try.prog 20 #[heapV (some ⟨g, 0, none⟩) K.length c, .slice (some ⟨g', 0, none⟩) L.length c'] w0 fun e w' => CollectAns K L w0.heap.size e w' ∧ Below w0.heap.size w0 w') :=
    fun g c g' c' w0 h1 h3 => by
      have := collect_yes K L (some ⟨g, 0, none⟩) (some ⟨g', 0, none⟩) c c' w0 (fun _ => ⟨g, 0, rfl, h1⟩) h3 hLl hK0 (stay_moves hKc hKo)
      rw [htwice.1, htwice.2] at this; exact this
  have h9 : Hid (∀ (g c g' c' : Nat) w0, WordsAt ad W w0 → RootsAt rad roots w0 → Row w0 g 0 K → RootsAt (some ⟨g', 0, none⟩) L w0 → Calls Try.prog 26 #[heapV ad W.length cap, .slice rad roots.length rcap, heapV (some ⟨g, 0, none⟩) K.length c, .slice (some ⟨g', 0, none⟩) L.length c'] w0 fun e w' => e = .returned (.tuple #[.bool true, .agg #[.int .i64 0, .int .i64 0]]) ∧ Below w0.heap.size w0 w') :=
    fun g c g' c' w0 h1 h3 h4 h5 => by
      have := galike_good W K roots L ad (some ⟨g, 0, none⟩) rad (some ⟨g', 0, none⟩) cap c rcap c' w0 h1 h3 hrl h (fun _ => ⟨g, 0, rfl, h4⟩) h5 hLl hK0
      rw [hhold.out] at this; exact this
  have hKK : (K == K) = true := by simp
  have hLL : (L == L) = true := by simp
  clear h hr hroots h00 M hwfW hwfR htwice hok hc hKc hKo hK0 hhold
  go_enter Try.func8, Try.ntmps8
  go_wp2_with (first
    | (go_at_call_of 20 (W.length); refine (h6.out _ HR2.out HO2.out).mono ?_; rintro e w3 ⟨⟨g3, c3, g3', c3', rfl, hg3, hg3', hownK, hownL⟩, hb3⟩; have r0 := through hb3 q0 z20; have r1 := through hb3 q1 z21; have r2 := through hb3 q2 z21; have t0 := throughF hb3 p0 z20; have t1 := throughF hb3 p1 z21; have t2 := throughF hb3 p2 z21; have k3 := through hb3 k2 z2; have z30 : w1.heap.size < w3.heap.size := (by have := hb3.size; omega); have z31 : w1.heap.size + 1 < w3.heap.size := (by have := hb3.size; omega); have z3 : w.heap.size < w3.heap.size := (by omega); obtain ⟨s0, s1, s2, u1, u2, sz⟩ := set3 (x := sl g3 K.length c3) (y := .int .i64 0) (z := .int .i64 0) r0 r1 r2 t1 t2; have hKs := own_set' (own_set' (own_set' hownK (a := ⟨w1.heap.size, 0, none⟩) (by dsimp only; omega) (sl g3 K.length c3)) (a := ⟨w1.heap.size + 1, 0, none⟩) (by dsimp only; omega) (.int .i64 0)) (a := ⟨w1.heap.size + 1, 1, none⟩) (by dsimp only; omega) (.int .i64 0); have hLs := own_set' (own_set' (own_set' hownL (a := ⟨w1.heap.size, 0, none⟩) (by dsimp only; omega) (sl g3 K.length c3)) (a := ⟨w1.heap.size + 1, 0, none⟩) (by dsimp only; omega) (.int .i64 0)) (a := ⟨w1.heap.size + 1, 1, none⟩) (by dsimp only; omega) (.int .i64 0); have b13 : Below w1.heap.size w1 w3 := (below2 hb2).trans (hb3.mono (below2 hb2).size); have b1s : Below w1.heap.size w1 (((w3.setCell ⟨w1.heap.size, 0, none⟩ (sl g3 K.length c3)).setCell ⟨w1.heap.size + 1, 0, none⟩ (.int .i64 0)).setCell ⟨w1.heap.size + 1, 1, none⟩ (.int .i64 0)) := (((b13.setCell (by dsimp only; omega) _).setCell (by dsimp only; omega) _).setCell (by dsimp only; omega) _))
    | (go_at_call_of 20 (K.length); refine (h8.out g3 c3 g3' c3' _ (own_reads hKs hwK) (own_roots hLs hwL)).mono ?_; rintro e w4 ⟨⟨g4, c4, g4', c4', rfl, hg4, hg4', hownK4, hownL4⟩, hb4⟩; have m0 := through hb4 s0 (by dsimp only; omega); have m1 := through hb4 s1 (by dsimp only; omega); have m2 := through hb4 s2 (by dsimp only; omega); have n1 := throughF hb4 u1 (by dsimp only; omega); have n2 := throughF hb4 u2 (by dsimp only; omega); have z4 := hb4.size; have z40 : w1.heap.size < w4.heap.size := (by omega); have z41 : w1.heap.size + 1 < w4.heap.size := (by omega); have b14 := b1s.trans (hb4.mono b1s.size); have k4 := through b14 kk zz; have z04 : w.heap.size < w4.heap.size := (by omega); have hKs4 := ownsRow_below hKs hb4 (own_lt hKs); have hLs4 := ownsRow_below hLs hb4 (own_lt hLs); have bX1 : Below w1.heap.size w1 (((w4.setCell ⟨w1.heap.size + 1, 0, none⟩ (.int .i64 0)).setCell ⟨w1.heap.size + 1, 1, none⟩ (.int .i64 0)).alloc (.cells #[sl g4 K.length c4] 24)) := ((b14.setCell (by dsimp only; omega) _).setCell (by dsimp only; omega) _).alloc (by simp [World.setCell]; omega) _; have rK3 := Reads.of_own ((own_set' (own_set' hKs4 (a := ⟨w1.heap.size + 1, 0, none⟩) (by dsimp only; omega) (.int .i64 0)) (a := ⟨w1.heap.size + 1, 1, none⟩) (by dsimp only; omega) (.int .i64 0)).alloc (.cells #[sl g4 K.length c4] 24)); have rK4 := Reads.of_own ((own_set' (own_set' hownK4 (a := ⟨w1.heap.size + 1, 0, none⟩) (by dsimp only; omega) (.int .i64 0)) (a := ⟨w1.heap.size + 1, 1, none⟩) (by dsimp only; omega) (.int .i64 0)).alloc (.cells #[sl g4 K.length c4] 24)); have oL3 := ((own_set' (own_set' hLs4 (a := ⟨w1.heap.size + 1, 0, none⟩) (by dsimp only; omega) (.int .i64 0)) (a := ⟨w1.heap.size + 1, 1, none⟩) (by dsimp only; omega) (.int .i64 0)).alloc (.cells #[sl g4 K.length c4] 24)); have rL4 := Reads.of_own ((own_set' (own_set' hownL4 (a := ⟨w1.heap.size + 1, 0, none⟩) (by dsimp only; omega) (.int .i64 0)) (a := ⟨w1.heap.size + 1, 1, none⟩) (by dsimp only; omega) (.int .i64 0)).alloc (.cells #[sl g4 K.length c4] 24)); have oK3 := ((own_set' (own_set' hKs4 (a := ⟨w1.heap.size + 1, 0, none⟩) (by dsimp only; omega) (.int .i64 0)) (a := ⟨w1.heap.size + 1, 1, none⟩) (by dsimp only; omega) (.int .i64 0)).alloc (.cells #[sl g4 K.length c4] 24)); have x1 : (((w4.setCell ⟨w1.heap.size + 1, 0, none⟩ (.int .i64 0)).setCell ⟨w1.heap.size + 1, 1, none⟩ (.int .i64 0)).alloc (.cells #[sl g4 K.length c4] 24)).cell? ⟨w1.heap.size + 1, 0, none⟩ = some (.int .i64 0) := (by rw [cell_past _ (by simp [World.setCell]; omega), World.cell?_setCell_other _ _ _ _ (by simp)]; exact World.cell?_setCell_same' _ _ _ (by rw [m1]; rfl)))
    | (go_at_call_of 18 (K.length); refine (kints_any K K _ _ _ rK4 rK3 (by omega)).mono ?_; rw [hKK]; rintro e w5 ⟨rfl, d, rfl⟩)
    | (go_at_call_of 18 (L.length); refine (kints_any L L _ _ _ (rL4.below (below_drewN (Below.refl _ _) d)) ((Reads.of_own oL3).below (below_drewN (Below.refl _ _) d)) (by omega)).mono ?_; rw [hLL]; rintro e w6 ⟨rfl, d', rfl⟩; have bD := below_drewN ((Below.refl (((w4.setCell ⟨w1.heap.size + 1, 0, none⟩ (.int .i64 0)).setCell ⟨w1.heap.size + 1, 1, none⟩ (.int .i64 0)).alloc (.cells #[sl g4 K.length c4] 24)).heap.size (((w4.setCell ⟨w1.heap.size + 1, 0, none⟩ (.int .i64 0)).setCell ⟨w1.heap.size + 1, 1, none⟩ (.int .i64 0)).alloc (.cells #[sl g4 K.length c4] 24)))) (d + d'); have b1D := below_drewN bX1 (d + d'))
    | (go_at_call 26; refine (h9.out g3 c3 g3' c3' _ (HR1.out.below b1D) (HO1.out.below b1D) ((own_reads oK3 hwK).same bD) ((own_roots oL3 hwL).below bD)).mono ?_; rintro e w7 ⟨rfl, hb7⟩; have y1 := through hb7 (through bD x1 (by simp [World.setCell]; omega)) (by simp [World.setCell]; omega); have z7 : w1.heap.size + 1 < w7.heap.size := (by have := hb7.size; simp [World.setCell] at this; omega))
    | (go_at_call 20; refine (collect0 _ _ _ (row_lit9 _ _) (row_lit1 _ _ _)).mono ?_; rintro e w1 ⟨⟨g, c, g', c', rfl, hcl, hgl⟩, hb1⟩; have kk : w1.cell? ⟨w.heap.size, 0, none⟩ = some (.slice ad W.length cap) := (by rw [hb1.cell (p := ⟨w.heap.size, 0, none⟩) (by simp; omega), cell_past _ (by simp; omega), cell_past _ (by simp), cell_at2 rfl]; rfl); have zz : w.heap.size < w1.heap.size := (by have := hb1.size; simp at this; omega); have HR1 : Hid (WordsAt ad W w1) := HR.out.below (below3 hb1); have HO1 : Hid (RootsAt rad roots w1) := HO.out.below (below3 hb1))
    | (go_at_call 25; refine (kvast_no ad rad _ cap _ rcap _ hl5 hrl).mono ?_; rintro e w2 ⟨rfl, hb2⟩; obtain ⟨q0, q1, q2, z21⟩ := boxes12 hb2; obtain ⟨p0, p1, p2⟩ := boxes12f hb2; have k2 := through (below2 hb2) kk zz; have z20 : w1.heap.size < w2.heap.size := (by omega); have z2 : w.heap.size < w2.heap.size := (by omega); have HR2 : Hid (WordsAt ad W w2) := HR1.out.below (below2 hb2); have HO2 : Hid (RootsAt rad roots w2) := HO1.out.below (below2 hb2)))
  go_ret
  refine ⟨ret_bool (by simp), ?_⟩
  have hA := (below3 hb1).trans (b1D.mono (below3 hb1).size)
  exact (hA.trans (hb7.mono hA.size)).alloc (by omega) _

theorem walk (W roots : List Int) (ad rad : Option Addr) (cap rcap : Nat) (w : World) (hm : W.length ≤ maxLen) (hrm : roots.length ≤ maxLen) (hr : WordsAt ad W w) (hroots : RootsAt rad roots w) :
    Calls Try.prog 8 #[.agg #[.slice ad W.length cap], .slice rad roots.length rcap] w fun e w' => e = .returned (.bool true) ∧ Below w.heap.size w w' := by
  by_cases hl : W.length ≤ 5000 ∧ roots.length ≤ 5000
  · by_cases h : (rootsOf W roots).1 = 0
    · exact walk_yes W roots ad rad cap rcap w hl.2 hr hroots h
    · exact walk_no W roots ad rad cap rcap w hl.1 hl.2 hr hroots h
  · exact big ad rad W.length cap roots.length rcap w hm hrm (by omega)

set_option maxRecDepth 100000 in
theorem lifted (os : Os) (started : os.Started) (H : Type) (enc : TypeId × Value → H) :
    ReturnsInHanded {} Try.checked os 8 .any (Rows.sweepTwiceSpec.pre6 enc Try.prog Try.f8 Rows.sweepTwiceRow.domain false) (Rows.sweepTwiceSpec.post enc Try.prog Try.f8 false true false false) := by
  refine returnsInHanded_of_change (C := Try.checked) own started (by kernel_rfl) Try.func8
    (ChangeSpec.witness6 (enc := enc) (C := Try.checked) false ⟨#[], #[.agg #[.slice none 0 0], .slice none 0 0], []⟩ 8 (by kernel_rfl) (by kernel_rfl) (by kernel_rfl) (by kernel_rfl)) ?_
  intro W base args ds gs before hval0 hW hcnd _
  have hval : ∀ (j : Nat) t v, Try.f8.params[j]? = some t → args[j]? = some v → Value.okWide Try.prog W .any base t v := hval0
  have hW' := hW
  obtain ⟨p, q, hA0, hV, rfl, hfz, hnd⟩ := hW
  have hA : DataW.TrodAll enc Try.prog W 0 (fun _ => true) true Try.f8.params.toList args.toList ds p := hA0
  rw [Try.params8] at hA hval
  obtain ⟨v0, vs0, d0, ds0, p0, q0, hargs, rfl, rfl, h0, r0⟩ := trodAll_cons hA
  obtain ⟨v1, vs1, d1, ds1, p1, q1, rfl, rfl, rfl, h1, r1⟩ := trodAll_cons r0
  obtain ⟨rfl, rfl, rfl⟩ := trodAll_nil r1
  obtain rfl : args = #[v0, v1] := by cases args; simp_all
  obtain ⟨rfl, rfl⟩ := trodVars_none hV
  have lt0 : ∀ x ∈ p0, x.block < W.heap.size := by obtain ⟨m, hm⟩ := h0; exact DataW.trod_lt m _ _ _ hm
  have lt1 : ∀ x ∈ p1, x.block < W.heap.size := by obtain ⟨m, hm⟩ := h1; exact DataW.trod_lt m _ _ _ hm
  obtain ⟨ad0, cap0, L0, rfl, hm0, hr0⟩ := open_heap (hval 0 24 v0 rfl rfl) h0
  obtain ⟨ad1, cap1, L1, rfl, hm1, hr1⟩ := open_ints' (hval 1 22 v1 rfl rfl) h1
  clear hA0 hval0
  refine (walk L0 L1 ad0 ad1 cap0 cap1 W hm0 hm1 hr0 hr1).mono fun e W' ⟨he, bel⟩ => ?_
  subst he
  exact ⟨_, rfl, _, _, _, [], _, [], hW', trodAll_mk1 (shut_bool lt4 _), (trodAll_cons_mk (Below.trod laidOut (by kernel_rfl) (of_decide_eq_true (by kernel_rfl)) h0 bel lt0) (trodAll_cons_mk (Below.trod laidOut (by kernel_rfl) (of_decide_eq_true (by kernel_rfl)) h1 bel lt1) trodAll_mk0)), rfl, bel.frame _, fun h => by cases h⟩

theorem over : Rows.sweepTwiceRow.holds Try.pinned (OpenSpec.ofChange Rows.sweepTwiceSpec) :=
  OpenClaim.holds_of_wide 8 Try.f8 rfl rfl rfl rfl rfl rfl rfl ⟨rfl, rfl, rfl, rfl, rfl⟩ rfl rfl rfl rfl rfl (by kernel_rfl) Try.func8 (by kernel_rfl)
    (of_decide_eq_true (by kernel_rfl)) (by unfold Func.isWrapper; first | (rw [if_pos (by decide +kernel)]; kernel_rfl) | (rw [if_neg (by decide +kernel)]; exact ⟨rfl, rfl⟩))
    (fun os started H enc _ => lifted os started H enc)

end Go.Proofs.Ytpapaadclkdbkaa.sweepTwice
namespace Go.Proofs.Ytpapaadclkdbkaa
/-- The statement. -/
theorem sweepTwice_holds : Rows.SweepTwiceSaid := sweepTwice.over
#print axioms sweepTwice_holds
end Go.Proofs.Ytpapaadclkdbkaa
