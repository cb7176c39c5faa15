/- MoveTwice holds for every heap and all roots that can come in, with no condition: moved once more all stays as it is, and there are as many words as where it is swept. -/
import Derived.Test.YtfmapgbkajlfkaaMvTwKit
namespace Go.Proofs.Ytfmapgbkajlfkaa.moveTwice
open Go.ChangeShapes Go.WideShapes Go.ChangeAt Go.RowKit Go.Joins Go.Deep

set_option maxRecDepth 20000 in
set_option maxHeartbeats 4000000 in
theorem big (ad rad : Option Addr) (n cap rn rc : Nat) (w : World) (hm : n ≤ maxLen) (hrm : rn ≤ maxLen) (h : 5000 < n ∨ 5000 < rn) :
    Calls Try.prog 5 #[.agg #[.slice ad n cap], .slice rad rn rc] w fun e w' => e = .returned (.bool true) ∧ Below w.heap.size w w' := by
  have once1 : Hid (1 = 1) := rfl
  have once2 : Hid (2 = 2) := rfl
  go_enter Try.func5, Try.ntmps5
  go_wp2_with (first | (go_at_call 7; have o1 := once1; clear once1 o1; refine (collect0 _ _ _ (row_first _ _) (root_first _ _ _)).mono ?_; rintro e w1 ⟨⟨g, c, g', c', rfl, hrK, hcl, hgl⟩, hb1⟩; have kk : w1.cell? ⟨w.heap.size, 0, none⟩ = some (.slice ad n cap) := (by rw [hb1.cell (p := ⟨w.heap.size, 0, none⟩) (by simp; omega), cell_past _ (by simp; omega), cell_past _ (by simp), cell_at2 rfl]; rfl); have zz : w.heap.size < w1.heap.size := (by have := hb1.size; simp at this; omega)) | (go_at_call 13; have o2 := once2; clear once2 o2; refine (ints0 _ _ _ (hrK.out.below ((((Below.refl _ _).alloc (Nat.le_refl _) _).alloc (by simp) _).alloc (by simp; omega) _)) (row_second _ _ _)).mono ?_; rintro e w2 ⟨rfl, hb2⟩; have T2 := two_lit hb2; have b12 : Below w1.heap.size w1 w2 := below3 hb2; obtain ⟨⟨q0, q1, q2⟩, ⟨p0, p1, p2⟩, z21⟩ := And.intro T2.1 (And.intro T2.2.1 T2.2.2); have k2 := through b12 kk zz; have l2 := through b12 hcl hgl; have zl : g' < w2.heap.size := (by omega); have z20 : w1.heap.size < w2.heap.size := (by omega); have z2 : w.heap.size < w2.heap.size := (by omega)) | (go_at_call 14; refine (kvast_yes ad rad n cap rn rc _ hm hrm h).mono ?_; rintro e w3 ⟨rfl, hb3⟩))
  go_ret
  have hA := (below3 hb1).trans (b12.mono (below3 hb1).size)
  exact ⟨rfl, hA.trans (hb3.mono hA.size)⟩

set_option maxRecDepth 20000 in
set_option maxHeartbeats 8000000 in
theorem walk_no (W roots : List Int) (ad rad : Option Addr) (cap rcap : Nat) (w : World) (hl5 : W.length ≤ 5000) (hrl : roots.length ≤ 5000) (hr : WordsAt ad W w) (hroots : RootsAt rad roots w) (h : (rootsOf W roots).1 ≠ 0) :
    Calls Try.prog 5 #[.agg #[.slice ad W.length cap], .slice rad roots.length rcap] w fun e w' => e = .returned (.bool true) ∧ Below w.heap.size w w' := by
  have HR : Hid (WordsAt ad W w) := hr
  have HO : Hid (RootsAt rad roots w) := hroots
  have h6 : Hid (∀ w0, WordsAt ad W w0 → RootsAt rad roots w0 → Calls Try.prog 7 #[heapV ad W.length cap, .slice rad roots.length rcap] w0 fun e w' => e = .returned (.tuple #[.agg #[.slice none 0 0], .slice none 0 0, .agg #[.int .i64 (rootsOf W roots).1, .int .i64 (rootsOf W roots).2]]) ∧ Below w0.heap.size w0 w') :=
    fun w0 h1 h2 => mcollect_no W roots ad rad cap rcap w0 (by unfold maxLen; omega) h1 h2 hrl h
  have h7 : Hid (∀ w0, WordsAt ad W w0 → RootsAt rad roots w0 → Calls Try.prog 15 #[heapV ad W.length cap, .slice rad roots.length rcap] w0 fun e w' => e = .returned (.tuple #[.agg #[.slice none 0 0], .slice none 0 0, .agg #[.int .i64 (rootsOf W roots).1, .int .i64 (rootsOf W roots).2]]) ∧ Below w0.heap.size w0 w') :=
    fun w0 h1 h2 => collect_no W roots ad rad cap rcap w0 (by unfold maxLen; omega) h1 h2 hrl h
  generalize rootsOf W roots = F at *
  have hb : (F.1 != 0) = true := by simpa using h
  clear h hr hroots
  have once1 : Hid (1 = 1) := rfl
  have once2 : Hid (2 = 2) := rfl
  go_enter Try.func5, Try.ntmps5
  go_wp2_with (first
    | (go_at_call 15; refine (h7.out _ (HR1.out.below b1P) (HO1.out.below b1P)).mono ?_; rintro e w5 ⟨rfl, hb5⟩; obtain ⟨⟨r0, r1, r2⟩, ⟨s0, s1, s2⟩, z5⟩ := P4.below hb5; have z50 : w1.heap.size < w5.heap.size := (by omega); have n50 : ¬ w1.heap.size = w5.heap.size := (by omega); have n51 : ¬ w1.heap.size = w5.heap.size + 1 := (by omega); have n52 : ¬ w1.heap.size + 1 = w5.heap.size := (by omega))
    | (go_at_call_of 7 (W.length); refine (h6.out _ HR3.out HO3.out).mono ?_; rintro e w4 ⟨rfl, hb4⟩; have T4 := T3.below hb4; have P4 := T4.put (.slice none 0 0) (.int .i64 F.1) (.int .i64 F.2); obtain ⟨⟨t0, t1, t2⟩, ⟨u0, u1, u2⟩, z4⟩ := T4; have b14 : Below w1.heap.size w1 w4 := b13.trans (hb4.mono b13.size); have k4 := through b14 kk zz; have z40 : w1.heap.size < w4.heap.size := (by omega); have z04 : w.heap.size < w4.heap.size := (by omega); have m1 : ¬ w.heap.size = w1.heap.size := (by omega); have m2 : ¬ w.heap.size = w1.heap.size + 1 := (by omega); have m3 : ¬ w1.heap.size = w.heap.size := (by omega); have m4 : ¬ w1.heap.size + 1 = w.heap.size := (by omega); have b1P := below_put3 (x := .slice none 0 0) (y := .int .i64 F.1) (z := .int .i64 F.2) b14 (Nat.le_refl _))
    | (go_at_call 7; have o1 := once1; clear once1 o1; refine (collect0 _ _ _ (row_first _ _) (root_first _ _ _)).mono ?_; rintro e w1 ⟨⟨g, c, g', c', rfl, hrK, hcl, hgl⟩, hb1⟩; have kk : w1.cell? ⟨w.heap.size, 0, none⟩ = some (.slice ad W.length cap) := (by rw [hb1.cell (p := ⟨w.heap.size, 0, none⟩) (by simp; omega), cell_past _ (by simp; omega), cell_past _ (by simp), cell_at2 rfl]; rfl); have zz : w.heap.size < w1.heap.size := (by have := hb1.size; simp at this; omega); have HR1 : Hid (WordsAt ad W w1) := HR.out.below (below3 hb1); have HO1 : Hid (RootsAt rad roots w1) := HO.out.below (below3 hb1))
    | (go_at_call 13; have o2 := once2; clear once2 o2; refine (ints0 _ _ _ (hrK.out.below ((((Below.refl _ _).alloc (Nat.le_refl _) _).alloc (by simp) _).alloc (by simp; omega) _)) (row_second _ _ _)).mono ?_; rintro e w2 ⟨rfl, hb2⟩; have T2 := two_lit hb2; have b12 : Below w1.heap.size w1 w2 := below3 hb2; obtain ⟨⟨q0, q1, q2⟩, ⟨p0, p1, p2⟩, z21⟩ := And.intro T2.1 (And.intro T2.2.1 T2.2.2); have k2 := through b12 kk zz; have l2 := through b12 hcl hgl; have zl : g' < w2.heap.size := (by omega); have z20 : w1.heap.size < w2.heap.size := (by omega); have z2 : w.heap.size < w2.heap.size := (by omega))
    | (go_at_call 14; refine (kvast_no ad rad _ cap _ rcap _ hl5 hrl).mono ?_; rintro e w3 ⟨rfl, hb3⟩; have T3 := T2.below hb3; have b13 : Below w1.heap.size w1 w3 := b12.trans (hb3.mono b12.size); have k3 := through b13 kk zz; have z13 := b13.size; have z3 : w.heap.size < w3.heap.size := (by omega); have HR3 : Hid (WordsAt ad W w3) := HR1.out.below b13; have HO3 : Hid (RootsAt rad roots w3) := HO1.out.below b13))
  go_ret
  have hA := (below3 hb1).trans (b1P.mono (below3 hb1).size)
  have hB := hA.trans (hb5.mono hA.size)
  exact ⟨ret_bool (by simp), (hB.alloc hB.size _).alloc (by have := hB.size; simp; omega) _⟩

set_option maxRecDepth 20000 in
set_option maxHeartbeats 16000000 in
theorem walk_yes (W roots : List Int) (ad rad : Option Addr) (cap rcap : Nat) (w : World) (hrl : roots.length ≤ 5000) (hr : WordsAt ad W w) (hroots : RootsAt rad roots w) (h : (rootsOf W roots).1 = 0) :
    Calls Try.prog 5 #[.agg #[.slice ad W.length cap], .slice rad roots.length rcap] w fun e w' => e = .returned (.bool true) ∧ Below w.heap.size w w' := by
  obtain ⟨hc, _, h00⟩ := roots_zero h
  have hok := ok_rootsOf h
  have M := mv_moves hc hok
  have h2 := M.two
  have hwfW : AllWf W := by obtain ⟨b, off, _, hrow⟩ := hr h2; exact hrow.wf
  have hwK : AllWf (mvW W roots) := M.wf hwfW
  have hwL : AllWf (mvR W roots) := M.wf_roots (all_wf hroots)
  have HR : Hid (WordsAt ad W w) := hr
  have HO : Hid (RootsAt rad roots w) := hroots
  have hl5 : W.length ≤ 5000 := by have := M.fine.few; omega
  have h6 : Hid (∀ w0, WordsAt ad W w0 → RootsAt rad roots w0 → Calls Try.prog 7 #[heapV ad W.length cap, .slice rad roots.length rcap] w0 fun e w' => CollectAns (mvW W roots) (mvR W roots) w0.heap.size e w' ∧ Below w0.heap.size w0 w') :=
    fun w0 h1 h2 => mcollect_own W roots ad rad cap rcap w0 h1 h2 hrl h
  have h7 : Hid (∀ w0, WordsAt ad W w0 → RootsAt rad roots w0 → Calls Try.prog 15 #[heapV ad W.length cap, .slice rad roots.length rcap] w0 fun e w' => (∃ g c g' c' m, e = .returned (.tuple #[.agg #[sl g (mvW W roots).length c], sl g' m c', .agg #[.int .i64 0, .int .i64 0]])) ∧ Below w0.heap.size w0 w') :=
    fun w0 h1 h2 => (collect_yes W roots ad rad cap rcap w0 h1 h2 hrl h (stay_moves hc hok)).mono fun e w' hp => ⟨by
      obtain ⟨g, c, g', c', he, _⟩ := hp.1
      have hs := (bfsF_is W roots).as_swept hc hok
      exact ⟨g, c, g', c', _, by rw [he]; unfold mvW; rw [hs]⟩, hp.2⟩
  have hLl : (mvR W roots).length ≤ 5000 := by unfold mvR; rw [List.length_map]; exact hrl
  have hKl : (mvW W roots).length ≤ 2000 := M.few
  have hKc : (checkOf (mvW W roots)).1 = 0 := M.may'
  have hKo : ∀ y ∈ mvR W roots, okRef (mvW W roots) y := M.ok_roots
  have hK0 : (rootsOf (mvW W roots) (mvR W roots)).1 = 0 := by rw [rootsOf_ok hKc hKo]
  have h8 : Hid (∀ (g c g' c' : Nat) w0, Row w0 g 0 (mvW W roots) → RootsAt (some ⟨g', 0, none⟩) (mvR W roots) w0 → Calls Try.prog 7 #[heapV (some ⟨g, 0, none⟩) (mvW W roots).length c, .slice (some ⟨g', 0, none⟩) (mvR W roots).length c'] w0 fun e w' => CollectAns (mvW W roots) (mvR W roots) w0.heap.size e w' ∧ Below w0.heap.size w0 w') :=
    fun g c g' c' w0 h1 h3 => by
      have := mcollect_own (mvW W roots) (mvR W roots) (some ⟨g, 0, none⟩) (some ⟨g', 0, none⟩) c c' w0 (fun _ => ⟨g, 0, rfl, h1⟩) h3 hLl hK0
      rw [(again hc hok).1, (again hc hok).2] at this; exact this
  generalize mvW W roots = K at *
  generalize mvR W roots = L at *
  clear h hr hroots h00 M hwfW hok hc hK0 h2 hKc hKo
  have once1 : Hid (1 = 1) := rfl
  have once2 : Hid (2 = 2) := rfl
  go_enter Try.func5, Try.ntmps5
  go_wp2_with (first
    | (go_at_call_of 13 (L.length); refine (kints_same' L _ _ _ (rL7.below hb8) (rL4.below hb8) (by omega)).mono ?_; rintro e w9 ⟨rfl, hb9⟩; obtain ⟨⟨x0, x1, x2⟩, ⟨y0, y1, y2⟩, z9⟩ := (P7.below hb8).below hb9)
    | (go_at_call_of 13 (K.length); refine (kints_same' K _ _ _ rK7 rK4 (by omega)).mono ?_; rintro e w8 ⟨rfl, hb8⟩)
    | (go_at_call_of 7 (K.length); refine (h8.out g4 c4 g4' c4' _ (own_reads ((oK5.alloc _).alloc _) hwK) (own_roots ((oL5.alloc _).alloc _) hwL)).mono ?_; rintro e w7 ⟨⟨g7, c7, g7', c7', rfl, hg7, hg7', hownK7, hownL7⟩, hb7⟩; have b57 : Below w5.heap.size w5 w7 := below2 hb7; have TA := (Two3.new w5 (sl g5 K.length c5) (.int .i64 0) (.int .i64 0) 24 28).below hb7; have P7 := TA.put (sl g7 K.length c7) (.int .i64 0) (.int .i64 0); have PZ := (P5.below b57).other (b := w5.heap.size) (x' := sl g7 K.length c7) (y' := .int .i64 0) (z' := .int .i64 0) z5; have zy : w5.heap.size + 1 < g7 := (by simp at hg7; omega); have zy' : w5.heap.size + 1 < g7' := (by simp at hg7'; omega); have zg4 := own_lt oK5; have zl4 := own_lt oL5; have rK7 := Reads.of_own (own_put3 (a := w5.heap.size) (x := sl g7 K.length c7) (y := .int .i64 0) (z := .int .i64 0) hownK7 (by omega) (by omega)); have rL7 := Reads.of_own (own_put3 (a := w5.heap.size) (x := sl g7 K.length c7) (y := .int .i64 0) (z := .int .i64 0) hownL7 (by omega) (by omega)); have rK4 := Reads.of_own (own_put3 (a := w5.heap.size) (x := sl g7 K.length c7) (y := .int .i64 0) (z := .int .i64 0) (ownsRow_below oK5 b57 zg4) (by omega) (by omega)); have rL4 := Reads.of_own (own_put3 (a := w5.heap.size) (x := sl g7 K.length c7) (y := .int .i64 0) (z := .int .i64 0) (ownsRow_below oL5 b57 zl4) (by omega) (by omega)); obtain ⟨⟨a0, a1, a2⟩, ⟨d0, d1, d2⟩, z7⟩ := TA; obtain ⟨⟨i0, i1, i2⟩, _, _⟩ := And.intro P7.1 (And.intro P7.2.1 P7.2.2); obtain ⟨⟨j0, j1, j2⟩, _, _⟩ := PZ; have z70 : w5.heap.size < w7.heap.size := (by omega); have b1Z := below_put3 (x := sl g7 K.length c7) (y := .int .i64 0) (z := .int .i64 0) ((b1P.trans (hb5.mono b1P.size)).trans (b57.mono (by omega))) (a := w5.heap.size) (by omega))
    | (go_at_call 15; refine (h7.out _ (HR1.out.below b1P) (HO1.out.below b1P)).mono ?_; rintro e w5 ⟨⟨g5, c5, g5', c5', n5, rfl⟩, hb5⟩; have P5 := P4.below hb5; have oK5 := ownsRow_below oK4p hb5 (own_lt oK4p); have oL5 := ownsRow_below oL4p hb5 (own_lt oL4p); obtain ⟨⟨r0, r1, r2⟩, ⟨s0, s1, s2⟩, z5⟩ := And.intro P5.1 (And.intro P5.2.1 P5.2.2); have z50 : w1.heap.size < w5.heap.size := (by omega); have n50 : ¬ w1.heap.size = w5.heap.size := (by omega); have n51 : ¬ w1.heap.size = w5.heap.size + 1 := (by omega); have n52 : ¬ w1.heap.size + 1 = w5.heap.size := (by omega))
    | (go_at_call_of 7 (W.length); refine (h6.out _ HR3.out HO3.out).mono ?_; rintro e w4 ⟨⟨g4, c4, g4', c4', rfl, hg4, hg4', hownK, hownL⟩, hb4⟩; have T4 := T3.below hb4; have P4 := T4.put (sl g4 K.length c4) (.int .i64 0) (.int .i64 0); obtain ⟨⟨t0, t1, t2⟩, ⟨u0, u1, u2⟩, z4⟩ := T4; have b14 : Below w1.heap.size w1 w4 := b13.trans (hb4.mono b13.size); have k4 := through b14 kk zz; have z40 : w1.heap.size < w4.heap.size := (by omega); have z04 : w.heap.size < w4.heap.size := (by omega); have m1 : ¬ w.heap.size = w1.heap.size := (by omega); have m2 : ¬ w.heap.size = w1.heap.size + 1 := (by omega); have m3 : ¬ w1.heap.size = w.heap.size := (by omega); have m4 : ¬ w1.heap.size + 1 = w.heap.size := (by omega); have b1P := below_put3 (x := sl g4 K.length c4) (y := .int .i64 0) (z := .int .i64 0) b14 (Nat.le_refl _); have oK4p := own_put3 (a := w1.heap.size) (x := sl g4 K.length c4) (y := .int .i64 0) (z := .int .i64 0) hownK (by have := T3.2.2; omega) (by have := T3.2.2; omega); have oL4p := own_put3 (a := w1.heap.size) (x := sl g4 K.length c4) (y := .int .i64 0) (z := .int .i64 0) hownL (by have := T3.2.2; omega) (by have := T3.2.2; omega))
    | (go_at_call 7; have o1 := once1; clear once1 o1; refine (collect0 _ _ _ (row_first _ _) (root_first _ _ _)).mono ?_; rintro e w1 ⟨⟨g, c, g', c', rfl, hrK, hcl, hgl⟩, hb1⟩; have kk : w1.cell? ⟨w.heap.size, 0, none⟩ = some (.slice ad W.length cap) := (by rw [hb1.cell (p := ⟨w.heap.size, 0, none⟩) (by simp; omega), cell_past _ (by simp; omega), cell_past _ (by simp), cell_at2 rfl]; rfl); have zz : w.heap.size < w1.heap.size := (by have := hb1.size; simp at this; omega); have HR1 : Hid (WordsAt ad W w1) := HR.out.below (below3 hb1); have HO1 : Hid (RootsAt rad roots w1) := HO.out.below (below3 hb1))
    | (go_at_call 13; have o2 := once2; clear once2 o2; refine (ints0 _ _ _ (hrK.out.below ((((Below.refl _ _).alloc (Nat.le_refl _) _).alloc (by simp) _).alloc (by simp; omega) _)) (row_second _ _ _)).mono ?_; rintro e w2 ⟨rfl, hb2⟩; have T2 := two_lit hb2; have b12 : Below w1.heap.size w1 w2 := below3 hb2; obtain ⟨⟨q0, q1, q2⟩, ⟨p0, p1, p2⟩, z21⟩ := And.intro T2.1 (And.intro T2.2.1 T2.2.2); have k2 := through b12 kk zz; have l2 := through b12 hcl hgl; have zl : g' < w2.heap.size := (by omega); have z20 : w1.heap.size < w2.heap.size := (by omega); have z2 : w.heap.size < w2.heap.size := (by omega))
    | (go_at_call 14; refine (kvast_no ad rad _ cap _ rcap _ hl5 hrl).mono ?_; rintro e w3 ⟨rfl, hb3⟩; have T3 := T2.below hb3; have b13 : Below w1.heap.size w1 w3 := b12.trans (hb3.mono b12.size); have k3 := through b13 kk zz; have z13 := b13.size; have z3 : w.heap.size < w3.heap.size := (by omega); have HR3 : Hid (WordsAt ad W w3) := HR1.out.below b13; have HO3 : Hid (RootsAt rad roots w3) := HO1.out.below b13))
  go_ret
  refine ⟨ret_bool (by simp), ?_⟩
  have hA := (below3 hb1).trans (b1Z.mono (below3 hb1).size)
  have hB := hA.trans (hb8.mono hA.size)
  exact hB.trans (hb9.mono hB.size)

theorem walk (W roots : List Int) (ad rad : Option Addr) (cap rcap : Nat) (w : World) (hm : W.length ≤ maxLen) (hrm : roots.length ≤ maxLen) (hr : WordsAt ad W w) (hroots : RootsAt rad roots w) :
    Calls Try.prog 5 #[.agg #[.slice ad W.length cap], .slice rad roots.length rcap] w fun e w' => e = .returned (.bool true) ∧ Below w.heap.size w w' := by
  by_cases hl : W.length ≤ 5000 ∧ roots.length ≤ 5000
  · by_cases h : (rootsOf W roots).1 = 0
    · exact walk_yes W roots ad rad cap rcap w hl.2 hr hroots h
    · exact walk_no W roots ad rad cap rcap w hl.1 hl.2 hr hroots h
  · exact big ad rad W.length cap roots.length rcap w hm hrm (by omega)

set_option maxRecDepth 100000 in
theorem lifted (os : Os) (started : os.Started) (H : Type) (enc : TypeId × Value → H) :
    ReturnsInHanded {} Try.checked os 5 .any (Rows.moveTwiceSpec.pre6 enc Try.prog Try.f5 Rows.moveTwiceRow.domain false) (Rows.moveTwiceSpec.post enc Try.prog Try.f5 false true false false) := by
  refine returnsInHanded_of_change (C := Try.checked) own started (by kernel_rfl) Try.func5
    (ChangeSpec.witness6 (enc := enc) (C := Try.checked) false ⟨#[], #[.agg #[.slice none 0 0], .slice none 0 0], []⟩ 8 (by kernel_rfl) (by kernel_rfl) (by kernel_rfl) (by kernel_rfl)) ?_
  intro W base args ds gs before hval0 hW hcnd _
  have hval : ∀ (j : Nat) t v, Try.f5.params[j]? = some t → args[j]? = some v → Value.okWide Try.prog W .any base t v := hval0
  have hW' := hW
  obtain ⟨p, q, hA0, hV, rfl, hfz, hnd⟩ := hW
  have hA : DataW.TrodAll enc Try.prog W 0 (fun _ => true) true Try.f5.params.toList args.toList ds p := hA0
  rw [Try.params5] at hA hval
  obtain ⟨v0, vs0, d0, ds0, p0, q0, hargs, rfl, rfl, h0, r0⟩ := trodAll_cons hA
  obtain ⟨v1, vs1, d1, ds1, p1, q1, rfl, rfl, rfl, h1, r1⟩ := trodAll_cons r0
  obtain ⟨rfl, rfl, rfl⟩ := trodAll_nil r1
  obtain rfl : args = #[v0, v1] := by cases args; simp_all
  obtain ⟨rfl, rfl⟩ := trodVars_none hV
  have lt0 : ∀ x ∈ p0, x.block < W.heap.size := by obtain ⟨m, hm⟩ := h0; exact DataW.trod_lt m _ _ _ hm
  have lt1 : ∀ x ∈ p1, x.block < W.heap.size := by obtain ⟨m, hm⟩ := h1; exact DataW.trod_lt m _ _ _ hm
  obtain ⟨ad0, cap0, L0, rfl, hm0, hr0⟩ := open_heap (hval 0 24 v0 rfl rfl) h0
  obtain ⟨ad1, cap1, L1, rfl, hm1, hr1⟩ := open_ints' (hval 1 22 v1 rfl rfl) h1
  clear hA0 hval0
  refine (walk L0 L1 ad0 ad1 cap0 cap1 W hm0 hm1 hr0 hr1).mono fun e W' ⟨he, bel⟩ => ?_
  subst he
  exact ⟨_, rfl, _, _, _, [], _, [], hW', trodAll_mk1 (shut_bool lt4 _), (trodAll_cons_mk (Below.trod laidOut (by kernel_rfl) (of_decide_eq_true (by kernel_rfl)) h0 bel lt0) (trodAll_cons_mk (Below.trod laidOut (by kernel_rfl) (of_decide_eq_true (by kernel_rfl)) h1 bel lt1) trodAll_mk0)), rfl, bel.frame _, fun h => by cases h⟩

theorem over : Rows.moveTwiceRow.holds Try.pinned (OpenSpec.ofChange Rows.moveTwiceSpec) :=
  OpenClaim.holds_of_wide 5 Try.f5 rfl rfl rfl rfl rfl rfl rfl ⟨rfl, rfl, rfl, rfl, rfl⟩ rfl rfl rfl rfl rfl (by kernel_rfl) Try.func5 (by kernel_rfl)
    (of_decide_eq_true (by kernel_rfl)) (by unfold Func.isWrapper; first | (rw [if_pos (by decide +kernel)]; kernel_rfl) | (rw [if_neg (by decide +kernel)]; exact ⟨rfl, rfl⟩))
    (fun os started H enc _ => lifted os started H enc)

end Go.Proofs.Ytfmapgbkajlfkaa.moveTwice
namespace Go.Proofs.Ytfmapgbkajlfkaa
/-- The statement. -/
theorem moveTwice_holds : Rows.MoveTwiceSaid := moveTwice.over
#print axioms moveTwice_holds
end Go.Proofs.Ytfmapgbkajlfkaa
