/- ReachAlike holds for all that can come in, with no condition: the program tells whether two heaps are alike as the document says it, or the fault of the first or of the second. -/
import Derived.Test.YtgggmdanpdggpabLawReach
import Derived.Test.YtgggmdanpdggpabAlikeGo
import Derived.Test.YtgggmdanpdggpabRefAlike
namespace Go.Proofs.Ytgggmdanpdggpab.reachAlike
open Go.ChangeShapes Go.WideShapes Go.ChangeAt Go.RowKit Go.Joins Go.Deep
open Go.Proofs.Ytgggmdanpdggpab.reachTells (grew words_below open_roots)

theorem vast_yes (ad rad sad : Option Addr) (n cap rn rc sn sc : Nat) (w : World) (hm : n ≤ maxLen) (hrm : rn ≤ maxLen) (hsm : sn ≤ maxLen) (h : 5000 < n ∨ 5000 < rn ∨ 5000 < sn) :
    Calls Try.prog 9 #[.agg #[.slice ad n cap], .slice rad rn rc, .slice sad sn sc] w fun e w' => e = .returned (.bool true) ∧ Below w.heap.size w w' := by
  unfold maxLen at hm hrm hsm
  have hw : (5000 : Int) < (n : Int) ∨ (¬ ((5000 : Int) < (n : Int)) ∧ (5000 : Int) < (rn : Int)) ∨ (¬ ((5000 : Int) < (n : Int)) ∧ ¬ ((5000 : Int) < (rn : Int)) ∧ (5000 : Int) < (sn : Int)) := by omega
  clear h
  rcases hw with h1 | ⟨h1, h2⟩ | ⟨h1, h2, h3⟩
  all_goals
    go_enter Try.func9, Try.ntmps9
    go_wp2
    go_ret
    exact ⟨ret_bool (by simp [*]), (Below.refl _ _).alloc (Nat.le_refl _) _⟩
theorem vast_no (ad rad sad : Option Addr) (n cap rn rc sn sc : Nat) (w : World) (h1 : n ≤ 5000) (h2 : rn ≤ 5000) (h3 : sn ≤ 5000) :
    Calls Try.prog 9 #[.agg #[.slice ad n cap], .slice rad rn rc, .slice sad sn sc] w fun e w' => e = .returned (.bool false) ∧ Below w.heap.size w w' := by
  have a1 : ¬ ((5000 : Int) < (n : Int)) := by omega
  have a2 : ¬ ((5000 : Int) < (rn : Int)) := by omega
  have a3 : ¬ ((5000 : Int) < (sn : Int)) := by omega
  go_enter Try.func9, Try.ntmps9
  go_wp2
  go_ret
  exact ⟨ret_bool (by simp [*]), (Below.refl _ _).alloc (Nat.le_refl _) _⟩

theorem two_ones {w w' : World} {a c : Value} {t t' : TypeId} (hb : Below ((w.alloc (.cells #[a] t)).alloc (.cells #[c] t')).heap.size ((w.alloc (.cells #[a] t)).alloc (.cells #[c] t')) w') : w'.cell? ⟨w.heap.size, 0, none⟩ = some a ∧ w'.cell? ⟨w.heap.size + 1, 0, none⟩ = some c ∧ w.heap.size < w'.heap.size ∧ w.heap.size + 1 < w'.heap.size := by
  obtain ⟨h1, h2, h3⟩ := two_boxes hb
  exact ⟨h1, h2, by omega, h3⟩

set_option maxHeartbeats 2000000 in
theorem big_one (ad rad ad' sad : Option Addr) (n cap rn rc n' cap' sn sc : Nat) (w : World) (hm : n ≤ maxLen) (hrm : rn ≤ maxLen) (hsm : sn ≤ maxLen) (h : 5000 < n ∨ 5000 < rn ∨ 5000 < sn) :
    Calls Try.prog 4 #[.agg #[.slice ad n cap], .slice rad rn rc, .agg #[.slice ad' n' cap'], .slice sad sn sc] w fun e w' => e = .returned (.bool true) ∧ Below w.heap.size w w' := by
  go_enter Try.func4, Try.ntmps4
  go_wp2_with (go_at_call 9; refine (vast_yes ad rad sad n cap rn rc sn sc _ hm hrm hsm h).mono ?_; rintro e w1 ⟨rfl, hb1⟩; obtain ⟨k0, k1, z0, z1⟩ := two_ones hb1)
  go_ret
  exact ⟨rfl, below2 hb1⟩
set_option maxHeartbeats 2000000 in
theorem big_two (ad rad ad' sad : Option Addr) (n cap rn rc n' cap' sn sc : Nat) (w : World) (h1 : n ≤ 5000) (h2 : rn ≤ 5000) (h3 : sn ≤ 5000) (hm : n' ≤ maxLen) (h : 5000 < n') :
    Calls Try.prog 4 #[.agg #[.slice ad n cap], .slice rad rn rc, .agg #[.slice ad' n' cap'], .slice sad sn sc] w fun e w' => e = .returned (.bool true) ∧ Below w.heap.size w w' := by
  unfold maxLen at hm
  have a1 : (5000 : Int) < (n' : Int) := by omega
  go_enter Try.func4, Try.ntmps4
  go_wp2_with (go_at_call 9; refine (vast_no ad rad sad n cap rn rc sn sc _ h1 h2 h3).mono ?_; rintro e w1 ⟨rfl, hb1⟩; obtain ⟨k0, k1, z0, z1⟩ := two_ones hb1)
  go_ret
  exact ⟨rfl, below2 hb1⟩

theorem ok_all {W roots : List Int} : ∀ (n k : Nat), k + n = roots.length → badRoot W roots k n = none → ∀ j, k ≤ j → j < roots.length → okRef W (wd roots j) := by
  intro n
  induction n with
  | zero => intro k hk _ j h1 h2; omega
  | succ n ih =>
    intro k hk hb j h1 h2
    cases hf : fitsRef W (wd roots k) with
    | false => rw [root_no hf] at hb; cases hb
    | true =>
      rw [root_yes hf] at hb
      by_cases hj : j = k
      · subst hj; exact hf
      · exact ih (k + 1) (by omega) hb j (by omega) h2
theorem ok_roots {W roots : List Int} (h : (rootsOf W roots).1 = 0) : ∀ x ∈ roots, okRef W x := fun x hx => by
  obtain ⟨_, hb, _⟩ := roots_zero h
  obtain ⟨j, hj, e⟩ := List.getElem_of_mem hx
  have := ok_all roots.length 0 (by omega) hb j (Nat.zero_le _) hj
  have he : wd roots j = x := by unfold wd; simp [hj, e]
  rw [he] at this; exact this

theorem box_frozen {w w' : World} {x y : Value} {t : TypeId} (hb : Below (w.alloc (.cells #[x, y] t)).heap.size (w.alloc (.cells #[x, y] t)) w') : w'.frozen? ⟨w.heap.size, 0, none⟩ = false ∧ w'.frozen? ⟨w.heap.size, 1, none⟩ = false := by
  refine ⟨?_, ?_⟩
  · rw [hb.frozen (p := ⟨w.heap.size, 0, none⟩) (by simp)]; exact frozen_at2 rfl
  · rw [hb.frozen (p := ⟨w.heap.size, 1, none⟩) (by simp)]; exact frozen_at2 rfl

set_option maxHeartbeats 4000000 in
theorem walk_one (W V R S : List Int) (ad ad' rad sad : Option Addr) (cap cap' rc sc : Nat) (w : World) (hl : W.length ≤ 5000) (hl' : V.length ≤ 5000) (hRl : R.length ≤ 5000) (hSl : S.length ≤ 5000) (hr : WordsAt ad W w) (hr' : WordsAt ad' V w) (hR : RootsAt rad R w) (hS : RootsAt sad S w) (h : (rootsOf W R).1 ≠ 0) :
    Calls Try.prog 4 #[.agg #[.slice ad W.length cap], .slice rad R.length rc, .agg #[.slice ad' V.length cap'], .slice sad S.length sc] w fun e w' => e = .returned (.bool true) ∧ Below w.heap.size w w' := by
  have h6 : Hid (∀ w0, WordsAt ad W w0 → WordsAt ad' V w0 → RootsAt rad R w0 → RootsAt sad S w0 → Calls Try.prog 14 #[heapV ad W.length cap, .slice rad R.length rc, heapV ad' V.length cap', .slice sad S.length sc] w0 fun e w' => e = .returned (.tuple #[.bool false, .agg #[.int .i64 (rootsOf W R).1, .int .i64 (rootsOf W R).2]]) ∧ Below w0.heap.size w0 w') :=
    fun w0 h1 h2 h3 h4 => galike_one W V R S ad ad' rad sad cap cap' rc sc w0 (by unfold maxLen; omega) h1 h3 hRl h
  have h7 : Hid (∀ w0, WordsAt ad W w0 → RootsAt rad R w0 → Calls Try.prog 11 #[heapV ad W.length cap, .slice rad R.length rc] w0 fun e w' => e = .returned (.agg #[.int .i64 (rootsOf W R).1, .int .i64 (rootsOf W R).2]) ∧ Below w0.heap.size w0 w') :=
    fun w0 h1 h2 => rroots_any W R ad rad cap rc w0 (by unfold maxLen; omega) h1 h2 hRl
  have HR : Hid (WordsAt ad W w) := hr
  have HR' : Hid (WordsAt ad' V w) := hr'
  have HO : Hid (RootsAt rad R w) := hR
  have HO' : Hid (RootsAt sad S w) := hS
  have a1 : ¬ ((5000 : Int) < (V.length : Int)) := by omega
  generalize rootsOf W R = F at *
  have hb : (F.1 != 0) = true := by simpa using h
  have hbe : (F.1 == 0) = false := by simpa using h
  clear h hr hR hr' hS
  go_enter Try.func4, Try.ntmps4
  go_wp2_with (first | (go_at_call 9; refine (vast_no ad rad sad _ cap _ rc _ sc _ hl hRl hSl).mono ?_; rintro e w1 ⟨rfl, hb1⟩; obtain ⟨k0, k1, z0, z1⟩ := two_ones hb1; have HR1 : Hid (WordsAt ad W w1) := words_below HR.out (below2 hb1); have HS1 : Hid (WordsAt ad' V w1) := words_below HR'.out (below2 hb1); have HO1 : Hid (RootsAt rad R w1) := HO.out.below (below2 hb1); have HP1 : Hid (RootsAt sad S w1) := HO'.out.below (below2 hb1)) | (go_at_call 14; refine (h6.out _ HR1.out HS1.out HO1.out HP1.out).mono ?_; rintro e w2 ⟨rfl, hb2⟩; have k20 := through hb2 k0 z0; have k21 := through hb2 k1 z1; have zz2 := hb2.size; have HR2 : Hid (WordsAt ad W w2) := words_below HR1.out hb2; have HS2 : Hid (WordsAt ad' V w2) := words_below HS1.out hb2; have HO2 : Hid (RootsAt rad R w2) := HO1.out.below hb2; have HP2 : Hid (RootsAt sad S w2) := HP1.out.below hb2; have z20 : w.heap.size < w2.heap.size := (by omega); have z21 : w.heap.size + 1 < w2.heap.size := (by omega)) | (go_at_call_of 11 (W.length); refine (h7.out _ (reads1 HR2.out) (HO2.out.below ((Below.refl _ _).alloc (Nat.le_refl _) _))).mono ?_; rintro e w3 ⟨rfl, hb3⟩; obtain ⟨f0, f1⟩ := box_cells hb3; have z3 := grew hb3; have k30 := through (below_call hb3) k20 z20; have k31 := through (below_call hb3) k21 z21; have z30 : w.heap.size < w3.heap.size := (by omega); have z31 : w.heap.size + 1 < w3.heap.size := (by omega); have HR3 : Hid (WordsAt ad W w3) := words_below HR2.out (below_call hb3); have HS3 : Hid (WordsAt ad' V w3) := words_below HS2.out (below_call hb3); have HO3 : Hid (RootsAt rad R w3) := HO2.out.below (below_call hb3); have HP3 : Hid (RootsAt sad S w3) := HP2.out.below (below_call hb3)))
  go_ret
  refine ⟨ret_bool (by simp), ?_⟩
  have hb12 := (below2 hb1).trans (hb2.mono (below2 hb1).size)
  exact (hb12.trans ((below_call hb3).mono hb12.size)).alloc (by omega) _

set_option maxHeartbeats 4000000 in
theorem walk_two (W V R S : List Int) (ad ad' rad sad : Option Addr) (cap cap' rc sc : Nat) (w : World) (hl : W.length ≤ 5000) (hl' : V.length ≤ 5000) (hRl : R.length ≤ 5000) (hSl : S.length ≤ 5000) (hr : WordsAt ad W w) (hr' : WordsAt ad' V w) (hR : RootsAt rad R w) (hS : RootsAt sad S w) (h : (rootsOf W R).1 = 0) (h' : (rootsOf V S).1 ≠ 0) :
    Calls Try.prog 4 #[.agg #[.slice ad W.length cap], .slice rad R.length rc, .agg #[.slice ad' V.length cap'], .slice sad S.length sc] w fun e w' => e = .returned (.bool true) ∧ Below w.heap.size w w' := by
  have h6 : Hid (∀ w0, WordsAt ad W w0 → WordsAt ad' V w0 → RootsAt rad R w0 → RootsAt sad S w0 → Calls Try.prog 14 #[heapV ad W.length cap, .slice rad R.length rc, heapV ad' V.length cap', .slice sad S.length sc] w0 fun e w' => e = .returned (.tuple #[.bool false, .agg #[.int .i64 (rootsOf V S).1, .int .i64 (rootsOf V S).2]]) ∧ Below w0.heap.size w0 w') :=
    fun w0 h1 h2 h3 h4 => galike_two W V R S ad ad' rad sad cap cap' rc sc w0 (by unfold maxLen; omega) h1 h3 hRl h h2 h4 hSl h'
  have h7 : Hid (∀ w0, WordsAt ad W w0 → RootsAt rad R w0 → Calls Try.prog 11 #[heapV ad W.length cap, .slice rad R.length rc] w0 fun e w' => e = .returned (.agg #[.int .i64 0, .int .i64 0]) ∧ Below w0.heap.size w0 w') :=
    fun w0 h1 h2 => by have := rroots_any W R ad rad cap rc w0 (by unfold maxLen; omega) h1 h2 hRl; rw [(roots_zero h).2.2] at this; exact this
  have h8 : Hid (∀ w0, WordsAt ad' V w0 → RootsAt sad S w0 → Calls Try.prog 11 #[heapV ad' V.length cap', .slice sad S.length sc] w0 fun e w' => e = .returned (.agg #[.int .i64 (rootsOf V S).1, .int .i64 (rootsOf V S).2]) ∧ Below w0.heap.size w0 w') :=
    fun w0 h1 h2 => rroots_any V S ad' sad cap' sc w0 (by unfold maxLen; omega) h1 h2 hSl
  have HR : Hid (WordsAt ad W w) := hr
  have HR' : Hid (WordsAt ad' V w) := hr'
  have HO : Hid (RootsAt rad R w) := hR
  have HO' : Hid (RootsAt sad S w) := hS
  have a1 : ¬ ((5000 : Int) < (V.length : Int)) := by omega
  generalize rootsOf V S = F at *
  have hb : (F.1 != 0) = true := by simpa using h'
  clear h h' hr hR hr' hS
  go_enter Try.func4, Try.ntmps4
  go_wp2_with (first | (go_at_call 9; refine (vast_no ad rad sad _ cap _ rc _ sc _ hl hRl hSl).mono ?_; rintro e w1 ⟨rfl, hb1⟩; obtain ⟨k0, k1, z0, z1⟩ := two_ones hb1; have HR1 : Hid (WordsAt ad W w1) := words_below HR.out (below2 hb1); have HS1 : Hid (WordsAt ad' V w1) := words_below HR'.out (below2 hb1); have HO1 : Hid (RootsAt rad R w1) := HO.out.below (below2 hb1); have HP1 : Hid (RootsAt sad S w1) := HO'.out.below (below2 hb1)) | (go_at_call 14; refine (h6.out _ HR1.out HS1.out HO1.out HP1.out).mono ?_; rintro e w2 ⟨rfl, hb2⟩; have k20 := through hb2 k0 z0; have k21 := through hb2 k1 z1; have zz2 := hb2.size; have HR2 : Hid (WordsAt ad W w2) := words_below HR1.out hb2; have HS2 : Hid (WordsAt ad' V w2) := words_below HS1.out hb2; have HO2 : Hid (RootsAt rad R w2) := HO1.out.below hb2; have HP2 : Hid (RootsAt sad S w2) := HP1.out.below hb2; have z20 : w.heap.size < w2.heap.size := (by omega); have z21 : w.heap.size + 1 < w2.heap.size := (by omega)) | (go_at_call_of 11 (W.length); refine (h7.out _ (reads1 HR2.out) (HO2.out.below ((Below.refl _ _).alloc (Nat.le_refl _) _))).mono ?_; rintro e w3 ⟨rfl, hb3⟩; obtain ⟨f0, f1⟩ := box_cells hb3; have z3 := grew hb3; have k30 := through (below_call hb3) k20 z20; have k31 := through (below_call hb3) k21 z21; have z30 : w.heap.size < w3.heap.size := (by omega); have z31 : w.heap.size + 1 < w3.heap.size := (by omega); have HR3 : Hid (WordsAt ad W w3) := words_below HR2.out (below_call hb3); have HS3 : Hid (WordsAt ad' V w3) := words_below HS2.out (below_call hb3); have HO3 : Hid (RootsAt rad R w3) := HO2.out.below (below_call hb3); have HP3 : Hid (RootsAt sad S w3) := HP2.out.below (below_call hb3)) | (go_at_call_of 11 (V.length); refine (h8.out _ (reads1 HS3.out) (HP3.out.below ((Below.refl _ _).alloc (Nat.le_refl _) _))).mono ?_; rintro e w4 ⟨rfl, hb4⟩; obtain ⟨g0, g1⟩ := box_cells hb4; obtain ⟨q0, q1⟩ := box_frozen hb4; have z4 := grew hb4; have f40 := through (below_call hb4) f0 z3; have f41 := through (below_call hb4) f1 z3; have k40 := through (below_call hb4) k30 z30; have k41 := through (below_call hb4) k31 z31; have z40 : w.heap.size < w4.heap.size := (by omega); have z41 : w.heap.size + 1 < w4.heap.size := (by omega); have n23 : ¬ w2.heap.size = w3.heap.size := (by omega); have n32 : ¬ w3.heap.size = w2.heap.size := (by omega); have n03 : ¬ w.heap.size = w3.heap.size := (by omega); have n13 : ¬ w.heap.size + 1 = w3.heap.size := (by omega); have n30 : ¬ w3.heap.size = w.heap.size := (by omega); have n31 : ¬ w3.heap.size = w.heap.size + 1 := (by omega)))
  go_ret
  refine ⟨ret_bool (by simp), ?_⟩
  have hb12 := (below2 hb1).trans (hb2.mono (below2 hb1).size)
  have hb13 := hb12.trans ((below_call hb3).mono hb12.size)
  have hb14 := hb13.trans ((below_call hb4).mono hb13.size)
  exact (hb14.setCell (p := ⟨w3.heap.size, 0, none⟩) (by dsimp only; omega) _).setCell (p := ⟨w3.heap.size, 1, none⟩) (by dsimp only; omega) _

set_option maxHeartbeats 4000000 in
theorem walk_good (W V R S : List Int) (ad ad' rad sad : Option Addr) (cap cap' rc sc : Nat) (w : World) (hl : W.length ≤ 5000) (hl' : V.length ≤ 5000) (hRl : R.length ≤ 5000) (hSl : S.length ≤ 5000) (hr : WordsAt ad W w) (hr' : WordsAt ad' V w) (hR : RootsAt rad R w) (hS : RootsAt sad S w) (h : (rootsOf W R).1 = 0) (h' : (rootsOf V S).1 = 0) :
    Calls Try.prog 4 #[.agg #[.slice ad W.length cap], .slice rad R.length rc, .agg #[.slice ad' V.length cap'], .slice sad S.length sc] w fun e w' => e = .returned (.bool true) ∧ Below w.heap.size w w' := by
  obtain ⟨hcW, _, hzW⟩ := roots_zero h
  obtain ⟨hcV, _, hzV⟩ := roots_zero h'
  have h6 : Hid (∀ w0, WordsAt ad W w0 → WordsAt ad' V w0 → RootsAt rad R w0 → RootsAt sad S w0 → Calls Try.prog 14 #[heapV ad W.length cap, .slice rad R.length rc, heapV ad' V.length cap', .slice sad S.length sc] w0 fun e w' => e = .returned (.tuple #[.bool (holdP W V R S), .agg #[.int .i64 0, .int .i64 0]]) ∧ Below w0.heap.size w0 w') :=
    fun w0 h1 h2 h3 h4 => galike_good W V R S ad ad' rad sad cap cap' rc sc w0 h1 h3 hRl h h2 h4 hSl h'
  have h7 : Hid (∀ w0, WordsAt ad W w0 → RootsAt rad R w0 → Calls Try.prog 11 #[heapV ad W.length cap, .slice rad R.length rc] w0 fun e w' => e = .returned (.agg #[.int .i64 0, .int .i64 0]) ∧ Below w0.heap.size w0 w') :=
    fun w0 h1 h2 => by have := rroots_any W R ad rad cap rc w0 (by unfold maxLen; omega) h1 h2 hRl; rw [hzW] at this; exact this
  have h8 : Hid (∀ w0, WordsAt ad' V w0 → RootsAt sad S w0 → Calls Try.prog 11 #[heapV ad' V.length cap', .slice sad S.length sc] w0 fun e w' => e = .returned (.agg #[.int .i64 0, .int .i64 0]) ∧ Below w0.heap.size w0 w') :=
    fun w0 h1 h2 => by have := rroots_any V S ad' sad cap' sc w0 (by unfold maxLen; omega) h1 h2 hSl; rw [hzV] at this; exact this
  have h9 : Hid (∀ w0, WordsAt ad W w0 → WordsAt ad' V w0 → RootsAt rad R w0 → RootsAt sad S w0 → Calls Try.prog 15 #[heapV ad W.length cap, .slice rad R.length rc, heapV ad' V.length cap', .slice sad S.length sc] w0 fun e w' => e = .returned (.bool (holdP W V R S)) ∧ Below w0.heap.size w0 w') :=
    fun w0 h1 h2 h3 h4 => by
      obtain ⟨b, off, rfl, hrow⟩ := h1 (front_out (check_ok hcW).1).1
      obtain ⟨b', off', rfl, hrow'⟩ := h2 (front_out (check_ok hcV).1).1
      exact ralike_any W V R S b off cap b' off' cap' rad sad rc sc w0 hrow hrow' h3 h4 hcW hcV (ok_roots h) (ok_roots h') hRl hSl
  have HR : Hid (WordsAt ad W w) := hr
  have HR' : Hid (WordsAt ad' V w) := hr'
  have HO : Hid (RootsAt rad R w) := hR
  have HO' : Hid (RootsAt sad S w) := hS
  have a1 : ¬ ((5000 : Int) < (V.length : Int)) := by omega
  generalize holdP W V R S = X at *
  clear h h' hr hR hr' hS hcW hcV hzW hzV
  go_enter Try.func4, Try.ntmps4
  go_wp2_with (first | (go_at_call 9; refine (vast_no ad rad sad _ cap _ rc _ sc _ hl hRl hSl).mono ?_; rintro e w1 ⟨rfl, hb1⟩; obtain ⟨k0, k1, z0, z1⟩ := two_ones hb1; have HR1 : Hid (WordsAt ad W w1) := words_below HR.out (below2 hb1); have HS1 : Hid (WordsAt ad' V w1) := words_below HR'.out (below2 hb1); have HO1 : Hid (RootsAt rad R w1) := HO.out.below (below2 hb1); have HP1 : Hid (RootsAt sad S w1) := HO'.out.below (below2 hb1)) | (go_at_call 14; refine (h6.out _ HR1.out HS1.out HO1.out HP1.out).mono ?_; rintro e w2 ⟨rfl, hb2⟩; have k20 := through hb2 k0 z0; have k21 := through hb2 k1 z1; have zz2 := hb2.size; have HR2 : Hid (WordsAt ad W w2) := words_below HR1.out hb2; have HS2 : Hid (WordsAt ad' V w2) := words_below HS1.out hb2; have HO2 : Hid (RootsAt rad R w2) := HO1.out.below hb2; have HP2 : Hid (RootsAt sad S w2) := HP1.out.below hb2; have z20 : w.heap.size < w2.heap.size := (by omega); have z21 : w.heap.size + 1 < w2.heap.size := (by omega)) | (go_at_call_of 11 (W.length); refine (h7.out _ (reads1 HR2.out) (HO2.out.below ((Below.refl _ _).alloc (Nat.le_refl _) _))).mono ?_; rintro e w3 ⟨rfl, hb3⟩; obtain ⟨f0, f1⟩ := box_cells hb3; have z3 := grew hb3; have k30 := through (below_call hb3) k20 z20; have k31 := through (below_call hb3) k21 z21; have z30 : w.heap.size < w3.heap.size := (by omega); have z31 : w.heap.size + 1 < w3.heap.size := (by omega); have HR3 : Hid (WordsAt ad W w3) := words_below HR2.out (below_call hb3); have HS3 : Hid (WordsAt ad' V w3) := words_below HS2.out (below_call hb3); have HO3 : Hid (RootsAt rad R w3) := HO2.out.below (below_call hb3); have HP3 : Hid (RootsAt sad S w3) := HP2.out.below (below_call hb3)) | (go_at_call_of 11 (V.length); refine (h8.out _ (reads1 HS3.out) (HP3.out.below ((Below.refl _ _).alloc (Nat.le_refl _) _))).mono ?_; rintro e w4 ⟨rfl, hb4⟩; obtain ⟨g0, g1⟩ := box_cells hb4; obtain ⟨q0, q1⟩ := box_frozen hb4; have z4 := grew hb4; have f40 := through (below_call hb4) f0 z3; have f41 := through (below_call hb4) f1 z3; have k40 := through (below_call hb4) k30 z30; have k41 := through (below_call hb4) k31 z31; have z40 : w.heap.size < w4.heap.size := (by omega); have z41 : w.heap.size + 1 < w4.heap.size := (by omega); have n23 : ¬ w2.heap.size = w3.heap.size := (by omega); have n32 : ¬ w3.heap.size = w2.heap.size := (by omega); have n03 : ¬ w.heap.size = w3.heap.size := (by omega); have n13 : ¬ w.heap.size + 1 = w3.heap.size := (by omega); have n30 : ¬ w3.heap.size = w.heap.size := (by omega); have n31 : ¬ w3.heap.size = w.heap.size + 1 := (by omega)) | (go_at_call 15; have hb34 : Hid (Below w.heap.size w ((w4.setCell ⟨w3.heap.size, 0, none⟩ (.int .i64 0)).setCell ⟨w3.heap.size, 1, none⟩ (.int .i64 0))) := ((((((below2 hb1).trans (hb2.mono (below2 hb1).size)).trans ((below_call hb3).mono (by omega))).trans ((below_call hb4).mono (by omega))).setCell (p := ⟨w3.heap.size, 0, none⟩) (by dsimp only; omega) _).setCell (p := ⟨w3.heap.size, 1, none⟩) (by dsimp only; omega) _); refine (h9.out _ (words_below HR.out hb34.out) (words_below HR'.out hb34.out) (HO.out.below hb34.out) (HO'.out.below hb34.out)).mono ?_; rintro e w5 ⟨rfl, hb5⟩; have z5 := hb5.size; have f50 := through hb5 (a := ⟨w2.heap.size, 0, none⟩) (by rw [World.cell?_setCell_other _ _ _ _ (by simp), World.cell?_setCell_other _ _ _ _ (by simp)]; exact f40) (by simp [World.setCell]; omega); have f51 := through hb5 (a := ⟨w2.heap.size, 1, none⟩) (by rw [World.cell?_setCell_other _ _ _ _ (by simp), World.cell?_setCell_other _ _ _ _ (by simp)]; exact f41) (by simp [World.setCell]; omega)))
  go_ret
  refine ⟨ret_bool (by simp), ?_⟩
  exact hb34.out.trans (hb5.mono hb34.out.size)

theorem walk (W V R S : List Int) (ad ad' rad sad : Option Addr) (cap cap' rc sc : Nat) (w : World) (hm : W.length ≤ maxLen) (hm' : V.length ≤ maxLen) (hrm : R.length ≤ maxLen) (hsm : S.length ≤ maxLen) (hr : WordsAt ad W w) (hr' : WordsAt ad' V w) (hR : RootsAt rad R w) (hS : RootsAt sad S w) :
    Calls Try.prog 4 #[.agg #[.slice ad W.length cap], .slice rad R.length rc, .agg #[.slice ad' V.length cap'], .slice sad S.length sc] w fun e w' => e = .returned (.bool true) ∧ Below w.heap.size w w' := by
  by_cases hl : W.length ≤ 5000 ∧ R.length ≤ 5000 ∧ S.length ≤ 5000
  · by_cases hl' : V.length ≤ 5000
    · by_cases h : (rootsOf W R).1 = 0
      · by_cases h' : (rootsOf V S).1 = 0
        · exact walk_good W V R S ad ad' rad sad cap cap' rc sc w hl.1 hl' hl.2.1 hl.2.2 hr hr' hR hS h h'
        · exact walk_two W V R S ad ad' rad sad cap cap' rc sc w hl.1 hl' hl.2.1 hl.2.2 hr hr' hR hS h h'
      · exact walk_one W V R S ad ad' rad sad cap cap' rc sc w hl.1 hl' hl.2.1 hl.2.2 hr hr' hR hS h
    · exact big_two ad rad ad' sad W.length cap R.length rc V.length cap' S.length sc w hl.1 hl.2.1 hl.2.2 hm' (by omega)
  · exact big_one ad rad ad' sad W.length cap R.length rc V.length cap' S.length sc w hm hrm hsm (by omega)

set_option maxRecDepth 100000 in
theorem lifted (os : Os) (started : os.Started) (H : Type) (enc : TypeId × Value → H) :
    ReturnsInHanded {} Try.checked os 4 .any (Rows.reachAlikeSpec.pre6 enc Try.prog Try.f4 Rows.reachAlikeRow.domain false) (Rows.reachAlikeSpec.post enc Try.prog Try.f4 false true false false) := by
  refine returnsInHanded_of_change (C := Try.checked) own started (by kernel_rfl) Try.func4
    (ChangeSpec.witness6 (enc := enc) (C := Try.checked) false ⟨#[], #[.agg #[.slice none 0 0], .slice none 0 0, .agg #[.slice none 0 0], .slice none 0 0], []⟩ 8 (by kernel_rfl) (by kernel_rfl) (by kernel_rfl) (by kernel_rfl)) ?_
  intro W base args ds gs before hval0 hW hcnd _
  have hval : ∀ (j : Nat) t v, Try.f4.params[j]? = some t → args[j]? = some v → Value.okWide Try.prog W .any base t v := hval0
  have hW' := hW
  obtain ⟨p, q, hA0, hV, rfl, hfz, hnd⟩ := hW
  have hA : DataW.TrodAll enc Try.prog W 0 (fun _ => true) true Try.f4.params.toList args.toList ds p := hA0
  rw [Try.params4] at hA hval
  obtain ⟨v0, vs0, d0, ds0, p0, q0, hargs, rfl, rfl, h0, r0⟩ := trodAll_cons hA
  obtain ⟨v1, vs1, d1, ds1, p1, q1, rfl, rfl, rfl, h1, r1⟩ := trodAll_cons r0
  obtain ⟨v2, vs2, d2, ds2, p2, q2, rfl, rfl, rfl, h2, r2⟩ := trodAll_cons r1
  obtain ⟨v3, vs3, d3, ds3, p3, q3, rfl, rfl, rfl, h3, r3⟩ := trodAll_cons r2
  obtain ⟨rfl, rfl, rfl⟩ := trodAll_nil r3
  obtain rfl : args = #[v0, v1, v2, v3] := by cases args; simp_all
  obtain ⟨rfl, rfl⟩ := trodVars_none hV
  have lt0 : ∀ x ∈ p0, x.block < W.heap.size := by obtain ⟨m, hm⟩ := h0; exact DataW.trod_lt m _ _ _ hm
  have lt1 : ∀ x ∈ p1, x.block < W.heap.size := by obtain ⟨m, hm⟩ := h1; exact DataW.trod_lt m _ _ _ hm
  have lt2 : ∀ x ∈ p2, x.block < W.heap.size := by obtain ⟨m, hm⟩ := h2; exact DataW.trod_lt m _ _ _ hm
  have lt3 : ∀ x ∈ p3, x.block < W.heap.size := by obtain ⟨m, hm⟩ := h3; exact DataW.trod_lt m _ _ _ hm
  obtain ⟨ad, cap, Ws, rfl, hm, hr⟩ := open_heap (hval 0 24 v0 rfl rfl) h0
  obtain ⟨rad, rcap, Rs, rfl, hrm, hrr⟩ := open_roots (hval 1 22 v1 rfl rfl) h1
  obtain ⟨ad', cap', Vs, rfl, hm', hr'⟩ := open_heap (hval 2 24 v2 rfl rfl) h2
  obtain ⟨sad, scap, Ss, rfl, hsm, hsr⟩ := open_roots (hval 3 22 v3 rfl rfl) h3
  clear hA0 hval0
  refine (walk Ws Vs Rs Ss ad ad' rad sad cap cap' rcap scap W hm hm' hrm hsm hr hr' hrr hsr).mono fun e W' ⟨he, bel⟩ => ?_
  subst he
  exact ⟨_, rfl, _, _, _, [], _, [], hW', trodAll_mk1 (shut_bool lt4 _), (trodAll_cons_mk (Below.trod laidOut (by kernel_rfl) (of_decide_eq_true (by kernel_rfl)) h0 bel lt0) (trodAll_cons_mk (Below.trod laidOut (by kernel_rfl) (of_decide_eq_true (by kernel_rfl)) h1 bel lt1) (trodAll_cons_mk (Below.trod laidOut (by kernel_rfl) (of_decide_eq_true (by kernel_rfl)) h2 bel lt2) (trodAll_cons_mk (Below.trod laidOut (by kernel_rfl) (of_decide_eq_true (by kernel_rfl)) h3 bel lt3) trodAll_mk0)))), rfl, bel.frame _, fun h => by cases h⟩

theorem over : Rows.reachAlikeRow.holds Try.pinned (OpenSpec.ofChange Rows.reachAlikeSpec) :=
  OpenClaim.holds_of_wide 4 Try.f4 rfl rfl rfl rfl rfl rfl rfl ⟨rfl, rfl, rfl, rfl, rfl⟩ rfl rfl rfl rfl rfl (by kernel_rfl) Try.func4 (by kernel_rfl)
    (of_decide_eq_true (by kernel_rfl)) (by unfold Func.isWrapper; first | (rw [if_pos (by decide +kernel)]; kernel_rfl) | (rw [if_neg (by decide +kernel)]; exact ⟨rfl, rfl⟩))
    (fun os started H enc _ => lifted os started H enc)

end Go.Proofs.Ytgggmdanpdggpab.reachAlike
namespace Go.Proofs.Ytgggmdanpdggpab
/-- The statement. -/
theorem reachAlike_holds : Rows.ReachAlikeSaid := reachAlike.over
#print axioms reachAlike_holds
end Go.Proofs.Ytgggmdanpdggpab
