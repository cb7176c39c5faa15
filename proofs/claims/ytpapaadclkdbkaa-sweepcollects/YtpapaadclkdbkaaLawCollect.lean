/- SweepCollects holds for every heap and all roots that can come in, with no condition: the program keeps just what is reached, as the document says, or tells the fault of the heap and the roots. -/
import Derived.Test.YtpapaadclkdbkaaLawKit
import Derived.Test.YtpapaadclkdbkaaRefCollect
namespace Go.Proofs.Ytpapaadclkdbkaa.sweepCollects
open Go.ChangeShapes Go.WideShapes Go.ChangeAt Go.RowKit Go.Joins Go.Deep

theorem big (ad rad : Option Addr) (n cap rn rc : Nat) (w : World) (hm : n ≤ maxLen) (hrm : rn ≤ maxLen) (h : 5000 < n ∨ 5000 < rn) :
    Calls Try.prog 6 #[.agg #[.slice ad n cap], .slice rad rn rc] w fun e w' => e = .returned (.bool true) ∧ Below w.heap.size w w' := by
  go_enter Try.func6, Try.ntmps6
  go_wp2_with (go_at_call 19; refine (lvast_yes ad rad n cap rn rc _ hm hrm h).mono ?_; rintro e w1 ⟨rfl, hb1⟩)
  go_ret
  exact ⟨rfl, below_call hb1⟩

set_option maxHeartbeats 4000000 in
theorem walk_no (W roots : List Int) (ad rad : Option Addr) (cap rcap : Nat) (w : World) (hl : W.length ≤ 5000) (hrl : roots.length ≤ 5000) (hr : WordsAt ad W w) (hroots : RootsAt rad roots w) (h : (rootsOf W roots).1 ≠ 0) :
    Calls Try.prog 6 #[.agg #[.slice ad W.length cap], .slice rad roots.length rcap] w fun e w' => e = .returned (.bool true) ∧ Below w.heap.size w w' := by
  have HR : Hid (WordsAt ad W w) := hr
  have HO : Hid (RootsAt rad roots w) := hroots
  have h6 : Hid (∀ w0, WordsAt ad W w0 → RootsAt rad roots w0 → Calls Try.prog 20 #[heapV ad W.length cap, .slice rad roots.length rcap] w0 fun e w' => e = .returned (.tuple #[.agg #[.slice none 0 0], .slice none 0 0, .agg #[.int .i64 (rootsOf W roots).1, .int .i64 (rootsOf W roots).2]]) ∧ Below w0.heap.size w0 w') :=
    fun w0 h1 h2 => collect_no W roots ad rad cap rcap w0 (by unfold maxLen; omega) h1 h2 hrl h
  have h7 : Hid (∀ w0, WordsAt ad W w0 → RootsAt rad roots w0 → Calls Try.prog 21 #[heapV ad W.length cap, .slice rad roots.length rcap] w0 fun e w' => e = .returned (.agg #[.int .i64 (rootsOf W roots).1, .int .i64 (rootsOf W roots).2]) ∧ Below w0.heap.size w0 w') :=
    fun w0 h1 h2 => rroots_any W roots ad rad cap rcap w0 (by unfold maxLen; omega) h1 h2 hrl
  generalize rootsOf W roots = F at *
  have hb : (F.1 != 0) = true := by simpa using h
  clear h hr hroots
  go_enter Try.func6, Try.ntmps6
  go_wp2_with (first | (go_at_call 19; refine (lvast_no ad rad _ cap _ rcap _ hl hrl).mono ?_; rintro e w1 ⟨rfl, hb1⟩; have k1 := box_one hb1; have z1 := grew1 hb1; have HR1 : Hid (WordsAt ad W w1) := HR.out.below (below_call hb1); have HO1 : Hid (RootsAt rad roots w1) := HO.out.below (below_call hb1)) | (go_at_call 20; refine (h6.out _ HR1.out HO1.out).mono ?_; rintro e w2 ⟨rfl, hb2⟩; have k2 := through hb2 k1 z1; have z2 := hb2.size; have HR2 : Hid (WordsAt ad W w2) := HR1.out.below hb2; have HO2 : Hid (RootsAt rad roots w2) := HO1.out.below hb2; have z02 : w.heap.size < w2.heap.size := (by omega)) | (go_at_call 21; refine (h7.out _ (reads2 HR2.out) (HO2.out.below (((Below.refl _ _).alloc (Nat.le_refl _) _).alloc (by simp) _))).mono ?_; rintro e w3 ⟨rfl, hb3⟩; obtain ⟨f0, f1, f2, z3⟩ := boxes12 hb3; have z30 : w2.heap.size < w3.heap.size := (by omega)))
  go_ret
  refine ⟨ret_bool (by simp), ?_⟩
  have hb12 := (below_call hb1).trans (hb2.mono (below_call hb1).size)
  exact (hb12.trans ((below2 hb3).mono hb12.size)).alloc (by omega) _

set_option maxHeartbeats 4000000 in
theorem walk_yes (W roots : List Int) (ad rad : Option Addr) (cap rcap : Nat) (w : World) (hrl : roots.length ≤ 5000) (hr : WordsAt ad W w) (hroots : RootsAt rad roots w) (h : (rootsOf W roots).1 = 0) :
    Calls Try.prog 6 #[.agg #[.slice ad W.length cap], .slice rad roots.length rcap] w fun e w' => e = .returned (.bool true) ∧ Below w.heap.size w w' := by
  obtain ⟨hc, _, h00⟩ := roots_zero h
  have M := stay_moves hc (ok_rootsOf h)
  have hl := M.fine.few
  have h2 := M.two
  have HR : Hid (WordsAt ad W w) := hr
  have HO : Hid (RootsAt rad roots w) := hroots
  have h6 : Hid (∀ w0, WordsAt ad W w0 → RootsAt rad roots w0 → Calls Try.prog 20 #[heapV ad W.length cap, .slice rad roots.length rcap] w0 fun e w' => CollectAns (sweptW W roots) (sweptR W roots) w0.heap.size e w' ∧ Below w0.heap.size w0 w') :=
    fun w0 h1 h2 => collect_yes W roots ad rad cap rcap w0 h1 h2 hrl h M
  have h7 : Hid (∀ w0, WordsAt ad W w0 → RootsAt rad roots w0 → Calls Try.prog 21 #[heapV ad W.length cap, .slice rad roots.length rcap] w0 fun e w' => e = .returned (.agg #[.int .i64 0, .int .i64 0]) ∧ Below w0.heap.size w0 w') :=
    fun w0 h1 h2 => by have := rroots_any W roots ad rad cap rcap w0 (by unfold maxLen; omega) h1 h2 hrl; rw [h00] at this; exact this
  have h8 : Hid (∀ w0, WordsAt ad W w0 → RootsAt rad roots w0 → Calls Try.prog 22 #[heapV ad W.length cap, .slice rad roots.length rcap] w0 fun e w' => RColAns (sweptW W roots) (sweptR W roots) w0.heap.size e w' ∧ Below w0.heap.size w0 w') :=
    fun w0 h1 h3 => by obtain ⟨b, off, rfl, hrow⟩ := h1 h2; exact rcollect_any W roots b off cap rad rcap w0 hrow h3 hrl M
  have hKl : (sweptW W roots).length ≤ 2000 := M.few
  have hLl : (sweptR W roots).length ≤ 5000 := by unfold sweptR; rw [List.length_map]; exact hrl
  generalize sweptW W roots = K at *
  generalize sweptR W roots = L at *
  have hl5 : W.length ≤ 5000 := by omega
  have hKK : (K == K) = true := by simp
  have hLL : (L == L) = true := by simp
  clear h hr hroots hc h00 M
  go_enter Try.func6, Try.ntmps6
  go_wp2_with (first | (go_at_call 19; refine (lvast_no ad rad _ cap _ rcap _ hl5 hrl).mono ?_; rintro e w1 ⟨rfl, hb1⟩; have k1 := box_one hb1; have z1 := grew1 hb1; have HR1 : Hid (WordsAt ad W w1) := HR.out.below (below_call hb1); have HO1 : Hid (RootsAt rad roots w1) := HO.out.below (below_call hb1)) | (go_at_call 20; refine (h6.out _ HR1.out HO1.out).mono ?_; rintro e w2 ⟨⟨g, c, g', c', rfl, hg, hg', hownK, hownL⟩, hb2⟩; have k2 := through hb2 k1 z1; have z2 := hb2.size; have HR2 : Hid (WordsAt ad W w2) := HR1.out.below hb2; have HO2 : Hid (RootsAt rad roots w2) := HO1.out.below hb2; have z02 : w.heap.size < w2.heap.size := (by omega); have hrK := Reads.of_own hownK; have hrL := Reads.of_own hownL) | (go_at_call 21; refine (h7.out _ (reads2 HR2.out) (HO2.out.below (((Below.refl _ _).alloc (Nat.le_refl _) _).alloc (by simp) _))).mono ?_; rintro e w3 ⟨rfl, hb3⟩; obtain ⟨f0, f1, f2, z3⟩ := boxes12 hb3; have z30 : w2.heap.size < w3.heap.size := (by omega); have k3 := through (below2 hb3) k2 z02; have z03 : w.heap.size < w3.heap.size := (by omega); have HR3 : Hid (WordsAt ad W w3) := HR2.out.below (below2 hb3); have HO3 : Hid (RootsAt rad roots w3) := HO2.out.below (below2 hb3); have hrK3 := hrK.below (below2 hb3); have hrL3 := hrL.below (below2 hb3)) | (go_at_call 22; refine (h8.out _ (reads1 HR3.out) (HO3.out.below ((Below.refl _ _).alloc (Nat.le_refl _) _))).mono ?_; rintro e w4 ⟨⟨g4, c4, v4, rfl, hownK4, hownL4⟩, hb4⟩; have z4 := grew1 hb4; have e0 := through (below_call hb4) f0 z30; have e1 := through (below_call hb4) f1 z3; have e2 := through (below_call hb4) f2 z3; have z40 : w2.heap.size < w4.heap.size := (by omega); have z41 : w2.heap.size + 1 < w4.heap.size := (by omega); have hrK4 := hrK3.below (below_call hb4); have hrL4 := hrL3.below (below_call hb4); have hrKd := Reads.of_own hownK4; have hrLd := Reads.of_own hownL4; have bA : Below w4.heap.size w4 (w4.alloc (.cells #[sl g4 K.length c4] 24)) := (Below.refl _ _).alloc (Nat.le_refl _) _) | (go_at_call 12; refine (lheaps_any K K _ _ _ (hrK4.below bA) (hrKd.below bA) (by omega)).mono ?_; rw [hKK]; rintro e w5 ⟨rfl, hb5⟩; have bB := bA.trans (hb5.mono bA.size); have i1 := through bB e1 z41; have i2 := through bB e2 z41; have z50 : w2.heap.size + 1 < w5.heap.size := (by have := bB.size; omega)) | (go_at_call 16; refine (ints_any L L _ _ _ (hrL4.below bB) (hrLd.below bB) (by omega)).mono ?_; rw [hLL]; rintro e w6 ⟨rfl, m, rfl⟩))
  go_ret
  refine ⟨ret_bool (by simp), ?_⟩
  have hb12 := (below_call hb1).trans (hb2.mono (below_call hb1).size)
  have hb13 := hb12.trans ((below2 hb3).mono hb12.size)
  have hb14 := hb13.trans ((below_call hb4).mono hb13.size)
  exact below_drewN (hb14.trans (bB.mono hb14.size)) m

theorem walk (W roots : List Int) (ad rad : Option Addr) (cap rcap : Nat) (w : World) (hm : W.length ≤ maxLen) (hrm : roots.length ≤ maxLen) (hr : WordsAt ad W w) (hroots : RootsAt rad roots w) :
    Calls Try.prog 6 #[.agg #[.slice ad W.length cap], .slice rad roots.length rcap] w fun e w' => e = .returned (.bool true) ∧ Below w.heap.size w w' := by
  by_cases hl : W.length ≤ 5000 ∧ roots.length ≤ 5000
  · by_cases h : (rootsOf W roots).1 = 0
    · exact walk_yes W roots ad rad cap rcap w hl.2 hr hroots h
    · exact walk_no W roots ad rad cap rcap w hl.1 hl.2 hr hroots h
  · exact big ad rad W.length cap roots.length rcap w hm hrm (by omega)

set_option maxRecDepth 100000 in
theorem lifted (os : Os) (started : os.Started) (H : Type) (enc : TypeId × Value → H) :
    ReturnsInHanded {} Try.checked os 6 .any (Rows.sweepCollectsSpec.pre6 enc Try.prog Try.f6 Rows.sweepCollectsRow.domain false) (Rows.sweepCollectsSpec.post enc Try.prog Try.f6 false true false false) := by
  refine returnsInHanded_of_change (C := Try.checked) own started (by kernel_rfl) Try.func6
    (ChangeSpec.witness6 (enc := enc) (C := Try.checked) false ⟨#[], #[.agg #[.slice none 0 0], .slice none 0 0], []⟩ 8 (by kernel_rfl) (by kernel_rfl) (by kernel_rfl) (by kernel_rfl)) ?_
  intro W base args ds gs before hval0 hW hcnd _
  have hval : ∀ (j : Nat) t v, Try.f6.params[j]? = some t → args[j]? = some v → Value.okWide Try.prog W .any base t v := hval0
  have hW' := hW
  obtain ⟨p, q, hA0, hV, rfl, hfz, hnd⟩ := hW
  have hA : DataW.TrodAll enc Try.prog W 0 (fun _ => true) true Try.f6.params.toList args.toList ds p := hA0
  rw [Try.params6] at hA hval
  obtain ⟨v0, vs0, d0, ds0, p0, q0, hargs, rfl, rfl, h0, r0⟩ := trodAll_cons hA
  obtain ⟨v1, vs1, d1, ds1, p1, q1, rfl, rfl, rfl, h1, r1⟩ := trodAll_cons r0
  obtain ⟨rfl, rfl, rfl⟩ := trodAll_nil r1
  obtain rfl : args = #[v0, v1] := by cases args; simp_all
  obtain ⟨rfl, rfl⟩ := trodVars_none hV
  have lt0 : ∀ x ∈ p0, x.block < W.heap.size := by obtain ⟨m, hm⟩ := h0; exact DataW.trod_lt m _ _ _ hm
  have lt1 : ∀ x ∈ p1, x.block < W.heap.size := by obtain ⟨m, hm⟩ := h1; exact DataW.trod_lt m _ _ _ hm
  obtain ⟨ad0, cap0, L0, rfl, hm0, hr0⟩ := open_heap (hval 0 24 v0 rfl rfl) h0
  obtain ⟨ad1, cap1, L1, rfl, hm1, hr1⟩ := open_ints' (hval 1 22 v1 rfl rfl) h1
  clear hA0 hval0
  refine (walk L0 L1 ad0 ad1 cap0 cap1 W hm0 hm1 hr0 hr1).mono fun e W' ⟨he, bel⟩ => ?_
  subst he
  exact ⟨_, rfl, _, _, _, [], _, [], hW', trodAll_mk1 (shut_bool lt4 _), (trodAll_cons_mk (Below.trod laidOut (by kernel_rfl) (of_decide_eq_true (by kernel_rfl)) h0 bel lt0) (trodAll_cons_mk (Below.trod laidOut (by kernel_rfl) (of_decide_eq_true (by kernel_rfl)) h1 bel lt1) trodAll_mk0)), rfl, bel.frame _, fun h => by cases h⟩

theorem over : Rows.sweepCollectsRow.holds Try.pinned (OpenSpec.ofChange Rows.sweepCollectsSpec) :=
  OpenClaim.holds_of_wide 6 Try.f6 rfl rfl rfl rfl rfl rfl rfl ⟨rfl, rfl, rfl, rfl, rfl⟩ rfl rfl rfl rfl rfl (by kernel_rfl) Try.func6 (by kernel_rfl)
    (of_decide_eq_true (by kernel_rfl)) (by unfold Func.isWrapper; first | (rw [if_pos (by decide +kernel)]; kernel_rfl) | (rw [if_neg (by decide +kernel)]; exact ⟨rfl, rfl⟩))
    (fun os started H enc _ => lifted os started H enc)

end Go.Proofs.Ytpapaadclkdbkaa.sweepCollects
namespace Go.Proofs.Ytpapaadclkdbkaa
/-- The statement. -/
theorem sweepCollects_holds : Rows.SweepCollectsSaid := sweepCollects.over
#print axioms sweepCollects_holds
end Go.Proofs.Ytpapaadclkdbkaa
