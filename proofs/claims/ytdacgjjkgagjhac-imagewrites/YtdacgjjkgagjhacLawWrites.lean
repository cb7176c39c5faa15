/- ImageWrites holds for every heap and all roots that can come in, with no condition: the program makes the image that the document says, or tells what is wrong; and reads the image back. -/
import Derived.Test.YtdacgjjkgagjhacImgKit
import Derived.Test.YtdacgjjkgagjhacRef6W
namespace Go.Proofs.Ytdacgjjkgagjhac.imageWrites
open Go.ChangeShapes Go.WideShapes Go.ChangeAt Go.RowKit Go.Joins Go.Deep

theorem big (ad rad : Option Addr) (n cap rn rc : Nat) (w : World) (hm : n ≤ maxLen) (hrm : rn ≤ maxLen) (h : 5000 < n ∨ 5000 < rn) :
    Calls Try.prog 4 #[.agg #[.slice ad n cap], .slice rad rn rc] w fun e w' => e = .returned (.bool true) ∧ Below w.heap.size w w' := by
  go_enter Try.func4, Try.ntmps4
  go_wp2_with (go_at_call 11; refine (lvast_yes ad rad n cap rn rc _ hm hrm h).mono ?_; rintro e w1 ⟨rfl, hb1⟩)
  go_ret
  exact ⟨rfl, below_call hb1⟩

set_option maxRecDepth 20000 in
set_option maxHeartbeats 4000000 in
theorem walk_no (W roots : List Int) (ad rad : Option Addr) (cap rcap : Nat) (w : World) (hl : W.length ≤ 5000) (hrl : roots.length ≤ 5000) (hr : WordsAt ad W w) (hroots : RootsAt rad roots w) (h : (rootsOf W roots).1 ≠ 0) :
    Calls Try.prog 4 #[.agg #[.slice ad W.length cap], .slice rad roots.length rcap] w fun e w' => e = .returned (.bool true) ∧ Below w.heap.size w w' := by
  have HR : Hid (WordsAt ad W w) := hr
  have HO : Hid (RootsAt rad roots w) := hroots
  have h6 : Hid (∀ w0, WordsAt ad W w0 → RootsAt rad roots w0 → Calls Try.prog 12 #[heapV ad W.length cap, .slice rad roots.length rcap] w0 fun e w' => e = .returned (.tuple #[.slice none 0 0, .agg #[.int .i64 (rootsOf W roots).1, .int .i64 (rootsOf W roots).2]]) ∧ Below w0.heap.size w0 w') :=
    fun w0 h1 h2 => iwrite_bad W roots ad rad cap rcap w0 (by unfold maxLen; omega) h1 h2 hrl h
  have h7 : Hid (∀ w0, WordsAt ad W w0 → RootsAt rad roots w0 → Calls Try.prog 13 #[heapV ad W.length cap, .slice rad roots.length rcap] w0 fun e w' => e = .returned (.agg #[.int .i64 (rootsOf W roots).1, .int .i64 (rootsOf W roots).2]) ∧ Below w0.heap.size w0 w') :=
    fun w0 h1 h2 => rroots_any W roots ad rad cap rcap w0 (by unfold maxLen; omega) h1 h2 hrl
  generalize rootsOf W roots = F at *
  have hb : (F.1 != 0) = true := by simpa using h
  have hb0 : (F.1 == 0) = false := by simpa using h
  clear h hr hroots
  go_enter Try.func4, Try.ntmps4
  go_wp2_with (first | (go_at_call 11; refine (lvast_no ad rad _ cap _ rcap _ hl hrl).mono ?_; rintro e w1 ⟨rfl, hb1⟩; have k1 := box_one hb1; have z1 := grew1 hb1; have HR1 : Hid (WordsAt ad W w1) := HR.out.below (below_call hb1); have HO1 : Hid (RootsAt rad roots w1) := HO.out.below (below_call hb1)) | (go_at_call 12; refine (h6.out _ HR1.out HO1.out).mono ?_; rintro e w2 ⟨rfl, hb2⟩; have k2 := through hb2 k1 z1; have z2 := hb2.size; have HR2 : Hid (WordsAt ad W w2) := HR1.out.below hb2; have HO2 : Hid (RootsAt rad roots w2) := HO1.out.below hb2; have z02 : w.heap.size < w2.heap.size := (by omega)) | (go_at_call 13; refine (h7.out _ (reads1 HR2.out) (HO2.out.below ((Below.refl _ _).alloc (Nat.le_refl _) _))).mono ?_; rintro e w3 ⟨rfl, hb3⟩; obtain ⟨f0, f1, y0, y1, z3⟩ := box2W hb3))
  go_ret
  refine ⟨ret_bool (by simp), ?_⟩
  have hb12 := (below_call hb1).trans (hb2.mono (below_call hb1).size)
  exact (hb12.trans ((below_call hb3).mono hb12.size)).alloc (by omega) _

set_option maxRecDepth 20000 in
set_option maxHeartbeats 4000000 in
theorem walk_many (W roots : List Int) (ad rad : Option Addr) (cap rcap : Nat) (w : World) (hrl : roots.length ≤ 5000) (hr : WordsAt ad W w) (hroots : RootsAt rad roots w) (h : (rootsOf W roots).1 = 0) (h6' : 600 < roots.length) :
    Calls Try.prog 4 #[.agg #[.slice ad W.length cap], .slice rad roots.length rcap] w fun e w' => e = .returned (.bool true) ∧ Below w.heap.size w w' := by
  obtain ⟨hc, _, h00⟩ := roots_zero h
  obtain ⟨f1, f2, _⟩ := front_out (check_fine hc).1
  have hl : W.length ≤ 5000 := by omega
  have HR : Hid (WordsAt ad W w) := hr
  have HO : Hid (RootsAt rad roots w) := hroots
  have h6 : Hid (∀ w0, WordsAt ad W w0 → RootsAt rad roots w0 → Calls Try.prog 12 #[heapV ad W.length cap, .slice rad roots.length rcap] w0 fun e w' => e = .returned (.tuple #[.slice none 0 0, .agg #[.int .i64 1, .int .i64 0]]) ∧ Below w0.heap.size w0 w') :=
    fun w0 h1 h2 => iwrite_many W roots ad rad cap rcap w0 h1 h2 hrl h h6'
  have h7 : Hid (∀ w0, WordsAt ad W w0 → RootsAt rad roots w0 → Calls Try.prog 13 #[heapV ad W.length cap, .slice rad roots.length rcap] w0 fun e w' => e = .returned (.agg #[.int .i64 0, .int .i64 0]) ∧ Below w0.heap.size w0 w') :=
    fun w0 h1 h2 => by have := rroots_any W roots ad rad cap rcap w0 (by unfold maxLen; omega) h1 h2 hrl; rw [h00] at this; exact this
  have hgt : (600 : Int) < (roots.length : Int) := by omega
  clear h hr hroots hc f1 f2 h6' h00
  go_enter Try.func4, Try.ntmps4
  go_wp2_with (first | (go_at_call 11; refine (lvast_no ad rad _ cap _ rcap _ hl hrl).mono ?_; rintro e w1 ⟨rfl, hb1⟩; have k1 := box_one hb1; have z1 := grew1 hb1; have HR1 : Hid (WordsAt ad W w1) := HR.out.below (below_call hb1); have HO1 : Hid (RootsAt rad roots w1) := HO.out.below (below_call hb1)) | (go_at_call 12; refine (h6.out _ HR1.out HO1.out).mono ?_; rintro e w2 ⟨rfl, hb2⟩; have k2 := through hb2 k1 z1; have z2 := hb2.size; have HR2 : Hid (WordsAt ad W w2) := HR1.out.below hb2; have HO2 : Hid (RootsAt rad roots w2) := HO1.out.below hb2; have z02 : w.heap.size < w2.heap.size := (by omega)) | (go_at_call 13; refine (h7.out _ (reads1 HR2.out) (HO2.out.below ((Below.refl _ _).alloc (Nat.le_refl _) _))).mono ?_; rintro e w3 ⟨rfl, hb3⟩; obtain ⟨f0, f1, y0, y1, z3⟩ := box2W hb3))
  go_ret
  refine ⟨ret_bool (by simp), ?_⟩
  have hb12 := (below_call hb1).trans (hb2.mono (below_call hb1).size)
  have hb13 := hb12.trans ((below_call hb3).mono hb12.size)
  repeat (first | refine Below.setCell ?_ (by dsimp only; omega) _ | refine Below.alloc ?_ (by first | omega | (simp; omega)) _ | exact hb13)

set_option maxRecDepth 20000 in
set_option maxHeartbeats 4000000 in
theorem walk_yes (W roots : List Int) (ad rad : Option Addr) (cap rcap : Nat) (w : World) (hr : WordsAt ad W w) (hroots : RootsAt rad roots w) (h : (rootsOf W roots).1 = 0) (h6' : roots.length ≤ 600) :
    Calls Try.prog 4 #[.agg #[.slice ad W.length cap], .slice rad roots.length rcap] w fun e w' => e = .returned (.bool true) ∧ Below w.heap.size w w' := by
  obtain ⟨hc, _, h00⟩ := roots_zero h
  obtain ⟨f1, f2, _⟩ := front_out (check_fine hc).1
  have hl : W.length ≤ 5000 := by omega
  have hrl : roots.length ≤ 5000 := by omega
  have hW2 : 2 ≤ W.length := f1
  have hlm : W.length ≤ 1000000 := by omega
  have hrm : roots.length ≤ 1000000 := by omega
  have HR : Hid (WordsAt ad W w) := hr
  have HO : Hid (RootsAt rad roots w) := hroots
  have h6 : Hid (∀ w0, WordsAt ad W w0 → RootsAt rad roots w0 → Calls Try.prog 12 #[heapV ad W.length cap, .slice rad roots.length rcap] w0 fun e w' => WriteAns w0.heap.size (imageB W roots) e w' ∧ Below w0.heap.size w0 w') :=
    fun w0 h1 h2 => iwrite_good W roots ad rad cap rcap w0 h1 h2 h h6'
  have h7 : Hid (∀ w0, WordsAt ad W w0 → RootsAt rad roots w0 → Calls Try.prog 13 #[heapV ad W.length cap, .slice rad roots.length rcap] w0 fun e w' => e = .returned (.agg #[.int .i64 0, .int .i64 0]) ∧ Below w0.heap.size w0 w') :=
    fun w0 h1 h2 => by have := rroots_any W roots ad rad cap rcap w0 (by unfold maxLen; omega) h1 h2 hrl; rw [h00] at this; exact this
  have h8 : Hid (∀ w0, WordsAt ad W w0 → RootsAt rad roots w0 → Calls Try.prog 14 #[heapV ad W.length cap, .slice rad roots.length rcap] w0 fun e w' => AnsB w0.heap.size (imageB W roots) e w' ∧ Below w0.heap.size w0 w') :=
    fun w0 h1 h2 => rWrite_any W roots ad rad cap rcap w0 h1 h2 h h6'
  have h9 : Hid (∀ ad cap w0, BytesAt ad (imageB W roots) w0 → Calls Try.prog 15 #[.slice ad (imageB W roots).length cap] w0 fun e w' => ReadAns w0.heap.size W roots e w' ∧ Below w0.heap.size w0 w') :=
    fun ad cap w0 hb => iread_image W roots ad cap w0 h h6' (by have := image_short h h6'; unfold maxLen; omega) hb
  have HB : Hid (∀ c ∈ imageB W roots, 0 ≤ c ∧ c ≤ 255) := image_bytes W roots
  have hng : ¬ (600 : Int) < (roots.length : Int) := by omega
  have hWW : (W == W) = true := by simp
  have hRR : (roots == roots) = true := by simp
  generalize imageB W roots = I at *
  clear h hr hroots hc f1 f2 h6' h00
  go_enter Try.func4, Try.ntmps4
  go_wp2_with (first | (go_at_call 11; refine (lvast_no ad rad _ cap _ rcap _ hl hrl).mono ?_; rintro e w1 ⟨rfl, hb1⟩; have k1 := box_one hb1; have z1 := grew1 hb1; have HR1 : Hid (WordsAt ad W w1) := HR.out.below (below_call hb1); have HO1 : Hid (RootsAt rad roots w1) := HO.out.below (below_call hb1); have hB1 := below_call hb1) | (go_at_call 12; refine (h6.out _ HR1.out HO1.out).mono ?_; rintro e w2 ⟨⟨g2, c2, rfl, hg2, hh2⟩, hb2⟩; have k2 := through hb2 k1 z1; have z2 := hb2.size; have hB2 := hB1.trans (hb2.mono hB1.size); have HR2 : Hid (WordsAt ad W w2) := HR.out.below hB2; have HO2 : Hid (RootsAt rad roots w2) := HO.out.below hB2; have z02 : w.heap.size < w2.heap.size := (by omega)) | (go_at_call 13; refine (h7.out _ (reads1 HR2.out) (HO2.out.below ((Below.refl _ _).alloc (Nat.le_refl _) _))).mono ?_; rintro e w3 ⟨rfl, hb3⟩; obtain ⟨f0, f1, y0, y1, z3⟩ := box2W hb3; have hB3 := hB2.trans ((below_call hb3).mono hB2.size); have k3 := through (below_call hb3) k2 z02; have z03 : w.heap.size < w3.heap.size := (by omega); have HR3 : Hid (WordsAt ad W w3) := HR.out.below hB3; have HO3 : Hid (RootsAt rad roots w3) := HO.out.below hB3; have hh3 := hh2.same (below_call hb3)) | (go_at_call 14; refine (h8.out _ (reads1 HR3.out) (HO3.out.below ((Below.refl _ _).alloc (Nat.le_refl _) _))).mono ?_; rintro e w4 ⟨⟨g4, c4, rfl, hg4, hh4⟩, hb4⟩; have hB4 := hB3.trans ((below_call hb4).mono hB3.size); have s4 := (below_call hb4).size; have k4 := through (below_call hb4) k3 z03; have f04 := through (below_call hb4) f0 z3; have f14 := through (below_call hb4) f1 z3; have y04 := throughF (below_call hb4) y0 z3; have y14 := throughF (below_call hb4) y1 z3; have hh24 := hh3.same (below_call hb4); have z4 : w2.heap.size < w4.heap.size := (by omega); have z04 : w.heap.size < w4.heap.size := (by omega); have q1 := str_row (n := I.length) (cap := c2) (hh24.row HB.out) rfl; have q2 := str_row (n := I.length) (cap := c4) (hh4.row HB.out) rfl) | (go_at_call 15; refine (h9.out _ _ _ (own_bytes hh24 HB.out)).mono ?_; rintro e w5 ⟨⟨g5, g5', rfl, r5, r5', hg5, hg5'⟩, hb5⟩; have hB5 := hB4.trans (hb5.mono hB4.size); have s5 := hb5.size; have k5 := through hb5 k4 z04; have f05 := through hb5 f04 z4; have f15 := through hb5 f14 z4; have y05 := throughF hb5 y04 z4; have y15 := throughF hb5 y14 z4; have z5 : w2.heap.size < w5.heap.size := (by omega); have z05 : w.heap.size < w5.heap.size := (by omega)) | (go_at_call 16; refine (lheaps_any W W _ _ _ (Reads.of_row (by repeat (first | refine row_set ?_ (by dsimp only; omega) _ | refine Row.alloc ?_ _ | exact r5))) (reads_words (HR.out.below (by repeat (first | refine Below.setCell ?_ (by dsimp only; omega) _ | refine Below.alloc ?_ (by first | omega | (simp; omega)) _ | exact hB5))) hW2) hlm).mono ?_; rw [hWW]; rintro e w6 ⟨rfl, hb6⟩; obtain ⟨f06, f16, z6, hrow6, hbel6⟩ := after_set hb6 f05 f15 z5; have hB6 := hbel6 _ _ hB5 (by omega); have r6' := hrow6 _ _ _ r5' (by omega); have z26 : w2.heap.size < w6.heap.size := (by omega)) | (go_at_call 17; refine (ints_any roots roots _ _ _ (Reads.of_row r6') (reads_roots (HO.out.below hB6)) hrm).mono ?_; rw [hRR]; rintro e w7 ⟨rfl, m, rfl⟩))
  go_ret
  exact ⟨ret_bool (by simp), below_drewN hB6 m⟩

theorem walk (W roots : List Int) (ad rad : Option Addr) (cap rcap : Nat) (w : World) (hm : W.length ≤ maxLen) (hrm : roots.length ≤ maxLen) (hr : WordsAt ad W w) (hroots : RootsAt rad roots w) :
    Calls Try.prog 4 #[.agg #[.slice ad W.length cap], .slice rad roots.length rcap] w fun e w' => e = .returned (.bool true) ∧ Below w.heap.size w w' := by
  by_cases hl : W.length ≤ 5000 ∧ roots.length ≤ 5000
  · by_cases h : (rootsOf W roots).1 = 0
    · by_cases h6 : roots.length ≤ 600
      · exact walk_yes W roots ad rad cap rcap w hr hroots h h6
      · exact walk_many W roots ad rad cap rcap w hl.2 hr hroots h (by omega)
    · exact walk_no W roots ad rad cap rcap w hl.1 hl.2 hr hroots h
  · exact big ad rad W.length cap roots.length rcap w hm hrm (by omega)

set_option maxRecDepth 100000 in
theorem lifted (os : Os) (started : os.Started) (H : Type) (enc : TypeId × Value → H) :
    ReturnsInHanded {} Try.checked os 4 .any (Rows.imageWritesSpec.pre6 enc Try.prog Try.f4 Rows.imageWritesRow.domain false) (Rows.imageWritesSpec.post enc Try.prog Try.f4 false true false false) := by
  refine returnsInHanded_of_change (C := Try.checked) own started (by kernel_rfl) Try.func4
    (ChangeSpec.witness6 (enc := enc) (C := Try.checked) false ⟨#[], #[.agg #[.slice none 0 0], .slice none 0 0], []⟩ 8 (by kernel_rfl) (by kernel_rfl) (by kernel_rfl) (by kernel_rfl)) ?_
  intro W base args ds gs before hval0 hW hcnd _
  have hval : ∀ (j : Nat) t v, Try.f4.params[j]? = some t → args[j]? = some v → Value.okWide Try.prog W .any base t v := hval0
  have hW' := hW
  obtain ⟨p, q, hA0, hV, rfl, hfz, hnd⟩ := hW
  have hA : DataW.TrodAll enc Try.prog W 0 (fun _ => true) true Try.f4.params.toList args.toList ds p := hA0
  rw [Try.params4] at hA hval
  obtain ⟨v0, vs0, d0, ds0, p0, q0, hargs, rfl, rfl, h0, r0⟩ := trodAll_cons hA
  obtain ⟨v1, vs1, d1, ds1, p1, q1, rfl, rfl, rfl, h1, r1⟩ := trodAll_cons r0
  obtain ⟨rfl, rfl, rfl⟩ := trodAll_nil r1
  obtain rfl : args = #[v0, v1] := by cases args; simp_all
  obtain ⟨rfl, rfl⟩ := trodVars_none hV
  have lt0 : ∀ x ∈ p0, x.block < W.heap.size := by obtain ⟨m, hm⟩ := h0; exact DataW.trod_lt m _ _ _ hm
  have lt1 : ∀ x ∈ p1, x.block < W.heap.size := by obtain ⟨m, hm⟩ := h1; exact DataW.trod_lt m _ _ _ hm
  obtain ⟨ad0, cap0, L0, rfl, hm0, hr0⟩ := open_heap (hval 0 24 v0 rfl rfl) h0
  obtain ⟨ad1, cap1, L1, rfl, hm1, hr1⟩ := open_ints' (hval 1 22 v1 rfl rfl) h1
  clear hA0 hval0
  refine (walk L0 L1 ad0 ad1 cap0 cap1 W hm0 hm1 hr0 hr1).mono fun e W' ⟨he, bel⟩ => ?_
  subst he
  exact ⟨_, rfl, _, _, _, [], _, [], hW', trodAll_mk1 (shut_bool lt4 _), (trodAll_cons_mk (Below.trod laidOut (by kernel_rfl) (of_decide_eq_true (by kernel_rfl)) h0 bel lt0) (trodAll_cons_mk (Below.trod laidOut (by kernel_rfl) (of_decide_eq_true (by kernel_rfl)) h1 bel lt1) trodAll_mk0)), rfl, bel.frame _, fun h => by cases h⟩

theorem over : Rows.imageWritesRow.holds Try.pinned (OpenSpec.ofChange Rows.imageWritesSpec) :=
  OpenClaim.holds_of_wide 4 Try.f4 rfl rfl rfl rfl rfl rfl rfl ⟨rfl, rfl, rfl, rfl, rfl⟩ rfl rfl rfl rfl rfl (by kernel_rfl) Try.func4 (by kernel_rfl)
    (of_decide_eq_true (by kernel_rfl)) (by unfold Func.isWrapper; first | (rw [if_pos (by decide +kernel)]; kernel_rfl) | (rw [if_neg (by decide +kernel)]; exact ⟨rfl, rfl⟩))
    (fun os started H enc _ => lifted os started H enc)

end Go.Proofs.Ytdacgjjkgagjhac.imageWrites
namespace Go.Proofs.Ytdacgjjkgagjhac
/-- The statement. -/
theorem imageWrites_holds : Rows.ImageWritesSaid := imageWrites.over
#print axioms imageWrites_holds
end Go.Proofs.Ytdacgjjkgagjhac
