/- MoveHolds holds for every heap and all roots that can come in, with no condition: what the program moves may be, and is alike to what was there by the document's answer. -/
import Derived.Test.YtfmapgbkajlfkaaLawKit
import Derived.Test.YtfmapgbkajlfkaaMoveGo
import Derived.Test.YtfmapgbkajlfkaaRefAlike
namespace Go.Proofs.Ytfmapgbkajlfkaa.moveHolds
open Go.ChangeShapes Go.WideShapes Go.ChangeAt Go.RowKit Go.Joins Go.Deep

theorem big (ad rad : Option Addr) (n cap rn rc : Nat) (w : World) (hm : n ≤ maxLen) (hrm : rn ≤ maxLen) (h : 5000 < n ∨ 5000 < rn) :
    Calls Try.prog 4 #[.agg #[.slice ad n cap], .slice rad rn rc] w fun e w' => e = .returned (.bool true) ∧ Below w.heap.size w w' := by
  go_enter Try.func4, Try.ntmps4
  go_wp2_with (go_at_call 6; refine (lvast_yes ad rad n cap rn rc _ hm hrm h).mono ?_; rintro e w1 ⟨rfl, hb1⟩)
  go_ret
  exact ⟨rfl, below_call hb1⟩

set_option maxHeartbeats 4000000 in
theorem walk_no (W roots : List Int) (ad rad : Option Addr) (cap rcap : Nat) (w : World) (hl : W.length ≤ 5000) (hrl : roots.length ≤ 5000) (hr : WordsAt ad W w) (hroots : RootsAt rad roots w) (h : (rootsOf W roots).1 ≠ 0) :
    Calls Try.prog 4 #[.agg #[.slice ad W.length cap], .slice rad roots.length rcap] w fun e w' => e = .returned (.bool true) ∧ Below w.heap.size w w' := by
  have HR : Hid (WordsAt ad W w) := hr
  have HO : Hid (RootsAt rad roots w) := hroots
  have h6 : Hid (∀ w0, WordsAt ad W w0 → RootsAt rad roots w0 → Calls Try.prog 7 #[heapV ad W.length cap, .slice rad roots.length rcap] w0 fun e w' => e = .returned (.tuple #[.agg #[.slice none 0 0], .slice none 0 0, .agg #[.int .i64 (rootsOf W roots).1, .int .i64 (rootsOf W roots).2]]) ∧ Below w0.heap.size w0 w') :=
    fun w0 h1 h2 => mcollect_no W roots ad rad cap rcap w0 (by unfold maxLen; omega) h1 h2 hrl h
  have h7 : Hid (∀ w0, WordsAt ad W w0 → RootsAt rad roots w0 → Calls Try.prog 8 #[heapV ad W.length cap, .slice rad roots.length rcap] w0 fun e w' => e = .returned (.agg #[.int .i64 (rootsOf W roots).1, .int .i64 (rootsOf W roots).2]) ∧ Below w0.heap.size w0 w') :=
    fun w0 h1 h2 => rroots_any W roots ad rad cap rcap w0 (by unfold maxLen; omega) h1 h2 hrl
  generalize rootsOf W roots = F at *
  have hb : (F.1 != 0) = true := by simpa using h
  clear h hr hroots
  go_enter Try.func4, Try.ntmps4
  go_wp2_with (first | (go_at_call 6; refine (lvast_no ad rad _ cap _ rcap _ hl hrl).mono ?_; rintro e w1 ⟨rfl, hb1⟩; have k1 := box_one hb1; have z1 := grew1 hb1; have HR1 : Hid (WordsAt ad W w1) := HR.out.below (below_call hb1); have HO1 : Hid (RootsAt rad roots w1) := HO.out.below (below_call hb1)) | (go_at_call 7; refine (h6.out _ HR1.out HO1.out).mono ?_; rintro e w2 ⟨rfl, hb2⟩; have k2 := through hb2 k1 z1; have z2 := hb2.size; have HR2 : Hid (WordsAt ad W w2) := HR1.out.below hb2; have HO2 : Hid (RootsAt rad roots w2) := HO1.out.below hb2; have z02 : w.heap.size < w2.heap.size := (by omega)) | (go_at_call 8; refine (h7.out _ (reads2 HR2.out) (HO2.out.below (((Below.refl _ _).alloc (Nat.le_refl _) _).alloc (by simp) _))).mono ?_; rintro e w3 ⟨rfl, hb3⟩; obtain ⟨f0, f1, f2, z3⟩ := boxes12 hb3; have z30 : w2.heap.size < w3.heap.size := (by omega)))
  go_ret
  refine ⟨ret_bool (by simp), ?_⟩
  have hb12 := (below_call hb1).trans (hb2.mono (below_call hb1).size)
  exact (hb12.trans ((below2 hb3).mono hb12.size)).alloc (by omega) _

set_option maxHeartbeats 8000000 in
theorem walk_yes (W roots : List Int) (ad rad : Option Addr) (cap rcap : Nat) (w : World) (hcp : W.length ≤ cap) (hrl : roots.length ≤ 5000) (hr : WordsAt ad W w) (hroots : RootsAt rad roots w) (h : (rootsOf W roots).1 = 0) :
    Calls Try.prog 4 #[.agg #[.slice ad W.length cap], .slice rad roots.length rcap] w fun e w' => e = .returned (.bool true) ∧ Below w.heap.size w w' := by
  obtain ⟨hc, _, h00⟩ := roots_zero h
  have M := mv_moves hc (ok_rootsOf h)
  have hl := M.fine.few
  have h2 := M.two
  have HR : Hid (WordsAt ad W w) := hr
  have HO : Hid (RootsAt rad roots w) := hroots
  have hKc : (checkOf (mvW W roots)).1 = 0 := M.may'
  have hKo : ∀ y ∈ mvR W roots, okRef (mvW W roots) y := M.ok_roots
  have h6 : Hid (∀ w0, WordsAt ad W w0 → RootsAt rad roots w0 → Calls Try.prog 7 #[heapV ad W.length cap, .slice rad roots.length rcap] w0 fun e w' => MvAns (mvW W roots) (mvR W roots) e w' ∧ Below w0.heap.size w0 w') :=
    fun w0 h1 h2 => mcollect_yes W roots ad rad cap rcap w0 h1 h2 hrl h hcp
  have h7 : Hid (∀ w0, WordsAt ad W w0 → RootsAt rad roots w0 → Calls Try.prog 8 #[heapV ad W.length cap, .slice rad roots.length rcap] w0 fun e w' => e = .returned (.agg #[.int .i64 0, .int .i64 0]) ∧ Below w0.heap.size w0 w') :=
    fun w0 h1 h2 => by have := rroots_any W roots ad rad cap rcap w0 (by unfold maxLen; omega) h1 h2 hrl; rw [h00] at this; exact this
  have hhold : Hid (holdP W (mvW W roots) roots (mvR W roots) = true) := M.holds
  have hLl : (mvR W roots).length ≤ 5000 := by unfold mvR; rw [List.length_map]; exact hrl
  have hokR := M.roots
  have hK2 : 2 ≤ (mvW W roots).length := mv_two hc (ok_rootsOf h)
  have hKl : (mvW W roots).length ≤ 2000 := M.few
  obtain ⟨b, off, had, hrow0⟩ := hr h2
  subst had
  have HRW : Hid (Row w b off W) := hrow0
  generalize mvW W roots = K at *
  generalize mvR W roots = L at *
  have hl5 : W.length ≤ 5000 := by omega
  have h8 : Hid (∀ (gd rd : Option Addr) (c rc : Nat) w0, WordsAt gd K w0 → RootsAt rd L w0 → Calls Try.prog 8 #[heapV gd K.length c, .slice rd L.length rc] w0 fun e w' => e = .returned (.agg #[.int .i64 0, .int .i64 0]) ∧ Below w0.heap.size w0 w') :=
    fun gd rd c rc w0 h1 h3 => by have := rroots_any K L gd rd c rc w0 (by unfold maxLen; omega) h1 h3 hLl; rw [rootsOf_ok hKc hKo] at this; exact this
  clear h hr hroots h00 M hrow0
  go_enter Try.func4, Try.ntmps4
  go_wp2_with (first | (go_at_call 6; refine (lvast_no (some ⟨b, off, none⟩) rad _ cap _ rcap _ hl5 hrl).mono ?_; rintro e w1 ⟨rfl, hb1⟩; have k1 := box_one hb1; have z1 := grew1 hb1; have HR1 : Hid (WordsAt (some ⟨b, off, none⟩) W w1) := HR.out.below (below_call hb1); have HO1 : Hid (RootsAt rad roots w1) := HO.out.below (below_call hb1)) | (go_at_call 7; refine (h6.out _ HR1.out HO1.out).mono ?_; rintro e w2 ⟨⟨g, c, rd, rc, rfl, hWK, hRL⟩, hb2⟩; obtain ⟨gb, go, rfl, hrK⟩ := hWK hK2; have k2 := through hb2 k1 z1; have z2 := hb2.size; have HR2 : Hid (WordsAt (some ⟨b, off, none⟩) W w2) := HR1.out.below hb2; have HO2 : Hid (RootsAt rad roots w2) := HO1.out.below hb2; have z02 : w.heap.size < w2.heap.size := (by omega)) | (go_at_call_of 8 (W.length); refine (h7.out _ (reads2 HR2.out) (HO2.out.below (((Below.refl _ _).alloc (Nat.le_refl _) _).alloc (by simp) _))).mono ?_; rintro e w3 ⟨rfl, hb3⟩; obtain ⟨f0, f1, f2, z3⟩ := boxes12 hb3; have z30 : w2.heap.size < w3.heap.size := (by omega); have k3 := through (below2 hb3) k2 z02; have z03 : w.heap.size < w3.heap.size := (by omega); have HR3 : Hid (WordsAt (some ⟨b, off, none⟩) W w3) := HR2.out.below (below2 hb3); have HO3 : Hid (RootsAt rad roots w3) := HO2.out.below (below2 hb3); have hWK3 : WordsAt (some ⟨gb, go, none⟩) K w3 := hWK.below (below2 hb3); have hRL3 := hRL.below (below2 hb3)) | (go_at_call_of 8 (K.length); refine (h8.out (some ⟨gb, go, none⟩) rd c rc _ (reads1 hWK3) (hRL3.below ((Below.refl _ _).alloc (Nat.le_refl _) _))).mono ?_; rintro e w4 ⟨rfl, hb4⟩; have z4 := grew1 hb4; have bW4 := below_call hb4; have e0 := through bW4 f0 z30; have e1 := through bW4 f1 z3; have e2 := through bW4 f2 z3; have k4 := through bW4 k3 z03; have z04 : w.heap.size < w4.heap.size := (by omega); have z40 : w2.heap.size < w4.heap.size := (by omega); have z41 : w2.heap.size + 1 < w4.heap.size := (by omega); have HR4 : Hid (WordsAt (some ⟨b, off, none⟩) W w4) := HR3.out.below bW4; have HO4 : Hid (RootsAt rad roots w4) := HO3.out.below bW4; have hWK4 : WordsAt (some ⟨gb, go, none⟩) K w4 := hWK3.below bW4; have hRL4 := hRL3.below bW4; have hbAll : Below w.heap.size w w4 := (by have hb12 := (below_call hb1).trans (hb2.mono (below_call hb1).size); have hb13 := hb12.trans ((below2 hb3).mono hb12.size); exact hb13.trans (bW4.mono hb13.size)); have hbA : Below w.heap.size w (w4.alloc (.cells #[.int .i64 0, .int .i64 0] 28)) := hbAll.alloc hbAll.size _; have hrK5 : Row (w4.alloc (.cells #[.int .i64 0, .int .i64 0] 28)) gb go K := ((hrK.same (below2 hb3)).same bW4).alloc _; have hRL5 := hRL4.below ((Below.refl _ w4).alloc (Nat.le_refl _) (.cells #[.int .i64 0, .int .i64 0] 28))) | (go_at_call 12; refine (ralike_any W K roots L b off cap gb go c rad rd rcap rc _ (HRW.out.same hbA) hrK5 (HO.out.below hbA) hRL5 hc hKc hokR hKo hrl hLl).mono ?_; rw [hhold.out]; rintro e w6 ⟨rfl, hb6⟩))
  go_ret
  exact ⟨rfl, hbA.trans (hb6.mono hbA.size)⟩

theorem walk (W roots : List Int) (ad rad : Option Addr) (cap rcap : Nat) (w : World) (hm : W.length ≤ maxLen) (hrm : roots.length ≤ maxLen) (hr : WordsAt ad W w) (hcp : W.length ≤ cap) (hroots : RootsAt rad roots w) :
    Calls Try.prog 4 #[.agg #[.slice ad W.length cap], .slice rad roots.length rcap] w fun e w' => e = .returned (.bool true) ∧ Below w.heap.size w w' := by
  by_cases hl : W.length ≤ 5000 ∧ roots.length ≤ 5000
  · by_cases h : (rootsOf W roots).1 = 0
    · exact walk_yes W roots ad rad cap rcap w hcp hl.2 hr hroots h
    · exact walk_no W roots ad rad cap rcap w hl.1 hl.2 hr hroots h
  · exact big ad rad W.length cap roots.length rcap w hm hrm (by omega)

set_option maxRecDepth 100000 in
theorem lifted (os : Os) (started : os.Started) (H : Type) (enc : TypeId × Value → H) :
    ReturnsInHanded {} Try.checked os 4 .any (Rows.moveHoldsSpec.pre6 enc Try.prog Try.f4 Rows.moveHoldsRow.domain false) (Rows.moveHoldsSpec.post enc Try.prog Try.f4 false true false false) := by
  refine returnsInHanded_of_change (C := Try.checked) own started (by kernel_rfl) Try.func4
    (ChangeSpec.witness6 (enc := enc) (C := Try.checked) false ⟨#[], #[.agg #[.slice none 0 0], .slice none 0 0], []⟩ 8 (by kernel_rfl) (by kernel_rfl) (by kernel_rfl) (by kernel_rfl)) ?_
  intro W base args ds gs before hval0 hW hcnd _
  have hval : ∀ (j : Nat) t v, Try.f4.params[j]? = some t → args[j]? = some v → Value.okWide Try.prog W .any base t v := hval0
  have hW' := hW
  obtain ⟨p, q, hA0, hV, rfl, hfz, hnd⟩ := hW
  have hA : DataW.TrodAll enc Try.prog W 0 (fun _ => true) true Try.f4.params.toList args.toList ds p := hA0
  rw [Try.params4] at hA hval
  obtain ⟨v0, vs0, d0, ds0, p0, q0, hargs, rfl, rfl, h0, r0⟩ := trodAll_cons hA
  obtain ⟨v1, vs1, d1, ds1, p1, q1, rfl, rfl, rfl, h1, r1⟩ := trodAll_cons r0
  obtain ⟨rfl, rfl, rfl⟩ := trodAll_nil r1
  obtain rfl : args = #[v0, v1] := by cases args; simp_all
  obtain ⟨rfl, rfl⟩ := trodVars_none hV
  have lt0 : ∀ x ∈ p0, x.block < W.heap.size := by obtain ⟨m, hm⟩ := h0; exact DataW.trod_lt m _ _ _ hm
  have lt1 : ∀ x ∈ p1, x.block < W.heap.size := by obtain ⟨m, hm⟩ := h1; exact DataW.trod_lt m _ _ _ hm
  obtain ⟨ad0, cap0, L0, rfl, hm0, hr0, hcp0⟩ := open_heapC (hval 0 24 v0 rfl rfl) h0
  obtain ⟨ad1, cap1, L1, rfl, hm1, hr1⟩ := open_ints' (hval 1 22 v1 rfl rfl) h1
  clear hA0 hval0
  refine (walk L0 L1 ad0 ad1 cap0 cap1 W hm0 hm1 hr0 hcp0 hr1).mono fun e W' ⟨he, bel⟩ => ?_
  subst he
  exact ⟨_, rfl, _, _, _, [], _, [], hW', trodAll_mk1 (shut_bool lt4 _), (trodAll_cons_mk (Below.trod laidOut (by kernel_rfl) (of_decide_eq_true (by kernel_rfl)) h0 bel lt0) (trodAll_cons_mk (Below.trod laidOut (by kernel_rfl) (of_decide_eq_true (by kernel_rfl)) h1 bel lt1) trodAll_mk0)), rfl, bel.frame _, fun h => by cases h⟩

theorem over : Rows.moveHoldsRow.holds Try.pinned (OpenSpec.ofChange Rows.moveHoldsSpec) :=
  OpenClaim.holds_of_wide 4 Try.f4 rfl rfl rfl rfl rfl rfl rfl ⟨rfl, rfl, rfl, rfl, rfl⟩ rfl rfl rfl rfl rfl (by kernel_rfl) Try.func4 (by kernel_rfl)
    (of_decide_eq_true (by kernel_rfl)) (by unfold Func.isWrapper; first | (rw [if_pos (by decide +kernel)]; kernel_rfl) | (rw [if_neg (by decide +kernel)]; exact ⟨rfl, rfl⟩))
    (fun os started H enc _ => lifted os started H enc)

end Go.Proofs.Ytfmapgbkajlfkaa.moveHolds
namespace Go.Proofs.Ytfmapgbkajlfkaa
/-- The statement. -/
theorem moveHolds_holds : Rows.MoveHoldsSaid := moveHolds.over
#print axioms moveHolds_holds
end Go.Proofs.Ytfmapgbkajlfkaa
