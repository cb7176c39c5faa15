/- SweepHolds holds for every heap and all roots that can come in, with no condition: what the program keeps may be, has no more words, is all reached, and is alike to what was there. -/
import Derived.Test.YtpapaadclkdbkaaLawKit
import Derived.Test.YtpapaadclkdbkaaRefCollect
import Derived.Test.YtpapaadclkdbkaaMoveMore
import Derived.Test.YtpapaadclkdbkaaRefAlike
namespace Go.Proofs.Ytpapaadclkdbkaa.sweepHolds
open Go.ChangeShapes Go.WideShapes Go.ChangeAt Go.RowKit Go.Joins Go.Deep

theorem big (ad rad : Option Addr) (n cap rn rc : Nat) (w : World) (hm : n ≤ maxLen) (hrm : rn ≤ maxLen) (h : 5000 < n ∨ 5000 < rn) :
    Calls Try.prog 7 #[.agg #[.slice ad n cap], .slice rad rn rc] w fun e w' => e = .returned (.bool true) ∧ Below w.heap.size w w' := by
  go_enter Try.func7, Try.ntmps7
  go_wp2_with (go_at_call 19; refine (lvast_yes ad rad n cap rn rc _ hm hrm h).mono ?_; rintro e w1 ⟨rfl, hb1⟩)
  go_ret
  exact ⟨rfl, below_call hb1⟩

set_option maxHeartbeats 4000000 in
theorem walk_no (W roots : List Int) (ad rad : Option Addr) (cap rcap : Nat) (w : World) (hl : W.length ≤ 5000) (hrl : roots.length ≤ 5000) (hr : WordsAt ad W w) (hroots : RootsAt rad roots w) (h : (rootsOf W roots).1 ≠ 0) :
    Calls Try.prog 7 #[.agg #[.slice ad W.length cap], .slice rad roots.length rcap] w fun e w' => e = .returned (.bool true) ∧ Below w.heap.size w w' := by
  have HR : Hid (WordsAt ad W w) := hr
  have HO : Hid (RootsAt rad roots w) := hroots
  have h6 : Hid (∀ w0, WordsAt ad W w0 → RootsAt rad roots w0 → Calls Try.prog 20 #[heapV ad W.length cap, .slice rad roots.length rcap] w0 fun e w' => e = .returned (.tuple #[.agg #[.slice none 0 0], .slice none 0 0, .agg #[.int .i64 (rootsOf W roots).1, .int .i64 (rootsOf W roots).2]]) ∧ Below w0.heap.size w0 w') :=
    fun w0 h1 h2 => collect_no W roots ad rad cap rcap w0 (by unfold maxLen; omega) h1 h2 hrl h
  have h7 : Hid (∀ w0, WordsAt ad W w0 → RootsAt rad roots w0 → Calls Try.prog 21 #[heapV ad W.length cap, .slice rad roots.length rcap] w0 fun e w' => e = .returned (.agg #[.int .i64 (rootsOf W roots).1, .int .i64 (rootsOf W roots).2]) ∧ Below w0.heap.size w0 w') :=
    fun w0 h1 h2 => rroots_any W roots ad rad cap rcap w0 (by unfold maxLen; omega) h1 h2 hrl
  generalize rootsOf W roots = F at *
  have hb : (F.1 != 0) = true := by simpa using h
  clear h hr hroots
  go_enter Try.func7, Try.ntmps7
  go_wp2_with (first | (go_at_call 19; refine (lvast_no ad rad _ cap _ rcap _ hl hrl).mono ?_; rintro e w1 ⟨rfl, hb1⟩; have k1 := box_one hb1; have z1 := grew1 hb1; have HR1 : Hid (WordsAt ad W w1) := HR.out.below (below_call hb1); have HO1 : Hid (RootsAt rad roots w1) := HO.out.below (below_call hb1)) | (go_at_call 20; refine (h6.out _ HR1.out HO1.out).mono ?_; rintro e w2 ⟨rfl, hb2⟩; have k2 := through hb2 k1 z1; have z2 := hb2.size; have HR2 : Hid (WordsAt ad W w2) := HR1.out.below hb2; have HO2 : Hid (RootsAt rad roots w2) := HO1.out.below hb2; have z02 : w.heap.size < w2.heap.size := (by omega)) | (go_at_call 21; refine (h7.out _ (reads2 HR2.out) (HO2.out.below (((Below.refl _ _).alloc (Nat.le_refl _) _).alloc (by simp) _))).mono ?_; rintro e w3 ⟨rfl, hb3⟩; obtain ⟨f0, f1, f2, z3⟩ := boxes12 hb3; have z30 : w2.heap.size < w3.heap.size := (by omega)))
  go_ret
  refine ⟨ret_bool (by simp), ?_⟩
  have hb12 := (below_call hb1).trans (hb2.mono (below_call hb1).size)
  exact (hb12.trans ((below2 hb3).mono hb12.size)).alloc (by omega) _

set_option maxHeartbeats 8000000 in
theorem walk_yes (W roots : List Int) (ad rad : Option Addr) (cap rcap : Nat) (w : World) (hrl : roots.length ≤ 5000) (hr : WordsAt ad W w) (hroots : RootsAt rad roots w) (h : (rootsOf W roots).1 = 0) :
    Calls Try.prog 7 #[.agg #[.slice ad W.length cap], .slice rad roots.length rcap] w fun e w' => e = .returned (.bool true) ∧ Below w.heap.size w w' := by
  obtain ⟨hc, _, h00⟩ := roots_zero h
  have M := stay_moves hc (ok_rootsOf h)
  have hl := M.fine.few
  have h2 := M.two
  have hwfW : AllWf W := by obtain ⟨b, off, _, hrow⟩ := hr h2; exact hrow.wf
  have hwfR : AllWf roots := by
    by_cases h0 : 0 < roots.length
    · obtain ⟨b, off, _, hrow⟩ := hroots h0; exact hrow.wf
    · have e0 : roots = [] := List.eq_nil_of_length_eq_zero (by omega)
      subst e0; exact wf_mk (by simp)
  have hwK := swept_wf M hwfW
  have hwL := sweptR_wf M hwfR
  have HR : Hid (WordsAt ad W w) := hr
  have HO : Hid (RootsAt rad roots w) := hroots
  have hKc : (checkOf (sweptW W roots)).1 = 0 := M.may'
  have hKo : ∀ y ∈ sweptR W roots, okRef (sweptW W roots) y := M.ok_roots
  have h6 : Hid (∀ w0, WordsAt ad W w0 → RootsAt rad roots w0 → Calls Try.prog 20 #[heapV ad W.length cap, .slice rad roots.length rcap] w0 fun e w' => CollectAns (sweptW W roots) (sweptR W roots) w0.heap.size e w' ∧ Below w0.heap.size w0 w') :=
    fun w0 h1 h2 => collect_yes W roots ad rad cap rcap w0 h1 h2 hrl h M
  have h7 : Hid (∀ w0, WordsAt ad W w0 → RootsAt rad roots w0 → Calls Try.prog 21 #[heapV ad W.length cap, .slice rad roots.length rcap] w0 fun e w' => e = .returned (.agg #[.int .i64 0, .int .i64 0]) ∧ Below w0.heap.size w0 w') :=
    fun w0 h1 h2 => by have := rroots_any W roots ad rad cap rcap w0 (by unfold maxLen; omega) h1 h2 hrl; rw [h00] at this; exact this
  have hhold : Hid (holdP W (sweptW W roots) roots (sweptR W roots) = true) := M.holds
  have hshort : (sweptW W roots).length ≤ W.length := M.short
  have hLl : (sweptR W roots).length ≤ 5000 := by unfold sweptR; rw [List.length_map]; exact hrl
  have hall : Hid (∀ p ∈ places (sweptW W roots) 2, Reached (sweptW W roots) (sweptR W roots) (2 * (p : Int))) := fun p hp => M.all_reached hp
  have hokR := M.roots
  have hK2 : 2 ≤ (sweptW W roots).length := by have := M.length; show 2 ≤ (movedW W (stayP W roots)).length; omega
  generalize sweptW W roots = K at *
  generalize sweptR W roots = L at *
  have hKu := (check_ok hKc).2
  have hl5 : W.length ≤ 5000 := by omega
  have hKl : K.length ≤ 2000 := by omega
  have hcmp : ¬ ((W.length : Int) < (K.length : Int)) := by omega
  have h8 : Hid (∀ (g c g' c' : Nat) w0, Row w0 g 0 K → RootsAt (some ⟨g', 0, none⟩) L w0 → Calls Try.prog 21 #[heapV (some ⟨g, 0, none⟩) K.length c, .slice (some ⟨g', 0, none⟩) L.length c'] w0 fun e w' => e = .returned (.agg #[.int .i64 0, .int .i64 0]) ∧ Below w0.heap.size w0 w') :=
    fun g c g' c' w0 h1 h3 => by have := rroots_any K L (some ⟨g, 0, none⟩) (some ⟨g', 0, none⟩) c c' w0 (by unfold maxLen; omega) (fun _ => ⟨g, 0, rfl, h1⟩) h3 hLl; rw [rootsOf_ok hKc hKo] at this; exact this
  clear h hr hroots h00 M hwfW hwfR
  go_enter Try.func7, Try.ntmps7
  go_wp2_with (first | (go_at_call 19; refine (lvast_no ad rad _ cap _ rcap _ hl5 hrl).mono ?_; rintro e w1 ⟨rfl, hb1⟩; have k1 := box_one hb1; have z1 := grew1 hb1; have HR1 : Hid (WordsAt ad W w1) := HR.out.below (below_call hb1); have HO1 : Hid (RootsAt rad roots w1) := HO.out.below (below_call hb1)) | (go_at_call 20; refine (h6.out _ HR1.out HO1.out).mono ?_; rintro e w2 ⟨⟨g, c, g', c', rfl, hg, hg', hownK, hownL⟩, hb2⟩; have k2 := through hb2 k1 z1; have z2 := hb2.size; have HR2 : Hid (WordsAt ad W w2) := HR1.out.below hb2; have HO2 : Hid (RootsAt rad roots w2) := HO1.out.below hb2; have z02 : w.heap.size < w2.heap.size := (by omega); have hrK := own_reads hownK hwK; have hrL : RootsAt (some ⟨g', 0, none⟩) L w2 := own_roots hownL hwL) | (go_at_call_of 21 (W.length); refine (h7.out _ (reads2 HR2.out) (HO2.out.below (((Below.refl _ _).alloc (Nat.le_refl _) _).alloc (by simp) _))).mono ?_; rintro e w3 ⟨rfl, hb3⟩; obtain ⟨f0, f1, f2, z3⟩ := boxes12 hb3; have z30 : w2.heap.size < w3.heap.size := (by omega); have k3 := through (below2 hb3) k2 z02; have z03 : w.heap.size < w3.heap.size := (by omega); have HR3 : Hid (WordsAt ad W w3) := HR2.out.below (below2 hb3); have HO3 : Hid (RootsAt rad roots w3) := HO2.out.below (below2 hb3); have hrK3 := hrK.same (below2 hb3); have hrL3 := hrL.below (below2 hb3)) | (go_at_call_of 21 (K.length); refine (h8.out g c g' c' _ (hrK3.alloc _) (hrL3.below ((Below.refl _ _).alloc (Nat.le_refl _) _))).mono ?_; rintro e w4 ⟨rfl, hb4⟩; have z4 := grew1 hb4; have bW4 := below_call hb4; have e0 := through bW4 f0 z30; have e1 := through bW4 f1 z3; have e2 := through bW4 f2 z3; have k4 := through bW4 k3 z03; have z04 : w.heap.size < w4.heap.size := (by omega); have z40 : w2.heap.size < w4.heap.size := (by omega); have z41 : w2.heap.size + 1 < w4.heap.size := (by omega); have HR4 : Hid (WordsAt ad W w4) := HR3.out.below bW4; have HO4 : Hid (RootsAt rad roots w4) := HO3.out.below bW4; have hrK4 := hrK3.same bW4; have hrL4 := hrL3.below bW4) | (go_at_call 23; refine (rreach_any K L g 0 c (some ⟨g', 0, none⟩) c' _ (hrK4.alloc _) (hrL4.below ((Below.refl _ _).alloc (Nat.le_refl _) _)) hKu hK2 hKl hLl).mono ?_; rintro e w5 ⟨⟨ob, A, rfl, hob, hMk, hTl⟩, hb5⟩))
  have bW5 := below_call hb5
  have z5 := grew1 hb5
  have e5 := through bW5 e0 z40
  have k5 := through bW5 k4 z04
  have z50 : w2.heap.size < w5.heap.size := by omega
  have z05 : w.heap.size < w5.heap.size := by omega
  have hrK5 := hrK4.same bW5
  have hrL5 := hrL4.below bW5
  have HR5 : Hid (WordsAt ad W w5) := HR4.out.below bW5
  have HO5 : Hid (RootsAt rad roots w5) := HO4.out.below bW5
  have hseen : ∀ p ∈ places K 2, bt A p = true := fun p hp => (hTl p).2 (hall.out p hp)
  have hobl := own_lt hMk
  have hbAll : Below w.heap.size w w5 := by
    have hb12 := (below_call hb1).trans (hb2.mono (below_call hb1).size)
    have hb13 := hb12.trans ((below2 hb3).mono hb12.size)
    have hb14 := hb13.trans (bW4.mono hb13.size)
    exact hb14.trans (bW5.mono hb14.size)
  have hgl := hrK5.lt
  clear hTl e0 e1 e2 f0 f1 f2 k1 k2 k3 k4
  go_loopw [11] (fun s11 wr => ∃ (p : Nat) (pre : List Nat), s11 = .int .i64 p ∧ AtPlace K A pre p ∧ wr = w5) (fun s11 _ => 3000 - (intOf s11).toNat)
  case atStart => exact ⟨2, [], rfl, ⟨rfl, hKu, Nat.le_refl _, hK2⟩, rfl⟩
  case round =>
    obtain ⟨p, pre, rfl, hAt, rfl⟩ := hrel
    have hp2 := hAt.two
    by_cases hin : p < K.length
    · have hnx := hAt.next hin
      have hmem := (hAt.mem hin).1
      have hfo := fits_out (unfit_head hin hAt.fit).1
      have hnn := next_num hfo.2.1
      have hge : p + 3 ≤ nextAt K p := by unfold nextAt; omega
      have hn : nextAt K p ≤ K.length := by unfold nextAt; omega
      have hcp2 := hrK5.cell (p + 2) (by omega)
      rw [Nat.zero_add] at hcp2
      have hbc := hMk.cell hin
      rw [hseen p hmem] at hbc
      have hii : (p : Int) < (K.length : Int) := by omega
      go_wp2_with fail
      go_roundw
      case rel => exact ⟨nextAt K p, pre ++ [p], by first | rfl | simp, hnx, by first | rfl | trivial⟩
      case measure => simp [intOf]; omega
    · have hii : ¬ ((p : Int) < (K.length : Int)) := by omega
      obtain ⟨b, off, hbd, hrow⟩ := HR5.out (by omega)
      subst hbd
      go_wp2_with (go_at_call 24; refine (ralike_any W K roots L b off cap g 0 c rad (some ⟨g', 0, none⟩) rcap c' _ hrow hrK5 HO5.out hrL5 hc hKc hokR hKo hrl hLl).mono ?_; rw [hhold.out]; rintro e w6 ⟨rfl, hb6⟩)
      go_ret
      exact ⟨rfl, hbAll.trans (hb6.mono hbAll.size)⟩

theorem walk (W roots : List Int) (ad rad : Option Addr) (cap rcap : Nat) (w : World) (hm : W.length ≤ maxLen) (hrm : roots.length ≤ maxLen) (hr : WordsAt ad W w) (hroots : RootsAt rad roots w) :
    Calls Try.prog 7 #[.agg #[.slice ad W.length cap], .slice rad roots.length rcap] w fun e w' => e = .returned (.bool true) ∧ Below w.heap.size w w' := by
  by_cases hl : W.length ≤ 5000 ∧ roots.length ≤ 5000
  · by_cases h : (rootsOf W roots).1 = 0
    · exact walk_yes W roots ad rad cap rcap w hl.2 hr hroots h
    · exact walk_no W roots ad rad cap rcap w hl.1 hl.2 hr hroots h
  · exact big ad rad W.length cap roots.length rcap w hm hrm (by omega)

set_option maxRecDepth 100000 in
theorem lifted (os : Os) (started : os.Started) (H : Type) (enc : TypeId × Value → H) :
    ReturnsInHanded {} Try.checked os 7 .any (Rows.sweepHoldsSpec.pre6 enc Try.prog Try.f7 Rows.sweepHoldsRow.domain false) (Rows.sweepHoldsSpec.post enc Try.prog Try.f7 false true false false) := by
  refine returnsInHanded_of_change (C := Try.checked) own started (by kernel_rfl) Try.func7
    (ChangeSpec.witness6 (enc := enc) (C := Try.checked) false ⟨#[], #[.agg #[.slice none 0 0], .slice none 0 0], []⟩ 8 (by kernel_rfl) (by kernel_rfl) (by kernel_rfl) (by kernel_rfl)) ?_
  intro W base args ds gs before hval0 hW hcnd _
  have hval : ∀ (j : Nat) t v, Try.f7.params[j]? = some t → args[j]? = some v → Value.okWide Try.prog W .any base t v := hval0
  have hW' := hW
  obtain ⟨p, q, hA0, hV, rfl, hfz, hnd⟩ := hW
  have hA : DataW.TrodAll enc Try.prog W 0 (fun _ => true) true Try.f7.params.toList args.toList ds p := hA0
  rw [Try.params7] at hA hval
  obtain ⟨v0, vs0, d0, ds0, p0, q0, hargs, rfl, rfl, h0, r0⟩ := trodAll_cons hA
  obtain ⟨v1, vs1, d1, ds1, p1, q1, rfl, rfl, rfl, h1, r1⟩ := trodAll_cons r0
  obtain ⟨rfl, rfl, rfl⟩ := trodAll_nil r1
  obtain rfl : args = #[v0, v1] := by cases args; simp_all
  obtain ⟨rfl, rfl⟩ := trodVars_none hV
  have lt0 : ∀ x ∈ p0, x.block < W.heap.size := by obtain ⟨m, hm⟩ := h0; exact DataW.trod_lt m _ _ _ hm
  have lt1 : ∀ x ∈ p1, x.block < W.heap.size := by obtain ⟨m, hm⟩ := h1; exact DataW.trod_lt m _ _ _ hm
  obtain ⟨ad0, cap0, L0, rfl, hm0, hr0⟩ := open_heap (hval 0 24 v0 rfl rfl) h0
  obtain ⟨ad1, cap1, L1, rfl, hm1, hr1⟩ := open_ints' (hval 1 22 v1 rfl rfl) h1
  clear hA0 hval0
  refine (walk L0 L1 ad0 ad1 cap0 cap1 W hm0 hm1 hr0 hr1).mono fun e W' ⟨he, bel⟩ => ?_
  subst he
  exact ⟨_, rfl, _, _, _, [], _, [], hW', trodAll_mk1 (shut_bool lt4 _), (trodAll_cons_mk (Below.trod laidOut (by kernel_rfl) (of_decide_eq_true (by kernel_rfl)) h0 bel lt0) (trodAll_cons_mk (Below.trod laidOut (by kernel_rfl) (of_decide_eq_true (by kernel_rfl)) h1 bel lt1) trodAll_mk0)), rfl, bel.frame _, fun h => by cases h⟩

theorem over : Rows.sweepHoldsRow.holds Try.pinned (OpenSpec.ofChange Rows.sweepHoldsSpec) :=
  OpenClaim.holds_of_wide 7 Try.f7 rfl rfl rfl rfl rfl rfl rfl ⟨rfl, rfl, rfl, rfl, rfl⟩ rfl rfl rfl rfl rfl (by kernel_rfl) Try.func7 (by kernel_rfl)
    (of_decide_eq_true (by kernel_rfl)) (by unfold Func.isWrapper; first | (rw [if_pos (by decide +kernel)]; kernel_rfl) | (rw [if_neg (by decide +kernel)]; exact ⟨rfl, rfl⟩))
    (fun os started H enc _ => lifted os started H enc)

end Go.Proofs.Ytpapaadclkdbkaa.sweepHolds
namespace Go.Proofs.Ytpapaadclkdbkaa
/-- The statement. -/
theorem sweepHolds_holds : Rows.SweepHoldsSaid := sweepHolds.over
#print axioms sweepHolds_holds
end Go.Proofs.Ytpapaadclkdbkaa
