/- ReachTells holds for every heap and all roots that can come in, with no condition: the program tells what is reached, or the fault of the heap and the roots. -/
import Derived.Test.YtgggmdanpdggpabFrame
import Derived.Test.YtgggmdanpdggpabReachGo
import Derived.Test.YtgggmdanpdggpabRefRoots
import Derived.Test.YtgggmdanpdggpabRefReach
namespace Go.Proofs.Ytgggmdanpdggpab.reachTells
open Go.ChangeShapes Go.WideShapes Go.ChangeAt Go.RowKit Go.Joins Go.Deep

theorem grew {w w' : World} {o : Obj} (hb : Below (w.alloc o).heap.size (w.alloc o) w') : w.heap.size < w'.heap.size := by
  have := hb.size; simp at this; omega
theorem words_below {W : List Int} {ad : Option Addr} {w w' : World} (hr : WordsAt ad W w) (hb : Below w.heap.size w w') : WordsAt ad W w' :=
  fun h => let ⟨b, off, e, r⟩ := hr h; ⟨b, off, e, r.same hb⟩

theorem vast_yes (ad rad : Option Addr) (n cap rn rc : Nat) (w : World) (hm : n ≤ maxLen) (hrm : rn ≤ maxLen) (h : 5000 < n ∨ 5000 < rn) :
    Calls Try.prog 9 #[.agg #[.slice ad n cap], .slice rad rn rc, .slice none 0 0] w fun e w' => e = .returned (.bool true) ∧ Below w.heap.size w w' := by
  unfold maxLen at hm hrm
  have hw : (5000 : Int) < (n : Int) ∨ (¬ ((5000 : Int) < (n : Int)) ∧ (5000 : Int) < (rn : Int)) := by omega
  clear h
  rcases hw with h1 | ⟨h1, h2⟩
  all_goals
    go_enter Try.func9, Try.ntmps9
    go_wp2
    go_ret
    exact ⟨rfl, (Below.refl _ _).alloc (Nat.le_refl _) _⟩
theorem vast_no (ad rad : Option Addr) (n cap rn rc : Nat) (w : World) (h1 : n ≤ 5000) (h2 : rn ≤ 5000) :
    Calls Try.prog 9 #[.agg #[.slice ad n cap], .slice rad rn rc, .slice none 0 0] w fun e w' => e = .returned (.bool false) ∧ Below w.heap.size w w' := by
  have a1 : ¬ ((5000 : Int) < (n : Int)) := by omega
  have a2 : ¬ ((5000 : Int) < (rn : Int)) := by omega
  go_enter Try.func9, Try.ntmps9
  go_wp2
  go_ret
  exact ⟨ret_bool (by simp), (Below.refl _ _).alloc (Nat.le_refl _) _⟩

theorem big (ad rad : Option Addr) (n cap rn rc : Nat) (w : World) (hm : n ≤ maxLen) (hrm : rn ≤ maxLen) (h : 5000 < n ∨ 5000 < rn) :
    Calls Try.prog 3 #[.agg #[.slice ad n cap], .slice rad rn rc] w fun e w' => e = .returned (.bool true) ∧ Below w.heap.size w w' := by
  go_enter Try.func3, Try.ntmps3
  go_wp2_with (go_at_call 9; refine (vast_yes ad rad n cap rn rc _ hm hrm h).mono ?_; rintro e w1 ⟨rfl, hb1⟩)
  go_ret
  exact ⟨rfl, below_call hb1⟩

set_option maxHeartbeats 2000000 in
theorem walk_no (W roots : List Int) (ad rad : Option Addr) (cap rcap : Nat) (w : World) (hl : W.length ≤ 5000) (hrl : roots.length ≤ 5000) (hr : WordsAt ad W w) (hroots : RootsAt rad roots w) (h : (rootsOf W roots).1 ≠ 0) :
    Calls Try.prog 3 #[.agg #[.slice ad W.length cap], .slice rad roots.length rcap] w fun e w' => e = .returned (.bool true) ∧ Below w.heap.size w w' := by
  have HR : Hid (WordsAt ad W w) := hr
  have HO : Hid (RootsAt rad roots w) := hroots
  have h6 : Hid (∀ w0, WordsAt ad W w0 → RootsAt rad roots w0 → Calls Try.prog 10 #[heapV ad W.length cap, .slice rad roots.length rcap] w0 fun e w' => e = .returned (.tuple #[.slice none 0 0, .agg #[.int .i64 (rootsOf W roots).1, .int .i64 (rootsOf W roots).2]]) ∧ Below w0.heap.size w0 w') :=
    fun w0 h1 h2 => hreach_no W roots ad rad cap rcap w0 (by unfold maxLen; omega) h1 h2 hrl h
  have h7 : Hid (∀ w0, WordsAt ad W w0 → RootsAt rad roots w0 → Calls Try.prog 11 #[heapV ad W.length cap, .slice rad roots.length rcap] w0 fun e w' => e = .returned (.agg #[.int .i64 (rootsOf W roots).1, .int .i64 (rootsOf W roots).2]) ∧ Below w0.heap.size w0 w') :=
    fun w0 h1 h2 => rroots_any W roots ad rad cap rcap w0 (by unfold maxLen; omega) h1 h2 hrl
  generalize rootsOf W roots = F at *
  have hb : (F.1 != 0) = true := by simpa using h
  clear h hr hroots
  go_enter Try.func3, Try.ntmps3
  go_wp2_with (first | (go_at_call 9; refine (vast_no ad rad _ cap _ rcap _ hl hrl).mono ?_; rintro e w1 ⟨rfl, hb1⟩; have k1 := box_one hb1; have z1 := grew hb1; have HR1 : Hid (WordsAt ad W w1) := words_below HR.out (below_call hb1); have HO1 : Hid (RootsAt rad roots w1) := HO.out.below (below_call hb1)) | (go_at_call 10; refine (h6.out _ HR1.out HO1.out).mono ?_; rintro e w2 ⟨rfl, hb2⟩; have k2 := through hb2 k1 z1; have z2 := hb2.size; have HR2 : Hid (WordsAt ad W w2) := words_below HR1.out hb2; have HO2 : Hid (RootsAt rad roots w2) := HO1.out.below hb2; have z02 : w.heap.size < w2.heap.size := (by omega)) | (go_at_call 11; refine (h7.out _ (reads1 HR2.out) (HO2.out.below ((Below.refl _ _).alloc (Nat.le_refl _) _))).mono ?_; rintro e w3 ⟨rfl, hb3⟩; obtain ⟨f0, f1⟩ := box_cells hb3; have z3 := grew hb3))
  go_ret
  refine ⟨ret_bool (by simp), ?_⟩
  have hb12 := (below_call hb1).trans (hb2.mono (below_call hb1).size)
  exact (hb12.trans ((below_call hb3).mono hb12.size)).alloc (by omega) _

set_option maxHeartbeats 4000000 in
theorem walk_yes (W roots : List Int) (ad rad : Option Addr) (cap rcap : Nat) (w : World) (hrl : roots.length ≤ 5000) (hr : WordsAt ad W w) (hroots : RootsAt rad roots w) (h : (rootsOf W roots).1 = 0) :
    Calls Try.prog 3 #[.agg #[.slice ad W.length cap], .slice rad roots.length rcap] w fun e w' => e = .returned (.bool true) ∧ Below w.heap.size w w' := by
  obtain ⟨hc, _, h00⟩ := roots_zero h
  obtain ⟨hf, hu⟩ := check_ok hc
  obtain ⟨h2, hl, _⟩ := front_out hf
  obtain ⟨i0, hi, hz0, hz1, hz2⟩ := info_parts info3
  have HR : Hid (WordsAt ad W w) := hr
  have HO : Hid (RootsAt rad roots w) := hroots
  have h6 : Hid (∀ w0, WordsAt ad W w0 → RootsAt rad roots w0 → Calls Try.prog 10 #[heapV ad W.length cap, .slice rad roots.length rcap] w0 fun e w' => ReachEnd w0.heap.size (reachList W roots) e w' ∧ Below w0.heap.size w0 w') :=
    fun w0 h1 h2 => hreach_yes W roots ad rad cap rcap w0 h1 h2 hrl h
  have h7 : Hid (∀ w0, WordsAt ad W w0 → RootsAt rad roots w0 → Calls Try.prog 11 #[heapV ad W.length cap, .slice rad roots.length rcap] w0 fun e w' => e = .returned (.agg #[.int .i64 0, .int .i64 0]) ∧ Below w0.heap.size w0 w') :=
    fun w0 h1 h2 => by have := rroots_any W roots ad rad cap rcap w0 (by unfold maxLen; omega) h1 h2 hrl; rw [h00] at this; exact this
  have h8 : Hid (∀ w0, WordsAt ad W w0 → RootsAt rad roots w0 → Calls Try.prog 12 #[heapV ad W.length cap, .slice rad roots.length rcap] w0 fun e w' => ReachAns W roots w0.heap.size e w' ∧ Below w0.heap.size w0 w') :=
    fun w0 h1 h3 => by obtain ⟨b, off, rfl, hrow⟩ := h1 h2; exact rreach_any W roots b off cap rad rcap w0 hrow h3 hu h2 hl hrl
  have hrlen := reach_length W roots
  generalize hX : reachList W roots = X at *
  have HX : Hid (reachList W roots = X) := hX
  have hl5 : W.length ≤ 5000 := by omega
  clear h hr hroots hc hf hX h00
  go_enter Try.func3, Try.ntmps3
  go_wp2_with (first | (go_at_call 9; refine (vast_no ad rad _ cap _ rcap _ hl5 hrl).mono ?_; rintro e w1 ⟨rfl, hb1⟩; have k1 := box_one hb1; have z1 := grew hb1; have HR1 : Hid (WordsAt ad W w1) := words_below HR.out (below_call hb1); have HO1 : Hid (RootsAt rad roots w1) := HO.out.below (below_call hb1)) | (go_at_call 10; refine (h6.out _ HR1.out HO1.out).mono ?_; rintro e w2 ⟨⟨ad2, c2, rfl, hown2⟩, hb2⟩; have k2 := through hb2 k1 z1; have z2 := hb2.size; have HR2 : Hid (WordsAt ad W w2) := words_below HR1.out hb2; have HO2 : Hid (RootsAt rad roots w2) := HO1.out.below hb2; have z02 : w.heap.size < w2.heap.size := (by omega); have hrd2 := Reads.of_own hown2) | (go_at_call 11; refine (h7.out _ (reads1 HR2.out) (HO2.out.below ((Below.refl _ _).alloc (Nat.le_refl _) _))).mono ?_; rintro e w3 ⟨rfl, hb3⟩; obtain ⟨f0, f1⟩ := box_cells hb3; have z3 := grew hb3; have k3 := through (below_call hb3) k2 z02; have z03 : w.heap.size < w3.heap.size := (by omega); have HR3 : Hid (WordsAt ad W w3) := words_below HR2.out (below_call hb3); have HO3 : Hid (RootsAt rad roots w3) := HO2.out.below (below_call hb3); have hrd3 := hrd2.below (below_call hb3)) | (go_at_call 12; refine (h8.out _ (reads1 HR3.out) (HO3.out.below ((Below.refl _ _).alloc (Nat.le_refl _) _))).mono ?_; rintro e w4 ⟨⟨ob, B, rfl, hob, hMk, hT⟩, hb4⟩; have z4 := grew hb4; have g0 := through (below_call hb4) f0 z3; have z24 : w2.heap.size < w4.heap.size := (by omega); have hrd4 := hrd3.below (below_call hb4)))
  have HM : Hid (markedRefs B W.length = X) := (marked_all hT).trans HX.out
  clear hT
  go_loopw [8, 10] (fun s8 s10 wr => ∃ (i : Nat), s10 = .int .i64 i ∧ i ≤ W.length ∧ wr.ownsRow w4.heap.size 3 1 s8 (markedRefs B i).length (vals (markedRefs B i)) ∧ Below w4.heap.size w4 wr) (fun _ s10 _ => W.length - (intOf s10).toNat)
  case atStart => exact ⟨0, rfl, Nat.zero_le _, World.ownsRow_nil _ _ _ _, Below.refl _ _⟩
  case round =>
    rename_i v0 s0 wr
    obtain ⟨i, rfl, hil, hown, hbel⟩ := hrel
    have hsz := hbel.size
    have hobl := own_lt hMk
    have hMr := hMk.below hbel hobl
    have hmlen := marked_length B i
    by_cases hlt : i < W.length
    · have hci := hMr.cell hlt
      have hor : ob < wr.heap.size := by omega
      have hii : (i : Int) < (W.length : Int) := by omega
      cases hb : bt B i with
      | true =>
        rw [hb] at hci
        go_wp2_with (first | (at_builtin; go_must (refine wpList_append_own _ rfl _ _ 22 rfl w4.heap.size 3 i0 (.int .i64 0) 1 8 ty30 hi hz0 hz1 hz2 rfl (by decide) _ (markedRefs B i).length (vals (markedRefs B i)) rfl (hown.alloc _) ⟨wr.heap.size, 0, none⟩ 1 1 [.int .i64 (2 * (i : Int))] rfl rfl (cell_one_new _ _ _) (ints_oneCell .i64 [2 * (i : Int)]) (by unfold maxLen; omega) (by omega) (by simp; omega) ?_); intro v' w5 hown' hgrow hnil))
        go_roundw
        case rel => exact ⟨i + 1, by first | rfl | simp, by omega, by rw [marked_yes hb]; simpa using hown', (hbel.alloc (by omega) _).grown hgrow (by simp; omega) (fun k hk => (hown.lt k hk).1)⟩
        case measure => simp [intOf]; omega
      | false =>
        rw [hb] at hci
        go_wp2_with fail
        go_roundw
        case rel => exact ⟨i + 1, by first | rfl | simp, by omega, by rw [marked_no hb]; exact hown, hbel⟩
        case measure => simp [intOf]; omega
    · have he : i = W.length := by omega
      rw [he, HM.out] at hown
      have hx := hrd4.below hbel
      have hy := Reads.of_own hown
      have g1 := through hbel g0 z24
      have hXX : (X == X) = true := by simp
      clear hown he
      go_wp2_with (go_at_call 13; refine (ints_any X X _ _ _ hx hy (by omega)).mono ?_; rintro e w6 ⟨rfl, m, rfl⟩)
      go_ret
      refine ⟨ret_bool (by simp), ?_⟩
      have hb12 := (below_call hb1).trans (hb2.mono (below_call hb1).size)
      have hb13 := hb12.trans ((below_call hb3).mono hb12.size)
      have hb14 := hb13.trans ((below_call hb4).mono hb13.size)
      exact below_drewN (hb14.trans (hbel.mono hb14.size)) m

theorem walk (W roots : List Int) (ad rad : Option Addr) (cap rcap : Nat) (w : World) (hm : W.length ≤ maxLen) (hrm : roots.length ≤ maxLen) (hr : WordsAt ad W w) (hroots : RootsAt rad roots w) :
    Calls Try.prog 3 #[.agg #[.slice ad W.length cap], .slice rad roots.length rcap] w fun e w' => e = .returned (.bool true) ∧ Below w.heap.size w w' := by
  by_cases hl : W.length ≤ 5000 ∧ roots.length ≤ 5000
  · by_cases h : (rootsOf W roots).1 = 0
    · exact walk_yes W roots ad rad cap rcap w hl.2 hr hroots h
    · exact walk_no W roots ad rad cap rcap w hl.1 hl.2 hr hroots h
  · exact big ad rad W.length cap roots.length rcap w hm hrm (by omega)

set_option maxRecDepth 100000 in
/-- Numbers that came in. -/
theorem open_roots {H : Type} {enc : TypeId × Value → H} {w : World} {base b0 : Nat} {spare : Nat → Bool} {held : Bool} {r : Reach} {v : Value} {d : DataW H} {p : List MemPlace} (hv : Value.okWide Try.prog w r b0 22 v) (h : DataW.Trod enc Try.prog w base spare held 22 v d p) :
    ∃ (ad : Option Addr) (cap : Nat) (R : List Int), v = .slice ad R.length cap ∧ R.length ≤ maxLen ∧ RootsAt ad R w := by
  obtain ⟨a, l, c, rfl⟩ := okWide_slice lt30 hv
  obtain ⟨fuel, hf⟩ := h
  have hy : DataW.trod enc Try.prog w base spare held fuel 22 [.slice a l c] = some (d, p) := by simpa [Value.cells] using hf
  obtain ⟨hm, R, rfl, hr⟩ := open_nums hy
  exact ⟨a, c, R, rfl, hm, fun h0 => hr (by omega)⟩

set_option maxRecDepth 100000 in
theorem lifted (os : Os) (started : os.Started) (H : Type) (enc : TypeId × Value → H) :
    ReturnsInHanded {} Try.checked os 3 .any (Rows.reachTellsSpec.pre6 enc Try.prog Try.f3 Rows.reachTellsRow.domain false) (Rows.reachTellsSpec.post enc Try.prog Try.f3 false true false false) := by
  refine returnsInHanded_of_change (C := Try.checked) own started (by kernel_rfl) Try.func3
    (ChangeSpec.witness6 (enc := enc) (C := Try.checked) false ⟨#[], #[.agg #[.slice none 0 0], .slice none 0 0], []⟩ 8 (by kernel_rfl) (by kernel_rfl) (by kernel_rfl) (by kernel_rfl)) ?_
  intro W base args ds gs before hval0 hW hcnd _
  have hval : ∀ (j : Nat) t v, Try.f3.params[j]? = some t → args[j]? = some v → Value.okWide Try.prog W .any base t v := hval0
  have hW' := hW
  obtain ⟨p, q, hA0, hV, rfl, hfz, hnd⟩ := hW
  have hA : DataW.TrodAll enc Try.prog W 0 (fun _ => true) true Try.f3.params.toList args.toList ds p := hA0
  rw [Try.params3] at hA hval
  obtain ⟨v0, vs0, d0, ds0, p0, q0, hargs, rfl, rfl, h0, r0⟩ := trodAll_cons hA
  obtain ⟨v1, vs1, d1, ds1, p1, q1, rfl, rfl, rfl, h1, r1⟩ := trodAll_cons r0
  obtain ⟨rfl, rfl, rfl⟩ := trodAll_nil r1
  obtain rfl : args = #[v0, v1] := by cases args; simp_all
  obtain ⟨rfl, rfl⟩ := trodVars_none hV
  have lt0 : ∀ x ∈ p0, x.block < W.heap.size := by obtain ⟨m, hm⟩ := h0; exact DataW.trod_lt m _ _ _ hm
  have lt1 : ∀ x ∈ p1, x.block < W.heap.size := by obtain ⟨m, hm⟩ := h1; exact DataW.trod_lt m _ _ _ hm
  obtain ⟨ad, cap, Ws, rfl, hm, hr⟩ := open_heap (hval 0 24 v0 rfl rfl) h0
  obtain ⟨rad, rcap, Rs, rfl, hrm, hrr⟩ := open_roots (hval 1 22 v1 rfl rfl) h1
  clear hA0 hval0
  refine (walk Ws Rs ad rad cap rcap W hm hrm hr hrr).mono fun e W' ⟨he, bel⟩ => ?_
  subst he
  exact ⟨_, rfl, _, _, _, [], _, [], hW', trodAll_mk1 (shut_bool lt4 _), (trodAll_cons_mk (Below.trod laidOut (by kernel_rfl) (of_decide_eq_true (by kernel_rfl)) h0 bel lt0) (trodAll_cons_mk (Below.trod laidOut (by kernel_rfl) (of_decide_eq_true (by kernel_rfl)) h1 bel lt1) trodAll_mk0)), rfl, bel.frame _, fun h => by cases h⟩

theorem over : Rows.reachTellsRow.holds Try.pinned (OpenSpec.ofChange Rows.reachTellsSpec) :=
  OpenClaim.holds_of_wide 3 Try.f3 rfl rfl rfl rfl rfl rfl rfl ⟨rfl, rfl, rfl, rfl, rfl⟩ rfl rfl rfl rfl rfl (by kernel_rfl) Try.func3 (by kernel_rfl)
    (of_decide_eq_true (by kernel_rfl)) (by unfold Func.isWrapper; first | (rw [if_pos (by decide +kernel)]; kernel_rfl) | (rw [if_neg (by decide +kernel)]; exact ⟨rfl, rfl⟩))
    (fun os started H enc _ => lifted os started H enc)

end Go.Proofs.Ytgggmdanpdggpab.reachTells
namespace Go.Proofs.Ytgggmdanpdggpab
/-- The statement. -/
theorem reachTells_holds : Rows.ReachTellsSaid := reachTells.over
#print axioms reachTells_holds
end Go.Proofs.Ytgggmdanpdggpab
