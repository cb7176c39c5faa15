/- TriPlays holds for every heap, all roots and all ops that can come in, with no condition: the program tells how things are coloured in the end, as the document asks, or the fault of the heap and the roots. -/
import Derived.Test.YtabniplgibfgeaaTriGoX
namespace Go.Proofs.Ytabniplgibfgeaa.triPlays
open Go.ChangeShapes Go.WideShapes Go.ChangeAt Go.RowKit Go.Joins Go.Deep

theorem opTy : ∃ f0 f1 f2 f3 f4 f5, OpTy 50 f0 f1 f2 f3 f4 f5 := ⟨_, _, _, _, _, _, Try.underlying50, by kernel_rfl, by kernel_rfl, by simp⟩

theorem big (ad rad oad : Option Addr) (n cap rn rc m oc : Nat) (w : World) (hm : n ≤ maxLen) (hrm : rn ≤ maxLen) (h : 5000 < n ∨ 5000 < rn) :
    Calls Try.prog 4 #[.agg #[.slice ad n cap], .slice rad rn rc, .slice oad m oc] w fun e w' => e = .returned (.bool true) ∧ Below w.heap.size w w' := by
  go_enter Try.func4, Try.ntmps4
  go_wp2_with (go_at_call 5; refine (lvast_yes ad rad n cap rn rc _ hm hrm h).mono ?_; rintro e w1 ⟨rfl, hb1⟩)
  go_ret
  exact ⟨rfl, below_call hb1⟩

theorem many (ad rad oad : Option Addr) (n cap rn rc m oc : Nat) (w : World) (h1 : n ≤ 5000) (h2 : rn ≤ 5000) (hom : m ≤ maxLen) (h : 500 < m) :
    Calls Try.prog 4 #[.agg #[.slice ad n cap], .slice rad rn rc, .slice oad m oc] w fun e w' => e = .returned (.bool true) ∧ Below w.heap.size w w' := by
  unfold maxLen at hom
  have hi : (500 : Int) < (m : Int) := by omega
  go_enter Try.func4, Try.ntmps4
  go_wp2_with (go_at_call 5; refine (lvast_no ad rad n cap rn rc _ h1 h2).mono ?_; rintro e w1 ⟨rfl, hb1⟩)
  go_ret
  exact ⟨rfl, below_call hb1⟩

set_option maxHeartbeats 4000000 in
theorem walk_no (W roots : List Int) (ops : List OpT) (ad rad oad : Option Addr) (cap rcap ocap : Nat) (w : World) (hl : W.length ≤ 5000) (hrl : roots.length ≤ 5000) (hol : ops.length ≤ 500) (hr : WordsAt ad W w) (hroots : RootsAt rad roots w) (hops : OpsAt oad ops w) (h : (rootsOf W roots).1 ≠ 0) :
    Calls Try.prog 4 #[.agg #[.slice ad W.length cap], .slice rad roots.length rcap, .slice oad ops.length ocap] w fun e w' => e = .returned (.bool true) ∧ Below w.heap.size w w' := by
  have h6 : Hid (∀ w0, Below w.heap.size w w0 → Calls Try.prog 6 #[heapV ad W.length cap, .slice rad roots.length rcap, .slice oad ops.length ocap] w0 fun e w' => e = .returned (.tuple #[.agg #[.slice none 0 0, .slice none 0 0, .slice none 0 0, .bool false, .slice none 0 0], .agg #[.int .i64 (rootsOf W roots).1, .int .i64 (rootsOf W roots).2]]) ∧ Below w0.heap.size w0 w') :=
    fun w0 hb => tplay_no W roots ops ad rad oad cap rcap ocap w0 (by unfold maxLen; omega) (hr.below hb) (hroots.below hb) (hops.below hb) hrl (by omega) h
  have h7 : Hid (∀ w0, Below w.heap.size w w0 → Calls Try.prog 7 #[heapV ad W.length cap, .slice rad roots.length rcap] w0 fun e w' => e = .returned (.agg #[.int .i64 (rootsOf W roots).1, .int .i64 (rootsOf W roots).2]) ∧ Below w0.heap.size w0 w') :=
    fun w0 hb => rroots_any W roots ad rad cap rcap w0 (by unfold maxLen; omega) (hr.below hb) (hroots.below hb) hrl
  generalize rootsOf W roots = F at *
  have hb : (F.1 != 0) = true := by simpa using h
  have hi : ¬ (500 : Int) < (ops.length : Int) := by omega
  clear h hr hroots hops
  go_enter Try.func4, Try.ntmps4
  go_wp2_with (first | (go_at_call 5; refine (lvast_no ad rad _ cap _ rcap _ hl hrl).mono ?_; rintro e w1 ⟨rfl, hb1⟩; have k1 := box_one hb1; have z1 := grew1 hb1; have hW1 := below_call hb1) | (go_at_call 6; refine (h6.out _ hW1).mono ?_; rintro e w2 ⟨rfl, hb2⟩; have k2 := through hb2 k1 z1; have z2 := hb2.size; have hW2 := hW1.trans (hb2.mono hW1.size); have z02 : w.heap.size < w2.heap.size := (by omega)) | (go_at_call 7; refine (h7.out _ ((hW2.alloc hW2.size _).alloc (Nat.le_trans hW2.size (by simp)) _)).mono ?_; rintro e w3 ⟨rfl, hb3⟩; obtain ⟨⟨f0, f1, f2, f3, f4⟩, g0, g1, z3⟩ := boxes52 hb3; have z30 : w2.heap.size < w3.heap.size := (by omega); have hW3 := hW2.trans ((below2 hb3).mono hW2.size)))
  go_ret
  exact ⟨ret_bool (by simp), hW3.alloc hW3.size _⟩

set_option maxHeartbeats 8000000 in
theorem walk_yes (W roots : List Int) (ops : List OpT) (ad rad oad : Option Addr) (cap rcap ocap : Nat) (w : World) (hcp : W.length ≤ cap) (hrl : roots.length ≤ 5000) (hol : ops.length ≤ 500) (hr : WordsAt ad W w) (hroots : RootsAt rad roots w) (hops : OpsAt oad ops w) (h : (rootsOf W roots).1 = 0) :
    Calls Try.prog 4 #[.agg #[.slice ad W.length cap], .slice rad roots.length rcap, .slice oad ops.length ocap] w fun e w' => e = .returned (.bool true) ∧ Below w.heap.size w w' := by
  obtain ⟨hc, _, h00⟩ := roots_zero h
  have hok := ok_rootsOf h
  have hl := (fine_of hc).few
  have h2 : 2 ≤ W.length := (front_out (check_fine hc).1).1
  have h6 : Hid (∀ w0, Below w.heap.size w w0 → Calls Try.prog 6 #[heapV ad W.length cap, .slice rad roots.length rcap, .slice oad ops.length ocap] w0 fun e w' => TpAns (playT W roots ops) e w' ∧ Below w0.heap.size w0 w') :=
    fun w0 hb => tplay_yes W roots ops ad rad oad cap rcap ocap w0 (hr.below hb) (hroots.below hb) (hops.below hb) hrl (by omega) h hcp
  have h7 : Hid (∀ w0, Below w.heap.size w w0 → Calls Try.prog 7 #[heapV ad W.length cap, .slice rad roots.length rcap] w0 fun e w' => e = .returned (.agg #[.int .i64 0, .int .i64 0]) ∧ Below w0.heap.size w0 w') :=
    fun w0 hb => by have := rroots_any W roots ad rad cap rcap w0 (by unfold maxLen; omega) (hr.below hb) (hroots.below hb) hrl; rw [h00] at this; exact this
  have h8 : Hid (∀ w0, Below w.heap.size w w0 → Calls Try.prog 10 #[heapV ad W.length cap, .slice rad roots.length rcap, .slice oad ops.length ocap] w0 fun e w' => (∃ v0 v1 v2 v4, e = .returned (.agg #[v0, v1, v2, .bool (doneT (playT W roots ops)), v4]) ∧ PlayAns' w' (playT W roots ops) v0 v1 v2 v4) ∧ Below w0.heap.size w0 w') :=
    fun w0 hb => by obtain ⟨b, off, rfl, hrow⟩ := hr.below hb h2; exact rplay_any W roots ops b off cap rad oad rcap ocap w0 hrow (hroots.below hb) hrl hc hok hcp (by omega) (hops.below hb)
  obtain ⟨sW, sR, sC, sF⟩ := play_sizes ops hc hok hrl (by omega)
  generalize playT W roots ops = s at *
  have hs0 : s.W.length ≤ 1000000 := by omega
  have hs1 : s.R.length ≤ 1000000 := by omega
  have hs2 : (coloursT s).length ≤ 1000000 := by omega
  have hs3 : (freedT s).length ≤ 1000000 := by omega
  have hl5 : W.length ≤ 5000 := by omega
  have e0 : (s.W == s.W) = true := by simp
  have e1 : (s.R == s.R) = true := by simp
  have e2 : (coloursT s == coloursT s) = true := by simp
  have e3 : (freedT s == freedT s) = true := by simp
  have hi : ¬ (500 : Int) < (ops.length : Int) := by omega
  clear h hr hroots hops h00 sW sR sC sF
  go_enter Try.func4, Try.ntmps4
  go_wp2_with (first | (go_at_call 5; refine (lvast_no ad rad _ cap _ rcap _ hl5 hrl).mono ?_; rintro e w1 ⟨rfl, hb1⟩; have k1 := box_one hb1; have z1 := grew1 hb1; have hW1 := below_call hb1) | (go_at_call 6; refine (h6.out _ hW1).mono ?_; rintro e w2 ⟨⟨a0, a1, a2, a4, rfl, hA2⟩, hb2⟩; obtain ⟨p0, c0, p1, c1, p2, c2, p4, c4, rfl, rfl, rfl, rfl⟩ := hA2.forms; have k2 := through hb2 k1 z1; have z2 := hb2.size; have hW2 := hW1.trans (hb2.mono hW1.size); have z02 : w.heap.size < w2.heap.size := (by omega)) | (go_at_call 7; refine (h7.out _ ((hW2.alloc hW2.size _).alloc (Nat.le_trans hW2.size (by simp)) _)).mono ?_; rintro e w3 ⟨rfl, hb3⟩; obtain ⟨⟨f0, f1, f2, f3, f4⟩, g0, g1, z3⟩ := boxes52 hb3; have bW3 := below2 hb3; have z30 : w2.heap.size < w3.heap.size := (by omega); have hW3 := hW2.trans (bW3.mono hW2.size); have k3 := through bW3 k2 z02; have z03 : w.heap.size < w3.heap.size := (by omega); have hA3 := hA2.below bW3) | (go_at_call 10; refine (h8.out _ (hW3.alloc hW3.size _)).mono ?_; rintro e w4 ⟨⟨b0, b1, b2, b4, rfl, hB4⟩, hb4⟩; obtain ⟨q0, d0, q1, d1, q2, d2, q4, d4, rfl, rfl, rfl, rfl⟩ := hB4.forms; have bW4 := below_call hb4; have z4 := bW4.size; have hA4 := hA3.below bW4; have f0' := through bW4 f0 z30; have f1' := through bW4 f1 z30; have f2' := through bW4 f2 z30; have f3' := through bW4 f3 z30; have f4' := through bW4 f4 z30; have g0' := through bW4 g0 z3; have z40 : w2.heap.size < w4.heap.size := (by omega); have z41 : w2.heap.size + 1 < w4.heap.size := (by omega); have hW4 := hW3.trans (bW4.mono hW3.size); have bA : Below w4.heap.size w4 (w4.alloc (.cells #[.slice q0 s.W.length d0, .slice q1 s.R.length d1, .slice q2 (coloursT s).length d2, .bool (doneT s), .slice q4 (freedT s).length d4] 28)) := (Below.refl _ _).alloc (Nat.le_refl _) _; have hA5 := hA4.below bA; have hB5 := hB4.below bA) | (go_at_call 11; refine (lheaps_any s.W s.W _ _ _ hA5.words hB5.words hs0).mono ?_; rw [e0]; rintro e w5 ⟨rfl, hb5⟩; obtain ⟨⟨i0, i1, i2, i3, i4⟩, z5⟩ := box5c hb5; have bB := bA.trans (hb5.mono bA.size); have j1 := through bB f1' z40; have j2 := through bB f2' z40; have j3 := through bB f3' z40; have j4 := through bB f4' z40; have l0 := through bB g0' z41; have z50 : w2.heap.size + 1 < w5.heap.size := (by have := bB.size; omega); have z51 : w2.heap.size < w5.heap.size := (by omega); have hA6 := hA5.below hb5; have hB6 := hB5.below hb5; have hW5 := hW4.trans (bB.mono hW4.size)) | (go_at_call 12; refine (ints_any (freedT s) (freedT s) _ _ _ (HAk.out (m + m')).freed (HBk.out (m + m')).freed hs3).mono ?_; rw [e3]; rintro e w8 ⟨rfl, m'', rfl⟩) | (go_at_call 12; refine (ints_any (coloursT s) (coloursT s) _ _ _ (HAk.out m).cols (HBk.out m).cols hs2).mono ?_; rw [e2]; rintro e w7 ⟨rfl, m', rfl⟩) | (go_at_call 12; refine (ints_any s.R s.R _ _ _ hA6.roots hB6.roots hs1).mono ?_; rw [e1]; rintro e w6 ⟨rfl, m, rfl⟩; have HAk : Hid (∀ k, PlayAns' (w5.drewN k) s _ _ _ _) := fun k => hA6.below (below_drewN (Below.refl w5.heap.size w5) k); have HBk : Hid (∀ k, PlayAns' (w5.drewN k) s _ _ _ _) := fun k => hB6.below (below_drewN (Below.refl w5.heap.size w5) k); clear hA6 hB6))
  go_ret
  exact ⟨ret_bool (by simp), below_drewN hW5 _⟩

theorem walk (W roots : List Int) (ops : List OpT) (ad rad oad : Option Addr) (cap rcap ocap : Nat) (w : World) (hm : W.length ≤ maxLen) (hrm : roots.length ≤ maxLen) (hom : ops.length ≤ maxLen) (hr : WordsAt ad W w) (hcp : W.length ≤ cap) (hroots : RootsAt rad roots w) (hops : OpsAt oad ops w) :
    Calls Try.prog 4 #[.agg #[.slice ad W.length cap], .slice rad roots.length rcap, .slice oad ops.length ocap] w fun e w' => e = .returned (.bool true) ∧ Below w.heap.size w w' := by
  by_cases hl : W.length ≤ 5000 ∧ roots.length ≤ 5000
  · by_cases ho : ops.length ≤ 500
    · by_cases h : (rootsOf W roots).1 = 0
      · exact walk_yes W roots ops ad rad oad cap rcap ocap w hcp hl.2 ho hr hroots hops h
      · exact walk_no W roots ops ad rad oad cap rcap ocap w hl.1 hl.2 ho hr hroots hops h
    · exact many ad rad oad W.length cap roots.length rcap ops.length ocap w hl.1 hl.2 hom (by omega)
  · exact big ad rad oad W.length cap roots.length rcap ops.length ocap w hm hrm (by omega)

set_option maxRecDepth 100000 in
theorem lifted (os : Os) (started : os.Started) (H : Type) (enc : TypeId × Value → H) :
    ReturnsInHanded {} Try.checked os 4 .any (Rows.triPlaysSpec.pre6 enc Try.prog Try.f4 Rows.triPlaysRow.domain false) (Rows.triPlaysSpec.post enc Try.prog Try.f4 false true false false) := by
  refine returnsInHanded_of_change (C := Try.checked) own started (by kernel_rfl) Try.func4
    (ChangeSpec.witness6 (enc := enc) (C := Try.checked) false ⟨#[], #[.agg #[.slice none 0 0], .slice none 0 0, .slice none 0 0], []⟩ 8 (by kernel_rfl) (by kernel_rfl) (by kernel_rfl) (by kernel_rfl)) ?_
  intro W base args ds gs before hval0 hW hcnd _
  have hval : ∀ (j : Nat) t v, Try.f4.params[j]? = some t → args[j]? = some v → Value.okWide Try.prog W .any base t v := hval0
  have hW' := hW
  obtain ⟨p, q, hA0, hV, rfl, hfz, hnd⟩ := hW
  have hA : DataW.TrodAll enc Try.prog W 0 (fun _ => true) true Try.f4.params.toList args.toList ds p := hA0
  rw [Try.params4] at hA hval
  obtain ⟨v0, vs0, d0, ds0, p0, q0, hargs, rfl, rfl, h0, r0⟩ := trodAll_cons hA
  obtain ⟨v1, vs1, d1, ds1, p1, q1, rfl, rfl, rfl, h1, r1⟩ := trodAll_cons r0
  obtain ⟨v2, vs2, d2, ds2, p2, q2, rfl, rfl, rfl, h2, r2⟩ := trodAll_cons r1
  obtain ⟨rfl, rfl, rfl⟩ := trodAll_nil r2
  obtain rfl : args = #[v0, v1, v2] := by cases args; simp_all
  obtain ⟨rfl, rfl⟩ := trodVars_none hV
  have lt0 : ∀ x ∈ p0, x.block < W.heap.size := by obtain ⟨m, hm⟩ := h0; exact DataW.trod_lt m _ _ _ hm
  have lt1 : ∀ x ∈ p1, x.block < W.heap.size := by obtain ⟨m, hm⟩ := h1; exact DataW.trod_lt m _ _ _ hm
  have lt2 : ∀ x ∈ p2, x.block < W.heap.size := by obtain ⟨m, hm⟩ := h2; exact DataW.trod_lt m _ _ _ hm
  obtain ⟨ad0, cap0, L0, rfl, hm0, hr0, hcp0⟩ := open_heapC (hval 0 24 v0 rfl rfl) h0
  obtain ⟨ad1, cap1, L1, rfl, hm1, hr1⟩ := open_ints' (hval 1 22 v1 rfl rfl) h1
  obtain ⟨_, _, _, _, _, _, hopTy⟩ := opTy
  obtain ⟨ad2, cap2, L2, rfl, hm2, hr2⟩ := open_opsT hopTy Try.underlying25 (hval 2 25 v2 rfl rfl) h2
  clear hA0 hval0
  refine (walk L0 L1 L2 ad0 ad1 ad2 cap0 cap1 cap2 W hm0 hm1 hm2 hr0 hcp0 hr1 hr2).mono fun e W' ⟨he, bel⟩ => ?_
  subst he
  exact ⟨_, rfl, _, _, _, [], _, [], hW', trodAll_mk1 (shut_bool lt4 _), (trodAll_cons_mk (Below.trod laidOut (by kernel_rfl) (of_decide_eq_true (by kernel_rfl)) h0 bel lt0) (trodAll_cons_mk (Below.trod laidOut (by kernel_rfl) (of_decide_eq_true (by kernel_rfl)) h1 bel lt1) (trodAll_cons_mk (Below.trod laidOut (by kernel_rfl) (of_decide_eq_true (by kernel_rfl)) h2 bel lt2) trodAll_mk0))), rfl, bel.frame _, fun h => by cases h⟩

theorem over : Rows.triPlaysRow.holds Try.pinned (OpenSpec.ofChange Rows.triPlaysSpec) :=
  OpenClaim.holds_of_wide 4 Try.f4 rfl rfl rfl rfl rfl rfl rfl ⟨rfl, rfl, rfl, rfl, rfl⟩ rfl rfl rfl rfl rfl (by kernel_rfl) Try.func4 (by kernel_rfl)
    (of_decide_eq_true (by kernel_rfl)) (by unfold Func.isWrapper; first | (rw [if_pos (by decide +kernel)]; kernel_rfl) | (rw [if_neg (by decide +kernel)]; exact ⟨rfl, rfl⟩))
    (fun os started H enc _ => lifted os started H enc)

end Go.Proofs.Ytabniplgibfgeaa.triPlays
namespace Go.Proofs.Ytabniplgibfgeaa
/-- The statement. -/
theorem triPlays_holds : Rows.TriPlaysSaid := triPlays.over
#print axioms triPlays_holds
end Go.Proofs.Ytabniplgibfgeaa

