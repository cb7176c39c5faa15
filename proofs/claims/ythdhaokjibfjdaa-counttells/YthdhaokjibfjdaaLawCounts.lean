/- CountTells holds for every heap and all roots that can come in, with no condition: the program tells by how many each thing is held, and, by taking away, just those that are not reached; or the fault of the heap and the roots. -/
import Derived.Test.YthdhaokjibfjdaaCountGo
namespace Go.Proofs.Ythdhaokjibfjdaa.countTells
open Go.ChangeShapes Go.WideShapes Go.ChangeAt Go.RowKit Go.Joins Go.Deep

theorem big (ad rad : Option Addr) (n cap rn rc : Nat) (w : World) (hm : n ≤ maxLen) (hrm : rn ≤ maxLen) (h : 5000 < n ∨ 5000 < rn) :
    Calls Try.prog 4 #[.agg #[.slice ad n cap], .slice rad rn rc] w fun e w' => e = .returned (.bool true) ∧ Below w.heap.size w w' := by
  go_enter Try.func4, Try.ntmps4
  go_wp2_with (go_at_call 10; refine (lvast_yes ad rad n cap rn rc _ hm hrm h).mono ?_; rintro e w1 ⟨rfl, hb1⟩)
  go_ret
  exact ⟨rfl, below_call hb1⟩

set_option maxHeartbeats 4000000 in
theorem walk_no (W roots : List Int) (ad rad : Option Addr) (cap rcap : Nat) (w : World) (hl : W.length ≤ 5000) (hrl : roots.length ≤ 5000) (hr : WordsAt ad W w) (hroots : RootsAt rad roots w) (h : (rootsOf W roots).1 ≠ 0) :
    Calls Try.prog 4 #[.agg #[.slice ad W.length cap], .slice rad roots.length rcap] w fun e w' => e = .returned (.bool true) ∧ Below w.heap.size w w' := by
  have h5 : Hid (∀ w0, Below w.heap.size w w0 → Calls Try.prog 11 #[heapV ad W.length cap, .slice rad roots.length rcap] w0 fun e w' => e = .returned (.tuple #[.slice none 0 0, .agg #[.int .i64 (rootsOf W roots).1, .int .i64 (rootsOf W roots).2]]) ∧ Below w0.heap.size w0 w') :=
    fun w0 hb => counts_no W roots ad rad cap rcap w0 (by unfold maxLen; omega) (hr.below hb) (hroots.below hb) hrl h
  have h6 : Hid (∀ w0, Below w.heap.size w w0 → Calls Try.prog 8 #[heapV ad W.length cap, .slice rad roots.length rcap] w0 fun e w' => e = .returned (.tuple #[.slice none 0 0, .agg #[.int .i64 (rootsOf W roots).1, .int .i64 (rootsOf W roots).2]]) ∧ Below w0.heap.size w0 w') :=
    fun w0 hb => trial_no W roots ad rad cap rcap w0 (by unfold maxLen; omega) (hr.below hb) (hroots.below hb) hrl h
  have h7 : Hid (∀ w0, Below w.heap.size w w0 → Calls Try.prog 12 #[heapV ad W.length cap, .slice rad roots.length rcap] w0 fun e w' => e = .returned (.agg #[.int .i64 (rootsOf W roots).1, .int .i64 (rootsOf W roots).2]) ∧ Below w0.heap.size w0 w') :=
    fun w0 hb => rroots_any W roots ad rad cap rcap w0 (by unfold maxLen; omega) (hr.below hb) (hroots.below hb) hrl
  generalize rootsOf W roots = F at *
  have hb : (F.1 != 0) = true := by simpa using h
  clear h hr hroots
  go_enter Try.func4, Try.ntmps4
  go_wp2_with (first | (go_at_call 10; refine (lvast_no ad rad _ cap _ rcap _ hl hrl).mono ?_; rintro e w1 ⟨rfl, hb1⟩; have k1 := box_one hb1; have z1 := grew1 hb1; have hW1 := below_call hb1) | (go_at_call 11; refine (h5.out _ hW1).mono ?_; rintro e w2 ⟨rfl, hb2⟩; have k2 := through hb2 k1 z1; have z2 := hb2.size; have hW2 := hW1.trans (hb2.mono hW1.size); have z02 : w.heap.size < w2.heap.size := (by omega)) | (go_at_call 8; refine (h6.out _ (hW2.alloc hW2.size _)).mono ?_; rintro e w3 ⟨rfl, hb3⟩; obtain ⟨f0, f1, z3⟩ := box2c hb3; have bW3 := below_call hb3; have k3 := through bW3 k2 z02; have hW3 := hW2.trans (bW3.mono hW2.size); have z03 : w.heap.size < w3.heap.size := (by omega)) | (go_at_call 12; refine (h7.out _ (hW3.alloc hW3.size _)).mono ?_; rintro e w4 ⟨rfl, hb4⟩; obtain ⟨g0, g1, z4⟩ := box2c hb4; have bW4 := below_call hb4; have e0 := through bW4 f0 z3; have e1 := through bW4 f1 z3; have hW4 := hW3.trans (bW4.mono hW3.size); have z24 : w2.heap.size < w4.heap.size := (by omega)))
  go_ret
  exact ⟨ret_bool (by simp), hW4.alloc hW4.size _⟩

set_option maxRecDepth 100000 in
set_option maxHeartbeats 8000000 in
theorem walk_yes (W roots : List Int) (ad rad : Option Addr) (cap rcap : Nat) (w : World) (hrl : roots.length ≤ 5000) (hr : WordsAt ad W w) (hroots : RootsAt rad roots w) (h : (rootsOf W roots).1 = 0) :
    Calls Try.prog 4 #[.agg #[.slice ad W.length cap], .slice rad roots.length rcap] w fun e w' => e = .returned (.bool true) ∧ Below w.heap.size w w' := by
  obtain ⟨hc, _, h00⟩ := roots_zero h
  have hok := ok_rootsOf h
  have hf := fine_of hc
  have hl := hf.few
  have h2 : 2 ≤ W.length := (front_out (check_fine hc).1).1
  obtain ⟨b, off, had, hrow⟩ := hr h2
  subst had
  have hl5 : W.length ≤ 5000 := by omega
  have HRW : Hid (Row w b off W) := hrow
  have HRO : Hid (RootsAt rad roots w) := hroots
  have h5 : Hid (∀ w0, Below w.heap.size w w0 → Calls Try.prog 11 #[heapV (some ⟨b, off, none⟩) W.length cap, .slice rad roots.length rcap] w0 fun e w' => CtAns (countsP W roots) e w' ∧ Below w0.heap.size w0 w') :=
    fun w0 hb => counts_yes W roots (some ⟨b, off, none⟩) rad cap rcap w0 (hr.below hb) (hroots.below hb) hrl h
  have h6 : Hid (∀ w0, Below w.heap.size w w0 → Calls Try.prog 8 #[heapV (some ⟨b, off, none⟩) W.length cap, .slice rad roots.length rcap] w0 fun e w' => CtAns (goneL W roots) e w' ∧ Below w0.heap.size w0 w') :=
    fun w0 hb => trial_yes W roots (some ⟨b, off, none⟩) rad cap rcap w0 (hr.below hb) (hroots.below hb) hrl h
  have h7 : Hid (∀ w0, Below w.heap.size w w0 → Calls Try.prog 12 #[heapV (some ⟨b, off, none⟩) W.length cap, .slice rad roots.length rcap] w0 fun e w' => e = .returned (.agg #[.int .i64 0, .int .i64 0]) ∧ Below w0.heap.size w0 w') :=
    fun w0 hb => by have := rroots_any W roots (some ⟨b, off, none⟩) rad cap rcap w0 (by unfold maxLen; omega) (hr.below hb) (hroots.below hb) hrl; rw [h00] at this; exact this
  have h8 : Hid (∀ w0, Below w.heap.size w w0 → Calls Try.prog 13 #[heapV (some ⟨b, off, none⟩) W.length cap, .slice rad roots.length rcap] w0 fun e w' => (∃ v, e = .returned v ∧ w'.ownsRow w0.heap.size 3 1 v (countsP W roots).length (vals (countsP W roots))) ∧ Below w0.heap.size w0 w') :=
    fun w0 hb => rcounts_any W roots b off cap rad rcap w0 (hrow.same hb) (hroots.below hb) hrl hc hok
  have h9 : Hid (∀ w0, Below w.heap.size w w0 → Calls Try.prog 15 #[heapV (some ⟨b, off, none⟩) W.length cap, .slice rad roots.length rcap] w0 fun e w' => ReachAns W roots w0.heap.size e w' ∧ Below w0.heap.size w0 w') :=
    fun w0 hb => rreach_any W roots b off cap rad rcap w0 (hrow.same hb) (hroots.below hb) hf.fit h2 hl hrl
  have hCl : (countsP W roots).length ≤ 1000000 := by
    unfold countsP; rw [List.length_map]
    exact Nat.le_trans (sizesP W hf.fit h2) (by omega)
  have HGL : Hid ((goneL W roots).length ≤ 2000) := by
    rw [gone_length]; unfold goneP
    exact Nat.le_trans (List.length_filter_le ..) (Nat.le_trans (sizesP W hf.fit h2) hl)
  have HGS : Hid (∀ A, Tells W roots A → goneL W roots = ((places W 2).filter fun q => !bt A q).map fun q : Nat => 2 * (q : Int)) := fun A hA => by unfold goneL; rw [gone_seen hA]
  generalize countsP W roots = CP at *
  generalize goneL W roots = GL at *
  have hCC : (CP == CP) = true := by simp
  clear h hr hroots h00 hrow hok
  go_enter Try.func4, Try.ntmps4
  go_wp2_with (first | (go_at_call 10; refine (lvast_no (some ⟨b, off, none⟩) rad _ cap _ rcap _ hl5 hrl).mono ?_; rintro e w1 ⟨rfl, hb1⟩; have k1 := box_one hb1; have z1 := grew1 hb1; have hW1 := below_call hb1) | (go_at_call 11; refine (h5.out _ hW1).mono ?_; rintro e w2 ⟨⟨lad, lc, rfl, hrl2⟩, hb2⟩; have k2 := through hb2 k1 z1; have z2 := hb2.size; have hW2 := hW1.trans (hb2.mono hW1.size); have z02 : w.heap.size < w2.heap.size := (by omega)) | (go_at_call 8; refine (h6.out _ (hW2.alloc hW2.size _)).mono ?_; rintro e w3 ⟨⟨mad, mc, rfl, hrm3⟩, hb3⟩; obtain ⟨f0, f1, z3⟩ := box2c hb3; have bW3 := below_call hb3; have k3 := through bW3 k2 z02; have hW3 := hW2.trans (bW3.mono hW2.size); have z03 : w.heap.size < w3.heap.size := (by omega); have hrl3 := hrl2.below bW3) | (go_at_call 12; refine (h7.out _ (hW3.alloc hW3.size _)).mono ?_; rintro e w4 ⟨rfl, hb4⟩; obtain ⟨g0, g1, z4⟩ := box2c hb4; have bW4 := below_call hb4; have e0 := through bW4 f0 z3; have e1 := through bW4 f1 z3; have k4 := through bW4 k3 z03; have hW4 := hW3.trans (bW4.mono hW3.size); have z24 : w2.heap.size < w4.heap.size := (by omega); have z04 : w.heap.size < w4.heap.size := (by omega); have hrl4 := hrl3.below bW4; have hrm4 := hrm3.below bW4) | (go_at_call 13; refine (h8.out _ (hW4.alloc hW4.size _)).mono ?_; rintro e w5 ⟨⟨v5, rfl, hown5⟩, hb5⟩; have bW5 := below_call hb5; have x0 := through bW5 e0 z24; have y0 := through bW5 g0 z4; have k5 := through bW5 k4 z04; have hW5 := hW4.trans (bW5.mono hW4.size); have z5 := bW5.size; have z25 : w2.heap.size < w5.heap.size := (by omega); have z35 : w3.heap.size < w5.heap.size := (by omega); have z05 : w.heap.size < w5.heap.size := (by omega); have hrl5 := hrl4.below bW5; have hrm5 := hrm4.below bW5; have hrv5 := Reads.of_own hown5) | (go_at_call 14; refine (ints_any CP CP _ _ _ hrl5 hrv5 hCl).mono ?_; rw [hCC]; rintro e w6 ⟨rfl, m, rfl⟩) | (go_at_call 15; refine (h9.out _ (below_drewN hW5 m)).mono ?_; rintro e w7 ⟨⟨ob, A, rfl, hob, hMk, hTl⟩, hb7⟩))
  have hT : Tells W roots A := ⟨hMk.length, hTl⟩
  have HGA := HGS.out A hT
  have hWm := below_drewN hW5 m
  have hW7 := hWm.trans (hb7.mono hWm.size)
  have hb57 : Below w5.heap.size w5 w7 := (below_drewN (Below.refl _ w5) m).trans hb7
  have k7 := through hb57 k5 z05
  have hrow7 := HRW.out.same hW7
  have hbl := hrow7.lt
  have hrm7 := hrm5.below hb57
  have hobl := own_lt hMk
  have hz7 : w.heap.size < w7.heap.size := by have := hb57.size; omega
  have HMK : Hid (Marks w7 ob W.length W.length A) := hMk
  have hGn : GL.length = ((places W 2).filter fun q => !bt A q).length := by rw [HGA, List.length_map]
  have HGN : Hid (GL.length = ((places W 2).filter fun q => !bt A q).length) := hGn
  have HGE : Hid (GL = ((places W 2).filter fun q => !bt A q).map fun q : Nat => 2 * (q : Int)) := HGA
  clear hGn HGA hTl hT HGS hMk h5 h6 h7 h8 h9
  go_loopw [13, 14] (fun s13 s14 wr => ∃ (p k : Nat) (pre : List Nat), s14 = .int .i64 p ∧ s13 = .int .i64 k ∧ Hid (AtPlace W A pre p) ∧ Hid (k = (pre.filter fun q => !bt A q).length) ∧ k ≤ 2000 ∧ wr = w7) (fun _ s14 _ => 3000 - (intOf s14).toNat)
  case atStart => exact ⟨2, 0, [], rfl, rfl, ⟨rfl, hf.fit, Nat.le_refl _, h2⟩, rfl, by omega, rfl⟩
  case round =>
    obtain ⟨p, k, pre, rfl, rfl, HA, HK, hk2, rfl⟩ := hrel
    by_cases hin : p < W.length
    · have hii : (p : Int) < (W.length : Int) := by omega
      obtain ⟨hmem, hnot⟩ := HA.out.mem hin
      have hfo := fits_out (place_fit hf.fit hmem).2.2.1
      have HNX : Hid (AtPlace W A (pre ++ [p]) (nextAt W p)) := HA.out.next hin
      have hcb := HMK.out.cell hin
      have hc2 := hrow7.cell (p + 2) (by omega)
      have hsq : (wd W (p + 2)).tdiv 4 = (slotsAt W p : Nat) := by rw [Int.tdiv_eq_ediv_of_nonneg hfo.2.1]; unfold slotsAt; omega
      have hws := wrap_id (x := ((slotsAt W p : Nat) : Int)) (by omega) (by omega)
      have hwt := wrap_id (x := (p : Int) + 3 + ((slotsAt W p : Nat) : Int)) (by omega) (by omega)
      have hw2 := wrap_id (x := (p : Int) + 2) (by omega) (by omega)
      have hw3 := wrap_id (x := (p : Int) + 3) (by omega) (by omega)
      have hwm := wrap_id (x := 2 * (p : Int)) (by omega) (by omega)
      have hwk := wrap_id (x := (k : Int) + 1) (by omega) (by omega)
      have hta2 : ((p : Int) + 2).toNat = p + 2 := by omega
      have hi2 : (p : Int) + 2 < (W.length : Int) := by omega
      have HSU : Hid ((p : Int) + 3 + ((slotsAt W p : Nat) : Int) = ((nextAt W p : Nat) : Int)) := by unfold nextAt; exact (by omega : (p : Int) + 3 + ((slotsAt W p : Nat) : Int) = ((p + 3 + slotsAt W p : Nat) : Int))
      cases hb : bt A p with
      | true =>
        rw [hb] at hcb
        have HK' : Hid (k = ((pre ++ [p]).filter fun q => !bt A q).length) := by rw [gone_skip hb]; exact HK.out
        clear HA HK
        go_wp2_with fail
        go_roundw
        case rel => exact ⟨nextAt W p, k, pre ++ [p], by first | rfl | (rw [HSU.out]) | simp [HSU.out], rfl, HNX.out, HK'.out, hk2, by first | rfl | trivial⟩
        case measure => simp [intOf]; first | omega | (unfold nextAt; omega)
      | false =>
        rw [hb] at hcb
        obtain ⟨g1, g2⟩ := gone_next (A := A) HA.out.all hin hb
        have hkG : k < GL.length := by rw [HK.out, HGN.out]; exact g1
        have hkw : wd GL k = 2 * (p : Int) := by rw [HK.out, HGE.out]; exact g2
        obtain ⟨mb, mo, hmad, hml, hmc⟩ := reads_at hrm7 hkG
        subst hmad
        rw [hkw] at hmc
        have hkGi : ¬ (GL.length : Int) ≤ (k : Int) := by omega
        have hkGj : (k : Int) < (GL.length : Int) := by omega
        have HK' : Hid (k + 1 = ((pre ++ [p]).filter fun q => !bt A q).length) := by rw [gone_snoc hb, List.length_append, ← HK.out]; exact rfl
        have hk3 : k + 1 ≤ 2000 := by have := HGL.out; omega
        clear HA HK g1 g2 hkw
        go_wp2_with fail
        go_roundw
        case rel => exact ⟨nextAt W p, k + 1, pre ++ [p], by first | rfl | (rw [HSU.out]) | simp [HSU.out], by first | rfl | simp, HNX.out, HK'.out, hk3, by first | rfl | trivial⟩
        case measure => simp [intOf]; first | omega | (unfold nextAt; omega)
    · have hii : ¬ (p : Int) < (W.length : Int) := by omega
      have hpre : pre = places W 2 := by have := HA.out.all; rwa [places_end hin, List.append_nil] at this
      have hkE : k = GL.length := by rw [HK.out, HGN.out, hpre]
      subst hkE
      clear HA HK hpre
      go_wp2_with fail
      go_ret
      exact ⟨ret_bool (by simp), hW7⟩

theorem walk (W roots : List Int) (ad rad : Option Addr) (cap rcap : Nat) (w : World) (hm : W.length ≤ maxLen) (hrm : roots.length ≤ maxLen) (hr : WordsAt ad W w) (hroots : RootsAt rad roots w) :
    Calls Try.prog 4 #[.agg #[.slice ad W.length cap], .slice rad roots.length rcap] w fun e w' => e = .returned (.bool true) ∧ Below w.heap.size w w' := by
  by_cases hl : W.length ≤ 5000 ∧ roots.length ≤ 5000
  · by_cases h : (rootsOf W roots).1 = 0
    · exact walk_yes W roots ad rad cap rcap w hl.2 hr hroots h
    · exact walk_no W roots ad rad cap rcap w hl.1 hl.2 hr hroots h
  · exact big ad rad W.length cap roots.length rcap w hm hrm (by omega)

set_option maxRecDepth 100000 in
theorem lifted (os : Os) (started : os.Started) (H : Type) (enc : TypeId × Value → H) :
    ReturnsInHanded {} Try.checked os 4 .any (Rows.countTellsSpec.pre6 enc Try.prog Try.f4 Rows.countTellsRow.domain false) (Rows.countTellsSpec.post enc Try.prog Try.f4 false true false false) := by
  refine returnsInHanded_of_change (C := Try.checked) own started (by kernel_rfl) Try.func4
    (ChangeSpec.witness6 (enc := enc) (C := Try.checked) false ⟨#[], #[.agg #[.slice none 0 0], .slice none 0 0], []⟩ 8 (by kernel_rfl) (by kernel_rfl) (by kernel_rfl) (by kernel_rfl)) ?_
  intro W base args ds gs before hval0 hW hcnd _
  have hval : ∀ (j : Nat) t v, Try.f4.params[j]? = some t → args[j]? = some v → Value.okWide Try.prog W .any base t v := hval0
  have hW' := hW
  obtain ⟨p, q, hA0, hV, rfl, hfz, hnd⟩ := hW
  have hA : DataW.TrodAll enc Try.prog W 0 (fun _ => true) true Try.f4.params.toList args.toList ds p := hA0
  rw [Try.params4] at hA hval
  obtain ⟨v0, vs0, d0, ds0, p0, q0, hargs, rfl, rfl, h0, r0⟩ := trodAll_cons hA
  obtain ⟨v1, vs1, d1, ds1, p1, q1, rfl, rfl, rfl, h1, r1⟩ := trodAll_cons r0
  obtain ⟨rfl, rfl, rfl⟩ := trodAll_nil r1
  obtain rfl : args = #[v0, v1] := by cases args; simp_all
  obtain ⟨rfl, rfl⟩ := trodVars_none hV
  have lt0 : ∀ x ∈ p0, x.block < W.heap.size := by obtain ⟨m, hm⟩ := h0; exact DataW.trod_lt m _ _ _ hm
  have lt1 : ∀ x ∈ p1, x.block < W.heap.size := by obtain ⟨m, hm⟩ := h1; exact DataW.trod_lt m _ _ _ hm
  obtain ⟨ad0, cap0, L0, rfl, hm0, hr0⟩ := open_heap (hval 0 24 v0 rfl rfl) h0
  obtain ⟨ad1, cap1, L1, rfl, hm1, hr1⟩ := open_ints' (hval 1 22 v1 rfl rfl) h1
  clear hA0 hval0
  refine (walk L0 L1 ad0 ad1 cap0 cap1 W hm0 hm1 hr0 hr1).mono fun e W' ⟨he, bel⟩ => ?_
  subst he
  exact ⟨_, rfl, _, _, _, [], _, [], hW', trodAll_mk1 (shut_bool lt4 _), (trodAll_cons_mk (Below.trod laidOut (by kernel_rfl) (of_decide_eq_true (by kernel_rfl)) h0 bel lt0) (trodAll_cons_mk (Below.trod laidOut (by kernel_rfl) (of_decide_eq_true (by kernel_rfl)) h1 bel lt1) trodAll_mk0)), rfl, bel.frame _, fun h => by cases h⟩

theorem over : Rows.countTellsRow.holds Try.pinned (OpenSpec.ofChange Rows.countTellsSpec) :=
  OpenClaim.holds_of_wide 4 Try.f4 rfl rfl rfl rfl rfl rfl rfl ⟨rfl, rfl, rfl, rfl, rfl⟩ rfl rfl rfl rfl rfl (by kernel_rfl) Try.func4 (by kernel_rfl)
    (of_decide_eq_true (by kernel_rfl)) (by unfold Func.isWrapper; first | (rw [if_pos (by decide +kernel)]; kernel_rfl) | (rw [if_neg (by decide +kernel)]; exact ⟨rfl, rfl⟩))
    (fun os started H enc _ => lifted os started H enc)

end Go.Proofs.Ythdhaokjibfjdaa.countTells
namespace Go.Proofs.Ythdhaokjibfjdaa
/-- The statement. -/
theorem countTells_holds : Rows.CountTellsSaid := countTells.over
#print axioms countTells_holds
end Go.Proofs.Ythdhaokjibfjdaa
