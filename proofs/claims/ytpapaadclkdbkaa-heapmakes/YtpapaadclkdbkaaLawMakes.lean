/- HeapMakes holds for every heap and all numbers that can come in, with no condition: the program makes a thing more, or says what stands against it. -/
import Derived.Test.YtpapaadclkdbkaaFrame
import Derived.Test.YtpapaadclkdbkaaRefLoop
import Derived.Test.YtpapaadclkdbkaaRefNewGood
namespace Go.Proofs.Ytpapaadclkdbkaa.heapMakes
open Go.ChangeShapes Go.WideShapes Go.ChangeAt Go.RowKit

theorem heap_below {W : List Int} {ad : Option Addr} {w w' : World} (hr : 2 ≤ W.length → ∃ b off, ad = some ⟨b, off, none⟩ ∧ Row w b off W) (hb : Below w.heap.size w w') : 2 ≤ W.length → ∃ b off, ad = some ⟨b, off, none⟩ ∧ Row w' b off W :=
  fun h => let ⟨b, off, e, r⟩ := hr h; ⟨b, off, e, r.same hb⟩
theorem keep {w w' : World} {o : Obj} (hb : Below (w.alloc o).heap.size (w.alloc o) w') {a : Addr} {v : Value} (h : w.cell? a = some v) : w'.cell? a = some v := by
  have hlt := World.block_lt_of_cell? w a h
  rw [(below_call hb).cell hlt]; exact h
theorem grew {w w' : World} {o : Obj} (hb : Below (w.alloc o).heap.size (w.alloc o) w') : w.heap.size < w'.heap.size := by
  have := hb.size; simp at this; omega

theorem _root_.Go.Proofs.Ytpapaadclkdbkaa.Reads.shape {w : World} {v : Value} {xs : List Int} (h : Reads w v xs) : ∃ ad c, v = .slice ad xs.length c ∧ True := by
  obtain ⟨ad, c, hv, _⟩ := h; exact ⟨ad, c, hv, trivial⟩

/-- What New says: those words, that reference, that error. -/
def NewSays (xs : List Int) (o er : Int) (e : Ending) (w' : World) : Prop := ∃ v, e = .returned (.tuple #[.agg #[v], .int .i64 o, .int .i64 er]) ∧ Reads w' v xs

theorem says_err {er : Int} {e : Ending} {w : World} (h : e = newErr er) : NewSays [] 0 er e w := ⟨_, h, ⟨none, 0, rfl, fun h => by simp at h⟩⟩
theorem says_good {W' : List Int} {o : Int} {e : Ending} {w : World} (h : NewAns W' o e w) : NewSays W' o 0 e w := by
  obtain ⟨g, cap, he, hown⟩ := h
  exact ⟨_, he, Reads.of_own hown⟩

theorem both (W : List Int) (ad : Option Addr) (cap : Nat) (cl fo si : Int) (h : (checkOf W).1 = 0) :
    ∃ xs o er, xs.length ≤ 2000 ∧
      (∀ w, (2 ≤ W.length → ∃ b off, ad = some ⟨b, off, none⟩ ∧ Row w b off W) → Calls Try.prog 9 #[heapV ad W.length cap, .int .i64 cl, .int .i64 fo, .int .i64 si] w fun e w' => NewSays xs o er e w' ∧ Below w.heap.size w w') ∧
      (∀ w, (2 ≤ W.length → ∃ b off, ad = some ⟨b, off, none⟩ ∧ Row w b off W) → Calls Try.prog 11 #[heapV ad W.length cap, .int .i64 cl, .int .i64 fo, .int .i64 si] w fun e w' => NewSays xs o er e w' ∧ Below w.heap.size w w') := by
  obtain ⟨hf, hu⟩ := check_ok h
  obtain ⟨h2, hl, _, hh1, hh2⟩ := front_out hf
  cases hc : nilB W cl with
  | false =>
    refine ⟨[], 0, 3, by simp, fun w hr => (new_kind W ad cap cl fo si w hr h hc).mono fun e w' hp => ⟨says_err hp.1, hp.2⟩, fun w hr => ?_⟩
    obtain ⟨b, off, rfl, hrow⟩ := hr h2
    exact (rnew_kind W b off cap cl fo si w hrow hu hl hc).mono fun e w' hp => ⟨says_err hp.1, hp.2⟩
  | true =>
    cases hfs : (formB fo && sizeB si) with
    | false =>
      refine ⟨[], 0, 4, by simp, fun w hr => (new_range W ad cap cl fo si w hr h hc hfs).mono fun e w' hp => ⟨says_err hp.1, hp.2⟩, fun w hr => ?_⟩
      obtain ⟨b, off, rfl, hrow⟩ := hr h2
      exact (rnew_range W b off cap cl fo si w hrow hu hl hc hfs).mono fun e w' hp => ⟨says_err hp.1, hp.2⟩
    | true =>
      obtain ⟨h1f, h1s⟩ := Bool.and_eq_true_iff.1 hfs
      have hsi : 0 ≤ si ∧ si ≤ 60 := by unfold sizeB at h1s; exact of_decide_eq_true h1s
      by_cases hfull : 2000 < (W.length : Int) + 3 + si ∨ 10000 < wd W 1
      · refine ⟨[], 0, 6, by simp, fun w hr => (new_full W ad cap cl fo si w hr h hc h1f h1s hfull).mono fun e w' hp => ⟨says_err hp.1, hp.2⟩, fun w hr => ?_⟩
        obtain ⟨b, off, rfl, hrow⟩ := hr h2
        exact (rnew_full W b off cap cl fo si w hrow hu h2 hl hh2 hc h1f h1s hfull).mono fun e w' hp => ⟨says_err hp.1, hp.2⟩
      · obtain ⟨m, rfl⟩ := Int.eq_ofNat_of_zero_le hsi.1
        refine ⟨newWords W cl fo m, 2 * (W.length : Int), 0, by rw [new_length]; omega, fun w hr => (new_good W ad cap cl fo m w hr h hc h1f h1s (by omega) (by omega)).mono fun e w' hp => ⟨says_good hp.1, hp.2⟩, fun w hr => ?_⟩
        obtain ⟨b, off, rfl, hrow⟩ := hr h2
        exact (rnew_good W b off cap cl fo m w hrow hu h2 (by omega) hh1 hc h1f h1s (by omega)).mono fun e w' hp => ⟨says_good hp.1, hp.2⟩

theorem big (ad : Option Addr) (n cap : Nat) (cl fo si : Int) (w : World) (hm : n ≤ maxLen) (h : 5000 < n) :
    Calls Try.prog 3 #[.agg #[.slice ad n cap], .int .i64 cl, .int .i64 fo, .int .i64 si] w fun e w' => e = .returned (.bool true) ∧ Below w.heap.size w w' := by
  unfold maxLen at hm
  go_enter Try.func3, Try.ntmps3
  go_wp2
  go_ret
  exact ⟨rfl, (Below.refl _ _).alloc (Nat.le_refl _) _⟩

set_option maxHeartbeats 2000000 in
theorem walk_no (W : List Int) (ad : Option Addr) (cap : Nat) (cl fo si : Int) (w : World) (hm : W.length ≤ maxLen) (hl : W.length ≤ 5000) (hr : 2 ≤ W.length → ∃ b off, ad = some ⟨b, off, none⟩ ∧ Row w b off W) (h : (checkOf W).1 ≠ 0) :
    Calls Try.prog 3 #[.agg #[.slice ad W.length cap], .int .i64 cl, .int .i64 fo, .int .i64 si] w fun e w' => e = .returned (.bool true) ∧ Below w.heap.size w w' := by
  have HR : Hid (2 ≤ W.length → ∃ b off, ad = some ⟨b, off, none⟩ ∧ Row w b off W) := hr
  have h26 : Hid (∀ w0, (2 ≤ W.length → ∃ b off, ad = some ⟨b, off, none⟩ ∧ Row w0 b off W) → Calls Try.prog 9 #[heapV ad W.length cap, .int .i64 cl, .int .i64 fo, .int .i64 si] w0 fun e w' => e = newErr 7 ∧ Below w0.heap.size w0 w') := fun w0 h0 => new_heap W ad cap cl fo si w0 hm h0 h
  have h22 : Hid (∀ w0, (2 ≤ W.length → ∃ b off, ad = some ⟨b, off, none⟩ ∧ Row w0 b off W) → Calls Try.prog 10 #[heapV ad W.length cap] w0 fun e w' => e = .returned (.agg #[.int .i64 (checkOf W).1, .int .i64 (checkOf W).2]) ∧ Below w0.heap.size w0 w') := fun w0 h0 => rcheck_any W ad cap w0 hm h0
  generalize checkOf W = F at *
  have hb : (F.1 != 0) = true := by simpa using h
  clear h hr
  go_enter Try.func3, Try.ntmps3
  go_wp2_with (first | (go_at_call 9; refine (h26.out _ (reads1 HR.out)).mono ?_; rintro e w1 ⟨rfl, hb1⟩; have k1 := box_one hb1; have z1 := grew hb1) | (go_at_call 10; refine (h22.out _ (reads1 (heap_below (reads1 HR.out) hb1))).mono ?_; rintro e w2 ⟨rfl, hb2⟩; have k2 := box_one hb2; have z2 := grew hb2))
  go_ret
  exact ⟨rfl, ((below_call hb1).trans ((below_call hb2).mono (below_call hb1).size)).alloc (by have := (below_call hb1).size; omega) _⟩

set_option maxHeartbeats 2000000 in
theorem walk_yes (W : List Int) (ad : Option Addr) (cap : Nat) (cl fo si : Int) (w : World) (hm : W.length ≤ maxLen) (hl : W.length ≤ 5000) (hr : 2 ≤ W.length → ∃ b off, ad = some ⟨b, off, none⟩ ∧ Row w b off W) (h : (checkOf W).1 = 0) :
    Calls Try.prog 3 #[.agg #[.slice ad W.length cap], .int .i64 cl, .int .i64 fo, .int .i64 si] w fun e w' => e = .returned (.bool true) ∧ Below w.heap.size w w' := by
  have HR : Hid (2 ≤ W.length → ∃ b off, ad = some ⟨b, off, none⟩ ∧ Row w b off W) := hr
  obtain ⟨xs, o, er, hx, h26', h27'⟩ := both W ad cap cl fo si h
  have h26 : Hid (∀ w0, (2 ≤ W.length → ∃ b off, ad = some ⟨b, off, none⟩ ∧ Row w0 b off W) → Calls Try.prog 9 #[heapV ad W.length cap, .int .i64 cl, .int .i64 fo, .int .i64 si] w0 fun e w' => NewSays xs o er e w' ∧ Below w0.heap.size w0 w') := h26'
  have h27 : Hid (∀ w0, (2 ≤ W.length → ∃ b off, ad = some ⟨b, off, none⟩ ∧ Row w0 b off W) → Calls Try.prog 11 #[heapV ad W.length cap, .int .i64 cl, .int .i64 fo, .int .i64 si] w0 fun e w' => NewSays xs o er e w' ∧ Below w0.heap.size w0 w') := h27'
  have h22 : Hid (∀ w0, (2 ≤ W.length → ∃ b off, ad = some ⟨b, off, none⟩ ∧ Row w0 b off W) → Calls Try.prog 10 #[heapV ad W.length cap] w0 fun e w' => e = .returned (.agg #[.int .i64 0, .int .i64 0]) ∧ Below w0.heap.size w0 w') := fun w0 h0 => by have := rcheck_any W ad cap w0 hm h0; rw [see_fst h] at this; exact this
  clear h hr h26' h27'
  go_enter Try.func3, Try.ntmps3
  go_wp2_with (first | (go_at_call 9; refine (h26.out _ (reads1 HR.out)).mono ?_; rintro e w1 ⟨⟨v1, rfl, hr1⟩, hb1⟩; obtain ⟨ad1, c1, hv1, _⟩ := hr1.shape; subst hv1; have k1 := box_one hb1; have z1 := grew hb1) | (go_at_call 10; refine (h22.out _ (reads1 (heap_below (reads1 HR.out) hb1))).mono ?_; rintro e w2 ⟨rfl, hb2⟩; have j2 := keep hb2 k1; have k2 := box_one hb2; have z2 := grew hb2; have z02 : w.heap.size < w2.heap.size := (by omega); have hr2 := hr1.below (below_call hb2)) | (go_at_call 11; refine (h27.out _ (reads1 (heap_below (reads1 (heap_below (reads1 HR.out) hb1)) hb2))).mono ?_; rintro e w3 ⟨⟨v3, rfl, hr3⟩, hb3⟩; obtain ⟨ad3, c3, hv3, _⟩ := hr3.shape; subst hv3; have k3 := keep hb3 k2; have z3 := grew hb3; have z13 : w1.heap.size < w3.heap.size := (by omega); have hr23 := hr2.below (below_call hb3)) | (go_at_call 12; refine (heaps_any xs xs _ _ _ (hr23.below ((Below.refl _ _).alloc (Nat.le_refl _) _)) (hr3.below ((Below.refl _ _).alloc (Nat.le_refl _) _)) (by omega)).mono ?_; rintro e w4 ⟨rfl, hb4⟩))
  go_ret
  refine ⟨ret_bool (by simp), ?_⟩
  exact (below_call hb1).trans (((below_call hb2).trans (((below_call hb3).trans ((below_call hb4).mono (below_call hb3).size)).mono (below_call hb2).size)).mono (below_call hb1).size)

theorem walk (W : List Int) (ad : Option Addr) (cap : Nat) (cl fo si : Int) (w : World) (hm : W.length ≤ maxLen) (hr : 2 ≤ W.length → ∃ b off, ad = some ⟨b, off, none⟩ ∧ Row w b off W) :
    Calls Try.prog 3 #[.agg #[.slice ad W.length cap], .int .i64 cl, .int .i64 fo, .int .i64 si] w fun e w' => e = .returned (.bool true) ∧ Below w.heap.size w w' := by
  by_cases hl : W.length ≤ 5000
  · by_cases h : (checkOf W).1 = 0
    · exact walk_yes W ad cap cl fo si w hm hl hr h
    · exact walk_no W ad cap cl fo si w hm hl hr h
  · exact big ad W.length cap cl fo si w hm (by omega)

set_option maxRecDepth 100000 in
theorem lifted (os : Os) (started : os.Started) (H : Type) (enc : TypeId × Value → H) :
    ReturnsInHanded {} Try.checked os 3 .any (Rows.heapMakesSpec.pre6 enc Try.prog Try.f3 Rows.heapMakesRow.domain false) (Rows.heapMakesSpec.post enc Try.prog Try.f3 false true false false) := by
  refine returnsInHanded_of_change (C := Try.checked) own started (by kernel_rfl) Try.func3
    (ChangeSpec.witness6 (enc := enc) (C := Try.checked) false ⟨#[], #[.agg #[.slice none 0 0], .int .i64 0, .int .i64 0, .int .i64 0], []⟩ 8 (by kernel_rfl) (by kernel_rfl) (by kernel_rfl) (by kernel_rfl)) ?_
  intro W base args ds gs before hval0 hW hcnd _
  have hval : ∀ (j : Nat) t v, Try.f3.params[j]? = some t → args[j]? = some v → Value.okWide Try.prog W .any base t v := hval0
  have hW' := hW
  obtain ⟨p, q, hA0, hV, rfl, hfz, hnd⟩ := hW
  have hA : DataW.TrodAll enc Try.prog W 0 (fun _ => true) true Try.f3.params.toList args.toList ds p := hA0
  rw [Try.params3] at hA hval
  obtain ⟨v0, vs0, d0, ds0, p0, q0, hargs, rfl, rfl, h0, r0⟩ := trodAll_cons hA
  obtain ⟨v1, vs1, d1, ds1, p1, q1, rfl, rfl, rfl, h1, r1⟩ := trodAll_cons r0
  obtain ⟨v2, vs2, d2, ds2, p2, q2, rfl, rfl, rfl, h2, r2⟩ := trodAll_cons r1
  obtain ⟨v3, vs3, d3, ds3, p3, q3, rfl, rfl, rfl, h3, r3⟩ := trodAll_cons r2
  obtain ⟨rfl, rfl, rfl⟩ := trodAll_nil r3
  obtain rfl : args = #[v0, v1, v2, v3] := by cases args; simp_all
  obtain ⟨rfl, rfl⟩ := trodVars_none hV
  have lt0 : ∀ x ∈ p0, x.block < W.heap.size := by obtain ⟨m, hm⟩ := h0; exact DataW.trod_lt m _ _ _ hm
  obtain ⟨ad, cap, Ws, rfl, hm, hr⟩ := open_heap (hval 0 24 v0 rfl rfl) h0
  obtain ⟨a1, rfl, rfl, rfl, w1⟩ := open_int lt3 (hval 1 3 v1 rfl rfl) h1
  obtain ⟨a2, rfl, rfl, rfl, w2⟩ := open_int lt3 (hval 2 3 v2 rfl rfl) h2
  obtain ⟨a3, rfl, rfl, rfl, w3⟩ := open_int lt3 (hval 3 3 v3 rfl rfl) h3
  clear hA0 hval0
  refine (walk Ws ad cap a1 a2 a3 W hm hr).mono fun e W' ⟨he, bel⟩ => ?_
  subst he
  exact ⟨_, rfl, _, _, _, [], _, [], hW', trodAll_mk1 (shut_bool lt4 _), (trodAll_cons_mk (Below.trod laidOut (by kernel_rfl) (of_decide_eq_true (by kernel_rfl)) h0 bel lt0) (trodAll_cons_mk (shut_int lt3 w1) (trodAll_cons_mk (shut_int lt3 w2) (trodAll_cons_mk (shut_int lt3 w3) trodAll_mk0)))), rfl, bel.frame _, fun h => by cases h⟩

theorem over : Rows.heapMakesRow.holds Try.pinned (OpenSpec.ofChange Rows.heapMakesSpec) :=
  OpenClaim.holds_of_wide 3 Try.f3 rfl rfl rfl rfl rfl rfl rfl ⟨rfl, rfl, rfl, rfl, rfl⟩ rfl rfl rfl rfl rfl (by kernel_rfl) Try.func3 (by kernel_rfl)
    (of_decide_eq_true (by kernel_rfl)) (by unfold Func.isWrapper; first | (rw [if_pos (by decide +kernel)]; kernel_rfl) | (rw [if_neg (by decide +kernel)]; exact ⟨rfl, rfl⟩))
    (fun os started H enc _ => lifted os started H enc)

end Go.Proofs.Ytpapaadclkdbkaa.heapMakes
namespace Go.Proofs.Ytpapaadclkdbkaa
/-- The statement. -/
theorem heapMakes_holds : Rows.HeapMakesSaid := heapMakes.over
#print axioms heapMakes_holds
end Go.Proofs.Ytpapaadclkdbkaa
