/- Several texts in one. -/
import Derived.Test.YthdhaokjibfjdaaGe
import Derived.Test.YthdhaokjibfjdaaRef18bX
/- Package tri: (*painter).put. -/
namespace Go.Proofs.Ythdhaokjibfjdaa
open Go.RowKit
open Go.Maps (Keyed keyOf_int_mk)

theorem thing_box {w w' : World} {a b c d : Value} {t : TypeId} (hb : Below (w.alloc (.cells #[a, b, c, d] t)).heap.size (w.alloc (.cells #[a, b, c, d] t)) w') :
    (w'.cell? ⟨w.heap.size, 2, none⟩ = some c ∧ w'.cell? ⟨w.heap.size, 3, none⟩ = some d) ∧ w.heap.size < w'.heap.size := by
  have A : ∀ j, w'.cell? ⟨w.heap.size, j, none⟩ = #[a, b, c, d][j]? := fun j => by
    rw [hb.cell (p := ⟨w.heap.size, j, none⟩) (by simp)]; exact cell_at2 rfl
  exact ⟨⟨A 2, A 3⟩, by have := hb.size; simp at this; omega⟩
theorem tstand_wf {W : List Int} {f x : Int} (h : standB W f x = true) : (Lit.int .i64 x).wf = true := by
  unfold standB at h
  split at h
  · have := of_decide_eq_true h
    go_wf
  · exact ok_wf (W := W) h
set_option maxHeartbeats 1000000 in
theorem tlook_weak (W : List Int) (b cap bm : Nat) (o : Int) (w : World) (hv : IsView w b cap bm W) (hu : unfit W 2 = none) (hl : W.length ≤ 2000) :
    Calls Try.prog 44 #[viewV b W.length cap bm, .int .i64 o] w fun e w' => (∃ c h f ad n k, e = .returned (thingV c h f (.slice ad n k))) ∧ Below w.heap.size w w' := by
  cases ht : thingB W o with
  | true =>
    obtain ⟨p, rfl, hm, _⟩ := thing_even ht
    refine (vlook_any W b cap bm p w hv hu hl ht hm).mono fun e w' hp => ⟨?_, hp.2⟩
    obtain ⟨v, rfl, sa, sc, rfl, _⟩ := hp.1
    exact ⟨_, _, _, _, _, _, rfl⟩
  | false =>
    go_enter Try.func44, Try.ntmps44
    go_wp2_with (first | (go_at_call 42; refine (has_any W b cap bm _ _ ((hv.alloc _).alloc _)).mono ?_; rw [ht]; rintro e w1 ⟨rfl, hb1⟩; obtain ⟨⟨r0, r1, r2, r3⟩, ⟨t0, t1, t2, t3⟩, hzz⟩ := box4 hb1))
    refine bodyPost_ret (v := noThing) (by simp [results, Try.results44, go_sem, r0, r1, r2, r3]) rfl ⟨⟨0, 0, 0, none, 0, 0, rfl⟩, ?_⟩
    repeat (first | refine Below.setCell ?_ (by dsimp only; omega) _ | exact below2 hb1)
set_option maxRecDepth 20000 in
set_option maxHeartbeats 4000000 in
theorem tput_far {W0 R0 : List Int} (L Q b cap bm mm T : Nat) (rv : Value) (W R C : List Int) (o pos what : Int) (w : World) (hP : Pt w L Q b cap bm mm T rv W R (colF W C)) (hI : TInv W0 R0 ⟨W, R, C⟩) (hR : R.length ≤ 50000) (hn : ¬ Reached W R o) :
    Calls Try.prog 36 #[.pointer (some ⟨Q, 0, none⟩), .int .i64 o, .int .i64 pos, .int .i64 what] w (OpAns L Q T ⟨W, R, C⟩ w) := by
  have hf := fine_of hI.may
  have hl : W.length ≤ 2000 := hf.few
  have hu : unfit W 2 = none := hf.fit
  have ls := hP.low'
  have hcon : (reachList W R).contains o = false := Bool.eq_false_iff.2 fun h => hn (reach_contains.1 h)
  have HC : Hid (∀ ra rc B w0, w0.ownsRow B 3 1 (.slice ra (reachList W R).length rc) (reachList W R).length (vals (reachList W R)) → Calls Try.prog 62 #[.slice ra (reachList W R).length rc, .int .i64 o] w0 fun e w' => e = .returned (.bool false) ∧ w' = w0) := fun ra rc B w0 h => by
    have := incontains_any (reachList W R) o ra rc B w0 h (by have := reach_length W R; omega)
    rw [hcon] at this; exact this
  have q0 := hP.q0
  have q1 := hP.q1
  have hq := hP.lt
  clear hcon hn
  go_enter Try.func36, Try.ntmps36
  go_wp2_with (first
    | (go_at_call 44; refine (tlook_weak W b cap bm o _ hP.view hu hl).mono ?_; rintro e w1 ⟨⟨c1, h1, f1, a1, n1, k1, rfl⟩, hb1⟩; have hP1 := hP.same hb1)
    | (go_at_call 61; refine (treached_any L Q b cap bm mm T rv W R _ _ hP1 hI.may hI.roots hR).mono ?_; rintro e w2 ⟨⟨ra, rc, rfl, hown2⟩, hb2⟩; have hP2 := hP1.same hb2; have hb02 := hb1.trans (hb2.mono hb1.size))
    | (go_at_call 62; refine (HC.out ra rc _ _ (hown2.alloc _)).mono ?_; rintro e w3 ⟨rfl, hw3⟩; rw [hw3]; clear hw3 w3))
  go_end0
  exact ⟨rfl, ⟨b, cap, bm, mm, rv, hP2.same ((Below.refl _ _).alloc (Nat.le_refl _) _)⟩, (hb02.mono ls).alloc (Nat.le_trans ls hb02.size) _⟩
set_option maxRecDepth 20000 in
set_option maxHeartbeats 8000000 in
theorem tput_unknown {W0 R0 : List Int} (L Q b cap bm mm T : Nat) (rv : Value) (W R C : List Int) (p : Nat) (pos what : Int) (w : World) (hP : Pt w L Q b cap bm mm T rv W R (colF W C)) (hI : TInv W0 R0 ⟨W, R, C⟩) (hR : R.length ≤ 50000) (hn : Reached W R (2 * (p : Int))) (hf1 : formAt W p ≠ 1) (hkn : nowB W R what = false) :
    Calls Try.prog 36 #[.pointer (some ⟨Q, 0, none⟩), .int .i64 (2 * (p : Int)), .int .i64 pos, .int .i64 what] w (OpAns L Q T ⟨W, R, C⟩ w) := by
  have hf := fine_of hI.may
  have hl : W.length ≤ 2000 := hf.few
  have hu : unfit W 2 = none := hf.fit
  have ls := hP.low'
  have ht : thingB W (2 * (p : Int)) = true := hn.thing
  have hmem : p ∈ places W 2 := by have := (thing_at ht).1; rwa [pl2_two] at this
  have hcon : (reachList W R).contains (2 * (p : Int)) = true := reach_contains.2 hn
  have HC : Hid (∀ ra rc B w0, w0.ownsRow B 3 1 (.slice ra (reachList W R).length rc) (reachList W R).length (vals (reachList W R)) → Calls Try.prog 62 #[.slice ra (reachList W R).length rc, .int .i64 (2 * (p : Int))] w0 fun e w' => e = .returned (.bool true) ∧ w' = w0) := fun ra rc B w0 h => by
    have := incontains_any (reachList W R) (2 * (p : Int)) ra rc B w0 h (by have := reach_length W R; omega)
    rw [hcon] at this; exact this
  have HLk : Hid (∀ w0, IsView w0 b cap bm W → Calls Try.prog 44 #[viewV b W.length cap bm, .int .i64 (2 * (p : Int))] w0 fun e w' => (∃ v, e = .returned (thingV (wd W p) (wd W (p + 1)) (formAt W p) v) ∧ SlotsOwn w0.heap.size (slotsOf W p) v w') ∧ Below w0.heap.size w0 w') := fun w0 hv => vlook_any W b cap bm p w0 hv hu hl ht hmem
  have HKn : Hid (∀ ra rc B w0, Pt w0 L Q b cap bm mm T rv W R (colF W C) → w0.ownsRow B 3 1 (.slice ra (reachList W R).length rc) (reachList W R).length (vals (reachList W R)) → Calls Try.prog 63 #[.pointer (some ⟨Q, 0, none⟩), .int .i64 what, .slice ra (reachList W R).length rc] w0 fun e w' => e = .returned (.bool false) ∧ Below w0.heap.size w0 w') := fun ra rc B w0 h h' => by
    have := tknown_any L Q b cap bm mm T rv W R (colF W C) what ra rc B w0 h hl h'
    rw [hkn] at this; exact this
  have q0 := hP.q0
  have q1 := hP.q1
  have hq := hP.lt
  have hb1f : (formAt W p != 1) = true := by simpa using hf1
  clear hcon hn hkn
  clear hf1
  generalize formAt W p = f at *
  go_enter Try.func36, Try.ntmps36
  go_wp2_with (first
    | (go_at_call 44; refine (HLk.out _ hP.view).mono ?_; rintro e w1 ⟨⟨v1, rfl, sa, sc, rfl, hs1⟩, hb1⟩; have hP1 := hP.same hb1)
    | (go_at_call 61; refine (treached_any L Q b cap bm mm T rv W R _ _ hP1 hI.may hI.roots hR).mono ?_; rintro e w2 ⟨⟨ra, rc, rfl, hown2⟩, hb2⟩; have hP2 := hP1.same hb2; have hb02 := hb1.trans (hb2.mono hb1.size))
    | (go_at_call 62; refine (HC.out ra rc _ _ (hown2.alloc _)).mono ?_; rintro e w3 ⟨rfl, hw3⟩; rw [hw3]; clear hw3 w3)
    | (go_at_call 63; refine (HKn.out ra rc _ _ (hP2.same ((Below.refl _ _).alloc (Nat.le_refl _) _)) (hown2.alloc _)).mono ?_; rintro e w3 ⟨rfl, hb3⟩; obtain ⟨⟨y2, y3⟩, hz3⟩ := thing_box hb3; have hP3 := (hP2.same ((Below.refl _ _).alloc (Nat.le_refl _) _)).same hb3; have u0 := hP3.q0; have u1 := hP3.q1; have hq3 := hP3.lt; have hb23 := below_call hb3; have hb03 := hb02.trans (hb23.mono hb02.size)))
  go_end0
  exact ⟨rfl, ⟨b, cap, bm, mm, rv, hP3⟩, hb03.mono ls⟩
set_option maxRecDepth 20000 in
set_option maxHeartbeats 8000000 in
theorem tput_noB {W0 R0 : List Int} (L Q b cap bm mm T : Nat) (rv : Value) (W R C : List Int) (p : Nat) (pos what : Int) (er : Int) (w : World) (hP : Pt w L Q b cap bm mm T rv W R (colF W C)) (hI : TInv W0 R0 ⟨W, R, C⟩) (hR : R.length ≤ 50000) (hn : Reached W R (2 * (p : Int))) (hf1 : formAt W p = 1) (hput : ∀ w0, IsView w0 b cap bm W → Calls Try.prog 64 #[viewV b W.length cap bm, .int .i64 (2 * (p : Int)), .int .i64 pos, .int .i64 what] w0 fun e w' => e = .returned (.int .i64 er) ∧ Below w0.heap.size w0 w') (her : er ≠ 0) :
    Calls Try.prog 36 #[.pointer (some ⟨Q, 0, none⟩), .int .i64 (2 * (p : Int)), .int .i64 pos, .int .i64 what] w (OpAns L Q T ⟨W, R, C⟩ w) := by
  have hf := fine_of hI.may
  have hl : W.length ≤ 2000 := hf.few
  have hu : unfit W 2 = none := hf.fit
  have ls := hP.low'
  have ht : thingB W (2 * (p : Int)) = true := hn.thing
  have hmem : p ∈ places W 2 := by have := (thing_at ht).1; rwa [pl2_two] at this
  have hcon : (reachList W R).contains (2 * (p : Int)) = true := reach_contains.2 hn
  have HC : Hid (∀ ra rc B w0, w0.ownsRow B 3 1 (.slice ra (reachList W R).length rc) (reachList W R).length (vals (reachList W R)) → Calls Try.prog 62 #[.slice ra (reachList W R).length rc, .int .i64 (2 * (p : Int))] w0 fun e w' => e = .returned (.bool true) ∧ w' = w0) := fun ra rc B w0 h => by
    have := incontains_any (reachList W R) (2 * (p : Int)) ra rc B w0 h (by have := reach_length W R; omega)
    rw [hcon] at this; exact this
  have HLk : Hid (∀ w0, IsView w0 b cap bm W → Calls Try.prog 44 #[viewV b W.length cap bm, .int .i64 (2 * (p : Int))] w0 fun e w' => (∃ v, e = .returned (thingV (wd W p) (wd W (p + 1)) (formAt W p) v) ∧ SlotsOwn w0.heap.size (slotsOf W p) v w') ∧ Below w0.heap.size w0 w') := fun w0 hv => vlook_any W b cap bm p w0 hv hu hl ht hmem
  have q0 := hP.q0
  have q1 := hP.q1
  have hq := hP.lt
  have HPut : Hid (∀ w0, IsView w0 b cap bm W → Calls Try.prog 64 #[viewV b W.length cap bm, .int .i64 (2 * (p : Int)), .int .i64 pos, .int .i64 what] w0 fun e w' => e = .returned (.int .i64 er) ∧ Below w0.heap.size w0 w') := hput
  have hbe : (er == 0) = false := by simpa using her
  clear hput her
  clear hcon hn
  generalize formAt W p = f at *
  subst hf1
  go_enter Try.func36, Try.ntmps36
  go_wp2_with (first
    | (go_at_call 44; refine (HLk.out _ hP.view).mono ?_; rintro e w1 ⟨⟨v1, rfl, sa, sc, rfl, hs1⟩, hb1⟩; have hP1 := hP.same hb1)
    | (go_at_call 61; refine (treached_any L Q b cap bm mm T rv W R _ _ hP1 hI.may hI.roots hR).mono ?_; rintro e w2 ⟨⟨ra, rc, rfl, hown2⟩, hb2⟩; have hP2 := hP1.same hb2; have hb02 := hb1.trans (hb2.mono hb1.size))
    | (go_at_call 62; refine (HC.out ra rc _ _ (hown2.alloc _)).mono ?_; rintro e w3 ⟨rfl, hw3⟩; rw [hw3]; clear hw3 w3; have hb3 := Below.refl (w2.alloc (.cells #[.int .i64 (wd W p), .int .i64 (wd W (p + 1)), .int .i64 1, .slice sa (slotsOf W p).length sc] 79)).heap.size (w2.alloc (.cells #[.int .i64 (wd W p), .int .i64 (wd W (p + 1)), .int .i64 1, .slice sa (slotsOf W p).length sc] 79)); obtain ⟨⟨y2, y3⟩, hz3⟩ := thing_box hb3; have hP3 := (hP2.same ((Below.refl w2.heap.size w2).alloc (Nat.le_refl _) (.cells #[.int .i64 (wd W p), .int .i64 (wd W (p + 1)), .int .i64 1, .slice sa (slotsOf W p).length sc] 79))); have u0 := hP3.q0; have u1 := hP3.q1; have hq3 := hP3.lt; have hb23 := below_call hb3; have hb03 := hb02.trans (hb23.mono hb02.size))
    | (go_at_call 64; refine (HPut.out _ hP3.view).mono ?_; rintro e w4 ⟨rfl, hb4⟩))
  go_end0
  exact ⟨rfl, ⟨b, cap, bm, mm, rv, hP3.same hb4⟩, (hb03.trans (hb4.mono hb03.size)).mono ls⟩
set_option maxRecDepth 20000 in
set_option maxHeartbeats 8000000 in
theorem tput_noK {W0 R0 : List Int} (L Q b cap bm mm T : Nat) (rv : Value) (W R C : List Int) (p : Nat) (pos what : Int) (er : Int) (w : World) (hP : Pt w L Q b cap bm mm T rv W R (colF W C)) (hI : TInv W0 R0 ⟨W, R, C⟩) (hR : R.length ≤ 50000) (hn : Reached W R (2 * (p : Int))) (hf1 : formAt W p ≠ 1) (hkn : nowB W R what = true) (hput : ∀ w0, IsView w0 b cap bm W → Calls Try.prog 64 #[viewV b W.length cap bm, .int .i64 (2 * (p : Int)), .int .i64 pos, .int .i64 what] w0 fun e w' => e = .returned (.int .i64 er) ∧ Below w0.heap.size w0 w') (her : er ≠ 0) :
    Calls Try.prog 36 #[.pointer (some ⟨Q, 0, none⟩), .int .i64 (2 * (p : Int)), .int .i64 pos, .int .i64 what] w (OpAns L Q T ⟨W, R, C⟩ w) := by
  have hf := fine_of hI.may
  have hl : W.length ≤ 2000 := hf.few
  have hu : unfit W 2 = none := hf.fit
  have ls := hP.low'
  have ht : thingB W (2 * (p : Int)) = true := hn.thing
  have hmem : p ∈ places W 2 := by have := (thing_at ht).1; rwa [pl2_two] at this
  have hcon : (reachList W R).contains (2 * (p : Int)) = true := reach_contains.2 hn
  have HC : Hid (∀ ra rc B w0, w0.ownsRow B 3 1 (.slice ra (reachList W R).length rc) (reachList W R).length (vals (reachList W R)) → Calls Try.prog 62 #[.slice ra (reachList W R).length rc, .int .i64 (2 * (p : Int))] w0 fun e w' => e = .returned (.bool true) ∧ w' = w0) := fun ra rc B w0 h => by
    have := incontains_any (reachList W R) (2 * (p : Int)) ra rc B w0 h (by have := reach_length W R; omega)
    rw [hcon] at this; exact this
  have HLk : Hid (∀ w0, IsView w0 b cap bm W → Calls Try.prog 44 #[viewV b W.length cap bm, .int .i64 (2 * (p : Int))] w0 fun e w' => (∃ v, e = .returned (thingV (wd W p) (wd W (p + 1)) (formAt W p) v) ∧ SlotsOwn w0.heap.size (slotsOf W p) v w') ∧ Below w0.heap.size w0 w') := fun w0 hv => vlook_any W b cap bm p w0 hv hu hl ht hmem
  have HKn : Hid (∀ ra rc B w0, Pt w0 L Q b cap bm mm T rv W R (colF W C) → w0.ownsRow B 3 1 (.slice ra (reachList W R).length rc) (reachList W R).length (vals (reachList W R)) → Calls Try.prog 63 #[.pointer (some ⟨Q, 0, none⟩), .int .i64 what, .slice ra (reachList W R).length rc] w0 fun e w' => e = .returned (.bool true) ∧ Below w0.heap.size w0 w') := fun ra rc B w0 h h' => by
    have := tknown_any L Q b cap bm mm T rv W R (colF W C) what ra rc B w0 h hl h'
    rw [hkn] at this; exact this
  have q0 := hP.q0
  have q1 := hP.q1
  have hq := hP.lt
  have HPut : Hid (∀ w0, IsView w0 b cap bm W → Calls Try.prog 64 #[viewV b W.length cap bm, .int .i64 (2 * (p : Int)), .int .i64 pos, .int .i64 what] w0 fun e w' => e = .returned (.int .i64 er) ∧ Below w0.heap.size w0 w') := hput
  have hbe : (er == 0) = false := by simpa using her
  clear hput her
  have hb1f : (formAt W p != 1) = true := by simpa using hf1
  clear hcon hn hkn
  clear hf1
  generalize formAt W p = f at *
  go_enter Try.func36, Try.ntmps36
  go_wp2_with (first
    | (go_at_call 44; refine (HLk.out _ hP.view).mono ?_; rintro e w1 ⟨⟨v1, rfl, sa, sc, rfl, hs1⟩, hb1⟩; have hP1 := hP.same hb1)
    | (go_at_call 61; refine (treached_any L Q b cap bm mm T rv W R _ _ hP1 hI.may hI.roots hR).mono ?_; rintro e w2 ⟨⟨ra, rc, rfl, hown2⟩, hb2⟩; have hP2 := hP1.same hb2; have hb02 := hb1.trans (hb2.mono hb1.size))
    | (go_at_call 62; refine (HC.out ra rc _ _ (hown2.alloc _)).mono ?_; rintro e w3 ⟨rfl, hw3⟩; rw [hw3]; clear hw3 w3)
    | (go_at_call 63; refine (HKn.out ra rc _ _ (hP2.same ((Below.refl _ _).alloc (Nat.le_refl _) _)) (hown2.alloc _)).mono ?_; rintro e w3 ⟨rfl, hb3⟩; obtain ⟨⟨y2, y3⟩, hz3⟩ := thing_box hb3; have hP3 := (hP2.same ((Below.refl _ _).alloc (Nat.le_refl _) _)).same hb3; have u0 := hP3.q0; have u1 := hP3.q1; have hq3 := hP3.lt; have hb23 := below_call hb3; have hb03 := hb02.trans (hb23.mono hb02.size))
    | (go_at_call 64; refine (HPut.out _ hP3.view).mono ?_; rintro e w4 ⟨rfl, hb4⟩))
  go_end0
  exact ⟨rfl, ⟨b, cap, bm, mm, rv, hP3.same hb4⟩, (hb03.trans (hb4.mono hb03.size)).mono ls⟩
set_option maxRecDepth 20000 in
set_option maxHeartbeats 8000000 in
theorem tput_goodB {W0 R0 : List Int} (L Q b cap bm mm T : Nat) (rv : Value) (W R C : List Int) (p : Nat) (k : Nat) (what : Int) (w : World) (hP : Pt w L Q b cap bm mm T rv W R (colF W C)) (hI : TInv W0 R0 ⟨W, R, C⟩) (hR : R.length ≤ 50000) (hn : Reached W R (2 * (p : Int))) (hf1 : formAt W p = 1) (hk : k < slotsAt W p) (hst : standB W (formAt W p) what = true) :
    Calls Try.prog 36 #[.pointer (some ⟨Q, 0, none⟩), .int .i64 (2 * (p : Int)), .int .i64 k, .int .i64 what] w (OpAns L Q T ⟨W.set (p + 3 + k) what, R, C⟩ w) := by
  have hf := fine_of hI.may
  have hl : W.length ≤ 2000 := hf.few
  have hu : unfit W 2 = none := hf.fit
  have ls := hP.low'
  have ht : thingB W (2 * (p : Int)) = true := hn.thing
  have hmem : p ∈ places W 2 := by have := (thing_at ht).1; rwa [pl2_two] at this
  have hcon : (reachList W R).contains (2 * (p : Int)) = true := reach_contains.2 hn
  have HC : Hid (∀ ra rc B w0, w0.ownsRow B 3 1 (.slice ra (reachList W R).length rc) (reachList W R).length (vals (reachList W R)) → Calls Try.prog 62 #[.slice ra (reachList W R).length rc, .int .i64 (2 * (p : Int))] w0 fun e w' => e = .returned (.bool true) ∧ w' = w0) := fun ra rc B w0 h => by
    have := incontains_any (reachList W R) (2 * (p : Int)) ra rc B w0 h (by have := reach_length W R; omega)
    rw [hcon] at this; exact this
  have HLk : Hid (∀ w0, IsView w0 b cap bm W → Calls Try.prog 44 #[viewV b W.length cap bm, .int .i64 (2 * (p : Int))] w0 fun e w' => (∃ v, e = .returned (thingV (wd W p) (wd W (p + 1)) (formAt W p) v) ∧ SlotsOwn w0.heap.size (slotsOf W p) v w') ∧ Below w0.heap.size w0 w') := fun w0 hv => vlook_any W b cap bm p w0 hv hu hl ht hmem
  have q0 := hP.q0
  have q1 := hP.q1
  have hq := hP.lt
  have hww := tstand_wf hst
  have HG : Hid (∀ w0, IsView w0 b cap bm W → Calls Try.prog 64 #[viewV b W.length cap bm, .int .i64 (2 * (p : Int)), .int .i64 k, .int .i64 what] w0 (VPutAns W b cap bm p k what w0)) := fun w0 hv => vput_good W b cap bm p k what w0 hv hI.may ht hmem hk hst hww
  have Hcol : Hid (colF (W.set (p + 3 + k) what) C = colF W C) := col_put hI.may hmem hk hst
  have hbl := hP.view.lt
  clear hcon hn
  clear hst
  generalize formAt W p = f at *
  subst hf1
  go_enter Try.func36, Try.ntmps36
  go_wp2_with (first
    | (go_at_call 44; refine (HLk.out _ hP.view).mono ?_; rintro e w1 ⟨⟨v1, rfl, sa, sc, rfl, hs1⟩, hb1⟩; have hP1 := hP.same hb1)
    | (go_at_call 61; refine (treached_any L Q b cap bm mm T rv W R _ _ hP1 hI.may hI.roots hR).mono ?_; rintro e w2 ⟨⟨ra, rc, rfl, hown2⟩, hb2⟩; have hP2 := hP1.same hb2; have hb02 := hb1.trans (hb2.mono hb1.size))
    | (go_at_call 62; refine (HC.out ra rc _ _ (hown2.alloc _)).mono ?_; rintro e w3 ⟨rfl, hw3⟩; rw [hw3]; clear hw3 w3; have hb3 := Below.refl (w2.alloc (.cells #[.int .i64 (wd W p), .int .i64 (wd W (p + 1)), .int .i64 1, .slice sa (slotsOf W p).length sc] 79)).heap.size (w2.alloc (.cells #[.int .i64 (wd W p), .int .i64 (wd W (p + 1)), .int .i64 1, .slice sa (slotsOf W p).length sc] 79)); obtain ⟨⟨y2, y3⟩, hz3⟩ := thing_box hb3; have hP3 := (hP2.same ((Below.refl w2.heap.size w2).alloc (Nat.le_refl _) (.cells #[.int .i64 (wd W p), .int .i64 (wd W (p + 1)), .int .i64 1, .slice sa (slotsOf W p).length sc] 79))); have u0 := hP3.q0; have u1 := hP3.q1; have hq3 := hP3.lt; have hb23 := below_call hb3; have hb03 := hb02.trans (hb23.mono hb02.size))
    | (go_at_call 64; refine (HG.out _ hP3.view).mono ?_; rintro e w4 ⟨rfl, hv4, hk4, h04⟩; obtain ⟨hP4, hB4⟩ := hP3.worded hv4 (by simp) hk4 h04; have hs02 := hb02.size; have hs4 := h04.size; have z2 := (World.cell?_of_block (a := ⟨w2.heap.size, 2, none⟩) (hk4 w2.heap.size (by first | assumption | (simp; done)) (by omega))).trans y2))
  go_end0
  exact ⟨rfl, ⟨b, cap, bm, mm, rv, by show Pt _ _ _ _ _ _ _ _ _ (W.set (p + 3 + k) what) R (colF (W.set (p + 3 + k) what) C); rw [Hcol.out]; exact hP4⟩, (hb03.mono ls).trans hB4⟩
set_option maxRecDepth 20000 in
set_option maxHeartbeats 8000000 in
theorem tput_goodW {W0 R0 : List Int} (L Q b cap bm mm T : Nat) (rv : Value) (W R C : List Int) (p : Nat) (k : Nat) (what : Int) (w : World) (hP : Pt w L Q b cap bm mm T rv W R (colF W C)) (hI : TInv W0 R0 ⟨W, R, C⟩) (hR : R.length ≤ 50000) (hn : Reached W R (2 * (p : Int))) (hf0 : formAt W p ≠ 0) (hf1 : formAt W p ≠ 1) (hkn : nowB W R what = true) (hk : k < slotsAt W p) (hst : standB W (formAt W p) what = true) :
    Calls Try.prog 36 #[.pointer (some ⟨Q, 0, none⟩), .int .i64 (2 * (p : Int)), .int .i64 k, .int .i64 what] w (OpAns L Q T ⟨W.set (p + 3 + k) what, R, C⟩ w) := by
  have hf := fine_of hI.may
  have hl : W.length ≤ 2000 := hf.few
  have hu : unfit W 2 = none := hf.fit
  have ls := hP.low'
  have ht : thingB W (2 * (p : Int)) = true := hn.thing
  have hmem : p ∈ places W 2 := by have := (thing_at ht).1; rwa [pl2_two] at this
  have hcon : (reachList W R).contains (2 * (p : Int)) = true := reach_contains.2 hn
  have HC : Hid (∀ ra rc B w0, w0.ownsRow B 3 1 (.slice ra (reachList W R).length rc) (reachList W R).length (vals (reachList W R)) → Calls Try.prog 62 #[.slice ra (reachList W R).length rc, .int .i64 (2 * (p : Int))] w0 fun e w' => e = .returned (.bool true) ∧ w' = w0) := fun ra rc B w0 h => by
    have := incontains_any (reachList W R) (2 * (p : Int)) ra rc B w0 h (by have := reach_length W R; omega)
    rw [hcon] at this; exact this
  have HLk : Hid (∀ w0, IsView w0 b cap bm W → Calls Try.prog 44 #[viewV b W.length cap bm, .int .i64 (2 * (p : Int))] w0 fun e w' => (∃ v, e = .returned (thingV (wd W p) (wd W (p + 1)) (formAt W p) v) ∧ SlotsOwn w0.heap.size (slotsOf W p) v w') ∧ Below w0.heap.size w0 w') := fun w0 hv => vlook_any W b cap bm p w0 hv hu hl ht hmem
  have HKn : Hid (∀ ra rc B w0, Pt w0 L Q b cap bm mm T rv W R (colF W C) → w0.ownsRow B 3 1 (.slice ra (reachList W R).length rc) (reachList W R).length (vals (reachList W R)) → Calls Try.prog 63 #[.pointer (some ⟨Q, 0, none⟩), .int .i64 what, .slice ra (reachList W R).length rc] w0 fun e w' => e = .returned (.bool true) ∧ Below w0.heap.size w0 w') := fun ra rc B w0 h h' => by
    have := tknown_any L Q b cap bm mm T rv W R (colF W C) what ra rc B w0 h hl h'
    rw [hkn] at this; exact this
  have q0 := hP.q0
  have q1 := hP.q1
  have hq := hP.lt
  have hww := tstand_wf hst
  have HG : Hid (∀ w0, IsView w0 b cap bm W → Calls Try.prog 64 #[viewV b W.length cap bm, .int .i64 (2 * (p : Int)), .int .i64 k, .int .i64 what] w0 (VPutAns W b cap bm p k what w0)) := fun w0 hv => vput_good W b cap bm p k what w0 hv hI.may ht hmem hk hst hww
  have Hcol : Hid (colF (W.set (p + 3 + k) what) C = colF W C) := col_put hI.may hmem hk hst
  have hbl := hP.view.lt
  have hb1f : (formAt W p != 1) = true := by simpa using hf1
  have hb0f : (formAt W p == 0) = false := by simpa using hf0
  clear hcon hn hkn
  clear hst hf1 hf0
  generalize formAt W p = f at *
  go_enter Try.func36, Try.ntmps36
  go_wp2_with (first
    | (go_at_call 44; refine (HLk.out _ hP.view).mono ?_; rintro e w1 ⟨⟨v1, rfl, sa, sc, rfl, hs1⟩, hb1⟩; have hP1 := hP.same hb1)
    | (go_at_call 61; refine (treached_any L Q b cap bm mm T rv W R _ _ hP1 hI.may hI.roots hR).mono ?_; rintro e w2 ⟨⟨ra, rc, rfl, hown2⟩, hb2⟩; have hP2 := hP1.same hb2; have hb02 := hb1.trans (hb2.mono hb1.size))
    | (go_at_call 62; refine (HC.out ra rc _ _ (hown2.alloc _)).mono ?_; rintro e w3 ⟨rfl, hw3⟩; rw [hw3]; clear hw3 w3)
    | (go_at_call 63; refine (HKn.out ra rc _ _ (hP2.same ((Below.refl _ _).alloc (Nat.le_refl _) _)) (hown2.alloc _)).mono ?_; rintro e w3 ⟨rfl, hb3⟩; obtain ⟨⟨y2, y3⟩, hz3⟩ := thing_box hb3; have hP3 := (hP2.same ((Below.refl _ _).alloc (Nat.le_refl _) _)).same hb3; have u0 := hP3.q0; have u1 := hP3.q1; have hq3 := hP3.lt; have hb23 := below_call hb3; have hb03 := hb02.trans (hb23.mono hb02.size))
    | (go_at_call 64; refine (HG.out _ hP3.view).mono ?_; rintro e w4 ⟨rfl, hv4, hk4, h04⟩; obtain ⟨hP4, hB4⟩ := hP3.worded hv4 (by simp) hk4 h04; have hs02 := hb02.size; have hs4 := h04.size; have z2 := (World.cell?_of_block (a := ⟨w2.heap.size, 2, none⟩) (hk4 w2.heap.size (by first | assumption | (simp; done)) (by omega))).trans y2))
  go_end0
  exact ⟨rfl, ⟨b, cap, bm, mm, rv, by show Pt _ _ _ _ _ _ _ _ _ (W.set (p + 3 + k) what) R (colF (W.set (p + 3 + k) what) C); rw [Hcol.out]; exact hP4⟩, (hb03.mono ls).trans hB4⟩
theorem row_new (w : World) (x : Int) (hx : (Lit.int .i64 x).wf = true) : Row (w.alloc (.cells #[.int .i64 x] 3)) w.heap.size 0 [x] :=
  ⟨by simp, fun k hk => by
    have : k = 0 := by simp at hk; omega
    subst this; simp [wd], fun k => by
    cases k with
    | zero => exact hx
    | succ k => have : wd [x] (k + 1) = 0 := rfl
                rw [this]; decide⟩
set_option maxRecDepth 20000 in
set_option maxHeartbeats 8000000 in
theorem tput_goodP {W0 R0 : List Int} (L Q b cap bm mm T : Nat) (rv : Value) (W R C : List Int) (p : Nat) (k : Nat) (what : Int) (w : World) (hP : Pt w L Q b cap bm mm T rv W R (colF W C)) (hI : TInv W0 R0 ⟨W, R, C⟩) (hR : R.length ≤ 50000) (hn : Reached W R (2 * (p : Int))) (hf0 : formAt W p = 0) (hkn : nowB W R what = true) (hT : T + 1 ≤ 1000000000) (hk : k < slotsAt W p) (hst : standB W (formAt W p) what = true) :
    Calls Try.prog 36 #[.pointer (some ⟨Q, 0, none⟩), .int .i64 (2 * (p : Int)), .int .i64 k, .int .i64 what] w (OpAns L Q (T + 1) ⟨W.set (p + 3 + k) what, R, shadeC C (wd W (p + 3 + k))⟩ w) := by
  have hf := fine_of hI.may
  have hl : W.length ≤ 2000 := hf.few
  have hu : unfit W 2 = none := hf.fit
  have ls := hP.low'
  have ht : thingB W (2 * (p : Int)) = true := hn.thing
  have hmem : p ∈ places W 2 := by have := (thing_at ht).1; rwa [pl2_two] at this
  have hcon : (reachList W R).contains (2 * (p : Int)) = true := reach_contains.2 hn
  have HC : Hid (∀ ra rc B w0, w0.ownsRow B 3 1 (.slice ra (reachList W R).length rc) (reachList W R).length (vals (reachList W R)) → Calls Try.prog 62 #[.slice ra (reachList W R).length rc, .int .i64 (2 * (p : Int))] w0 fun e w' => e = .returned (.bool true) ∧ w' = w0) := fun ra rc B w0 h => by
    have := incontains_any (reachList W R) (2 * (p : Int)) ra rc B w0 h (by have := reach_length W R; omega)
    rw [hcon] at this; exact this
  have HLk : Hid (∀ w0, IsView w0 b cap bm W → Calls Try.prog 44 #[viewV b W.length cap bm, .int .i64 (2 * (p : Int))] w0 fun e w' => (∃ v, e = .returned (thingV (wd W p) (wd W (p + 1)) (formAt W p) v) ∧ SlotsOwn w0.heap.size (slotsOf W p) v w') ∧ Below w0.heap.size w0 w') := fun w0 hv => vlook_any W b cap bm p w0 hv hu hl ht hmem
  have HKn : Hid (∀ ra rc B w0, Pt w0 L Q b cap bm mm T rv W R (colF W C) → w0.ownsRow B 3 1 (.slice ra (reachList W R).length rc) (reachList W R).length (vals (reachList W R)) → Calls Try.prog 63 #[.pointer (some ⟨Q, 0, none⟩), .int .i64 what, .slice ra (reachList W R).length rc] w0 fun e w' => e = .returned (.bool true) ∧ Below w0.heap.size w0 w') := fun ra rc B w0 h h' => by
    have := tknown_any L Q b cap bm mm T rv W R (colF W C) what ra rc B w0 h hl h'
    rw [hkn] at this; exact this
  have q0 := hP.q0
  have q1 := hP.q1
  have hq := hP.lt
  have hww := tstand_wf hst
  have HG : Hid (∀ w0, IsView w0 b cap bm W → Calls Try.prog 64 #[viewV b W.length cap bm, .int .i64 (2 * (p : Int)), .int .i64 k, .int .i64 what] w0 (VPutAns W b cap bm p k what w0)) := fun w0 hv => vput_good W b cap bm p k what w0 hv hI.may ht hmem hk hst hww
  have Hcol : Hid (colF (W.set (p + 3 + k) what) C = colF W C) := col_put hI.may hmem hk hst
  have hbl := hP.view.lt
  have hC : C.length = W.length + 1 := hI.len
  have hfit := fits_out (place_fit hu hmem).2.2.1
  have hsl : (slotsOf W p).length = slotsAt W p := slots_length hfit.2.2.2.2
  have hki : (k : Int) < ((slotsOf W p).length : Int) := by rw [hsl]; omega
  have hkn2 : k < (slotsOf W p).length := by rw [hsl]; exact hk
  have hat : wd (slotsOf W p) k = wd W (p + 3 + k) := slots_at hk
  have hxw := hP.view.wf (p + 3 + k)
  clear hcon hn hkn
  clear hst hfit hsl
  generalize formAt W p = f at *
  subst hf0
  go_enter Try.func36, Try.ntmps36
  go_wp2_with (first
    | (go_at_call 44; refine (HLk.out _ hP.view).mono ?_; rintro e w1 ⟨⟨v1, rfl, sa, sc, rfl, hs1⟩, hb1⟩; have hP1 := hP.same hb1)
    | (go_at_call 61; refine (treached_any L Q b cap bm mm T rv W R _ _ hP1 hI.may hI.roots hR).mono ?_; rintro e w2 ⟨⟨ra, rc, rfl, hown2⟩, hb2⟩; have hP2 := hP1.same hb2; have hb02 := hb1.trans (hb2.mono hb1.size))
    | (go_at_call 62; refine (HC.out ra rc _ _ (hown2.alloc _)).mono ?_; rintro e w3 ⟨rfl, hw3⟩; rw [hw3]; clear hw3 w3)
    | (go_at_call 63; refine (HKn.out ra rc _ _ (hP2.same ((Below.refl _ _).alloc (Nat.le_refl _) _)) (hown2.alloc _)).mono ?_; rintro e w3 ⟨rfl, hb3⟩; obtain ⟨⟨y2, y3⟩, hz3⟩ := thing_box hb3; have hP3 := (hP2.same ((Below.refl _ _).alloc (Nat.le_refl _) _)).same hb3; have u0 := hP3.q0; have u1 := hP3.q1; have hq3 := hP3.lt; have hb23 := below_call hb3; have hb03 := hb02.trans (hb23.mono hb02.size))
    | (go_at_call 64; refine (HG.out _ hP3.view).mono ?_; rintro e w4 ⟨rfl, hv4, hk4, h04⟩; obtain ⟨hP4, hB4⟩ := hP3.worded hv4 (by simp) hk4 h04; have hs02 := hb02.size; have hs4 := h04.size; have z2 := (World.cell?_of_block (a := ⟨w2.heap.size, 2, none⟩) (hk4 w2.heap.size (by first | assumption | (simp; done)) (by omega))).trans y2; have z3 := (World.cell?_of_block (a := ⟨w2.heap.size, 3, none⟩) (hk4 w2.heap.size (by first | assumption | (simp; done)) (by omega))).trans y3; obtain ⟨sg, rfl, hsg, hso⟩ := hs1 (by omega); have hsc := own_cell hso hkn2; rw [hat] at hsc; have hsgl := own_lt hso; have hc3 := through (hb2.trans (hb23.mono hb2.size)) hsc hsgl; have z4 := (World.cell?_of_block (a := ⟨sg, k, none⟩) (hk4 sg (by have := hb2.size; have := hb23.size; omega) (by omega))).trans hc3; have hz4 : w2.heap.size < w4.heap.size := (by omega); have hz5 : sg < w4.heap.size := (by have := hb2.size; have := hb23.size; omega); have hmm4 := hP4.map.lt)
    | (go_at_call 34; refine (tshade_some L Q b cap bm mm T rv (W.set (p + 3 + k) what) R C [wd W (p + 3 + k)] w4.heap.size 0 1 _ (by have := hP4.same ((Below.refl _ _).alloc (Nat.le_refl _) (.cells #[.int .i64 (wd W (p + 3 + k))] 3)); rw [← Hcol.out] at this; exact this) (by rw [List.length_set]; exact hC) (row_new _ _ hxw) (by omega) (by simp; omega)).mono ?_; rintro e w6 ⟨rfl, hP6, hB6⟩))
  go_end0
  exact ⟨rfl, ⟨b, cap, bm, mm, rv, hP6⟩, (((hb03.mono ls).trans hB4).alloc (by have := hb03.size; omega) _).trans hB6⟩
end Go.Proofs.Ythdhaokjibfjdaa

/- Package tri: (*painter).add, setRoot. -/
namespace Go.Proofs.Ythdhaokjibfjdaa
open Go.RowKit
open Go.Maps (Keyed keyOf_int_mk)

theorem Pt.inbox {w : World} {L Q b cap bm mm T : Nat} {rv : Value} {W R : List Int} {F : Int → Option Int} (h : Pt w L Q b cap bm mm T rv W R F) : InBox W Q b cap bm w := ⟨h.view, h.q0, h.q1, h.z 0⟩
theorem Pt.under {w w' : World} {L Q b cap bm mm T : Nat} {rv : Value} {W R : List Int} {F : Int → Option Int} (h : Pt w L Q b cap bm mm T rv W R F) (hg : w.grownBy w' rv.ownBlock) :
    w'.cell? ⟨Q, 2, none⟩ = some rv ∧ w'.frozen? ⟨Q, 2, none⟩ = false ∧ Q < w'.heap.size := by
  have e : w'.heap[Q]? = w.heap[Q]? := hg.block Q h.lt (fun e => (h.nr Q e.symm).1 rfl)
  exact ⟨(World.cell?_of_block (a := ⟨Q, 2, none⟩) e).trans h.q2, (World.frozen?_of_block (a := ⟨Q, 2, none⟩) e).trans (h.z 2), Nat.lt_of_lt_of_le h.lt hg.size⟩

set_option maxHeartbeats 4000000 in
theorem tadd_no (L Q b cap bm mm T : Nat) (rv : Value) (W R C : List Int) (fo si er : Int) (w : World) (hP : Pt w L Q b cap bm mm T rv W R (colF W C))
    (hadd : Calls Try.prog 65 #[.pointer (some ⟨Q, 0, none⟩), .int .i64 0, .int .i64 fo, .int .i64 si] w fun e w' => e = addErr er ∧ Below w.heap.size w w') (her : er ≠ 0) :
    Calls Try.prog 37 #[.pointer (some ⟨Q, 0, none⟩), .int .i64 fo, .int .i64 si] w (OpAns L Q T ⟨W, R, C⟩ w) := by
  have hbe : (er != 0) = true := by simpa using her
  have ls := hP.low'
  have hq := hP.lt
  clear her
  go_enter Try.func37, Try.ntmps37
  go_wp2_with (first | (go_at_call 65; refine hadd.mono ?_; rintro e w1 ⟨rfl, hb1⟩))
  go_end0
  exact ⟨rfl, ⟨b, cap, bm, mm, rv, hP.same hb1⟩, hb1.mono ls⟩

set_option maxRecDepth 20000 in
set_option maxHeartbeats 8000000 in
theorem tadd_yes {W0 R0 : List Int} (L Q b cap bm mm T : Nat) (rv : Value) (W R C : List Int) (fo : Int) (m : Nat) (w : World) (hP : Pt w L Q b cap bm mm T rv W R (colF W C)) (hI : TInv W0 R0 ⟨W, R, C⟩) (hR : R.length ≤ 50000) (hT : T + 1 ≤ 1000000000)
    (hfo : 0 ≤ fo ∧ fo ≤ 2) (hm : m ≤ 60) (hfit : W.length + 3 + m ≤ 2000) (hh : wd W 1 ≤ 10000) :
    Calls Try.prog 37 #[.pointer (some ⟨Q, 0, none⟩), .int .i64 fo, .int .i64 m] w (OpAns L Q (T + 1) ⟨newWords W 0 fo m, R ++ [2 * (W.length : Int)], (padC C ((newWords W 0 fo m).length + 1)).set W.length 2⟩ w) := by
  have ls := hP.low'
  have hq := hP.lt
  have hC : C.length = W.length + 1 := hI.len
  have hnl : (newWords W 0 fo m).length = W.length + 3 + m := new_length W 0 fo m
  have hA := vadd_good W Q b cap bm L 0 fo m w hP.inbox hP.low.2.1 hI.may nil_zero (decide_eq_true hfo) (decide_eq_true (by omega)) (by omega) hh
  have Hcol : Hid ((fun k => if k = 2 * (W.length : Int) then some 2 else colF W C k) = colF (newWords W 0 fo m) ((padC C ((newWords W 0 fo m).length + 1)).set W.length 2)) := col_new hI.may hfo hm hfit (by omega) (by omega)
  have h0 : 0 < (newWords W 0 fo m).length := by omega
  have hWl : W.length ≤ 2000 := by omega
  have hw2 : (Lit.int .i64 2).wf = true := by decide
  have hwk : (Lit.int .i64 (2 * (W.length : Int))).wf = true := by go_wf
  clear hnl hfo hh hfit hC hI
  generalize (padC C ((newWords W 0 fo m).length + 1)).set W.length 2 = C' at *
  go_enter Try.func37, Try.ntmps37
  go_wp2_with (first
    | (go_at_call 65; refine hA.mono ?_; rintro e w2 ⟨g, c, rfl, hI2, hg, hK, hcs, hzs, hwh⟩; obtain ⟨hP2, hB2⟩ := hP.added hI2 hg hK hcs hzs hwh h0; clear hI2 hg hK hcs hzs hwh; have x3 := hP2.q3; have hq2 := hP2.lt; obtain ⟨n, D, hD, hDn, hDh, hDa⟩ := hP2.map)
    | (at_mapUpdate; refine wpList_mapUpdate_own _ rfl _ _ _ 44 rfl 3 3 key3 ty59 (plainElem Try.prog 3) mm n D rfl hD (by unfold maxLen; omega) _ _ _ rfl rfl (keyOf_int_mk ty3 hwk) _ [] (plainElem_int ty3 hw2) ?_; intro w3 hm3 hg3; have hput := IntMap.put hD hDn hDh hDa hm3; rw [Hcol.out] at hput; obtain ⟨hP3, hB3⟩ := hP2.mapped hput hg3; have y2 := hP3.q2; have hq3 := hP3.lt; have ls3 := hP3.low')
    | (at_builtin; refine wpList_append_where rfl (.tmp 28) (.tmp 30) rfl L R.length 1 rv (.int .i64 (2 * (W.length : Int))) (vals R) rfl (hP3.roots.alloc _) ⟨w3.heap.size, 0, none⟩ rfl (cell_one_new _ _ _) rfl (by omega) (by simp; omega) ?_; intro v' w4 hown4 hg4 hw4; obtain ⟨g5, c5, hv5⟩ := own_slice hown4; subst hv5; have hPa := hP3.same ((Below.refl w3.heap.size w3).alloc (Nat.le_refl _) (.cells #[.int .i64 (2 * (W.length : Int))] 3)); obtain ⟨x4, z4, hq4⟩ := hPa.under hg4))
  have hown5 : w4.ownsRow L 3 1 (sl g5 (R.length + 1) c5) (R ++ [2 * (W.length : Int)]).length (vals (R ++ [2 * (W.length : Int)])) := by simpa [vals] using hown4
  obtain ⟨hP5, hB5⟩ := hPa.rooted (R' := R ++ [2 * (W.length : Int)]) hown5 hg4 (by
    rcases hw4 with h | h
    · exact Or.inl h
    · exact Or.inr ⟨_, h, Nat.le_refl _⟩)
  go_end0
  exact ⟨rfl, ⟨g, c, bm, mm, _, hP5⟩, ((hB2.trans hB3).alloc ls3 _).trans hB5⟩

set_option maxRecDepth 20000 in
set_option maxHeartbeats 4000000 in
theorem tset_out {W0 R0 : List Int} (L Q b cap bm mm T : Nat) (rv : Value) (W R C : List Int) (pos what : Int) (w : World) (hP : Pt w L Q b cap bm mm T rv W R (colF W C)) (hI : TInv W0 R0 ⟨W, R, C⟩) (hn : pos < 0 ∨ (R.length : Int) ≤ pos) :
    Calls Try.prog 38 #[.pointer (some ⟨Q, 0, none⟩), .int .i64 pos, .int .i64 what] w (OpAns L Q T ⟨W, R, C⟩ w) := by
  have hq := hP.lt
  have q2 := hP.q2
  obtain ⟨ad, c, rfl, _⟩ := roots_own hP.roots hI.roots
  by_cases h0 : pos < 0
  · go_enter Try.func38, Try.ntmps38
    go_wp2_with fail
    go_end0
    exact ⟨rfl, ⟨b, cap, bm, mm, _, hP⟩, Below.refl _ _⟩
  · have h1 : (R.length : Int) ≤ pos := by omega
    go_enter Try.func38, Try.ntmps38
    go_wp2_with fail
    go_end0
    exact ⟨rfl, ⟨b, cap, bm, mm, _, hP⟩, Below.refl _ _⟩

set_option maxRecDepth 20000 in
set_option maxHeartbeats 4000000 in
theorem tset_unknown {W0 R0 : List Int} (L Q b cap bm mm T : Nat) (rv : Value) (W R C : List Int) (k : Nat) (what : Int) (w : World) (hP : Pt w L Q b cap bm mm T rv W R (colF W C)) (hI : TInv W0 R0 ⟨W, R, C⟩) (hR : R.length ≤ 50000) (hk : k < R.length) (hkn : nowB W R what = false) :
    Calls Try.prog 38 #[.pointer (some ⟨Q, 0, none⟩), .int .i64 k, .int .i64 what] w (OpAns L Q T ⟨W, R, C⟩ w) := by
  have hq := hP.lt
  have q2 := hP.q2
  have ls := hP.low'
  have hl : W.length ≤ 2000 := (fine_of hI.may).few
  obtain ⟨ad, c, rfl, _⟩ := roots_own hP.roots hI.roots
  have h0 : ¬ (k : Int) < 0 := by omega
  have h1 : ¬ (R.length : Int) ≤ (k : Int) := by omega
  go_enter Try.func38, Try.ntmps38
  go_wp2_with (first
    | (go_at_call 61; refine (treached_any L Q b cap bm mm T _ W R _ _ hP hI.may hI.roots hR).mono ?_; rintro e w2 ⟨⟨ra, rc, rfl, hown2⟩, hb2⟩; have hP2 := hP.same hb2)
    | (go_at_call 63; refine (tknown_any L Q b cap bm mm T _ W R _ what ra rc _ _ hP2 hl hown2).mono ?_; rw [hkn]; rintro e w3 ⟨rfl, hb3⟩; have hP3 := hP2.same hb3))
  go_end0
  exact ⟨rfl, ⟨b, cap, bm, mm, _, hP3⟩, (hb2.trans (hb3.mono hb2.size)).mono ls⟩

set_option maxRecDepth 20000 in
set_option maxHeartbeats 4000000 in
theorem tset_good {W0 R0 : List Int} (L Q b cap bm mm T : Nat) (rv : Value) (W R C : List Int) (k : Nat) (what : Int) (w : World) (hP : Pt w L Q b cap bm mm T rv W R (colF W C)) (hI : TInv W0 R0 ⟨W, R, C⟩) (hR : R.length ≤ 50000) (hT : T + 1 ≤ 1000000000) (hk : k < R.length) (hkn : nowB W R what = true) :
    Calls Try.prog 38 #[.pointer (some ⟨Q, 0, none⟩), .int .i64 k, .int .i64 what] w (OpAns L Q (T + 1) ⟨W, R.set k what, shadeC C (wd R k)⟩ w) := by
  have hq := hP.lt
  have q2 := hP.q2
  have ls := hP.low'
  have hC : C.length = W.length + 1 := hI.len
  have hl : W.length ≤ 2000 := (fine_of hI.may).few
  obtain ⟨g, c, rfl, _, _⟩ := own_shape hP.roots (fun e => by
    obtain ⟨ad, c, e', _⟩ := roots_own hP.roots hI.roots
    rw [e'] at e; injection e with _ h1 _; omega)
  have h0 : ¬ (k : Int) < 0 := by omega
  have h1 : ¬ (R.length : Int) ≤ (k : Int) := by omega
  have h2 : (k : Int) < (R.length : Int) := by omega
  have hxw : (Lit.int .i64 (wd R k)).wf = true := ok_wf (hI.roots _ (wd_mem hk))
  have hI' := hI.roots
  have hmay := hI.may
  clear hI
  go_enter Try.func38, Try.ntmps38
  go_wp2_with (first
    | (go_at_call 61; refine (treached_any L Q b cap bm mm T _ W R _ _ hP hmay hI' hR).mono ?_; rintro e w2 ⟨⟨ra, rc, rfl, hown2⟩, hb2⟩; have hP2 := hP.same hb2)
    | (go_at_call 63; refine (tknown_any L Q b cap bm mm T _ W R _ what ra rc _ _ hP2 hl hown2).mono ?_; rw [hkn]; rintro e w3 ⟨rfl, hb3⟩; have hP3 := hP2.same hb3; have u2 := hP3.q2; have hq3 := hP3.lt; have hc3 := own_cell (own_mono (Nat.zero_le _) hP3.roots) hk; have hg3 := (hP3.roots.lt g rfl).2; have hm3 := hP3.map.lt; have ls3 := hP3.low')
    | (go_at_call 34; refine (tshade_some L Q b cap bm mm T _ W R C [wd R k] w3.heap.size 0 1 _ (hP3.same ((Below.refl _ _).alloc (Nat.le_refl _) _)) hC (row_new _ _ hxw) (by omega) (by simp; omega)).mono ?_; rintro e w6 ⟨rfl, hP6, hB6⟩; have x2 := hP6.q2; have hq6 := hP6.lt; have hc6 := own_cell (own_mono (Nat.zero_le _) hP6.roots) hk; have hf6 := hP6.roots.frozenAt k; have hg6 := (hP6.roots.lt g rfl).2))
  obtain ⟨hP7, hB7⟩ := hP6.rootset (i := k) (x := what)
  go_end0
  have hb03 := (hb2.trans (hb3.mono hb2.size)).mono ls
  exact ⟨rfl, ⟨b, cap, bm, mm, _, hP7⟩, ((hb03.alloc ls3 _).trans hB6).trans hB7⟩
end Go.Proofs.Ythdhaokjibfjdaa

/- Package tri: (*painter).do. -/
namespace Go.Proofs.Ythdhaokjibfjdaa
open Go.RowKit

theorem OpAns.up {L Q T T' : Nat} {s : Tri} {w w' : World} {e : Ending} (h : OpAns L Q T s w e w') (ht : T ≤ T') : OpAns L Q T' s w e w' := by
  obtain ⟨h1, ⟨b, cap, bm, mm, rv, hP⟩, h2⟩ := h
  exact ⟨h1, ⟨b, cap, bm, mm, rv, hP.up ht⟩, h2⟩
theorem do_scan {s : Tri} {p : OpT} (h : p.kind = 1) : doT s p = ⟨s.W, s.R, scanC s.W s.C⟩ := by unfold doT; rw [if_pos h]
theorem do_put_yes {s : Tri} {p : OpT} (h : p.kind = 2) (ho : PutOk s p) : doT s p = putT s p := by unfold doT; rw [if_neg (by omega), if_pos h, if_pos ho]
theorem do_put_no {s : Tri} {p : OpT} (h : p.kind = 2) (ho : ¬ PutOk s p) : doT s p = s := by unfold doT; rw [if_neg (by omega), if_pos h, if_neg ho]
theorem do_new_yes {s : Tri} {p : OpT} (h : p.kind = 3) (ho : NewOk s p) : doT s p = newT s p := by unfold doT; rw [if_neg (by omega), if_neg (by omega), if_pos h, if_pos ho]
theorem do_new_no {s : Tri} {p : OpT} (h : p.kind = 3) (ho : ¬ NewOk s p) : doT s p = s := by unfold doT; rw [if_neg (by omega), if_neg (by omega), if_pos h, if_neg ho]
theorem do_root_yes {s : Tri} {p : OpT} (h : p.kind = 4) (ho : RootOk s p) : doT s p = rootT s p := by unfold doT; rw [if_neg (by omega), if_neg (by omega), if_neg (by omega), if_pos h, if_pos ho]
theorem do_root_no {s : Tri} {p : OpT} (h : p.kind = 4) (ho : ¬ RootOk s p) : doT s p = s := by unfold doT; rw [if_neg (by omega), if_neg (by omega), if_neg (by omega), if_pos h, if_neg ho]
theorem do_else {s : Tri} {p : OpT} (h1 : p.kind ≠ 1) (h2 : p.kind ≠ 2) (h3 : p.kind ≠ 3) (h4 : p.kind ≠ 4) : doT s p = s := by unfold doT; rw [if_neg h1, if_neg h2, if_neg h3, if_neg h4]

theorem tpput_any {W0 R0 : List Int} (L Q b cap bm mm T : Nat) (rv : Value) (W R C : List Int) (op : OpT) (w : World) (hP : Pt w L Q b cap bm mm T rv W R (colF W C)) (hI : TInv W0 R0 ⟨W, R, C⟩) (hR : R.length ≤ 50000) (hT : T + 1 ≤ 1000000000) (hk : op.kind = 2) :
    Calls Try.prog 36 #[.pointer (some ⟨Q, 0, none⟩), .int .i64 op.o, .int .i64 op.pos, .int .i64 op.what] w (OpAns L Q (T + 1) (doT ⟨W, R, C⟩ op) w) := by
  obtain ⟨kind, o, pos, what, form, size⟩ := op
  have hk' : kind = 2 := hk
  have hf := fine_of hI.may
  have hl : W.length ≤ 2000 := hf.few
  have hu : unfit W 2 = none := hf.fit
  by_cases hn : Reached W R o
  · have ht := hn.thing
    obtain ⟨hmem, he⟩ := thing_at ht
    have hko := thing_kind ht
    have hok : nowT W R o := ⟨by unfold okRef nilB; rw [ht]; simp, fun _ => hn⟩
    generalize hp : pl2 o = p at *
    subst he
    show Calls Try.prog 36 #[.pointer (some ⟨Q, 0, none⟩), .int .i64 (2 * (p : Int)), .int .i64 pos, .int .i64 what] w _
    have hno : ¬ PutOk ⟨W, R, C⟩ ⟨kind, 2 * (p : Int), pos, what, form, size⟩ → doT ⟨W, R, C⟩ ⟨kind, 2 * (p : Int), pos, what, form, size⟩ = ⟨W, R, C⟩ := fun h => do_put_no hk h
    have hyes : PutOk ⟨W, R, C⟩ ⟨kind, 2 * (p : Int), pos, what, form, size⟩ → doT ⟨W, R, C⟩ ⟨kind, 2 * (p : Int), pos, what, form, size⟩ = putT ⟨W, R, C⟩ ⟨kind, 2 * (p : Int), pos, what, form, size⟩ := fun h => do_put_yes hk h
    have hiff : PutOk ⟨W, R, C⟩ ⟨kind, 2 * (p : Int), pos, what, form, size⟩ ↔ (0 ≤ pos ∧ pos < (slotsAt W p : Int) ∧ standB W (formAt W p) what = true ∧ (formAt W p ≠ 1 → nowT W R what)) := by
      show (thingB W (2 * (p : Int)) = true ∧ 0 ≤ pos ∧ pos < (slotsAt W (pl2 (2 * (p : Int))) : Int) ∧ standB W (formAt W (pl2 (2 * (p : Int)))) what = true ∧ nowT W R (2 * (p : Int)) ∧ (formAt W (pl2 (2 * (p : Int))) ≠ 1 → nowT W R what)) ↔ _
      rw [pl2_two]
      exact ⟨fun h => ⟨h.2.1, h.2.2.1, h.2.2.2.1, h.2.2.2.2.2⟩, fun h => ⟨ht, h.1, h.2.1, h.2.2.1, hok, h.2.2.2⟩⟩
    by_cases hunk : formAt W p ≠ 1 ∧ nowB W R what = false
    · rw [hno (fun h => by have := nowB_iff.2 ((hiff.1 h).2.2.2 hunk.1); rw [hunk.2] at this; cases this)]
      exact (tput_unknown L Q b cap bm mm T rv W R C p pos what w hP hI hR hn hunk.1 hunk.2).mono fun _ _ h => h.up (by omega)
    · have hkn : formAt W p ≠ 1 → nowB W R what = true := fun h => by
        cases e : nowB W R what with
        | true => rfl
        | false => exact absurd ⟨h, e⟩ hunk
      have refused : ∀ er : Int, er ≠ 0 → (∀ w0, IsView w0 b cap bm W → Calls Try.prog 64 #[viewV b W.length cap bm, .int .i64 (2 * (p : Int)), .int .i64 pos, .int .i64 what] w0 fun e w' => e = .returned (.int .i64 er) ∧ Below w0.heap.size w0 w') →
          Calls Try.prog 36 #[.pointer (some ⟨Q, 0, none⟩), .int .i64 (2 * (p : Int)), .int .i64 pos, .int .i64 what] w (OpAns L Q (T + 1) ⟨W, R, C⟩ w) := fun er her hput => by
        by_cases hf1 : formAt W p = 1
        · exact (tput_noB L Q b cap bm mm T rv W R C p pos what er w hP hI hR hn hf1 hput her).mono fun _ _ h => h.up (by omega)
        · exact (tput_noK L Q b cap bm mm T rv W R C p pos what er w hP hI hR hn hf1 (hkn hf1) hput her).mono fun _ _ h => h.up (by omega)
      by_cases hr : 0 ≤ pos ∧ pos < (slotsAt W p : Int)
      · obtain ⟨k, rfl⟩ := Int.eq_ofNat_of_zero_le hr.1
        have hks : k < slotsAt W p := by omega
        cases hst : standB W (formAt W p) what with
        | false =>
          rw [hno (fun h => by have := (hiff.1 h).2.2.1; rw [hst] at this; cases this)]
          exact refused 2 (by decide) fun w0 hv => vput_form W b cap bm p k what w0 hv hu hl ht hmem hks hst
        | true =>
          rw [hyes (hiff.2 ⟨hr.1, hr.2, hst, fun h => nowB_iff.1 (hkn h)⟩)]
          have hpt : ∀ C', C' = (if formAt W p = 0 then shadeC C (wd W (p + 3 + k)) else C) → putT ⟨W, R, C⟩ ⟨kind, 2 * (p : Int), (k : Int), what, form, size⟩ = ⟨W.set (p + 3 + k) what, R, C'⟩ := fun C' hC' => by
            rw [hC']
            show (⟨W.set (pl2 (2 * (p : Int)) + 3 + (k : Int).toNat) what, R, if formAt W (pl2 (2 * (p : Int))) = 0 then shadeC C (wd W (pl2 (2 * (p : Int)) + 3 + (k : Int).toNat)) else C⟩ : Tri) = _
            rw [pl2_two, Int.toNat_natCast]
          by_cases hf0 : formAt W p = 0
          · rw [hpt _ (if_pos hf0).symm]
            exact tput_goodP L Q b cap bm mm T rv W R C p k what w hP hI hR hn hf0 (hkn (by omega)) hT hks hst
          · rw [hpt _ (if_neg hf0).symm]
            by_cases hf1 : formAt W p = 1
            · exact (tput_goodB L Q b cap bm mm T rv W R C p k what w hP hI hR hn hf1 hks hst).mono fun _ _ h => h.up (by omega)
            · exact (tput_goodW L Q b cap bm mm T rv W R C p k what w hP hI hR hn hf0 hf1 (hkn hf1) hks hst).mono fun _ _ h => h.up (by omega)
      · rw [hno (fun h => hr ⟨(hiff.1 h).1, (hiff.1 h).2.1⟩)]
        exact refused 4 (by decide) fun w0 hv => vput_range W b cap bm p pos what w0 hv hu hl ht hmem (by omega)
  · rw [do_put_no hk (fun h => hn (h.2.2.2.2.1.2 (thing_kind h.1)))]
    exact (tput_far L Q b cap bm mm T rv W R C o pos what w hP hI hR hn).mono fun _ _ h => h.up (by omega)

theorem tadd_any {W0 R0 : List Int} (L Q b cap bm mm T : Nat) (rv : Value) (W R C : List Int) (op : OpT) (w : World) (hP : Pt w L Q b cap bm mm T rv W R (colF W C)) (hI : TInv W0 R0 ⟨W, R, C⟩) (hR : R.length ≤ 50000) (hT : T + 1 ≤ 1000000000) (hk : op.kind = 3) :
    Calls Try.prog 37 #[.pointer (some ⟨Q, 0, none⟩), .int .i64 op.form, .int .i64 op.size] w (OpAns L Q (T + 1) (doT ⟨W, R, C⟩ op) w) := by
  obtain ⟨kind, o, pos, what, form, size⟩ := op
  obtain ⟨hl2, hl, _⟩ := front_out (check_fine hI.may).1
  have hno : ∀ er, er ≠ 0 → ¬ NewOk ⟨W, R, C⟩ ⟨kind, o, pos, what, form, size⟩ → Calls Try.prog 65 #[.pointer (some ⟨Q, 0, none⟩), .int .i64 0, .int .i64 form, .int .i64 size] w (fun e w' => e = addErr er ∧ Below w.heap.size w w') →
      Calls Try.prog 37 #[.pointer (some ⟨Q, 0, none⟩), .int .i64 form, .int .i64 size] w (OpAns L Q (T + 1) (doT ⟨W, R, C⟩ ⟨kind, o, pos, what, form, size⟩) w) := fun er her hn hadd => by
    rw [do_new_no hk hn]
    exact (tadd_no L Q b cap bm mm T rv W R C form size er w hP hadd her).mono fun _ _ h => h.up (by omega)
  show Calls Try.prog 37 #[.pointer (some ⟨Q, 0, none⟩), .int .i64 form, .int .i64 size] w _
  by_cases hfs : (formB form && sizeB size) = true
  · rw [Bool.and_eq_true] at hfs
    have h1 : 0 ≤ form ∧ form ≤ 2 := by have := hfs.1; unfold formB at this; exact of_decide_eq_true this
    have h2 : 0 ≤ size ∧ size ≤ 60 := by have := hfs.2; unfold sizeB at this; exact of_decide_eq_true this
    by_cases hfull : 2000 < (W.length : Int) + 3 + size ∨ 10000 < wd W 1
    · refine hno 6 (by decide) (fun h => ?_) (vadd_full W Q b cap bm 0 form size w hP.inbox hl2 hl nil_zero hfs.1 hfs.2 hfull)
      have h5 : (W.length : Int) + 3 + size ≤ 2000 := h.2.2.2.2.1
      have h6 : wd W 1 ≤ 10000 := h.2.2.2.2.2
      omega
    · obtain ⟨m, rfl⟩ := Int.eq_ofNat_of_zero_le h2.1
      rw [do_new_yes hk (⟨h1.1, h1.2, h2.1, h2.2, by show (W.length : Int) + 3 + m ≤ 2000; omega, by show wd W 1 ≤ 10000; omega⟩ : NewOk ⟨W, R, C⟩ ⟨kind, o, pos, what, form, (m : Int)⟩)]
      exact tadd_yes L Q b cap bm mm T rv W R C form m w hP hI hR hT h1 (by omega) (by omega) (by omega)
  · refine hno 4 (by decide) (fun h => hfs ?_) (vadd_range W Q b cap bm 0 form size w hP.inbox hl2 nil_zero (Bool.eq_false_iff.2 hfs))
    rw [Bool.and_eq_true]
    exact ⟨decide_eq_true ⟨h.1, h.2.1⟩, decide_eq_true ⟨h.2.2.1, h.2.2.2.1⟩⟩

theorem tset_any {W0 R0 : List Int} (L Q b cap bm mm T : Nat) (rv : Value) (W R C : List Int) (op : OpT) (w : World) (hP : Pt w L Q b cap bm mm T rv W R (colF W C)) (hI : TInv W0 R0 ⟨W, R, C⟩) (hR : R.length ≤ 50000) (hT : T + 1 ≤ 1000000000) (hk : op.kind = 4) :
    Calls Try.prog 38 #[.pointer (some ⟨Q, 0, none⟩), .int .i64 op.pos, .int .i64 op.what] w (OpAns L Q (T + 1) (doT ⟨W, R, C⟩ op) w) := by
  obtain ⟨kind, o, pos, what, form, size⟩ := op
  show Calls Try.prog 38 #[.pointer (some ⟨Q, 0, none⟩), .int .i64 pos, .int .i64 what] w _
  by_cases hr : 0 ≤ pos ∧ pos < (R.length : Int)
  · obtain ⟨k, rfl⟩ := Int.eq_ofNat_of_zero_le hr.1
    cases hkn : nowB W R what with
    | true =>
      rw [do_root_yes hk (⟨nowB_iff.1 hkn, hr.1, hr.2⟩ : RootOk ⟨W, R, C⟩ ⟨kind, o, (k : Int), what, form, size⟩)]
      exact tset_good L Q b cap bm mm T rv W R C k what w hP hI hR hT (by omega) hkn
    | false =>
      rw [do_root_no hk (fun h => by have := nowB_iff.2 (show nowT W R what from h.1); rw [hkn] at this; cases this)]
      exact (tset_unknown L Q b cap bm mm T rv W R C k what w hP hI hR (by omega) hkn).mono fun _ _ h => h.up (by omega)
  · rw [do_root_no hk (fun h => hr ⟨h.2.1, h.2.2⟩)]
    exact (tset_out L Q b cap bm mm T rv W R C pos what w hP hI (by omega)).mono fun _ _ h => h.up (by omega)

set_option maxRecDepth 20000 in
set_option maxHeartbeats 4000000 in
theorem tdo_any {W0 R0 : List Int} (L Q T : Nat) (s : Tri) (op : OpT) (w : World) (hN : Pn w L Q T s) (hI : TInv W0 R0 s) (hR : s.R.length ≤ 50000) (hT : T + 3000 ≤ 1000000000) :
    Calls Try.prog 18 #[.pointer (some ⟨Q, 0, none⟩), opV op] w (OpAns L Q (T + 3000) (doT s op) w) := by
  obtain ⟨b, cap, bm, mm, rv, hP⟩ := hN
  obtain ⟨W, R, C⟩ := s
  have ls := hP.low'
  have hPa : Hid (∀ o : Obj, Pt (w.alloc o) L Q b cap bm mm T rv W R (colF W C)) := fun o => hP.same ((Below.refl _ _).alloc (Nat.le_refl _) _)
  by_cases h1 : op.kind = 1
  · have hd := do_scan (s := ⟨W, R, C⟩) h1
    rw [hd]; clear hd
    have HS : Hid (∀ w0, Pt w0 L Q b cap bm mm T rv W R (colF W C) → Calls Try.prog 35 #[.pointer (some ⟨Q, 0, none⟩)] w0 (OpAns L Q (T + 3000) ⟨W, R, scanC W C⟩ w0)) := fun w0 h => tscan_any L Q b cap bm mm T rv W R C w0 h hI hT
    clear hP hI
    go_enter Try.func18, Try.ntmps18
    go_wp2_with (first | (go_at_call 35; refine (HS.out _ (hPa.out _)).mono ?_; rintro e w1 ⟨rfl, hN1, hB1⟩))
    go_end0
    exact ⟨rfl, hN1, ((Below.refl L w).alloc ls _).trans hB1⟩
  · by_cases h2 : op.kind = 2
    · have HS : Hid (∀ w0, Pt w0 L Q b cap bm mm T rv W R (colF W C) → Calls Try.prog 36 #[.pointer (some ⟨Q, 0, none⟩), .int .i64 op.o, .int .i64 op.pos, .int .i64 op.what] w0 (OpAns L Q (T + 3000) (doT ⟨W, R, C⟩ op) w0)) := fun w0 h => (tpput_any L Q b cap bm mm T rv W R C op w0 h hI hR (by omega) h2).mono fun _ _ h => h.up (by omega)
      clear hP hI h1
      generalize doT ⟨W, R, C⟩ op = s' at *
      go_enter Try.func18, Try.ntmps18
      go_wp2_with (first | (go_at_call 36; refine (HS.out _ (hPa.out _)).mono ?_; rintro e w1 ⟨rfl, hN1, hB1⟩))
      go_end0
      exact ⟨rfl, hN1, ((Below.refl L w).alloc ls _).trans hB1⟩
    · by_cases h3 : op.kind = 3
      · have HS : Hid (∀ w0, Pt w0 L Q b cap bm mm T rv W R (colF W C) → Calls Try.prog 37 #[.pointer (some ⟨Q, 0, none⟩), .int .i64 op.form, .int .i64 op.size] w0 (OpAns L Q (T + 3000) (doT ⟨W, R, C⟩ op) w0)) := fun w0 h => (tadd_any L Q b cap bm mm T rv W R C op w0 h hI hR (by omega) h3).mono fun _ _ h => h.up (by omega)
        clear hP hI h1 h2
        generalize doT ⟨W, R, C⟩ op = s' at *
        go_enter Try.func18, Try.ntmps18
        go_wp2_with (first | (go_at_call 37; refine (HS.out _ (hPa.out _)).mono ?_; rintro e w1 ⟨rfl, hN1, hB1⟩))
        go_end0
        exact ⟨rfl, hN1, ((Below.refl L w).alloc ls _).trans hB1⟩
      · by_cases h4 : op.kind = 4
        · have HS : Hid (∀ w0, Pt w0 L Q b cap bm mm T rv W R (colF W C) → Calls Try.prog 38 #[.pointer (some ⟨Q, 0, none⟩), .int .i64 op.pos, .int .i64 op.what] w0 (OpAns L Q (T + 3000) (doT ⟨W, R, C⟩ op) w0)) := fun w0 h => (tset_any L Q b cap bm mm T rv W R C op w0 h hI hR (by omega) h4).mono fun _ _ h => h.up (by omega)
          clear hP hI h1 h2 h3
          generalize doT ⟨W, R, C⟩ op = s' at *
          go_enter Try.func18, Try.ntmps18
          go_wp2_with (first | (go_at_call 38; refine (HS.out _ (hPa.out _)).mono ?_; rintro e w1 ⟨rfl, hN1, hB1⟩))
          go_end0
          exact ⟨rfl, hN1, ((Below.refl L w).alloc ls _).trans hB1⟩
        · rw [do_else h1 h2 h3 h4]
          have e1 : (op.kind == 1) = false := by simpa using h1
          have e2 : (op.kind == 2) = false := by simpa using h2
          have e3 : (op.kind == 3) = false := by simpa using h3
          have e4 : (op.kind == 4) = false := by simpa using h4
          clear hP hI h1 h2 h3 h4
          go_enter Try.func18, Try.ntmps18
          go_wp2_with fail
          go_end0
          exact ⟨rfl, ⟨b, cap, bm, mm, rv, (hPa.out _).up (by omega)⟩, (Below.refl L w).alloc ls _⟩
end Go.Proofs.Ythdhaokjibfjdaa
