/- gessoref2.New, and heaps held against each other. -/
import Derived.Test.YtmgmbgacdjebgaaNew
namespace Go.Proofs.Ytmgmbgacdjebgaa
open Go.RowKit

/-- gessolaw.heaps. -/
theorem heaps_any (xs ys : List Int) (v v' : Value) (w : World) (hx : Reads w v xs) (hy : Reads w v' ys) (hm : xs.length ≤ 1000000) :
    Calls Try.prog 11 #[.agg #[v], .agg #[v']] w fun e w' => e = .returned (.bool (xs == ys)) ∧ Below w.heap.size w w' := by
  have hb : Below w.heap.size w ((w.alloc (.cells #[v] 24)).alloc (.cells #[v'] 24)) := ((Below.refl _ _).alloc (Nat.le_refl _) _).alloc (by simp) _
  have hx1 := hx.below hb
  have hy1 := hy.below hb
  go_enter Try.func11, Try.ntmps11
  go_wp2_with (go_at_call 26; refine (ints_any xs ys _ _ _ hx1 hy1 hm).mono ?_; rintro e w1 ⟨rfl, m, rfl⟩)
  go_ret
  exact ⟨rfl, below_drewN hb m⟩

theorem nil_ways {W : List Int} {cl : Int} : (nilB W cl = true → (cl != 0) = false ∨ ((cl != 0) = true ∧ thingB W cl = true)) ∧ (nilB W cl = false → (cl != 0) = true ∧ thingB W cl = false) := by
  constructor
  · intro h
    by_cases hz : cl = 0
    · exact Or.inl (by simp [hz])
    · exact Or.inr ⟨by simpa using hz, by rw [← nil_else hz]; exact h⟩
  · intro h
    have hz : cl ≠ 0 := fun e => by rw [e] at h; cases h
    exact ⟨by simpa using hz, by rw [← nil_else hz]; exact h⟩

set_option maxHeartbeats 1000000 in
theorem rnew_kind (W : List Int) (b off cap : Nat) (cl fo si : Int) (w : World) (hr : Row w b off W) (hu : unfit W 2 = none) (hl : W.length ≤ 2000) (hc : nilB W cl = false) :
    Calls Try.prog 10 #[heapV (some ⟨b, off, none⟩) W.length cap, .int .i64 cl, .int .i64 fo, .int .i64 si] w fun e w' => e = newErr 3 ∧ Below w.heap.size w w' := by
  obtain ⟨hz, ht⟩ := nil_ways.2 hc
  have hr2 : Row ((w.alloc (.cells #[.slice (some ⟨b, off, none⟩) W.length cap] 24)).alloc (.cells #[.slice none 0 0] 24)) b off W := (hr.alloc _).alloc _
  clear hc
  go_enter Try.func10, Try.ntmps10
  go_wp2_with (go_at_call 24; refine (rthing_any W b off cap _ _ hr2 hu hl).mono ?_; rintro e w1 ⟨rfl, rfl⟩)
  refine bodyPost_ret (v := .tuple #[.agg #[.slice none 0 0], .int .i64 0, .int .i64 3]) (by simp [results, Try.results10, go_sem]) rfl ⟨rfl, ?_⟩
  repeat (first | refine Below.setCell ?_ (by dsimp only; omega) _ | exact ((Below.refl _ _).alloc (Nat.le_refl _) _).alloc (by simp) _)

set_option maxHeartbeats 2000000 in
theorem rnew_range (W : List Int) (b off cap : Nat) (cl fo si : Int) (w : World) (hr : Row w b off W) (hu : unfit W 2 = none) (hl : W.length ≤ 2000) (hc : nilB W cl = true) (hfs : (formB fo && sizeB si) = false) :
    Calls Try.prog 10 #[heapV (some ⟨b, off, none⟩) W.length cap, .int .i64 cl, .int .i64 fo, .int .i64 si] w fun e w' => e = newErr 4 ∧ Below w.heap.size w w' := by
  have hr2 : Row ((w.alloc (.cells #[.slice (some ⟨b, off, none⟩) W.length cap] 24)).alloc (.cells #[.slice none 0 0] 24)) b off W := (hr.alloc _).alloc _
  have hw : fo < 0 ∨ (0 ≤ fo ∧ 2 < fo) ∨ (0 ≤ fo ∧ fo ≤ 2 ∧ si < 0) ∨ (0 ≤ fo ∧ fo ≤ 2 ∧ 0 ≤ si ∧ 60 < si) := by
    unfold formB sizeB at hfs
    simp only [Bool.and_eq_false_iff, decide_eq_false_iff_not] at hfs
    omega
  clear hfs
  rcases nil_ways.1 hc with hz | ⟨hz, ht⟩
  all_goals
    clear hc
    rcases hw with hw | hw | hw | hw
    all_goals
      go_enter Try.func10, Try.ntmps10
      go_wp2_with (go_at_call 24; refine (rthing_any W b off cap _ _ hr2 hu hl).mono ?_; rintro e w1 ⟨rfl, rfl⟩)
      refine bodyPost_ret (v := .tuple #[.agg #[.slice none 0 0], .int .i64 0, .int .i64 4]) (by simp [results, Try.results10, go_sem]) rfl ⟨rfl, ?_⟩
      repeat (first | refine Below.setCell ?_ (by dsimp only; omega) _ | exact ((Below.refl _ _).alloc (Nat.le_refl _) _).alloc (by simp) _)

set_option maxHeartbeats 2000000 in
theorem rnew_full (W : List Int) (b off cap : Nat) (cl fo si : Int) (w : World) (hr : Row w b off W) (hu : unfit W 2 = none) (hl2 : 2 ≤ W.length) (hl : W.length ≤ 2000) (hh : wd W 1 ≤ 10001) (hc : nilB W cl = true) (h1 : formB fo = true) (h2 : sizeB si = true) (hfull : 2000 < (W.length : Int) + 3 + si ∨ 10000 < wd W 1) :
    Calls Try.prog 10 #[heapV (some ⟨b, off, none⟩) W.length cap, .int .i64 cl, .int .i64 fo, .int .i64 si] w fun e w' => e = newErr 6 ∧ Below w.heap.size w w' := by
  have hr2 : Row ((w.alloc (.cells #[.slice (some ⟨b, off, none⟩) W.length cap] 24)).alloc (.cells #[.slice none 0 0] 24)) b off W := (hr.alloc _).alloc _
  have hc1 := hr.cell 1 (by omega)
  have hblt := hr.lt
  have hsi : 0 ≤ si ∧ si ≤ 60 := by unfold sizeB at h2; exact of_decide_eq_true h2
  have hfo : 0 ≤ fo ∧ fo ≤ 2 := by unfold formB at h1; exact of_decide_eq_true h1
  have hw : 2000 < (W.length : Int) + 3 + si ∨ ((W.length : Int) + 3 + si ≤ 2000 ∧ (wd W 1 == 10001) = true) := by
    by_cases hx : 2000 < (W.length : Int) + 3 + si
    · exact Or.inl hx
    · exact Or.inr ⟨by omega, by simp; omega⟩
  clear hfull h1 h2
  rcases nil_ways.1 hc with hz | ⟨hz, ht⟩
  all_goals
    clear hc
    rcases hw with hw | hw
    all_goals
      go_enter Try.func10, Try.ntmps10
      go_wp2_with (go_at_call 24; refine (rthing_any W b off cap _ _ hr2 hu hl).mono ?_; rintro e w1 ⟨rfl, rfl⟩)
      refine bodyPost_ret (v := .tuple #[.agg #[.slice none 0 0], .int .i64 0, .int .i64 6]) (by simp [results, Try.results10, go_sem]) rfl ⟨rfl, ?_⟩
      repeat (first | refine Below.setCell ?_ (by dsimp only; omega) _ | exact ((Below.refl _ _).alloc (Nat.le_refl _) _).alloc (by simp) _)

end Go.Proofs.Ytmgmbgacdjebgaa
