/- What each call of the document's answer to chapter 2 (package gessoref2) does that only reads: one contract a function. -/
import Derived.Test.YthdhaokjibfjdaaMemX
import Derived.Test.YthdhaokjibfjdaaRefX
import Derived.Deep.QuietTactic
import Derived.BigQuiet
namespace Go.Proofs.Ythdhaokjibfjdaa
open Go.RowKit
theorem next_num {W : List Int} {p : Nat} (h : 0 ≤ wd W (p + 2)) : (p : Int) + 3 + wd W (p + 2) / 4 = (nextAt W p : Nat) := by
  unfold nextAt slotsAt; omega
theorem ret_bool {a b : Bool} (h : a = b) : Ending.returned (.bool a) = .returned (.bool b) := by rw [h]
set_option maxHeartbeats 400000 in
theorem begins_any (W : List Int) (b off cap : Nat) (q : Nat) (w : World) (hr : Row w b off W) (hu : unfit W 2 = none) (hl : W.length ≤ 2000) (hq : 2 ≤ q) (hq2 : q ≤ 1999) :
    Calls Try.prog 70 #[.slice (some ⟨b, off, none⟩) W.length cap, .int .i64 q] w fun e w' => e = .returned (.bool (beginB W q)) ∧ w' = w := by
  go_enter Try.func70, Try.ntmps70
  go_wp2
  go_loop [5] (fun i => ∃ p : Nat, i = .int .i64 p ∧ 2 ≤ p ∧ p ≤ 2100 ∧ unfit W p = none ∧ Hid ((places W p).contains q = beginB W q)) (fun i => 3000 - (intOf i).toNat)
  case atStart => exact ⟨2, rfl, by omega, by omega, hu, rfl⟩
  case round =>
    obtain ⟨p, rfl, hp2, hpl, hup, hc⟩ := hrel
    by_cases hlt : p < W.length
    · obtain ⟨hf, hun⟩ := unfit_head hlt hup
      have hfo := fits_out hf
      have hcell := hr.cell (p + 2) (by omega)
      by_cases hpq : p < q
      · have hnn := next_num hfo.2.1
        have hn : nextAt W p ≤ W.length := by unfold nextAt; omega
        have hge : p + 3 ≤ nextAt W p := by unfold nextAt; omega
        clear hup hf
        go_wp2
        go_round
        case rel => exact ⟨nextAt W p, by first | rfl | simp, by omega, by omega, hun, (begin_next hlt (by omega)).symm.trans hc⟩
        case measure => simp [intOf]; omega
      · have hcl : beginB W q = decide (p = q) := by
          rw [← hc.out]
          by_cases e : p = q
          · subst e; rw [begin_here hlt]; simp
          · rw [begin_past (by omega)]; simp [e]
        have H : Hid (beginB W q = decide (p = q)) := hcl
        clear hcl hc hup hf hun
        by_cases e : p = q
        · have eb : ((p : Int) == (q : Int)) = true := by simp [e]
          have He : Hid (p = q) := e
          clear e
          go_wp2
          go_ret
          exact ⟨ret_bool (by rw [H.out]; simp [He.out]), rfl⟩
        · have eb : ((p : Int) == (q : Int)) = false := by simp; omega
          go_wp2
          go_ret
          exact ⟨ret_bool (by rw [H.out]; simp [e]), rfl⟩
    · have H : Hid (beginB W q = false) := by rw [← hc.out]; exact begin_end hlt
      clear hc hup
      by_cases e : p = q
      · have eb : ((p : Int) == (q : Int)) = true := by simp [e]
        clear e
        go_wp2
        go_ret
        exact ⟨ret_bool H.out.symm, rfl⟩
      · have eb : ((p : Int) == (q : Int)) = false := by simp; omega
        go_wp2
        go_ret
        exact ⟨ret_bool H.out.symm, rfl⟩

theorem kind_three {o : Int} (h : kindOf o = 3) : o % 2 = 0 ∧ 4 ≤ o ∧ o ≤ 3998 := by
  unfold kindOf at h
  split at h
  · cases h
  · split at h
    · cases h
    · split at h
      · assumption
      · cases h
theorem thing_no {W : List Int} {o : Int} (h : kindOf o ≠ 3) : thingB W o = false := by
  unfold thingB
  have : (kindOf o == 3) = false := by simpa using h
  rw [this]; rfl
theorem thing_yes {W : List Int} {o : Int} (h : kindOf o = 3) : thingB W o = beginB W (o / 2).toNat := by
  unfold thingB; rw [h]; rfl

theorem begins_int (W : List Int) (b off cap : Nat) (q : Int) (w : World) (hr : Row w b off W) (hu : unfit W 2 = none) (hl : W.length ≤ 2000) (hq : 2 ≤ q) (hq2 : q ≤ 1999) :
    Calls Try.prog 70 #[.slice (some ⟨b, off, none⟩) W.length cap, .int .i64 q] w fun e w' => e = .returned (.bool (beginB W q.toNat)) ∧ w' = w := by
  obtain ⟨n, rfl⟩ := Int.eq_ofNat_of_zero_le (a := q) (by omega)
  exact begins_any W b off cap n w hr hu hl (by omega) (by omega)

theorem rthing_any (W : List Int) (b off cap : Nat) (o : Int) (w : World) (hr : Row w b off W) (hu : unfit W 2 = none) (hl : W.length ≤ 2000) :
    Calls Try.prog 53 #[.slice (some ⟨b, off, none⟩) W.length cap, .int .i64 o] w fun e w' => e = .returned (.bool (thingB W o)) ∧ w' = w := by
  by_cases hk : kindOf o = 3
  · rw [thing_yes hk]
    have ho := kind_three hk
    go_enter Try.func53, Try.ntmps53
    go_wp2_with (first | (go_at_call 55; refine (rkind_any _ _).mono ?_; rintro e w' ⟨rfl, rfl⟩) | (go_at_call 70; refine (begins_int W b off cap _ _ hr hu hl (by omega) (by omega)).mono ?_; rintro e w' ⟨rfl, rfl⟩))
    go_ret
    exact ⟨rfl, rfl⟩
  · rw [thing_no hk]
    have hb : (kindOf o == 3) = false := by simpa using hk
    go_enter Try.func53, Try.ntmps53
    go_wp2_with (first | (go_at_call 55; refine (rkind_any _ _).mono ?_; rintro e w' ⟨rfl, rfl⟩))
    go_ret
    exact ⟨rfl, rfl⟩

theorem kind_two {o : Int} (h : kindOf o = 2) : o = 0 := by
  unfold kindOf at h
  split at h
  · assumption
  · split at h
    · cases h
    · split at h <;> cases h
theorem nil_zero {W : List Int} : nilB W 0 = true := rfl
theorem nil_else {W : List Int} {o : Int} (h : o ≠ 0) : nilB W o = thingB W o := by
  unfold nilB
  have : (kindOf o == 2) = false := by
    have : kindOf o ≠ 2 := fun e => h (kind_two e)
    simpa using this
  rw [this]; rfl

/-- A small reference, nil, or of a thing. -/
def fitsRef (W : List Int) (o : Int) : Bool := kindOf o == 1 || nilB W o
theorem rfits_any (W : List Int) (b off cap : Nat) (o : Int) (w : World) (hr : Row w b off W) (hu : unfit W 2 = none) (hl : W.length ≤ 2000) :
    Calls Try.prog 28 #[.slice (some ⟨b, off, none⟩) W.length cap, .int .i64 o] w fun e w' => e = .returned (.bool (fitsRef W o)) ∧ w' = w := by
  by_cases h1 : kindOf o = 1
  · have e : fitsRef W o = true := by unfold fitsRef; rw [h1]; rfl
    rw [e]; clear e
    go_enter Try.func28, Try.ntmps28
    go_wp2_with (first | (go_at_call 55; refine (rkind_any _ _).mono ?_; rintro e w' ⟨rfl, rfl⟩))
    go_ret
    exact ⟨rfl, rfl⟩
  · by_cases h2 : kindOf o = 2
    · have e : fitsRef W o = true := by unfold fitsRef nilB; rw [h2]; rfl
      rw [e]; clear e h1
      go_enter Try.func28, Try.ntmps28
      go_wp2_with (first | (go_at_call 55; refine (rkind_any _ _).mono ?_; rintro e w' ⟨rfl, rfl⟩))
      go_ret
      exact ⟨rfl, rfl⟩
    · have b1 : (kindOf o == 1) = false := by simpa using h1
      have b2 : (kindOf o == 2) = false := by simpa using h2
      have e : fitsRef W o = thingB W o := by unfold fitsRef nilB; rw [b1, b2]; rfl
      rw [e]; clear e h1 h2
      go_enter Try.func28, Try.ntmps28
      go_wp2_with (first | (go_at_call 55; refine (rkind_any _ _).mono ?_; rintro e w' ⟨rfl, rfl⟩) | (go_at_call 53; refine (rthing_any W b off cap _ _ hr hu hl).mono ?_; rintro e w' ⟨rfl, rfl⟩))
      go_ret
      exact ⟨rfl, rfl⟩

theorem stand_bytes {W : List Int} {what : Int} : standB W 1 what = decide (0 ≤ what ∧ what ≤ 255) := rfl
theorem stand_else {W : List Int} {form what : Int} (h : form ≠ 1) : standB W form what = fitsRef W what := by
  unfold standB; rw [if_neg h]; rfl
theorem rstands_any (W : List Int) (b off cap : Nat) (form what : Int) (w : World) (hr : Row w b off W) (hu : unfit W 2 = none) (hl : W.length ≤ 2000) :
    Calls Try.prog 54 #[.slice (some ⟨b, off, none⟩) W.length cap, .int .i64 form, .int .i64 what] w fun e w' => e = .returned (.bool (standB W form what)) ∧ w' = w := by
  by_cases h1 : form = 1
  · subst h1
    rw [stand_bytes]
    by_cases h2 : 0 ≤ what
    · by_cases h3 : what ≤ 255
      · have e : decide (0 ≤ what ∧ what ≤ 255) = true := decide_eq_true ⟨h2, h3⟩
        rw [e]; clear e
        go_enter Try.func54, Try.ntmps54
        go_wp2
        go_ret
        exact ⟨rfl, rfl⟩
      · have e : decide (0 ≤ what ∧ what ≤ 255) = false := decide_eq_false (by omega)
        rw [e]; clear e
        go_enter Try.func54, Try.ntmps54
        go_wp2
        go_ret
        exact ⟨rfl, rfl⟩
    · have e : decide (0 ≤ what ∧ what ≤ 255) = false := decide_eq_false (by omega)
      rw [e]; clear e
      go_enter Try.func54, Try.ntmps54
      go_wp2
      go_ret
      exact ⟨rfl, rfl⟩
  · rw [stand_else h1]
    have b1 : (form == 1) = false := by simpa using h1
    clear h1
    go_enter Try.func54, Try.ntmps54
    go_wp2_with (first | (go_at_call 28; refine (rfits_any W b off cap _ _ hr hu hl).mono ?_; rintro e w' ⟨rfl, rfl⟩))
    go_ret
    exact ⟨rfl, rfl⟩

end Go.Proofs.Ythdhaokjibfjdaa
