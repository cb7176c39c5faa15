/- What each call of the document's answer to chapter 1 (package gessoref1) does: one contract a function. -/
import Derived.Test.YtgggmdanpdggpaaRows
import Derived.Test.YtgggmdanpdggpaaPlain
import Derived.WalkKit
import Derived.WalkSpells
import Derived.WalkLawsBesides
import Derived.Test.YtgggmdanpdggpaaWord
namespace Go.Proofs.Ytgggmdanpdggpaa

theorem tmod_odd {o : Int} (h : o % 2 = 1) : (o.tmod 2 != 0) = true := by
  have : o.tmod 2 ≠ 0 := fun e => by
    obtain ⟨k, hk⟩ := Int.dvd_of_tmod_eq_zero e
    omega
  simpa using this
theorem tmod_even {o : Int} (h : o % 2 = 0) : (o.tmod 2 != 0) = false := by
  have : o.tmod 2 = 0 := Int.tmod_eq_zero_of_dvd ⟨o / 2, by omega⟩
  simp [this]
theorem mod_odd {o : Int} (h : o % 2 = 1) : (o % 2 != 0) = true := by simp [h]
theorem mod_even {o : Int} (h : o % 2 = 0) : (o % 2 != 0) = false := by simp [h]

theorem rkind_any (o : Int) (w : World) :
    Calls Try.prog 10 #[.int .i64 o] w fun e w' => e = .returned (.int .i64 (kindOf o)) ∧ w' = w := by
  by_cases h0 : o = 0
  · subst h0
    rw [kind_nil]
    go_enter Try.func10, Try.ntmps10
    go_wp2
    go_ret
    exact ⟨rfl, rfl⟩
  · by_cases hp : o % 2 = 1
    · have hb := tmod_odd hp
      have hc := mod_odd hp
      by_cases h1 : -2147483647 ≤ o
      · by_cases h2 : o ≤ 2147483647
        · rw [kind_small (small_mk hp h1 h2)]
          clear hp
          go_enter Try.func10, Try.ntmps10
          go_wp2
          go_ret
          exact ⟨rfl, rfl⟩
        · rw [kind_none h0 (small_no (by omega)) (by omega)]
          clear hp
          go_enter Try.func10, Try.ntmps10
          go_wp2
          go_ret
          exact ⟨rfl, rfl⟩
      · rw [kind_none h0 (small_no (by omega)) (by omega)]
        clear hp
        go_enter Try.func10, Try.ntmps10
        go_wp2
        go_ret
        exact ⟨rfl, rfl⟩
    · have hb := tmod_even (o := o) (by omega)
      have hc := mod_even (o := o) (by omega)
      by_cases h1 : 4 ≤ o
      · by_cases h2 : o ≤ 3998
        · rw [kind_thing (by omega) h1 h2]
          clear hp
          go_enter Try.func10, Try.ntmps10
          go_wp2
          go_ret
          exact ⟨rfl, rfl⟩
        · rw [kind_none h0 (small_no (by omega)) (by omega)]
          clear hp
          go_enter Try.func10, Try.ntmps10
          go_wp2
          go_ret
          exact ⟨rfl, rfl⟩
      · rw [kind_none h0 (small_no (by omega)) (by omega)]
        clear hp
        go_enter Try.func10, Try.ntmps10
        go_wp2
        go_ret
        exact ⟨rfl, rfl⟩

theorem rsmall_any (n : Int) (w : World) :
    Calls Try.prog 12 #[.int .i64 n] w fun e w' => e = .returned (.tuple #[.int .i64 (refOf n), .bool (fitB n)]) ∧ w' = w := by
  by_cases h1 : n < -1073741824
  · have hf := fit_no (n := n) (by omega)
    rw [ref_not hf, hf]
    clear hf
    go_enter Try.func12, Try.ntmps12
    go_wp2
    go_ret2
    exact ⟨rfl, rfl⟩
  · by_cases h2 : 1073741823 < n
    · have hf := fit_no (n := n) (by omega)
      rw [ref_not hf, hf]
      clear hf
      go_enter Try.func12, Try.ntmps12
      go_wp2
      go_ret2
      exact ⟨rfl, rfl⟩
    · have hf := fit_mk (n := n) (by omega) (by omega)
      rw [ref_fit hf, hf]
      clear hf
      go_enter Try.func12, Try.ntmps12
      go_wp2
      go_ret2
      exact ⟨rfl, rfl⟩

theorem rvalue_yes (o : Int) (w : World) (h : smallB o = true) :
    Calls Try.prog 14 #[.int .i64 o] w fun e w' => e = .returned (.tuple #[.int .i64 (valOf o), .bool true]) ∧ w' = w := by
  have hk := kind_small h
  have hs := small_out h
  have h1 : -2147483647 ≤ o := hs.2.1
  have h2 : o ≤ 2147483647 := hs.2.2
  have hv : valOf o = (o - 1).tdiv 2 := by
    rw [val_small h]
    obtain ⟨k, hk'⟩ : ∃ k, o - 1 = 2 * k := ⟨(o - 1) / 2, by omega⟩
    rw [hk', Int.mul_tdiv_cancel_left k (by decide), Int.mul_ediv_cancel_left k (by decide)]
  rw [hv]
  clear hv hs h
  go_enter Try.func14, Try.ntmps14
  go_wp2_with (go_at_call 10; refine (rkind_any _ _).mono ?_; rintro e w' ⟨rfl, rfl⟩)
  go_ret2
  exact ⟨rfl, rfl⟩

theorem rvalue_no (o : Int) (w : World) (h : smallB o = false) :
    Calls Try.prog 14 #[.int .i64 o] w fun e w' => e = .returned (.tuple #[.int .i64 0, .bool false]) ∧ w' = w := by
  have hk : (kindOf o != 1) = true := by simpa using kind_not h
  clear h
  go_enter Try.func14, Try.ntmps14
  go_wp2_with (go_at_call 10; refine (rkind_any _ _).mono ?_; rintro e w' ⟨rfl, rfl⟩)
  go_ret2
  exact ⟨rfl, rfl⟩

theorem rvalue_any (o : Int) (w : World) :
    Calls Try.prog 14 #[.int .i64 o] w fun e w' => e = .returned (.tuple #[.int .i64 (valOf o), .bool (smallB o)]) ∧ w' = w := by
  cases h : smallB o
  · rw [val_not h]; exact rvalue_no o w h
  · exact rvalue_yes o w h

theorem rless_any (a b : Int) (w : World) :
    Calls Try.prog 20 #[.int .i64 a, .int .i64 b] w fun e w' => e = .returned (.tuple #[.bool (lessB a b), .bool (smallB a && smallB b)]) ∧ w' = w := by
  cases ha : smallB a
  · have hl : lessB a b = false := by unfold lessB; rw [ha]; rfl
    rw [hl]
    go_enter Try.func20, Try.ntmps20
    go_wp2_with (go_at_call 14; refine (rvalue_any _ _).mono ?_; rintro e w' ⟨rfl, rfl⟩)
    go_ret2
    exact ⟨rfl, rfl⟩
  · cases hb : smallB b
    · have hl : lessB a b = false := by unfold lessB; rw [ha, hb]; rfl
      rw [hl]
      go_enter Try.func20, Try.ntmps20
      go_wp2_with (go_at_call 14; refine (rvalue_any _ _).mono ?_; rintro e w' ⟨rfl, rfl⟩)
      go_ret2
      exact ⟨rfl, rfl⟩
    · have hl : lessB a b = decide (valOf a < valOf b) := by unfold lessB; rw [ha, hb]; rfl
      rw [hl]
      go_enter Try.func20, Try.ntmps20
      go_wp2_with (go_at_call 14; refine (rvalue_any _ _).mono ?_; rintro e w' ⟨rfl, rfl⟩)
      go_ret2
      exact ⟨rfl, rfl⟩

theorem rreckon_add (a b : Int) (w : World) :
    Calls Try.prog 18 #[.int .i64 0, .int .i64 a, .int .i64 b] w fun e w' => e = .returned (.tuple #[.int .i64 (reck (fun x y => x + y) a b), .bool (canB (fun x y => x + y) a b)]) ∧ w' = w := by
  cases ha : smallB a
  · have hc := can_left (f := fun x y => x + y) (b := b) ha
    rw [reck_no hc, hc]
    clear hc
    go_enter Try.func18, Try.ntmps18
    go_wp2_with (go_at_call 14; refine (rvalue_any _ _).mono ?_; rintro e w' ⟨rfl, rfl⟩)
    go_ret2
    exact ⟨rfl, rfl⟩
  · cases hb : smallB b
    · have hc := can_right (f := fun x y => x + y) (a := a) hb
      rw [reck_no hc, hc]
      clear hc
      go_enter Try.func18, Try.ntmps18
      go_wp2_with (go_at_call 14; refine (rvalue_any _ _).mono ?_; rintro e w' ⟨rfl, rfl⟩)
      go_ret2
      exact ⟨rfl, rfl⟩
    · have hc := can_both (f := fun x y => x + y) ha hb
      have hr : reck (fun x y => x + y) a b = refOf ((fun x y : Int => x + y) (valOf a) (valOf b)) := by unfold reck refOf; rw [hc]
      rw [hr, hc]
      clear hc hr
      have h1 := val_bd a
      have h2 := val_bd b
      have h3 := mul_bd a b
      go_enter Try.func18, Try.ntmps18
      go_wp2_with (first | (go_at_call 14; refine (rvalue_any _ _).mono ?_; rintro e w' ⟨rfl, rfl⟩) | (go_at_call 12; refine (rsmall_any _ _).mono ?_; rintro e w' ⟨rfl, rfl⟩))
      go_ret2
      exact ⟨rfl, rfl⟩

theorem rreckon_sub (a b : Int) (w : World) :
    Calls Try.prog 18 #[.int .i64 1, .int .i64 a, .int .i64 b] w fun e w' => e = .returned (.tuple #[.int .i64 (reck (fun x y => x - y) a b), .bool (canB (fun x y => x - y) a b)]) ∧ w' = w := by
  cases ha : smallB a
  · have hc := can_left (f := fun x y => x - y) (b := b) ha
    rw [reck_no hc, hc]
    clear hc
    go_enter Try.func18, Try.ntmps18
    go_wp2_with (go_at_call 14; refine (rvalue_any _ _).mono ?_; rintro e w' ⟨rfl, rfl⟩)
    go_ret2
    exact ⟨rfl, rfl⟩
  · cases hb : smallB b
    · have hc := can_right (f := fun x y => x - y) (a := a) hb
      rw [reck_no hc, hc]
      clear hc
      go_enter Try.func18, Try.ntmps18
      go_wp2_with (go_at_call 14; refine (rvalue_any _ _).mono ?_; rintro e w' ⟨rfl, rfl⟩)
      go_ret2
      exact ⟨rfl, rfl⟩
    · have hc := can_both (f := fun x y => x - y) ha hb
      have hr : reck (fun x y => x - y) a b = refOf ((fun x y : Int => x - y) (valOf a) (valOf b)) := by unfold reck refOf; rw [hc]
      rw [hr, hc]
      clear hc hr
      have h1 := val_bd a
      have h2 := val_bd b
      have h3 := mul_bd a b
      go_enter Try.func18, Try.ntmps18
      go_wp2_with (first | (go_at_call 14; refine (rvalue_any _ _).mono ?_; rintro e w' ⟨rfl, rfl⟩) | (go_at_call 12; refine (rsmall_any _ _).mono ?_; rintro e w' ⟨rfl, rfl⟩))
      go_ret2
      exact ⟨rfl, rfl⟩

theorem rreckon_mul (a b : Int) (w : World) :
    Calls Try.prog 18 #[.int .i64 2, .int .i64 a, .int .i64 b] w fun e w' => e = .returned (.tuple #[.int .i64 (reck (fun x y => x * y) a b), .bool (canB (fun x y => x * y) a b)]) ∧ w' = w := by
  cases ha : smallB a
  · have hc := can_left (f := fun x y => x * y) (b := b) ha
    rw [reck_no hc, hc]
    clear hc
    go_enter Try.func18, Try.ntmps18
    go_wp2_with (go_at_call 14; refine (rvalue_any _ _).mono ?_; rintro e w' ⟨rfl, rfl⟩)
    go_ret2
    exact ⟨rfl, rfl⟩
  · cases hb : smallB b
    · have hc := can_right (f := fun x y => x * y) (a := a) hb
      rw [reck_no hc, hc]
      clear hc
      go_enter Try.func18, Try.ntmps18
      go_wp2_with (go_at_call 14; refine (rvalue_any _ _).mono ?_; rintro e w' ⟨rfl, rfl⟩)
      go_ret2
      exact ⟨rfl, rfl⟩
    · have hc := can_both (f := fun x y => x * y) ha hb
      have hr : reck (fun x y => x * y) a b = refOf ((fun x y : Int => x * y) (valOf a) (valOf b)) := by unfold reck refOf; rw [hc]
      rw [hr, hc]
      clear hc hr
      have h1 := val_bd a
      have h2 := val_bd b
      have h3 := mul_bd a b
      go_enter Try.func18, Try.ntmps18
      go_wp2_with (first | (go_at_call 14; refine (rvalue_any _ _).mono ?_; rintro e w' ⟨rfl, rfl⟩) | (go_at_call 12; refine (rsmall_any _ _).mono ?_; rintro e w' ⟨rfl, rfl⟩))
      go_ret2
      exact ⟨rfl, rfl⟩
end Go.Proofs.Ytgggmdanpdggpaa
