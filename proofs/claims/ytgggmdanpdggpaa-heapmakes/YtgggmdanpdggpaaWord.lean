/- What each call of package word, and of the document's answer to chapter 1, does: one contract a function. -/
import Derived.Test.YtgggmdanpdggpaaRows
import Derived.Test.YtgggmdanpdggpaaPlain
import Derived.WalkKit
import Derived.WalkSpells
import Derived.WalkLawsBesides
namespace Go.Proofs.Ytgggmdanpdggpaa

theorem odd_any (o : Int) (w : World) :
    Calls Try.prog 34 #[.int .i64 o] w fun e w' => e = .returned (.bool (o % 2 == 1)) ∧ w' = w := by
  have ho := and_one_i64 o
  go_enter Try.func34, Try.ntmps34
  go_wp2
  go_ret
  exact ⟨rfl, rfl⟩

theorem kind_any (o : Int) (w : World) :
    Calls Try.prog 9 #[.int .i64 o] w fun e w' => e = .returned (.int .i64 (kindOf o)) ∧ w' = w := by
  by_cases h0 : o = 0
  · subst h0
    rw [kind_nil]
    go_enter Try.func9, Try.ntmps9
    go_wp2
    go_ret
    exact ⟨rfl, rfl⟩
  · by_cases hp : o % 2 = 1
    · have hb : (o % 2 == 1) = true := by simpa using hp
      by_cases h1 : -2147483647 ≤ o
      · by_cases h2 : o ≤ 2147483647
        · rw [kind_small (small_mk hp h1 h2)]
          clear hp
          go_enter Try.func9, Try.ntmps9
          go_wp2_with (go_at_call 34; refine (odd_any _ _).mono ?_; rintro e w' ⟨rfl, rfl⟩)
          go_ret
          exact ⟨rfl, rfl⟩
        · rw [kind_none h0 (small_no (by omega)) (by omega)]
          clear hp
          go_enter Try.func9, Try.ntmps9
          go_wp2_with (go_at_call 34; refine (odd_any _ _).mono ?_; rintro e w' ⟨rfl, rfl⟩)
          go_ret
          exact ⟨rfl, rfl⟩
      · rw [kind_none h0 (small_no (by omega)) (by omega)]
        clear hp
        go_enter Try.func9, Try.ntmps9
        go_wp2_with (go_at_call 34; refine (odd_any _ _).mono ?_; rintro e w' ⟨rfl, rfl⟩)
        go_ret
        exact ⟨rfl, rfl⟩
    · have hb : (o % 2 == 1) = false := by simpa using hp
      by_cases h1 : 4 ≤ o
      · by_cases h2 : o ≤ 3998
        · rw [kind_thing (by omega) h1 h2]
          clear hp
          go_enter Try.func9, Try.ntmps9
          go_wp2_with (go_at_call 34; refine (odd_any _ _).mono ?_; rintro e w' ⟨rfl, rfl⟩)
          go_ret
          exact ⟨rfl, rfl⟩
        · rw [kind_none h0 (small_no (by omega)) (by omega)]
          clear hp
          go_enter Try.func9, Try.ntmps9
          go_wp2_with (go_at_call 34; refine (odd_any _ _).mono ?_; rintro e w' ⟨rfl, rfl⟩)
          go_ret
          exact ⟨rfl, rfl⟩
      · rw [kind_none h0 (small_no (by omega)) (by omega)]
        clear hp
        go_enter Try.func9, Try.ntmps9
        go_wp2_with (go_at_call 34; refine (odd_any _ _).mono ?_; rintro e w' ⟨rfl, rfl⟩)
        go_ret
        exact ⟨rfl, rfl⟩

theorem reference_yes (n : Int) (w : World) :
    Calls Try.prog 35 #[.int .i64 n, .bool true] w fun e w' => e = .returned (.tuple #[.int .i64 (refOf n), .bool (fitB n)]) ∧ w' = w := by
  by_cases h1 : n < -1073741824
  · have hf := fit_no (n := n) (by omega)
    rw [ref_not hf, hf]
    clear hf
    go_enter Try.func35, Try.ntmps35
    go_wp2
    go_ret2
    exact ⟨rfl, rfl⟩
  · by_cases h2 : 1073741823 < n
    · have hf := fit_no (n := n) (by omega)
      rw [ref_not hf, hf]
      clear hf
      go_enter Try.func35, Try.ntmps35
      go_wp2
      go_ret2
      exact ⟨rfl, rfl⟩
    · have hf := fit_mk (n := n) (by omega) (by omega)
      rw [ref_fit hf, hf]
      clear hf
      go_enter Try.func35, Try.ntmps35
      go_wp2
      go_ret2
      exact ⟨rfl, rfl⟩

theorem reference_no (n : Int) (w : World) :
    Calls Try.prog 35 #[.int .i64 n, .bool false] w fun e w' => e = .returned (.tuple #[.int .i64 0, .bool false]) ∧ w' = w := by
  go_enter Try.func35, Try.ntmps35
  go_wp2
  go_ret2
  exact ⟨rfl, rfl⟩

theorem small_any (n : Int) (w : World) :
    Calls Try.prog 11 #[.int .i64 n] w fun e w' => e = .returned (.tuple #[.int .i64 (refOf n), .bool (fitB n)]) ∧ w' = w := by
  go_enter Try.func11, Try.ntmps11
  go_wp2_with (go_at_call 35; refine (reference_yes _ _).mono ?_; rintro e w' ⟨rfl, rfl⟩)
  go_ret2
  exact ⟨rfl, rfl⟩

theorem value_yes (o : Int) (w : World) (h : smallB o = true) :
    Calls Try.prog 13 #[.int .i64 o] w fun e w' => e = .returned (.tuple #[.int .i64 (valOf o), .bool true]) ∧ w' = w := by
  have hk := kind_small h
  have hs := small_out h
  have h1 : -2147483647 ≤ o := hs.2.1
  have h2 : o ≤ 2147483647 := hs.2.2
  have hv : valOf o = (o - 1).tdiv 2 := by
    rw [val_small h]
    obtain ⟨k, hk'⟩ : ∃ k, o - 1 = 2 * k := ⟨(o - 1) / 2, by omega⟩
    rw [hk', Int.mul_tdiv_cancel_left k (by decide), Int.mul_ediv_cancel_left k (by decide)]
  rw [hv]
  clear hv hs h
  go_enter Try.func13, Try.ntmps13
  go_wp2_with (go_at_call 9; refine (kind_any _ _).mono ?_; rintro e w' ⟨rfl, rfl⟩)
  go_ret2
  exact ⟨rfl, rfl⟩

theorem value_no (o : Int) (w : World) (h : smallB o = false) :
    Calls Try.prog 13 #[.int .i64 o] w fun e w' => e = .returned (.tuple #[.int .i64 0, .bool false]) ∧ w' = w := by
  have hk : (kindOf o != 1) = true := by simpa using kind_not h
  clear h
  go_enter Try.func13, Try.ntmps13
  go_wp2_with (go_at_call 9; refine (kind_any _ _).mono ?_; rintro e w' ⟨rfl, rfl⟩)
  go_ret2
  exact ⟨rfl, rfl⟩

/-- Value, in one word. -/
theorem value_any (o : Int) (w : World) :
    Calls Try.prog 13 #[.int .i64 o] w fun e w' => e = .returned (.tuple #[.int .i64 (valOf o), .bool (smallB o)]) ∧ w' = w := by
  cases h : smallB o
  · rw [val_not h]; exact value_no o w h
  · exact value_yes o w h

/-- reckon at int64 with the closure of add, both small. -/
theorem reckon_add_yes (a b : Int) (w : World) (ha : smallB a = true) (hb : smallB b = true) :
    Calls Try.prog 36 #[.int .i64 a, .int .i64 b, .func (.func 37) #[] #[]] w fun e w' => e = .returned (.tuple #[.int .i64 ((fun x y : Int => x + y) (valOf a) (valOf b)), .bool true]) ∧ w' = w := by
  have h1 := val_bd a
  have h2 := val_bd b
  have h3 := mul_bd a b
  go_enter Try.func36, Try.ntmps36
  go_wp2_with (first | (go_at_call 13; refine (value_any _ _).mono ?_; rintro e w' ⟨rfl, rfl⟩) | go_in)
  go_ret2
  exact ⟨rfl, rfl⟩

/-- reckon at int64 with the closure of sub, both small. -/
theorem reckon_sub_yes (a b : Int) (w : World) (ha : smallB a = true) (hb : smallB b = true) :
    Calls Try.prog 36 #[.int .i64 a, .int .i64 b, .func (.func 38) #[] #[]] w fun e w' => e = .returned (.tuple #[.int .i64 ((fun x y : Int => x - y) (valOf a) (valOf b)), .bool true]) ∧ w' = w := by
  have h1 := val_bd a
  have h2 := val_bd b
  have h3 := mul_bd a b
  go_enter Try.func36, Try.ntmps36
  go_wp2_with (first | (go_at_call 13; refine (value_any _ _).mono ?_; rintro e w' ⟨rfl, rfl⟩) | go_in)
  go_ret2
  exact ⟨rfl, rfl⟩

/-- reckon at int64 with the closure of mul, both small. -/
theorem reckon_mul_yes (a b : Int) (w : World) (ha : smallB a = true) (hb : smallB b = true) :
    Calls Try.prog 36 #[.int .i64 a, .int .i64 b, .func (.func 39) #[] #[]] w fun e w' => e = .returned (.tuple #[.int .i64 ((fun x y : Int => x * y) (valOf a) (valOf b)), .bool true]) ∧ w' = w := by
  have h1 := val_bd a
  have h2 := val_bd b
  have h3 := mul_bd a b
  go_enter Try.func36, Try.ntmps36
  go_wp2_with (first | (go_at_call 13; refine (value_any _ _).mono ?_; rintro e w' ⟨rfl, rfl⟩) | go_in)
  go_ret2
  exact ⟨rfl, rfl⟩

theorem reckon_int_left (a b : Int) (f : Value) (w : World) (ha : smallB a = false) :
    Calls Try.prog 36 #[.int .i64 a, .int .i64 b, f] w fun e w' => e = .returned (.tuple #[.int .i64 0, .bool false]) ∧ w' = w := by
  go_enter Try.func36, Try.ntmps36
  go_wp2_with (first | (go_at_call 13; refine (value_any _ _).mono ?_; rintro e w' ⟨rfl, rfl⟩) | go_in)
  go_ret2
  exact ⟨rfl, rfl⟩

theorem reckon_int_right (a b : Int) (f : Value) (w : World) (ha : smallB a = true) (hb : smallB b = false) :
    Calls Try.prog 36 #[.int .i64 a, .int .i64 b, f] w fun e w' => e = .returned (.tuple #[.int .i64 0, .bool false]) ∧ w' = w := by
  go_enter Try.func36, Try.ntmps36
  go_wp2_with (first | (go_at_call 13; refine (value_any _ _).mono ?_; rintro e w' ⟨rfl, rfl⟩) | go_in)
  go_ret2
  exact ⟨rfl, rfl⟩

theorem reckon_bool_left (a b : Int) (f : Value) (w : World) (ha : smallB a = false) :
    Calls Try.prog 40 #[.int .i64 a, .int .i64 b, f] w fun e w' => e = .returned (.tuple #[.bool false, .bool false]) ∧ w' = w := by
  go_enter Try.func40, Try.ntmps40
  go_wp2_with (first | (go_at_call 13; refine (value_any _ _).mono ?_; rintro e w' ⟨rfl, rfl⟩) | go_in)
  go_ret2
  exact ⟨rfl, rfl⟩

theorem reckon_bool_right (a b : Int) (f : Value) (w : World) (ha : smallB a = true) (hb : smallB b = false) :
    Calls Try.prog 40 #[.int .i64 a, .int .i64 b, f] w fun e w' => e = .returned (.tuple #[.bool false, .bool false]) ∧ w' = w := by
  go_enter Try.func40, Try.ntmps40
  go_wp2_with (first | (go_at_call 13; refine (value_any _ _).mono ?_; rintro e w' ⟨rfl, rfl⟩) | go_in)
  go_ret2
  exact ⟨rfl, rfl⟩

theorem reckon_less_yes (a b : Int) (w : World) (ha : smallB a = true) (hb : smallB b = true) :
    Calls Try.prog 40 #[.int .i64 a, .int .i64 b, .func (.func 41) #[] #[]] w fun e w' => e = .returned (.tuple #[.bool (decide (valOf a < valOf b)), .bool true]) ∧ w' = w := by
  go_enter Try.func40, Try.ntmps40
  go_wp2_with (first | (go_at_call 13; refine (value_any _ _).mono ?_; rintro e w' ⟨rfl, rfl⟩) | go_in)
  go_ret2
  exact ⟨rfl, rfl⟩

/-- What Less answers of a and b. -/
def lessB (a b : Int) : Bool := smallB a && smallB b && decide (valOf a < valOf b)

theorem less_any (a b : Int) (w : World) :
    Calls Try.prog 19 #[.int .i64 a, .int .i64 b] w fun e w' => e = .returned (.tuple #[.bool (lessB a b), .bool (smallB a && smallB b)]) ∧ w' = w := by
  cases ha : smallB a
  · have hl : lessB a b = false := by unfold lessB; rw [ha]; rfl
    rw [hl]
    go_enter Try.func19, Try.ntmps19
    go_wp2_with (go_at_call 40; refine (reckon_bool_left _ _ _ _ ha).mono ?_; rintro e w' ⟨rfl, rfl⟩)
    go_ret2
    exact ⟨rfl, rfl⟩
  · cases hb : smallB b
    · have hl : lessB a b = false := by unfold lessB; rw [ha, hb]; rfl
      rw [hl]
      go_enter Try.func19, Try.ntmps19
      go_wp2_with (go_at_call 40; refine (reckon_bool_right _ _ _ _ ha hb).mono ?_; rintro e w' ⟨rfl, rfl⟩)
      go_ret2
      exact ⟨rfl, rfl⟩
    · have hl : lessB a b = decide (valOf a < valOf b) := by unfold lessB; rw [ha, hb]; rfl
      rw [hl]
      go_enter Try.func19, Try.ntmps19
      go_wp2_with (go_at_call 40; refine (reckon_less_yes _ _ _ ha hb).mono ?_; rintro e w' ⟨rfl, rfl⟩)
      go_ret2
      exact ⟨rfl, rfl⟩

theorem add_any (a b : Int) (w : World) :
    Calls Try.prog 15 #[.int .i64 a, .int .i64 b] w fun e w' => e = .returned (.tuple #[.int .i64 (reck (fun x y => x + y) a b), .bool (canB (fun x y => x + y) a b)]) ∧ w' = w := by
  cases ha : smallB a
  · have hc := can_left (f := fun x y => x + y) (b := b) ha
    rw [reck_no hc, hc]
    clear hc
    go_enter Try.func15, Try.ntmps15
    go_wp2_with (first | (go_at_call 36; refine (reckon_int_left _ _ _ _ ha).mono ?_; rintro e w' ⟨rfl, rfl⟩) | (go_at_call 35; refine (reference_no _ _).mono ?_; rintro e w' ⟨rfl, rfl⟩))
    go_ret2
    exact ⟨rfl, rfl⟩
  · cases hb : smallB b
    · have hc := can_right (f := fun x y => x + y) (a := a) hb
      rw [reck_no hc, hc]
      clear hc
      go_enter Try.func15, Try.ntmps15
      go_wp2_with (first | (go_at_call 36; refine (reckon_int_right _ _ _ _ ha hb).mono ?_; rintro e w' ⟨rfl, rfl⟩) | (go_at_call 35; refine (reference_no _ _).mono ?_; rintro e w' ⟨rfl, rfl⟩))
      go_ret2
      exact ⟨rfl, rfl⟩
    · have hc := can_both (f := fun x y => x + y) ha hb
      have hr : reck (fun x y => x + y) a b = refOf ((fun x y : Int => x + y) (valOf a) (valOf b)) := by unfold reck refOf; rw [hc]
      rw [hr, hc]
      clear hc hr
      go_enter Try.func15, Try.ntmps15
      go_wp2_with (first | (go_at_call 36; refine (reckon_add_yes _ _ _ ha hb).mono ?_; rintro e w' ⟨rfl, rfl⟩) | (go_at_call 35; refine (reference_yes _ _).mono ?_; rintro e w' ⟨rfl, rfl⟩))
      go_ret2
      exact ⟨rfl, rfl⟩

theorem sub_any (a b : Int) (w : World) :
    Calls Try.prog 16 #[.int .i64 a, .int .i64 b] w fun e w' => e = .returned (.tuple #[.int .i64 (reck (fun x y => x - y) a b), .bool (canB (fun x y => x - y) a b)]) ∧ w' = w := by
  cases ha : smallB a
  · have hc := can_left (f := fun x y => x - y) (b := b) ha
    rw [reck_no hc, hc]
    clear hc
    go_enter Try.func16, Try.ntmps16
    go_wp2_with (first | (go_at_call 36; refine (reckon_int_left _ _ _ _ ha).mono ?_; rintro e w' ⟨rfl, rfl⟩) | (go_at_call 35; refine (reference_no _ _).mono ?_; rintro e w' ⟨rfl, rfl⟩))
    go_ret2
    exact ⟨rfl, rfl⟩
  · cases hb : smallB b
    · have hc := can_right (f := fun x y => x - y) (a := a) hb
      rw [reck_no hc, hc]
      clear hc
      go_enter Try.func16, Try.ntmps16
      go_wp2_with (first | (go_at_call 36; refine (reckon_int_right _ _ _ _ ha hb).mono ?_; rintro e w' ⟨rfl, rfl⟩) | (go_at_call 35; refine (reference_no _ _).mono ?_; rintro e w' ⟨rfl, rfl⟩))
      go_ret2
      exact ⟨rfl, rfl⟩
    · have hc := can_both (f := fun x y => x - y) ha hb
      have hr : reck (fun x y => x - y) a b = refOf ((fun x y : Int => x - y) (valOf a) (valOf b)) := by unfold reck refOf; rw [hc]
      rw [hr, hc]
      clear hc hr
      go_enter Try.func16, Try.ntmps16
      go_wp2_with (first | (go_at_call 36; refine (reckon_sub_yes _ _ _ ha hb).mono ?_; rintro e w' ⟨rfl, rfl⟩) | (go_at_call 35; refine (reference_yes _ _).mono ?_; rintro e w' ⟨rfl, rfl⟩))
      go_ret2
      exact ⟨rfl, rfl⟩

theorem mul_any (a b : Int) (w : World) :
    Calls Try.prog 17 #[.int .i64 a, .int .i64 b] w fun e w' => e = .returned (.tuple #[.int .i64 (reck (fun x y => x * y) a b), .bool (canB (fun x y => x * y) a b)]) ∧ w' = w := by
  cases ha : smallB a
  · have hc := can_left (f := fun x y => x * y) (b := b) ha
    rw [reck_no hc, hc]
    clear hc
    go_enter Try.func17, Try.ntmps17
    go_wp2_with (first | (go_at_call 36; refine (reckon_int_left _ _ _ _ ha).mono ?_; rintro e w' ⟨rfl, rfl⟩) | (go_at_call 35; refine (reference_no _ _).mono ?_; rintro e w' ⟨rfl, rfl⟩))
    go_ret2
    exact ⟨rfl, rfl⟩
  · cases hb : smallB b
    · have hc := can_right (f := fun x y => x * y) (a := a) hb
      rw [reck_no hc, hc]
      clear hc
      go_enter Try.func17, Try.ntmps17
      go_wp2_with (first | (go_at_call 36; refine (reckon_int_right _ _ _ _ ha hb).mono ?_; rintro e w' ⟨rfl, rfl⟩) | (go_at_call 35; refine (reference_no _ _).mono ?_; rintro e w' ⟨rfl, rfl⟩))
      go_ret2
      exact ⟨rfl, rfl⟩
    · have hc := can_both (f := fun x y => x * y) ha hb
      have hr : reck (fun x y => x * y) a b = refOf ((fun x y : Int => x * y) (valOf a) (valOf b)) := by unfold reck refOf; rw [hc]
      rw [hr, hc]
      clear hc hr
      go_enter Try.func17, Try.ntmps17
      go_wp2_with (first | (go_at_call 36; refine (reckon_mul_yes _ _ _ ha hb).mono ?_; rintro e w' ⟨rfl, rfl⟩) | (go_at_call 35; refine (reference_yes _ _).mono ?_; rintro e w' ⟨rfl, rfl⟩))
      go_ret2
      exact ⟨rfl, rfl⟩
end Go.Proofs.Ytgggmdanpdggpaa
