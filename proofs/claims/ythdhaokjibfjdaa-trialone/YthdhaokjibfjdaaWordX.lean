/- What each call of package word, and of the document's answer to chapter 1, does: one contract a function. -/
import Derived.Test.YthdhaokjibfjdaaRows
import Derived.Test.YthdhaokjibfjdaaGh
import Derived.WalkKit
import Derived.WalkSpells
import Derived.WalkLawsBesides
namespace Go.Proofs.Ythdhaokjibfjdaa

theorem odd_any (o : Int) (w : World) :
    Calls Try.prog 73 #[.int .i64 o] w fun e w' => e = .returned (.bool (o % 2 == 1)) ∧ w' = w := by
  have ho := and_one_i64 o
  go_enter Try.func73, Try.ntmps73
  go_wp2
  go_ret
  exact ⟨rfl, rfl⟩

theorem kind_any (o : Int) (w : World) :
    Calls Try.prog 59 #[.int .i64 o] w fun e w' => e = .returned (.int .i64 (kindOf o)) ∧ w' = w := by
  by_cases h0 : o = 0
  · subst h0
    rw [kind_nil]
    go_enter Try.func59, Try.ntmps59
    go_wp2
    go_ret
    exact ⟨rfl, rfl⟩
  · by_cases hp : o % 2 = 1
    · have hb : (o % 2 == 1) = true := by simpa using hp
      by_cases h1 : -2147483647 ≤ o
      · by_cases h2 : o ≤ 2147483647
        · rw [kind_small (small_mk hp h1 h2)]
          clear hp
          go_enter Try.func59, Try.ntmps59
          go_wp2_with (go_at_call 73; refine (odd_any _ _).mono ?_; rintro e w' ⟨rfl, rfl⟩)
          go_ret
          exact ⟨rfl, rfl⟩
        · rw [kind_none h0 (small_no (by omega)) (by omega)]
          clear hp
          go_enter Try.func59, Try.ntmps59
          go_wp2_with (go_at_call 73; refine (odd_any _ _).mono ?_; rintro e w' ⟨rfl, rfl⟩)
          go_ret
          exact ⟨rfl, rfl⟩
      · rw [kind_none h0 (small_no (by omega)) (by omega)]
        clear hp
        go_enter Try.func59, Try.ntmps59
        go_wp2_with (go_at_call 73; refine (odd_any _ _).mono ?_; rintro e w' ⟨rfl, rfl⟩)
        go_ret
        exact ⟨rfl, rfl⟩
    · have hb : (o % 2 == 1) = false := by simpa using hp
      by_cases h1 : 4 ≤ o
      · by_cases h2 : o ≤ 3998
        · rw [kind_thing (by omega) h1 h2]
          clear hp
          go_enter Try.func59, Try.ntmps59
          go_wp2_with (go_at_call 73; refine (odd_any _ _).mono ?_; rintro e w' ⟨rfl, rfl⟩)
          go_ret
          exact ⟨rfl, rfl⟩
        · rw [kind_none h0 (small_no (by omega)) (by omega)]
          clear hp
          go_enter Try.func59, Try.ntmps59
          go_wp2_with (go_at_call 73; refine (odd_any _ _).mono ?_; rintro e w' ⟨rfl, rfl⟩)
          go_ret
          exact ⟨rfl, rfl⟩
      · rw [kind_none h0 (small_no (by omega)) (by omega)]
        clear hp
        go_enter Try.func59, Try.ntmps59
        go_wp2_with (go_at_call 73; refine (odd_any _ _).mono ?_; rintro e w' ⟨rfl, rfl⟩)
        go_ret
        exact ⟨rfl, rfl⟩

/-- What Less answers of a and b. -/
def lessB (a b : Int) : Bool := smallB a && smallB b && decide (valOf a < valOf b)

end Go.Proofs.Ythdhaokjibfjdaa
