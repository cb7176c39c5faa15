/- What each call of the document's answer to chapter 1 (package gessoref1) does: one contract a function. -/
import Derived.Test.YthdhaokjibfjdaaRows
import Derived.Test.YthdhaokjibfjdaaGh
import Derived.Test.YthdhaokjibfjdaaWordX
import Derived.WalkKit
import Derived.WalkSpells
import Derived.WalkLawsBesides
namespace Go.Proofs.Ythdhaokjibfjdaa

theorem tmod_odd {o : Int} (h : o % 2 = 1) : (o.tmod 2 != 0) = true := by
  have : o.tmod 2 ≠ 0 := fun e => by
    obtain ⟨k, hk⟩ := Int.dvd_of_tmod_eq_zero e
    omega
  simpa using this
theorem tmod_even {o : Int} (h : o % 2 = 0) : (o.tmod 2 != 0) = false := by
  have : o.tmod 2 = 0 := Int.tmod_eq_zero_of_dvd ⟨o / 2, by omega⟩
  simp [this]
theorem mod_odd {o : Int} (h : o % 2 = 1) : (o % 2 != 0) = true := by simp [h]
theorem mod_even {o : Int} (h : o % 2 = 0) : (o % 2 != 0) = false := by simp [h]

theorem rkind_any (o : Int) (w : World) :
    Calls Try.prog 55 #[.int .i64 o] w fun e w' => e = .returned (.int .i64 (kindOf o)) ∧ w' = w := by
  by_cases h0 : o = 0
  · subst h0
    rw [kind_nil]
    go_enter Try.func55, Try.ntmps55
    go_wp2
    go_ret
    exact ⟨rfl, rfl⟩
  · by_cases hp : o % 2 = 1
    · have hb := tmod_odd hp
      have hc := mod_odd hp
      by_cases h1 : -2147483647 ≤ o
      · by_cases h2 : o ≤ 2147483647
        · rw [kind_small (small_mk hp h1 h2)]
          clear hp
          go_enter Try.func55, Try.ntmps55
          go_wp2
          go_ret
          exact ⟨rfl, rfl⟩
        · rw [kind_none h0 (small_no (by omega)) (by omega)]
          clear hp
          go_enter Try.func55, Try.ntmps55
          go_wp2
          go_ret
          exact ⟨rfl, rfl⟩
      · rw [kind_none h0 (small_no (by omega)) (by omega)]
        clear hp
        go_enter Try.func55, Try.ntmps55
        go_wp2
        go_ret
        exact ⟨rfl, rfl⟩
    · have hb := tmod_even (o := o) (by omega)
      have hc := mod_even (o := o) (by omega)
      by_cases h1 : 4 ≤ o
      · by_cases h2 : o ≤ 3998
        · rw [kind_thing (by omega) h1 h2]
          clear hp
          go_enter Try.func55, Try.ntmps55
          go_wp2
          go_ret
          exact ⟨rfl, rfl⟩
        · rw [kind_none h0 (small_no (by omega)) (by omega)]
          clear hp
          go_enter Try.func55, Try.ntmps55
          go_wp2
          go_ret
          exact ⟨rfl, rfl⟩
      · rw [kind_none h0 (small_no (by omega)) (by omega)]
        clear hp
        go_enter Try.func55, Try.ntmps55
        go_wp2
        go_ret
        exact ⟨rfl, rfl⟩

end Go.Proofs.Ythdhaokjibfjdaa
