/- reach.See, in one: the view, or the fault of a heap and its roots. -/
import Derived.Test.YthdhaokjibfjdaaSeeRootsX
namespace Go.Proofs.Ythdhaokjibfjdaa
open Go.RowKit

theorem roots_zero {W roots : List Int} (h : (rootsOf W roots).1 = 0) : (checkOf W).1 = 0 ∧ badRoot W roots 0 roots.length = none ∧ rootsOf W roots = (0, 0) := by
  by_cases hc : (checkOf W).1 = 0
  · cases hb : badRoot W roots 0 roots.length with
    | none => exact ⟨hc, rfl, roots_ok hc hb⟩
    | some k => rw [roots_bad hc hb] at h; cases h
  · rw [roots_heap hc] at h; exact absurd h hc

theorem rsee_bad (W roots : List Int) (ad rad : Option Addr) (cap rcap : Nat) (w : World) (hm : W.length ≤ maxLen) (hr : WordsAt ad W w) (hroots : RootsAt rad roots w) (hrl : roots.length ≤ 5000) (h : (rootsOf W roots).1 ≠ 0) :
    Calls Try.prog 16 #[heapV ad W.length cap, .slice rad roots.length rcap] w fun e w' => e = .returned (.tuple #[noView, .agg #[.int .i64 (rootsOf W roots).1, .int .i64 (rootsOf W roots).2]]) ∧ Below w.heap.size w w' := by
  by_cases hc : (checkOf W).1 = 0
  · refine (rsee_yes W roots ad rad cap rcap w hr hroots hc hrl).mono fun e w' hp => ⟨?_, hp.2⟩
    rcases hp.1 with ⟨hb, _⟩ | ⟨k, hb, he⟩
    · rw [roots_ok hc hb] at h; exact absurd rfl h
    · rw [roots_bad hc hb]; exact he
  · rw [roots_heap hc]; exact rsee_no W roots ad rad cap rcap w hm hr hc
theorem rsee_good (W roots : List Int) (ad rad : Option Addr) (cap rcap : Nat) (w : World) (hr : WordsAt ad W w) (hroots : RootsAt rad roots w) (hrl : roots.length ≤ 5000) (h : (rootsOf W roots).1 = 0) :
    Calls Try.prog 16 #[heapV ad W.length cap, .slice rad roots.length rcap] w fun e w' => ViewAns W w.heap.size e w' ∧ Below w.heap.size w w' := by
  obtain ⟨hc, hb, _⟩ := roots_zero h
  refine (rsee_yes W roots ad rad cap rcap w hr hroots hc hrl).mono fun e w' hp => ⟨?_, hp.2⟩
  rcases hp.1 with ⟨_, hv⟩ | ⟨k, hb', _⟩
  · exact hv
  · rw [hb] at hb'; cases hb'

end Go.Proofs.Ythdhaokjibfjdaa
