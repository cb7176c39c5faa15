/- gessoref17: a State in memory; shade, reached. -/
import Derived.Test.YthdhaokjibfjdaaGi
import Derived.Test.YthdhaokjibfjdaaRef17aX
import Derived.Test.YthdhaokjibfjdaaRefReachX
namespace Go.Proofs.Ythdhaokjibfjdaa
open Go.RowKit

theorem ok_wf {W : List Int} {x : Int} (h : okRef W x) : (Lit.int .i64 x).wf = true := by
  have hb : -9223372036854775808 ≤ x ∧ x ≤ 9223372036854775807 := by
    unfold okRef nilB at h
    simp only [Bool.or_eq_true, beq_iff_eq] at h
    rcases h with h | h | h
    · unfold kindOf at h
      split at h
      · omega
      · split at h
        · rename_i hs; unfold smallB at hs; simp only [decide_eq_true_eq] at hs; omega
        · split at h <;> cases h
    · unfold kindOf at h
      split at h
      · omega
      · split at h
        · cases h
        · split at h <;> cases h
    · have := kind3 (thing_kind h); omega
  go_wf
theorem roots_at {w : World} {B g c : Nat} {W R : List Int} (h : w.ownsRow B 3 1 (sl g R.length c) R.length (vals R)) (hr : ∀ x ∈ R, okRef W x) : RootsAt (some ⟨g, 0, none⟩) R w := fun _ =>
  ⟨g, 0, rfl, own_lt h, fun k hk => by rw [Nat.zero_add]; exact own_wd h hk, fun k => by
    by_cases hk : k < R.length
    · exact ok_wf (hr _ (wd_mem hk))
    · rw [wd_past (by omega)]; decide⟩
end Go.Proofs.Ythdhaokjibfjdaa
