/- What gessoref2.Check answers: what is wrong first. -/
import Derived.Test.YthdhaokjibfjdaaRefHeapX
namespace Go.Proofs.Ythdhaokjibfjdaa
open Go.RowKit

/-- A fault as a value. -/
abbrev faultV (f : Int × Int) : Value := .agg #[.int .i64 f.1, .int .i64 f.2]

set_option maxRecDepth 100000 in
set_option maxHeartbeats 1000000 in
theorem rcheck_size (ad : Option Addr) (n cap : Nat) (w : World) (h : n < 2 ∨ 2000 < n) (hm : n ≤ maxLen) :
    Calls Try.prog 27 #[.agg #[.slice ad n cap]] w fun e w' => e = .returned (faultV (1, 0)) ∧ Below w.heap.size w w' := by
  unfold maxLen at hm
  rcases h with h | h
  · go_enter Try.func27, Try.ntmps27
    go_wp2
    exact bodyPost_ret (v := faultV (1, 0)) (by simp [results, Try.results27, go_sem]) rfl ⟨rfl, ((Below.refl _ _).alloc (Nat.le_refl _) _).alloc (by simp) _⟩
  · have h' : ¬ n < 2 := by omega
    go_enter Try.func27, Try.ntmps27
    go_wp2
    exact bodyPost_ret (v := faultV (1, 0)) (by simp [results, Try.results27, go_sem]) rfl ⟨rfl, ((Below.refl _ _).alloc (Nat.le_refl _) _).alloc (by simp) _⟩

set_option maxRecDepth 100000 in
set_option maxHeartbeats 1000000 in
theorem rcheck_front (W : List Int) (b off cap : Nat) (w : World) (hr : Row w b off W) (h2 : 2 ≤ W.length) (hl : W.length ≤ 2000) (h : (frontOf W).1 ≠ 0) :
    Calls Try.prog 27 #[.agg #[.slice (some ⟨b, off, none⟩) W.length cap]] w fun e w' => e = .returned (faultV (checkOf W)) ∧ Below w.heap.size w w' := by
  rw [check_front h]
  have hlt := hr.lt
  have c0 := hr.cell 0 (by omega)
  have c1 := hr.cell 1 (by omega)
  rw [Nat.add_zero] at c0
  by_cases h0 : wd W 0 = 0
  · by_cases h1 : wd W 1 < 1
    · rw [front_hash (by omega) h0 (by omega)]
      clear h
      go_enter Try.func27, Try.ntmps27
      go_wp2
      exact bodyPost_ret (v := faultV (2, 1)) (by simp [results, Try.results27, go_sem]) rfl ⟨rfl, ((Below.refl _ _).alloc (Nat.le_refl _) _).alloc (by simp) _⟩
    · by_cases h3 : 10001 < wd W 1
      · rw [front_hash (by omega) h0 (by omega)]
        clear h
        go_enter Try.func27, Try.ntmps27
        go_wp2
        exact bodyPost_ret (v := faultV (2, 1)) (by simp [results, Try.results27, go_sem]) rfl ⟨rfl, ((Below.refl _ _).alloc (Nat.le_refl _) _).alloc (by simp) _⟩
      · rw [front_ok (by omega) h0 (by omega)] at h
        exact absurd rfl h
  · rw [front_zero (by omega) h0]
    have hb : (wd W 0 != 0) = true := by simpa using h0
    clear h h0
    go_enter Try.func27, Try.ntmps27
    go_wp2
    exact bodyPost_ret (v := faultV (2, 0)) (by simp [results, Try.results27, go_sem]) rfl ⟨rfl, ((Below.refl _ _).alloc (Nat.le_refl _) _).alloc (by simp) _⟩

end Go.Proofs.Ythdhaokjibfjdaa
