/- gessokeep.ints: the same numbers. -/
import Derived.Test.YthdhaokjibfjdaaRefThingsX
namespace Go.Proofs.Ythdhaokjibfjdaa
open Go.RowKit

set_option maxHeartbeats 1000000 in
theorem kints_same (xs ys : List Int) (b off c b' off' c' : Nat) (w : World) (hl : xs.length = ys.length) (hm : xs.length ≤ 1000000)
    (hx : ∀ k, k < xs.length → w.cell? ⟨b, off + k, none⟩ = some (.int .i64 (wd xs k))) (hy : ∀ k, k < ys.length → w.cell? ⟨b', off' + k, none⟩ = some (.int .i64 (wd ys k))) :
    Calls Try.prog 9 #[.slice (some ⟨b, off, none⟩) xs.length c, .slice (some ⟨b', off', none⟩) ys.length c'] w fun e w' => e = .returned (.bool (xs == ys)) ∧ ∃ m, w' = w.drewN m := by
  generalize hB : (xs == ys) = B
  have HB : Hid ((xs == ys) = B) := hB
  clear hB
  rw [← hl]
  go_enter Try.func9, Try.ntmps9
  go_wp2
  go_loopw [5] (fun s wr => ∃ (k n : Nat), s = .int .i64 k ∧ k ≤ xs.length ∧ sameTo xs ys k ∧ wr = w.drewN n) (fun s _ => xs.length - (intOf s).toNat)
  case atStart => exact ⟨0, 0, rfl, Nat.zero_le _, fun j hj => by omega, rfl⟩
  case round =>
    obtain ⟨k, n, rfl, hk, hsame, rfl⟩ := hrel
    by_cases hlt : k < xs.length
    · have hcx := hx k hlt
      have hcy := hy k (by omega)
      have hik : (k : Int) < (xs.length : Int) := by omega
      have Hx : Hid (∀ k, k < xs.length → w.cell? ⟨b, off + k, none⟩ = some (.int .i64 (wd xs k))) := hx
      have Hy : Hid (∀ k, k < ys.length → w.cell? ⟨b', off' + k, none⟩ = some (.int .i64 (wd ys k))) := hy
      clear hx hy
      by_cases he : wd xs k = wd ys k
      · have heb : (wd xs k != wd ys k) = false := by simp [he]
        have He : Hid (wd xs k = wd ys k) := he
        clear he
        go_wp2_with fail
        go_quiet (fail)
        go_wp2_with fail
        go_roundw
        case rel => exact ⟨k + 1, _, by first | rfl | simp, by omega, fun j hj => by (rcases Nat.lt_succ_iff_lt_or_eq.1 hj with h | h; exact hsame j h; rw [h]; exact He.out), rfl⟩
        case measure => simp [intOf]; omega
      · have heb : (wd xs k != wd ys k) = true := by simpa using he
        have H : Hid (B = false) := by rw [← HB.out]; exact same_not he
        clear he
        go_wp2_with fail
        go_quiet (fail)
        go_wp2_with fail
        go_ret
        exact ⟨by rw [H.out]; rfl, _, World.drewN_drewN _ _ _⟩
    · have H : Hid (B = true) := by
        rw [← HB.out]
        exact same_all hl (fun j hj => hsame j (by omega))
      go_wp2_with fail
      go_ret
      exact ⟨by rw [H.out]; rfl, _, rfl⟩

theorem kints_differ (ad ad' : Option Addr) (n n' c c' : Nat) (w : World) (h : n ≠ n') :
    Calls Try.prog 9 #[.slice ad n c, .slice ad' n' c'] w fun e w' => e = .returned (.bool false) ∧ w' = w := by
  have hb : ((n : Int) != (n' : Int)) = true := by simp; omega
  go_enter Try.func9, Try.ntmps9
  go_wp2
  go_ret
  exact ⟨rfl, rfl⟩
theorem kints_none (ad ad' : Option Addr) (c c' : Nat) (w : World) :
    Calls Try.prog 9 #[.slice ad 0 c, .slice ad' 0 c'] w fun e w' => e = .returned (.bool true) ∧ w' = w := by
  go_enter Try.func9, Try.ntmps9
  go_wp2
  refine wp_loop_rounds 1 ?_
  rw [rounds_succ]
  go_wp2
  go_ret
  exact ⟨rfl, rfl⟩

/-- gessokeep.ints. -/
theorem kints_any (xs ys : List Int) (v v' : Value) (w : World) (hx : Reads w v xs) (hy : Reads w v' ys) (hm : xs.length ≤ 1000000) :
    Calls Try.prog 9 #[v, v'] w fun e w' => e = .returned (.bool (xs == ys)) ∧ ∃ m, w' = w.drewN m := by
  obtain ⟨ad, c, rfl, hrx⟩ := hx
  obtain ⟨ad', c', rfl, hry⟩ := hy
  by_cases hl : xs.length = ys.length
  · by_cases h0 : 0 < xs.length
    · obtain ⟨b, off, rfl, _, hcx⟩ := hrx h0
      obtain ⟨b', off', rfl, _, hcy⟩ := hry (by omega)
      exact kints_same xs ys b off c b' off' c' w hl hm hcx hcy
    · have e1 : xs = [] := List.eq_nil_of_length_eq_zero (by omega)
      have e2 : ys = [] := List.eq_nil_of_length_eq_zero (by omega)
      subst e1 e2
      exact (kints_none ad ad' c c' w).mono fun e w' ⟨he, hw⟩ => ⟨he, 0, hw⟩
  · have e : (xs == ys) = false := by
      rw [beq_eq_false_iff_ne]; intro e; exact hl (by rw [e])
    rw [e]
    exact (kints_differ ad ad' _ _ c c' w hl).mono fun e w' ⟨he, hw⟩ => ⟨he, 0, hw⟩


end Go.Proofs.Ythdhaokjibfjdaa
