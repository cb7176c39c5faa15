/- What gessoref2.Things and gessoref1.Ints answer. -/
import Derived.Test.YthdhaokjibfjdaaGn
namespace Go.Proofs.Ythdhaokjibfjdaa
open Go.RowKit

/-- A slice that reads as those numbers. -/
def Reads (w : World) (v : Value) (xs : List Int) : Prop :=
  ∃ ad c, v = .slice ad xs.length c ∧ (0 < xs.length → ∃ b off, ad = some ⟨b, off, none⟩ ∧ b < w.heap.size ∧ ∀ k, k < xs.length → w.cell? ⟨b, off + k, none⟩ = some (.int .i64 (wd xs k)))

theorem Reads.of_row {w : World} {b off c : Nat} {xs : List Int} (h : Row w b off xs) : Reads w (.slice (some ⟨b, off, none⟩) xs.length c) xs :=
  ⟨_, _, rfl, fun _ => ⟨b, off, rfl, h.lt, h.cell⟩⟩
theorem Reads.of_own {w : World} {B : Nat} {v : Value} {xs : List Int} (h : w.ownsRow B 3 1 v xs.length (vals xs)) : Reads w v xs := by
  rcases h.2 with ⟨rfl, h0⟩ | ⟨g, cap, cur, rfl, hg, r⟩
  · exact ⟨none, 0, by rw [h0], fun h => by omega⟩
  · have h0 := own_mono (Nat.zero_le _) h
    exact ⟨_, _, rfl, fun _ => ⟨g, 0, rfl, own_lt h0, fun k hk => by rw [Nat.zero_add]; exact own_cell h0 hk⟩⟩
theorem Reads.below {w w' : World} {v : Value} {xs : List Int} (h : Reads w v xs) (hb : Below w.heap.size w w') : Reads w' v xs := by
  obtain ⟨ad, c, hv, hr⟩ := h
  refine ⟨ad, c, hv, fun h0 => ?_⟩
  obtain ⟨b, off, he, hlt, hc⟩ := hr h0
  exact ⟨b, off, he, by have := hb.size; omega, fun k hk => by rw [hb.cell (p := ⟨b, off + k, none⟩) hlt]; exact hc k hk⟩

/-- The first k numbers are the same. -/
def sameTo (xs ys : List Int) (k : Nat) : Prop := ∀ j, j < k → wd xs j = wd ys j
theorem same_all {xs ys : List Int} (hl : xs.length = ys.length) (h : sameTo xs ys xs.length) : (xs == ys) = true := by
  rw [beq_iff_eq]
  apply List.ext_getElem hl
  intro j h1 h2
  have := h j h1
  simpa [wd, List.getElem?_eq_getElem h1, List.getElem?_eq_getElem h2] using this
theorem same_not {xs ys : List Int} {j : Nat} (h : wd xs j ≠ wd ys j) : (xs == ys) = false := by
  rw [beq_eq_false_iff_ne]
  intro e; rw [e] at h; exact h rfl

set_option maxHeartbeats 1000000 in
theorem ints_same (xs ys : List Int) (b off c b' off' c' : Nat) (w : World) (hl : xs.length = ys.length) (hm : xs.length ≤ 1000000)
    (hx : ∀ k, k < xs.length → w.cell? ⟨b, off + k, none⟩ = some (.int .i64 (wd xs k))) (hy : ∀ k, k < ys.length → w.cell? ⟨b', off' + k, none⟩ = some (.int .i64 (wd ys k))) :
    Calls Try.prog 14 #[.slice (some ⟨b, off, none⟩) xs.length c, .slice (some ⟨b', off', none⟩) ys.length c'] w fun e w' => e = .returned (.bool (xs == ys)) ∧ ∃ m, w' = w.drewN m := by
  generalize hB : (xs == ys) = B
  have HB : Hid ((xs == ys) = B) := hB
  clear hB
  rw [← hl]
  go_enter Try.func14, Try.ntmps14
  go_wp2
  go_loopw [5] (fun s wr => ∃ (k n : Nat), s = .int .i64 k ∧ k ≤ xs.length ∧ sameTo xs ys k ∧ wr = w.drewN n) (fun s _ => xs.length - (intOf s).toNat)
  case atStart => exact ⟨0, 0, rfl, Nat.zero_le _, fun j hj => by omega, rfl⟩
  case round =>
    obtain ⟨k, n, rfl, hk, hsame, rfl⟩ := hrel
    by_cases hlt : k < xs.length
    · have hcx := hx k hlt
      have hcy := hy k (by omega)
      have hik : (k : Int) < (xs.length : Int) := by omega
      have Hx : Hid (∀ k, k < xs.length → w.cell? ⟨b, off + k, none⟩ = some (.int .i64 (wd xs k))) := hx
      have Hy : Hid (∀ k, k < ys.length → w.cell? ⟨b', off' + k, none⟩ = some (.int .i64 (wd ys k))) := hy
      clear hx hy
      by_cases he : wd xs k = wd ys k
      · have heb : (wd xs k != wd ys k) = false := by simp [he]
        have He : Hid (wd xs k = wd ys k) := he
        clear he
        go_wp2_with fail
        go_quiet (fail)
        go_wp2_with fail
        go_roundw
        case rel => exact ⟨k + 1, _, by first | rfl | simp, by omega, fun j hj => by (rcases Nat.lt_succ_iff_lt_or_eq.1 hj with h | h; exact hsame j h; rw [h]; exact He.out), rfl⟩
        case measure => simp [intOf]; omega
      · have heb : (wd xs k != wd ys k) = true := by simpa using he
        have H : Hid (B = false) := by rw [← HB.out]; exact same_not he
        clear he
        go_wp2_with fail
        go_quiet (fail)
        go_wp2_with fail
        go_ret
        exact ⟨by rw [H.out]; rfl, _, World.drewN_drewN _ _ _⟩
    · have H : Hid (B = true) := by
        rw [← HB.out]
        exact same_all hl (fun j hj => hsame j (by omega))
      go_wp2_with fail
      go_ret
      exact ⟨by rw [H.out]; rfl, _, rfl⟩

theorem ints_differ (ad ad' : Option Addr) (n n' c c' : Nat) (w : World) (h : n ≠ n') :
    Calls Try.prog 14 #[.slice ad n c, .slice ad' n' c'] w fun e w' => e = .returned (.bool false) ∧ w' = w := by
  have hb : ((n : Int) != (n' : Int)) = true := by simp; omega
  go_enter Try.func14, Try.ntmps14
  go_wp2
  go_ret
  exact ⟨rfl, rfl⟩
theorem ints_none (ad ad' : Option Addr) (c c' : Nat) (w : World) :
    Calls Try.prog 14 #[.slice ad 0 c, .slice ad' 0 c'] w fun e w' => e = .returned (.bool true) ∧ w' = w := by
  go_enter Try.func14, Try.ntmps14
  go_wp2
  refine wp_loop_rounds 1 ?_
  rw [rounds_succ]
  go_wp2
  go_ret
  exact ⟨rfl, rfl⟩

/-- gessoref1.Ints. -/
theorem ints_any (xs ys : List Int) (v v' : Value) (w : World) (hx : Reads w v xs) (hy : Reads w v' ys) (hm : xs.length ≤ 1000000) :
    Calls Try.prog 14 #[v, v'] w fun e w' => e = .returned (.bool (xs == ys)) ∧ ∃ m, w' = w.drewN m := by
  obtain ⟨ad, c, rfl, hrx⟩ := hx
  obtain ⟨ad', c', rfl, hry⟩ := hy
  by_cases hl : xs.length = ys.length
  · by_cases h0 : 0 < xs.length
    · obtain ⟨b, off, rfl, _, hcx⟩ := hrx h0
      obtain ⟨b', off', rfl, _, hcy⟩ := hry (by omega)
      exact ints_same xs ys b off c b' off' c' w hl hm hcx hcy
    · have e1 : xs = [] := List.eq_nil_of_length_eq_zero (by omega)
      have e2 : ys = [] := List.eq_nil_of_length_eq_zero (by omega)
      subst e1 e2
      exact (ints_none ad ad' c c' w).mono fun e w' ⟨he, hw⟩ => ⟨he, 0, hw⟩
  · have e : (xs == ys) = false := by
      rw [beq_eq_false_iff_ne]; intro e; exact hl (by rw [e])
    rw [e]
    exact (ints_differ ad ad' _ _ c c' w hl).mono fun e w' ⟨he, hw⟩ => ⟨he, 0, hw⟩

theorem box_one {w wr : World} {a : Value} {t : TypeId} (hb : Below (w.alloc (.cells #[a] t)).heap.size (w.alloc (.cells #[a] t)) wr) : wr.cell? ⟨w.heap.size, 0, none⟩ = some a := by
  rw [hb.cell (p := ⟨w.heap.size, 0, none⟩) (by simp)]; simp

end Go.Proofs.Ythdhaokjibfjdaa
