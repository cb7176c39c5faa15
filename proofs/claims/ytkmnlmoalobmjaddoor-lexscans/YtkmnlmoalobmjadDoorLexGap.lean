/- Chapter 8, plain: what lies between tokens, taken as a whole. No Go in sight. -/
import Derived.Test.YtkmnlmoalobmjadDoorLexMore
namespace Go.Proofs.YtkmnlmoalobmjadDoor

/-- From i on the same comes as from k on: just blanks and notes lie between. -/
def Gap (T : List Int) (i k : Nat) : Prop := i ≤ k ∧ k ≤ T.length ∧ scanFrom T i = scanFrom T k
theorem gap_first {T : List Int} {i : Nat} (h : i ≤ T.length) : Gap T i i := ⟨Nat.le_refl _, h, rfl⟩
theorem Gap.trans {T : List Int} {i k m : Nat} (h : Gap T i k) (h' : Gap T k m) : Gap T i m :=
  ⟨Nat.le_trans h.1 h'.1, h'.2.1, h.2.2.trans h'.2.2⟩
theorem gap_upto {T : List Int} : ∀ (d i k : Nat), k - i ≤ d → Upto blankB T i k → Gap T i k
  | 0, i, k, h, hu => by
    obtain rfl : i = k := by have := hu.1; omega
    exact gap_first hu.2.1
  | d + 1, i, k, h, hu => by
    by_cases hi : i = k
    · subst hi; exact gap_first hu.2.1
    · have h1 := hu.1
      have h2 := hu.2.1
      have hb : blankB (wd T i) = true := hu.2.2 i (Nat.le_refl _) (by omega)
      obtain ⟨g1, g2, g3⟩ := gap_upto d (i + 1) k (by omega) ⟨by omega, h2, fun j h3 h4 => hu.2.2 j (by omega) h4⟩
      refine ⟨h1, h2, ?_⟩
      rw [scan_come (by omega), come_blank hb]
      exact g3
theorem stop_upto (p : Int → Bool) {T : List Int} {i : Nat} (h : i ≤ T.length) : Upto p T i (stopP p T i) := by
  refine ⟨stop_ge p T i, stop_le h, ?_⟩
  have key : ∀ (d i : Nat), T.length - i ≤ d → ∀ j, i ≤ j → j < stopP p T i → p (wd T j) = true := by
    intro d
    induction d with
    | zero =>
      intro i hd j h1 h2
      rw [stop_end (by omega)] at h2
      omega
    | succ d ih =>
      intro i hd j h1 h2
      by_cases hi : i < T.length
      · cases hp : p (wd T i) with
        | false => rw [stop_no hp] at h2; omega
        | true =>
          by_cases hj : j = i
          · rw [hj]; exact hp
          · rw [stop_yes hi hp] at h2
            exact ih (i + 1) (by omega) j (by omega) h2
      · rw [stop_end (by omega)] at h2; omega
  exact key _ i (Nat.le_refl _)
theorem stop_not {p : Int → Bool} {T : List Int} : ∀ (d i : Nat), T.length - i ≤ d → stopP p T i < T.length → p (wd T (stopP p T i)) = false
  | 0, i, hd, h => by have := stop_ge p T i; omega
  | d + 1, i, hd, h => by
    by_cases hi : i < T.length
    · cases hp : p (wd T i) with
      | false => rw [stop_no hp]; exact hp
      | true =>
        rw [stop_yes hi hp] at h ⊢
        exact stop_not d (i + 1) (by omega) h
    · have := stop_ge p T i; omega
theorem gap_blanks {T : List Int} {i : Nat} (h : i ≤ T.length) : Gap T i (stopP blankB T i) := gap_upto _ i _ (Nat.le_refl _) (stop_upto _ h)
theorem gap_note {T : List Int} {i : Nat} (h : i < T.length) (h35 : wd T i = 35) : Gap T i (stopP noteB T i) := by
  refine ⟨stop_ge _ _ _, stop_le (by omega), ?_⟩
  rw [scan_come h, come_note (by rw [h35]; decide) h35]
theorem note_more {T : List Int} {i : Nat} (h : i < T.length) (h35 : wd T i = 35) : i < stopP noteB T i := by
  rw [stop_yes h (by rw [h35]; decide)]
  have := stop_ge noteB T (i + 1)
  omega
/-- A place where a token begins, or the end. -/
def Bare (T : List Int) (k : Nat) : Prop := k < T.length → blankB (wd T k) = false ∧ wd T k ≠ 35
theorem Sofar.gap {T : List Int} {acc : List Tok} {i k : Nat} (h : Sofar T acc i) (hg : Gap T i k) : Sofar T acc k := ⟨hg.2.1, by rw [h.2, hg.2.2]⟩
/-- Something stands ahead of which letters go on. -/
theorem behind_is {T : List Int} {k : Nat} (h : k ≤ T.length) : decide (0 < stopP letB (piece T k T.length) 0) = (decide (k < T.length) && letB (wd T k)) := by
  have hl := piece_length (T := T) (i := k) (Nat.le_refl T.length)
  by_cases hk : k < T.length
  · have e : wd (piece T k T.length) 0 = wd T k := by rw [piece_at (by omega), Nat.add_zero]
    rw [decide_eq_true hk, Bool.true_and]
    cases hb : letB (wd T k) with
    | false => rw [stop_no (by rw [e]; exact hb)]; rfl
    | true =>
      rw [stop_yes (by omega) (by rw [e]; exact hb)]
      have := stop_ge letB (piece T k T.length) (0 + 1)
      exact decide_eq_true (by omega)
  · rw [stop_end (by omega), decide_eq_false hk]; rfl
theorem decU_piece {T : List Int} {i k : Nat} : ∀ m, m ≤ k - i → decU (piece T i k) 0 m = decU T i m
  | 0, _ => rfl
  | m + 1, h => by
    unfold decU
    rw [decU_piece m (by omega), Nat.zero_add, piece_at (by omega)]
end Go.Proofs.YtkmnlmoalobmjadDoor
