/- Chapter 8, plain: what the loops of a scanner want. No Go in sight. -/
import Derived.Test.YtkmnlmoalobmjadDoorLexPlain
namespace Go.Proofs.YtkmnlmoalobmjadDoor

/-- Words, one by one. -/
theorem word_found {s : List Int} {j : Nat} (hj : j < 18) (h : wordsL.getD j [] = s) : wordB s = true := by
  unfold wordB
  rw [List.contains_iff_mem, ← h, List.getD_eq_getElem?_getD, List.getElem?_eq_getElem (show j < wordsL.length from hj)]
  exact List.getElem_mem _
theorem word_none {s : List Int} (h : ∀ j, j < 18 → wordsL.getD j [] ≠ s) : wordB s = false := by
  cases hw : wordB s with
  | false => rfl
  | true =>
    unfold wordB at hw
    obtain ⟨j, hj, e⟩ := List.mem_iff_getElem.1 (List.contains_iff_mem.1 hw)
    have hj' : j < 18 := hj
    refine absurd ?_ (h j hj')
    rw [List.getD_eq_getElem?_getD, List.getElem?_eq_getElem hj]
    exact e
/-- Signs of one byte, one by one. -/
theorem sign_found {b : Int} {j : Nat} (hj : j < 14) (h : signsL.getD j 0 = b) : signsL.contains b = true := by
  rw [List.contains_iff_mem, ← h, List.getD_eq_getElem?_getD, List.getElem?_eq_getElem (show j < signsL.length from hj)]
  exact List.getElem_mem _
theorem sign_none {b : Int} (h : ∀ j, j < 14 → signsL.getD j 0 ≠ b) : signsL.contains b = false := by
  cases hw : signsL.contains b with
  | false => rfl
  | true =>
    obtain ⟨j, hj, e⟩ := List.mem_iff_getElem.1 (List.contains_iff_mem.1 hw)
    have hj' : j < 14 := hj
    refine absurd ?_ (h j hj')
    rw [List.getD_eq_getElem?_getD, List.getElem?_eq_getElem hj]
    exact e
/-- The sign at a place is the one that the rest begins with. -/
theorem sign_tail {T : List Int} {i : Nat} (h : i < T.length) : signLen (piece T i T.length) 0 = signLen T i := by
  have hl := piece_length (T := T) (i := i) (Nat.le_refl T.length)
  have e0 : wd (piece T i T.length) 0 = wd T i := by rw [piece_at (by omega), Nat.add_zero]
  unfold signLen
  rw [e0, hl]
  by_cases h1 : i + 1 < T.length
  · have e1 : wd (piece T i T.length) (0 + 1) = wd T (i + 1) := by rw [Nat.zero_add, piece_at (by omega)]
    rw [e1]
    by_cases h2 : wd T i = 61 ∧ wd T (i + 1) = 61
    · rw [if_pos ⟨by omega, h2⟩, if_pos ⟨h1, h2⟩]
    · rw [if_neg (c := 0 + 1 < T.length - i ∧ wd T i = 61 ∧ wd T (i + 1) = 61) fun h => h2 h.2, if_neg (c := i + 1 < T.length ∧ wd T i = 61 ∧ wd T (i + 1) = 61) fun h => h2 h.2]
  · rw [if_neg (c := 0 + 1 < T.length - i ∧ wd T i = 61 ∧ wd (piece T i T.length) (0 + 1) = 61) (fun h => by omega), if_neg (c := i + 1 < T.length ∧ wd T i = 61 ∧ wd T (i + 1) = 61) (fun h => h1 h.1)]
theorem sign_le (T : List Int) (i : Nat) : signLen T i ≤ 2 := by
  unfold signLen
  split
  · omega
  · split <;> omega
theorem sign_in {T : List Int} {i : Nat} (h : i < T.length) : i + signLen T i ≤ T.length := by
  unfold signLen
  split
  · omega
  · split <;> omega
/-- A place of a loop: all before it is so. -/
def Upto (p : Int → Bool) (T : List Int) (i k : Nat) : Prop := i ≤ k ∧ k ≤ T.length ∧ ∀ j, i ≤ j → j < k → p (wd T j) = true
theorem upto_first {p : Int → Bool} {T : List Int} {i : Nat} (h : i ≤ T.length) : Upto p T i i := ⟨Nat.le_refl _, h, fun j h1 h2 => by omega⟩
theorem Upto.step {p : Int → Bool} {T : List Int} {i k : Nat} (h : Upto p T i k) (hk : k < T.length) (hp : p (wd T k) = true) : Upto p T i (k + 1) :=
  ⟨by have := h.1; omega, hk, fun j h1 h2 => by
    by_cases hj : j = k
    · rw [hj]; exact hp
    · exact h.2.2 j h1 (by omega)⟩
theorem Upto.stop {p : Int → Bool} {T : List Int} {i k : Nat} (h : Upto p T i k) (he : ¬ k < T.length ∨ p (wd T k) = false) : stopP p T i = k := by
  refine stop_eq h.2.1 h.1 h.2.2 ?_
  rcases he with he | he
  · exact Or.inl (by have := h.2.1; omega)
  · exact Or.inr he
/-- A token more than the text has bytes there never is. -/
theorem scanN_few {T : List Int} : ∀ (m i : Nat) (l : List Tok), scanN T m i = .ok l → l.length ≤ T.length - i
  | 0, i, l, h => by unfold scanN at h; cases h; simp
  | m + 1, i, l, h => by
    unfold scanN at h
    split at h
    · rename_i hi
      have hf := come_fits hi
      cases hc : comeP T i with
      | skip k =>
        rw [hc] at h hf
        have := scanN_few m k l h
        have := hf.1
        omega
      | tok t k =>
        rw [hc] at h hf
        simp only at h
        cases hs : scanN T m k with
        | error e => rw [hs] at h; cases h
        | ok l' =>
          rw [hs] at h
          cases h
          have := scanN_few m k l' hs
          have := hf.1
          have := hf.2
          rw [List.length_cons]
          omega
      | bad c a => rw [hc] at h; cases h
    · cases h
      simp
theorem scan_few {T : List Int} {l : List Tok} (h : scanP T = .ok l) : l.length ≤ T.length ∧ T.length ≤ 4000 := by
  unfold scanP at h
  split at h
  · cases h
  · have := scanN_few _ _ _ h
    exact ⟨by omega, by omega⟩
end Go.Proofs.YtkmnlmoalobmjadDoor
