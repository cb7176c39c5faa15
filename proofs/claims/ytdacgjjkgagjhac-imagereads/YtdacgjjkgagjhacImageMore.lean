/- Images of heaps that may be: what Read tells of bytes, and that Write and Read undo each other. No Go in sight. -/
import Derived.Test.YtdacgjjkgagjhacImagePlain
import Derived.Test.YtdacgjjkgagjhacMovePlain
import Derived.Test.YtdacgjjkgagjhacLawKit
namespace Go.Proofs.Ytdacgjjkgagjhac

theorem ok_mild {W : List Int} {x : Int} (h : okRef W x) : Mild x := by
  unfold okRef nilB at h
  unfold Mild
  simp only [Bool.or_eq_true, beq_iff_eq] at h
  rcases h with h | h | h
  · unfold kindOf at h
    by_cases h0 : x = 0
    · omega
    · rw [if_neg h0] at h
      by_cases hs : smallB x = true
      · have := small_out hs; omega
      · rw [if_neg hs] at h; split at h <;> omega
  · unfold kindOf at h
    by_cases h0 : x = 0
    · omega
    · rw [if_neg h0] at h
      by_cases hs : smallB x = true
      · rw [if_pos hs] at h; omega
      · rw [if_neg hs] at h; split at h <;> omega
  · have := kind3 (thing_out h).1; omega
theorem words_mild {W : List Int} (h : (checkOf W).1 = 0) : ∀ x ∈ W, Mild x := by
  obtain ⟨c1, hu, c3⟩ := check_fine h
  obtain ⟨f1, f2, f3, f4, f5⟩ := front_out c1
  have F := fine_of h
  have e : W = wd W 0 :: wd W 1 :: (places W 2).flatMap (thingW id W) := by
    rw [flat_same (t := id) (fun _ => rfl) _ 2 (Nat.le_refl _) f1 hu, ← drop_wd (show 1 < W.length by omega), ← drop_wd (show 0 < W.length by omega), List.drop_zero]
  intro x hx
  rw [e] at hx
  unfold Mild
  rcases List.mem_cons.1 hx with rfl | hx
  · omega
  rcases List.mem_cons.1 hx with rfl | hx
  · omega
  obtain ⟨p, hp, hx⟩ := List.mem_flatMap.1 hx
  obtain ⟨a1, a2, a3, a4, a5⟩ := fault_all _ _ c3 p hp
  have hfo := fits_out (place_fit hu hp).2.2.1
  unfold thingW at hx
  rcases List.mem_cons.1 hx with rfl | hx
  · exact ok_mild (F.cls p hp)
  rcases List.mem_cons.1 hx with rfl | hx
  · omega
  rcases List.mem_cons.1 hx with rfl | hx
  · omega
  rw [slotsW_same (t := id) (fun _ => rfl)] at hx
  obtain ⟨k, hk, rfl⟩ := wd_index hx
  rw [slotList_length (F.room p hp)] at hk
  rw [slotList_at hk]
  have hst := (bad_none _ _).1 a2 k hk
  unfold standB at hst
  split at hst
  · have := of_decide_eq_true hst; omega
  · exact ok_mild hst
/-- What Read tells of bytes. -/
def readP (b : List Int) : Except (Int × Int) (List Int × List Int) :=
  if (0 < b.length ∧ wd b 0 ≠ 71) ∨ (1 < b.length ∧ wd b 1 ≠ 69) then .error (2, 0)
  else if b.length < 2 then .error (8, (b.length : Int))
  else match listAt b 2 2 2000 with
    | .error e => .error e
    | .ok (W, p) => match listAt b p 0 600 with
      | .error e => .error e
      | .ok (R, q) => if q < b.length then .error (9, (q : Int)) else if (rootsOf W R).1 = 0 then .ok (W, R) else .error (rootsOf W R)
/-- What was written is read as it was. -/
theorem read_image {W R : List Int} (h : (rootsOf W R).1 = 0) (hR : R.length ≤ 600) : readP (imageB W R) = .ok (W, R) := by
  obtain ⟨hc, _, _⟩ := roots_zero h
  obtain ⟨f1, f2, _⟩ := front_out (check_fine hc).1
  have hw : ∀ x ∈ W, fitN x := fun x hx => (words_mild hc x hx).fit
  have hr : ∀ x ∈ R, fitN x := fun x hx => (ok_mild (ok_rootsOf h x hx)).fit
  have hnW : fitN W.length := Mild.fit ⟨by omega, by omega⟩
  have hnR : fitN R.length := Mild.fit ⟨by omega, by omega⟩
  have e1 := listAt_enc (pre := [71, 69]) (post := listB R) (least := 2) (most := 2000) hw hnW (by omega) (by omega)
  have e2 := listAt_enc (pre := [71, 69] ++ listB W) (post := []) (least := 0) (most := 600) hr hnR (by omega) (by omega)
  have i1 : imageB W R = [71, 69] ++ listB W ++ listB R := by unfold imageB; simp
  have i2 : imageB W R = [71, 69] ++ listB W ++ listB R ++ [] := by rw [i1]; simp
  have hl : ¬ (imageB W R).length < 2 := by unfold imageB; simp
  unfold readP
  rw [if_neg (by unfold imageB; rintro (⟨_, h⟩ | ⟨_, h⟩); exact h rfl; exact h rfl), if_neg hl]
  have l1 : listAt (imageB W R) 2 2 2000 = .ok (W, 2 + (listB W).length) := by rw [i1]; exact e1
  have l2 : listAt (imageB W R) (2 + (listB W).length) 0 600 = .ok (R, 2 + (listB W).length + (listB R).length) := by
    rw [i2]
    have := e2
    rw [show ([71, 69] ++ listB W : List Int).length = 2 + (listB W).length by simp; omega] at this
    exact this
  rw [l1]
  simp only [l2]
  rw [if_neg (by unfold imageB; simp; omega), if_pos h]
/-- What was read is written as it was. -/
theorem image_read {b W R : List Int} (hb : ∀ c ∈ b, 0 ≤ c ∧ c ≤ 255) (h : readP b = .ok (W, R)) : imageB W R = b ∧ (rootsOf W R).1 = 0 ∧ R.length ≤ 600 := by
  unfold readP at h
  by_cases h0 : (0 < b.length ∧ wd b 0 ≠ 71) ∨ (1 < b.length ∧ wd b 1 ≠ 69)
  · rw [if_pos h0] at h; cases h
  rw [if_neg h0] at h
  by_cases h1 : b.length < 2
  · rw [if_pos h1] at h; cases h
  rw [if_neg h1] at h
  cases l1 : listAt b 2 2 2000 with
  | error e => rw [l1] at h; cases h
  | ok Wp =>
    obtain ⟨W', p⟩ := Wp
    rw [l1] at h
    simp only at h
    cases l2 : listAt b p 0 600 with
    | error e => rw [l2] at h; cases h
    | ok Rq =>
      obtain ⟨R', q⟩ := Rq
      rw [l2] at h
      simp only at h
      by_cases h2 : q < b.length
      · rw [if_pos h2] at h; cases h
      rw [if_neg h2] at h
      by_cases h3 : (rootsOf W' R').1 = 0
      · rw [if_pos h3] at h
        simp only [Except.ok.injEq, Prod.mk.injEq] at h
        obtain ⟨rfl, rfl⟩ := h
        obtain ⟨a1, a2, a3, _, _, _⟩ := listAt_out hb (by omega) l1
        obtain ⟨b1, b2, b3, _, _, b6⟩ := listAt_out hb (by omega) l2
        refine ⟨?_, h3, by omega⟩
        have hq : q = b.length := by omega
        have d0 : b = wd b 0 :: wd b 1 :: b.drop 2 := by rw [← drop_wd (show 1 < b.length by omega), ← drop_wd (show 0 < b.length by omega), List.drop_zero]
        have w0 : wd b 0 = 71 := Classical.byContradiction fun e => h0 (Or.inl ⟨by omega, e⟩)
        have w1 : wd b 1 = 69 := Classical.byContradiction fun e => h0 (Or.inr ⟨by omega, e⟩)
        unfold imageB
        rw [← a1, ← b1]
        have e1 : b.drop p = (b.drop 2).drop (p - 2) := by rw [List.drop_drop]; congr 1; omega
        have e2 : (b.drop p).take (q - p) = b.drop p := List.take_of_length_le (by simp; omega)
        rw [e2, e1, List.take_append_drop]
        conv => rhs; rw [d0, w0, w1]
      · rw [if_neg h3] at h; cases h
theorem numB_bytes (n : Int) : ∀ c ∈ numB n, 0 ≤ c ∧ c ≤ 255 := enc_bytes _
theorem image_bytes (W R : List Int) : ∀ c ∈ imageB W R, 0 ≤ c ∧ c ≤ 255 := by
  have hl : ∀ l : List Int, ∀ c ∈ listB l, 0 ≤ c ∧ c ≤ 255 := fun l c hc => by
    unfold listB at hc
    rcases List.mem_append.1 hc with hc | hc
    · exact numB_bytes _ c hc
    · obtain ⟨x, _, hc⟩ := List.mem_flatMap.1 hc
      exact numB_bytes x c hc
  intro c hc
  unfold imageB at hc
  rcases List.mem_cons.1 hc with rfl | hc
  · omega
  rcases List.mem_cons.1 hc with rfl | hc
  · omega
  rcases List.mem_append.1 hc with hc | hc
  · exact hl _ c hc
  · exact hl _ c hc
end Go.Proofs.Ytdacgjjkgagjhac
