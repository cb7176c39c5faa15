/- What NamesOnce asks ahead of all: a small table, one text in it; and words that come out of Intern. -/
import Derived.Test.YtmgmbgacdjebgaaNAnswers
import Derived.Test.YtmgmbgacdjebgaaNAll
namespace Go.Proofs.Ytmgmbgacdjebgaa
open Go.RowKit

theorem two_check : (checkOf [0, 1]).1 = 0 := by
  have hf : frontOf [0, 1] = (0, 0) := front_ok (by simp) (by decide) (by decide)
  have hu : unfit [0, 1] 2 = none := unfit_end (by simp)
  have hp : places [0, 1] 2 = [] := places_end (by simp)
  rw [check_things (by rw [hf]) hu, hp]
  rfl
/-- A table of two slots. -/
def ex0 : List Int := moreW [0, 1] 0 0 2
/-- With one text. -/
def ex1 : List Int := internW ex0 2 1 [97]
theorem ex0_more : OneMore [0, 1] ex0 0 0 2 := moreW_more [0, 1] 0 0 2 (by simp)
theorem ex0_check : (checkOf ex0).1 = 0 := ex0_more.may two_check (by unfold nilB; rfl) (by omega) (by omega) (by simp) (by decide)
theorem ex0_places : places ex0 2 = [2] := by
  obtain ⟨m1, _⟩ := ex0_more.places two_check (by omega) (by omega)
  rw [m1, places_end (by simp)]
  rfl
theorem ex0_table : tableB ex0 (2 * ((2 : Nat) : Int)) = true := by
  have hu := (check_ok ex0_check).2
  have ht : thingB ex0 (2 * ((2 : Nat) : Int)) = true := by
    unfold thingB beginB
    simp only [Bool.and_eq_true, beq_iff_eq, List.contains_iff_mem]
    refine ⟨kind_even (by omega) (by omega), ?_⟩
    rw [ex0_places]
    simp
  refine table_mk hu ht (by rw [begP_ref]; decide) (by rw [begP_ref]; decide) fun j hj => ?_
  rw [begP_ref] at hj ⊢
  have h2 : slotsAt ex0 2 = 2 := by decide
  rw [h2] at hj
  rcases (by omega : j = 0 ∨ j = 1) with rfl | rfl <;> exact Or.inl (by decide)
theorem ex_intern : internP ex0 (2 * ((2 : Nat) : Int)) [97] = (ex1, 14, 0) := by decide
theorem ex1_ok : (checkOf ex1).1 = 0 ∧ tableB ex1 (2 * ((2 : Nat) : Int)) = true := by
  obtain ⟨h1, h2, _⟩ := intern_ok ex0_check ex0_table (by simp) (by simp) ex_intern
  exact ⟨h1, h2⟩
theorem ex1_all : allP ex1 2 = [[97]] := by decide
theorem ex0_len : ex0.length = 7 := by decide
theorem ex1_len : ex1.length = 11 := by decide
theorem ex_nums : nums ⟨#[97]⟩ = [97] := by decide
theorem ex0_wf (k : Nat) : (Lit.int .i64 (wd ex0 k)).wf = true := wd_in (P := fun x => (Lit.int .i64 x).wf = true) (by decide) (fun x hx => by
  have : x ∈ [0, 2, 0, 1, 8, 0, 0] := hx
  simp at this
  exact small_wf x (by omega) (by omega)) k
theorem ex1_wf (k : Nat) : (Lit.int .i64 (wd ex1 k)).wf = true := wd_in (P := fun x => (Lit.int .i64 x).wf = true) (by decide) (fun x hx => by
  have : x ∈ [0, 3, 0, 1, 8, 0, 14, 0, 2, 5, 97] := hx
  simp at this
  exact small_wf x (by omega) (by omega)) k
theorem row_two (w : World) : Row (w.alloc (.cells #[.int .i64 0, .int .i64 1] 3)) w.heap.size 0 [0, 1] := by
  refine ⟨by simp, fun k hk => ?_, fun k => wd_in (P := fun x => (Lit.int .i64 x).wf = true) (by decide) (by simp; decide) k⟩
  rw [Nat.zero_add, cell_at2 rfl]
  have : k = 0 ∨ k = 1 := by simp at hk; omega
  rcases this with rfl | rfl <;> rfl
theorem new_ex0 : newWords [0, 1] 0 0 ((2 : Nat) : Int) = ex0 := new_more [0, 1] 0 0 2

/-- Words that come out of Intern fit. -/
theorem intern_wf {W K T : List Int} {o a : Int} (hc : (checkOf W).1 = 0) (hw : ∀ k, (Lit.int .i64 (wd W k)).wf = true) (hT : ∀ c ∈ T, 0 ≤ c ∧ c ≤ 255) (hl : T.length ≤ 60) (h : internP W o T = (K, a, 0)) : ∀ k, (Lit.int .i64 (wd K k)).wf = true := by
  obtain ⟨f1, f2, f3, f4, f5⟩ := front_out (check_ok hc).1
  unfold internP at h
  cases hs : seatP W (begP o) T with
  | none => rw [hs] at h; simp at h
  | some k =>
    rw [hs] at h
    simp only at h
    split at h
    · split at h
      · simp at h
      · simp only [Prod.mk.injEq, and_true] at h
        rw [← h.1, intern_text]
        refine wd_in (P := fun x => (Lit.int .i64 x).wf = true) (by decide) (set_in (in_wd (P := fun x => (Lit.int .i64 x).wf = true) (text_wf hw hT hl (by omega) f5)) (small_wf _ (by omega) (by omega)))
    · simp only [Prod.mk.injEq, and_true] at h
      rw [← h.1]; exact hw
theorem intern_pos {W K T : List Int} {o a : Int} (h2 : 2 ≤ W.length) (h : internP W o T = (K, a, 0)) : 0 < K.length := by
  unfold internP at h
  cases hs : seatP W (begP o) T with
  | none => rw [hs] at h; simp at h
  | some k =>
    rw [hs] at h
    simp only at h
    split at h
    · split at h
      · simp at h
      · simp only [Prod.mk.injEq, and_true] at h
        rw [← h.1, intern_text, List.length_set, textW_length]; omega
    · simp only [Prod.mk.injEq, and_true] at h
      rw [← h.1]; omega
end Go.Proofs.Ytmgmbgacdjebgaa
