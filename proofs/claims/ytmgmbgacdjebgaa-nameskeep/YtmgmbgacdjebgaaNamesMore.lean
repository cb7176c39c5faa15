/- More of chapter 7, plain: seats that are looked for one by one, sums and texts that grow. -/
import Derived.Test.YtmgmbgacdjebgaaNamesPlain
namespace Go.Proofs.Ytmgmbgacdjebgaa

theorem seat_none {W : List Int} {p : Nat} {T : List Int} {n s : Nat} : ∀ (m i : Nat), (∀ j, i ≤ j → j < i + m → hitB W p T ((s + j) % n) = false) → seatFrom W p T n s i m = none
  | 0, _, _ => rfl
  | m + 1, i, h => by
    rw [seat_next (h i (Nat.le_refl _) (by omega))]
    exact seat_none m (i + 1) fun j h1 h2 => h j (by omega) (by omega)
theorem seat_some {W : List Int} {p : Nat} {T : List Int} {n s k : Nat} (hk : hitB W p T ((s + k) % n) = true) : ∀ (m i : Nat), i ≤ k → k < i + m → (∀ j, i ≤ j → j < k → hitB W p T ((s + j) % n) = false) → seatFrom W p T n s i m = some ((s + k) % n)
  | 0, i, h1, h2, _ => by omega
  | m + 1, i, h1, h2, h => by
    by_cases he : i = k
    · subst he; rw [seat_yes hk]
    · rw [seat_next (h i (Nat.le_refl _) (by omega))]
      exact seat_some hk m (i + 1) (by omega) (by omega) fun j h3 h4 => h j (by omega) h4
/-- A seat as a number: -1 if there is none. -/
def seatI : Option Nat → Int
  | none => -1
  | some k => (k : Int)
/-- None of the first k slots that one looks at stops. -/
def noneTo (W : List Int) (p : Nat) (T : List Int) (n s k : Nat) : Prop := ∀ j, j < k → hitB W p T ((s + j) % n) = false
theorem noneTo_zero (W : List Int) (p : Nat) (T : List Int) (n s : Nat) : noneTo W p T n s 0 := fun j h => by omega
theorem noneTo_next {W : List Int} {p : Nat} {T : List Int} {n s k : Nat} (h : noneTo W p T n s k) (hk : hitB W p T ((s + k) % n) = false) : noneTo W p T n s (k + 1) := fun j hj => by
  by_cases he : j = k
  · subst he; exact hk
  · exact h j (by omega)
theorem seat_all {W : List Int} {p : Nat} {T : List Int} {s : Nat} (hs : T.sum.toNat = s) (h : noneTo W p T (slotsAt W p) s (slotsAt W p)) : seatP W p T = none := by
  unfold seatP
  rw [hs]
  exact seat_none _ _ fun j _ hj => h j (by omega)
theorem seat_at {W : List Int} {p : Nat} {T : List Int} {s k : Nat} (hs : T.sum.toNat = s) (hk : k < slotsAt W p) (h : noneTo W p T (slotsAt W p) s k) (hh : hitB W p T ((s + k) % slotsAt W p) = true) : seatP W p T = some ((s + k) % slotsAt W p) := by
  unfold seatP
  rw [hs]
  exact seat_some hh _ _ (Nat.zero_le _) (by omega) fun j _ hj => h j hj

theorem sum_take {T : List Int} {i : Nat} (h : i < T.length) : (T.take (i + 1)).sum = (T.take i).sum + wd T i := by
  rw [List.take_add_one, List.getElem?_eq_getElem h, List.sum_append]
  unfold wd
  rw [List.getD_eq_getElem?_getD, List.getElem?_eq_getElem h]
  simp
theorem sum_to {T : List Int} (h : ∀ c ∈ T, 0 ≤ c ∧ c ≤ 255) (hl : T.length ≤ 60) (i : Nat) : 0 ≤ (T.take i).sum ∧ (T.take i).sum ≤ 15300 := by
  have := sum_small (T.take i) fun c hc => h c (List.mem_of_mem_take hc)
  have hl : (T.take i).length ≤ 60 := by rw [List.length_take]; omega
  omega

/-- The texts of the first i slots. -/
def allTo (W : List Int) (p i : Nat) : List (List Int) := (((textP W p).take i).filter (fun x => x != 0)).map fun x => textP W (begP x)
theorem allTo_zero (W : List Int) (p : Nat) : allTo W p 0 = [] := by unfold allTo; simp
theorem allTo_all {W : List Int} {p i : Nat} (h : (textP W p).length ≤ i) : allTo W p i = allP W p := by
  unfold allTo allP; rw [List.take_of_length_le h]
theorem allTo_next {W : List Int} {p i : Nat} (h : i < (textP W p).length) (h0 : wd (textP W p) i ≠ 0) : allTo W p (i + 1) = allTo W p i ++ [textP W (begP (wd (textP W p) i))] := by
  have e : (textP W p)[i] = wd (textP W p) i := by unfold wd; rw [List.getD_eq_getElem?_getD, List.getElem?_eq_getElem h]; rfl
  unfold allTo
  rw [List.take_add_one, List.getElem?_eq_getElem h, e, List.filter_append, List.map_append]
  simp [h0]
theorem allTo_skip {W : List Int} {p i : Nat} (h : i < (textP W p).length) (h0 : wd (textP W p) i = 0) : allTo W p (i + 1) = allTo W p i := by
  have e : (textP W p)[i] = wd (textP W p) i := by unfold wd; rw [List.getD_eq_getElem?_getD, List.getElem?_eq_getElem h]; rfl
  unfold allTo
  rw [List.take_add_one, List.getElem?_eq_getElem h, e, List.filter_append, List.map_append]
  simp [h0]
theorem allTo_length (W : List Int) (p i : Nat) : (allTo W p i).length ≤ i := by
  unfold allTo
  rw [List.length_map]
  refine Nat.le_trans (List.length_filter_le _ _) ?_
  rw [List.length_take]; omega

/-- A thing's bytes. -/
theorem text_byte {W : List Int} {o : Int} (hc : (checkOf W).1 = 0) (h : bytesB W o = true) : (∀ c ∈ textP W (begP o), 0 ≤ c ∧ c ≤ 255) ∧ (textP W (begP o)).length = slotsAt W (begP o) ∧ slotsAt W (begP o) ≤ 60 := by
  obtain ⟨b0, b1, b2⟩ := bytes_out h
  obtain ⟨c1, c2, c3⟩ := check_fine hc
  have hf := fits_out (place_fit c2 b1).2.2.1
  have hl := text_length hf.2.2.2.2
  have hb := (fault_all _ _ c3 _ b1).2.1
  rw [b2] at hb
  refine ⟨fun c hc => ?_, hl, by unfold slotsAt; omega⟩
  obtain ⟨j, hj, rfl⟩ := List.getElem_of_mem hc
  have hj' : j < slotsAt W (begP o) := by omega
  have hs := (bad_none _ _).1 hb j hj'
  unfold standB at hs
  rw [if_pos rfl] at hs
  have e := text_at hj'
  unfold wd at e hs
  rw [List.getD_eq_getElem?_getD, List.getElem?_eq_getElem hj] at e
  have e' : (textP W (begP o))[j] = W.getD (begP o + 3 + j) 0 := e
  rw [e']
  exact of_decide_eq_true hs
end Go.Proofs.Ytmgmbgacdjebgaa
