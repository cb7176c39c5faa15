/- What chapter 7 says of tables of texts, as plain functions on lists of numbers, and what is true of them. No Go in sight. -/
import Derived.Test.YtmgmbgacdjebgaaKeepPlain
namespace Go.Proofs.Ytmgmbgacdjebgaa

/-- The words of a heap with a thing more at its end. -/
def moreW (W : List Int) (cl fo : Int) (m : Nat) : List Int := (W ++ [cl, wd W 1, 4 * (m : Int) + fo] ++ List.replicate m 0).set 1 (wd W 1 + 1)
theorem moreW_length (W : List Int) (cl fo : Int) (m : Nat) : (moreW W cl fo m).length = W.length + 3 + m := by
  unfold moreW; simp; omega
theorem moreW_more (W : List Int) (cl fo : Int) (m : Nat) (h : 2 ≤ W.length) : OneMore W (moreW W cl fo m) cl fo m := by
  have hl : 1 < (W ++ [cl, wd W 1, 4 * (m : Int) + fo] ++ List.replicate m 0).length := by simp; omega
  have e : moreW W cl fo m = (W ++ [cl, wd W 1, 4 * (m : Int) + fo] ++ List.replicate m 0).set 1 (wd W 1 + 1) := rfl
  have A : ∀ i, i < 3 → wd (W ++ [cl, wd W 1, 4 * (m : Int) + fo] ++ List.replicate m 0) (W.length + i) = wd [cl, wd W 1, 4 * (m : Int) + fo] i := fun i hi => by
    unfold wd
    rw [List.getD_eq_getElem?_getD, List.getElem?_append_left (by simp; omega), List.getElem?_append_right (by omega), Nat.add_sub_cancel_left]
    simp [List.getD_eq_getElem?_getD]
  refine ⟨moreW_length W cl fo m, fun i hi h1 => ?_, ?_, ?_, ?_, ?_, fun j hj => ?_⟩
  · rw [e, wd_set_other (by omega)]
    unfold wd
    rw [List.getD_eq_getElem?_getD, List.getElem?_append_left (by simp; omega), List.getElem?_append_left hi, List.getD_eq_getElem?_getD]
  · rw [e, wd_set_same hl]
  · rw [e, wd_set_other (by omega)]; exact A 0 (by omega)
  · rw [e, wd_set_other (by omega)]; exact A 1 (by omega)
  · rw [e, wd_set_other (by omega)]; exact A 2 (by omega)
  · rw [e, wd_set_other (by omega)]
    unfold wd
    rw [List.getD_eq_getElem?_getD, List.getElem?_append_right (by simp <;> omega)]
    have : W.length + 3 + j - (W ++ [cl, W.getD 1 0, 4 * (m : Int) + fo]).length = j := by simp <;> omega
    rw [this, List.getElem?_replicate, if_pos hj]; rfl

theorem kind_even {p : Nat} (h : 2 ≤ p) (h' : p ≤ 1999) : kindOf (2 * (p : Int)) = 3 := by
  unfold kindOf smallB
  rw [if_neg (by omega), if_neg (by simp), if_pos (by omega)]
/-- Where the thing of a reference begins. -/
def begP (o : Int) : Nat := (o / 2).toNat
theorem begP_ref (p : Nat) : begP (2 * (p : Int)) = p := by unfold begP; omega
/-- The slots of the thing at p, in a row. -/
def textP (W : List Int) (p : Nat) : List Int := (W.drop (p + 3)).take (slotsAt W p)
theorem text_length {W : List Int} {p : Nat} (h : p + 3 + slotsAt W p ≤ W.length) : (textP W p).length = slotsAt W p := by
  unfold textP; rw [List.length_take, List.length_drop]; omega
theorem text_at {W : List Int} {p k : Nat} (hk : k < slotsAt W p) : wd (textP W p) k = wd W (p + 3 + k) := by
  unfold textP wd; rw [List.getD_eq_getElem?_getD, List.getD_eq_getElem?_getD, List.getElem?_take, if_pos hk, List.getElem?_drop]
theorem eq_of_wd {l m : List Int} (h : l.length = m.length) (hw : ∀ j, j < l.length → wd l j = wd m j) : l = m := by
  refine List.ext_getElem h fun j h1 h2 => ?_
  have := hw j h1
  unfold wd at this
  rw [List.getD_eq_getElem?_getD, List.getD_eq_getElem?_getD, List.getElem?_eq_getElem h1, List.getElem?_eq_getElem h2] at this
  exact this
/-- o is the reference of a thing of Bytes. -/
def bytesB (W : List Int) (o : Int) : Bool := thingB W o && formAt W (begP o) == 1
theorem bytes_out {W : List Int} {o : Int} (h : bytesB W o = true) : thingB W o = true ∧ begP o ∈ places W 2 ∧ formAt W (begP o) = 1 := by
  unfold bytesB at h
  simp only [Bool.and_eq_true, beq_iff_eq] at h
  exact ⟨h.1, (thing_out h.1).2, h.2⟩
theorem bytes_mk {W : List Int} {o : Int} (h1 : thingB W o = true) (h2 : formAt W (begP o) = 1) : bytesB W o = true := by
  unfold bytesB
  simp only [Bool.and_eq_true, beq_iff_eq]
  exact ⟨h1, h2⟩
/-- A slot of a table. -/
def rowB (W : List Int) (x : Int) : Bool := x == 0 || bytesB W x
theorem row_out {W : List Int} {x : Int} (h : rowB W x = true) : x = 0 ∨ bytesB W x = true := by
  unfold rowB at h; simpa using h
theorem row_mk {W : List Int} {x : Int} (h : x = 0 ∨ bytesB W x = true) : rowB W x = true := by
  unfold rowB; simpa using h
/-- o is the reference of a table. -/
def tableB (W : List Int) (o : Int) : Bool := thingB W o && formAt W (begP o) == 0 && decide (0 < slotsAt W (begP o)) && (textP W (begP o)).all (rowB W)
theorem table_out {W : List Int} {o : Int} (hu : unfit W 2 = none) (h : tableB W o = true) : thingB W o = true ∧ begP o ∈ places W 2 ∧ formAt W (begP o) = 0 ∧ 0 < slotsAt W (begP o) ∧ ∀ j, j < slotsAt W (begP o) → wd W (begP o + 3 + j) = 0 ∨ bytesB W (wd W (begP o + 3 + j)) = true := by
  unfold tableB at h
  simp only [Bool.and_eq_true, beq_iff_eq, decide_eq_true_eq, List.all_eq_true] at h
  obtain ⟨⟨⟨h1, h2⟩, h3⟩, h4⟩ := h
  have hm : begP o ∈ places W 2 := (thing_out h1).2
  refine ⟨h1, hm, h2, h3, fun j hj => ?_⟩
  have hl := text_length (fits_out (place_fit hu hm).2.2.1).2.2.2.2
  have e := text_at hj
  rw [← e]
  refine row_out (h4 _ ?_)
  unfold wd
  rw [List.getD_eq_getElem?_getD, List.getElem?_eq_getElem (by omega)]
  exact List.getElem_mem _
theorem table_mk {W : List Int} {o : Int} (hu : unfit W 2 = none) (h1 : thingB W o = true) (h2 : formAt W (begP o) = 0) (h3 : 0 < slotsAt W (begP o)) (h4 : ∀ j, j < slotsAt W (begP o) → wd W (begP o + 3 + j) = 0 ∨ bytesB W (wd W (begP o + 3 + j)) = true) : tableB W o = true := by
  unfold tableB
  simp only [Bool.and_eq_true, beq_iff_eq, decide_eq_true_eq, List.all_eq_true]
  refine ⟨⟨⟨h1, h2⟩, h3⟩, fun x hx => ?_⟩
  have hm : begP o ∈ places W 2 := (thing_out h1).2
  have hl := text_length (fits_out (place_fit hu hm).2.2.1).2.2.2.2
  obtain ⟨j, hj, rfl⟩ := List.getElem_of_mem hx
  have hj' : j < slotsAt W (begP o) := by omega
  have e := text_at hj'
  unfold wd at e
  rw [List.getD_eq_getElem?_getD, List.getElem?_eq_getElem hj] at e
  have e' : (textP W (begP o))[j] = wd W (begP o + 3 + j) := e
  rw [e']
  exact row_mk (h4 j hj')

/-- A slot at which one stops who looks for a text. -/
def hitB (W : List Int) (p : Nat) (T : List Int) (j : Nat) : Bool := wd W (p + 3 + j) == 0 || textP W (begP (wd W (p + 3 + j))) == T
theorem hit_out {W : List Int} {p : Nat} {T : List Int} {j : Nat} (h : hitB W p T j = true) : wd W (p + 3 + j) = 0 ∨ textP W (begP (wd W (p + 3 + j))) = T := by
  unfold hitB at h; simpa using h
theorem hit_mk {W : List Int} {p : Nat} {T : List Int} {j : Nat} (h : wd W (p + 3 + j) = 0 ∨ textP W (begP (wd W (p + 3 + j))) = T) : hitB W p T j = true := by
  unfold hitB; simpa using h
theorem hit_not {W : List Int} {p : Nat} {T : List Int} {j : Nat} (h : hitB W p T j = false) : wd W (p + 3 + j) ≠ 0 ∧ textP W (begP (wd W (p + 3 + j))) ≠ T := by
  unfold hitB at h; simpa using h
theorem hit_no {W : List Int} {p : Nat} {T : List Int} {j : Nat} (h : wd W (p + 3 + j) ≠ 0 ∧ textP W (begP (wd W (p + 3 + j))) ≠ T) : hitB W p T j = false := by
  unfold hitB; simpa using h
/-- The first slot, of n, at which one stops: from the i-th on that one looks at, m of them. -/
def seatFrom (W : List Int) (p : Nat) (T : List Int) (n s i : Nat) : Nat → Option Nat
  | 0 => none
  | m + 1 => if hitB W p T ((s + i) % n) = true then some ((s + i) % n) else seatFrom W p T n s (i + 1) m
theorem seat_yes {W : List Int} {p : Nat} {T : List Int} {n s i m : Nat} (h : hitB W p T ((s + i) % n) = true) : seatFrom W p T n s i (m + 1) = some ((s + i) % n) := by
  unfold seatFrom; rw [if_pos h]
theorem seat_next {W : List Int} {p : Nat} {T : List Int} {n s i m : Nat} (h : hitB W p T ((s + i) % n) = false) : seatFrom W p T n s i (m + 1) = seatFrom W p T n s (i + 1) m := by
  conv => lhs; unfold seatFrom
  rw [if_neg (by rw [h]; decide)]
/-- The seat of a text. -/
def seatP (W : List Int) (p : Nat) (T : List Int) : Option Nat := seatFrom W p T (slotsAt W p) T.sum.toNat 0 (slotsAt W p)
theorem seat_lt {W : List Int} {p : Nat} {T : List Int} {n s : Nat} (hn : 0 < n) : ∀ (m i k : Nat), seatFrom W p T n s i m = some k → k < n ∧ hitB W p T k = true
  | 0, _, _, h => by cases h
  | m + 1, i, k, h => by
    cases hh : hitB W p T ((s + i) % n) with
    | true => rw [seat_yes hh] at h; simp only [Option.some.injEq] at h; subst h; exact ⟨Nat.mod_lt _ hn, hh⟩
    | false => rw [seat_next hh] at h; exact seat_lt hn m (i + 1) k h

/-- What Find tells of a table: a reference, an error. -/
def findP (W : List Int) (o : Int) (T : List Int) : Int × Int :=
  match seatP W (begP o) T with
  | none => (0, 10)
  | some k => if wd W (begP o + 3 + k) = 0 then (0, 10) else (wd W (begP o + 3 + k), 0)
/-- The first j of a text's bytes are laid from b on. -/
def fillP (M : List Int) (b : Nat) (T : List Int) : Nat → List Int
  | 0 => M
  | j + 1 => (fillP M b T j).set (b + j) (wd T j)
/-- The words with a text more, in the slot k of the table at p. -/
def internW (W : List Int) (p k : Nat) (T : List Int) : List Int := (fillP (moreW W 0 1 T.length) (W.length + 3) T T.length).set (p + 3 + k) (2 * (W.length : Int))
/-- What Intern tells of a table: the words, a reference, an error. -/
def internP (W : List Int) (o : Int) (T : List Int) : List Int × Int × Int :=
  match seatP W (begP o) T with
  | none => ([], 0, 6)
  | some k => if wd W (begP o + 3 + k) = 0 then
      (if 2000 < W.length + 3 + T.length ∨ 10000 < wd W 1 then ([], 0, 6) else (internW W (begP o) k T, 2 * (W.length : Int), 0))
    else (W, wd W (begP o + 3 + k), 0)

theorem fill_length (M : List Int) (b : Nat) (T : List Int) : ∀ j, (fillP M b T j).length = M.length
  | 0 => rfl
  | j + 1 => by unfold fillP; rw [List.length_set, fill_length M b T j]
theorem fill_in {M : List Int} {b : Nat} {T : List Int} : ∀ (j i : Nat), b + j ≤ M.length → i < j → wd (fillP M b T j) (b + i) = wd T i
  | 0, _, _, h => by omega
  | j + 1, i, hl, h => by
    unfold fillP
    by_cases he : i = j
    · subst he; rw [wd_set_same (by rw [fill_length]; omega)]
    · rw [wd_set_other (by omega)]; exact fill_in j i (by omega) (by omega)
theorem fill_out {M : List Int} {b : Nat} {T : List Int} : ∀ (j i : Nat), (i < b ∨ b + j ≤ i) → wd (fillP M b T j) i = wd M i
  | 0, _, _ => rfl
  | j + 1, i, h => by
    unfold fillP
    rw [wd_set_other (by omega)]; exact fill_out j i (by omega)
/-- Bytes that are laid into a thing of Bytes: the heap may be, as before. -/
theorem fill_keeps {M : List Int} {q : Nat} {T : List Int} (h : (checkOf M).1 = 0) (hq : q ∈ places M 2) (hf : formAt M q = 1) (hT : ∀ c ∈ T, 0 ≤ c ∧ c ≤ 255) : ∀ j, j ≤ slotsAt M q → j ≤ T.length →
    places (fillP M (q + 3) T j) 2 = places M 2 ∧ (checkOf (fillP M (q + 3) T j)).1 = 0
  | 0, _, _ => ⟨rfl, h⟩
  | j + 1, hj, hl => by
    obtain ⟨i1, i2⟩ := fill_keeps h hq hf hT j (by omega) (by omega)
    have e2 : wd (fillP M (q + 3) T j) (q + 2) = wd M (q + 2) := fill_out j _ (by omega)
    have hs : standB (fillP M (q + 3) T j) (formAt (fillP M (q + 3) T j) q) (wd T j) = true := by
      rw [form_same e2, hf]
      unfold standB
      rw [if_pos rfl]
      refine decide_eq_true (hT _ ?_)
      unfold wd
      rw [List.getD_eq_getElem?_getD, List.getElem?_eq_getElem (by omega)]
      exact List.getElem_mem _
    have hk := put_keeps i2 (p := q) (k := j) (what := wd T j) (by rw [i1]; exact hq) (by rw [slots_same e2]; omega) hs
    exact ⟨by unfold fillP; rw [hk.1, i1], by unfold fillP; exact hk.2⟩

/-- K has all that W has, at the places where it was; of the table at p what was not nil is as it was. -/
structure Grown (W K : List Int) (p : Nat) : Prop where
  mem : ∀ q ∈ places W 2, q ∈ places K 2
  form : ∀ q ∈ places W 2, formAt K q = formAt W q
  slots : ∀ q ∈ places W 2, slotsAt K q = slotsAt W q
  text : ∀ q ∈ places W 2, formAt W q = 1 → textP K q = textP W q
  kept : ∀ j, j < slotsAt W p → wd W (p + 3 + j) ≠ 0 → wd K (p + 3 + j) = wd W (p + 3 + j)
theorem Grown.refl (W : List Int) (p : Nat) : Grown W W p := ⟨fun _ h => h, fun _ _ => rfl, fun _ _ => rfl, fun _ _ _ => rfl, fun _ _ _ => rfl⟩

theorem seat_grown {W K : List Int} {p : Nat} {T : List Int} {s k : Nat} (hg : Grown W K p) (hn : 0 < slotsAt W p) (ht : ∀ j, j < slotsAt W p → wd W (p + 3 + j) = 0 ∨ bytesB W (wd W (p + 3 + j)) = true) (hk : wd W (p + 3 + k) ≠ 0) :
    ∀ (m i : Nat), seatFrom W p T (slotsAt W p) s i m = some k → seatFrom K p T (slotsAt W p) s i m = some k
  | 0, _, h => by cases h
  | m + 1, i, h => by
    have hj : (s + i) % slotsAt W p < slotsAt W p := Nat.mod_lt _ hn
    cases hh : hitB W p T ((s + i) % slotsAt W p) with
    | true =>
      rw [seat_yes hh] at h
      have e : (s + i) % slotsAt W p = k := by simpa using h
      rw [e] at hh hj
      have e1 := hg.kept k hj hk
      have hb := (ht k hj).resolve_left hk
      obtain ⟨_, b1, b2⟩ := bytes_out hb
      have e2 := hg.text _ b1 b2
      have h3 := (hit_out hh).resolve_left hk
      rw [seat_yes (by rw [e]; refine hit_mk (Or.inr ?_); rw [e1, e2]; exact h3), e]
    | false =>
      rw [seat_next hh] at h
      obtain ⟨n1, n2⟩ := hit_not hh
      have e1 := hg.kept _ hj n1
      have hb := (ht _ hj).resolve_left n1
      obtain ⟨_, b1, b2⟩ := bytes_out hb
      have e2 := hg.text _ b1 b2
      rw [seat_next (hit_no (by rw [e1, e2]; exact ⟨n1, n2⟩))]
      exact seat_grown hg hn ht hk m (i + 1) h

/-- Where a text is laid into the slot that is nil it is found there. -/
theorem seat_again {W K : List Int} {p : Nat} {T : List Int} {s k : Nat} (hg : Grown W K p) (hn : 0 < slotsAt W p) (ht : ∀ j, j < slotsAt W p → wd W (p + 3 + j) = 0 ∨ bytesB W (wd W (p + 3 + j)) = true) (hk : wd W (p + 3 + k) = 0) (hK : hitB K p T k = true) :
    ∀ (m i : Nat), seatFrom W p T (slotsAt W p) s i m = some k → seatFrom K p T (slotsAt W p) s i m = some k
  | 0, _, h => by cases h
  | m + 1, i, h => by
    have hj : (s + i) % slotsAt W p < slotsAt W p := Nat.mod_lt _ hn
    cases hh : hitB W p T ((s + i) % slotsAt W p) with
    | true =>
      rw [seat_yes hh] at h
      have e : (s + i) % slotsAt W p = k := by simpa using h
      rw [seat_yes (by rw [e]; exact hK), e]
    | false =>
      rw [seat_next hh] at h
      obtain ⟨n1, n2⟩ := hit_not hh
      have e1 := hg.kept _ hj n1
      have hb := (ht _ hj).resolve_left n1
      obtain ⟨_, b1, b2⟩ := bytes_out hb
      have e2 := hg.text _ b1 b2
      rw [seat_next (hit_no (by rw [e1, e2]; exact ⟨n1, n2⟩))]
      exact seat_again hg hn ht hk hK m (i + 1) h

theorem find_out {W : List Int} {o : Int} {T : List Int} {a : Int} (h : findP W o T = (a, 0)) : ∃ k, seatP W (begP o) T = some k ∧ wd W (begP o + 3 + k) = a ∧ a ≠ 0 := by
  unfold findP at h
  cases hs : seatP W (begP o) T with
  | none => rw [hs] at h; simp at h
  | some k =>
    rw [hs] at h
    simp only at h
    split at h
    · simp at h
    · rename_i h0
      simp only [Prod.mk.injEq, and_true] at h
      exact ⟨k, rfl, h, by rw [← h]; exact h0⟩
theorem find_mk {W : List Int} {o : Int} {T : List Int} {a : Int} {k : Nat} (hs : seatP W (begP o) T = some k) (hk : wd W (begP o + 3 + k) = a) (ha : a ≠ 0) : findP W o T = (a, 0) := by
  unfold findP
  rw [hs]
  simp only
  rw [hk, if_neg ha]
/-- What is found is found in what has grown of it. -/
theorem grown_find {W K : List Int} {o : Int} {T : List Int} {a : Int} (hc : (checkOf W).1 = 0) (ht : tableB W o = true) (hg : Grown W K (begP o)) (h : findP W o T = (a, 0)) : findP K o T = (a, 0) := by
  obtain ⟨k, h1, h2, h3⟩ := find_out h
  obtain ⟨t1, t2, t3, t4, t5⟩ := table_out (check_ok hc).2 ht
  have hk := (seat_lt t4 _ _ _ h1).1
  refine find_mk (k := k) ?_ (by rw [hg.kept k hk (by rw [h2]; exact h3)]; exact h2) h3
  unfold seatP
  rw [hg.slots _ t2]
  exact seat_grown hg t4 t5 (by rw [h2]; exact h3) _ _ h1
/-- What is found has that text. -/
theorem find_text {W : List Int} {o : Int} {T : List Int} {a : Int} (hc : (checkOf W).1 = 0) (ht : tableB W o = true) (h : findP W o T = (a, 0)) : a ≠ 0 ∧ textP W (begP a) = T := by
  obtain ⟨k, h1, h2, h3⟩ := find_out h
  obtain ⟨t1, t2, t3, t4, t5⟩ := table_out (check_ok hc).2 ht
  have hk := (seat_lt t4 _ _ _ h1).2
  have := (hit_out hk).resolve_left (by rw [h2]; exact h3)
  rw [h2] at this
  exact ⟨h3, this⟩

/-- What a text more makes of the words. -/
theorem intern_new {W : List Int} {o : Int} {T : List Int} {k : Nat} (hc : (checkOf W).1 = 0) (ht : tableB W o = true) (hl : T.length ≤ 60) (hT : ∀ c ∈ T, 0 ≤ c ∧ c ≤ 255) (hk : k < slotsAt W (begP o)) (h0 : wd W (begP o + 3 + k) = 0) (hfit : W.length + 3 + T.length ≤ 2000) (hh : wd W 1 ≤ 10000) :
    (checkOf (internW W (begP o) k T)).1 = 0 ∧ tableB (internW W (begP o) k T) o = true ∧ Grown W (internW W (begP o) k T) (begP o) ∧ wd (internW W (begP o) k T) (begP o + 3 + k) = 2 * (W.length : Int) ∧ textP (internW W (begP o) k T) W.length = T := by
  obtain ⟨c1, c2, c3⟩ := check_fine hc
  obtain ⟨f1, f2, f3, f4, f5⟩ := front_out c1
  obtain ⟨t1, t2, t3, t4, t5⟩ := table_out c2 ht
  have hM := moreW_more W 0 1 T.length f1
  obtain ⟨m1, m2, m3, m4⟩ := hM.places hc (by omega) hl
  have hMc := hM.may hc (by unfold nilB; rfl) (by omega) hl hfit hh
  have hMl := moreW_length W 0 1 T.length
  have hqM : W.length ∈ places (moreW W 0 1 T.length) 2 := by rw [m1]; simp
  obtain ⟨k1, k2⟩ := fill_keeps hMc hqM m4 hT T.length (by omega) (Nat.le_refl _)
  generalize hFe : fillP (moreW W 0 1 T.length) (W.length + 3) T T.length = F at *
  have Fl : F.length = W.length + 3 + T.length := by rw [← hFe, fill_length, hMl]
  have Fo : ∀ i, i < W.length → i ≠ 1 → wd F i = wd W i := fun i hi h1 => by rw [← hFe, fill_out _ _ (by omega)]; exact hM.old i hi h1
  have F2 : wd F (W.length + 2) = 4 * (T.length : Int) + 1 := by rw [← hFe, fill_out _ _ (by omega)]; exact hM.shape
  have FT : ∀ i, i < T.length → wd F (W.length + 3 + i) = wd T i := fun i hi => by rw [← hFe]; exact fill_in _ _ (by omega) hi
  have hpl : ∀ q ∈ places W 2, 2 ≤ q ∧ q + 3 + slotsAt W q ≤ W.length := fun q hq => ⟨(place_fit c2 hq).1, (fits_out (place_fit c2 hq).2.2.1).2.2.2.2⟩
  obtain ⟨p2, pl⟩ := hpl _ t2
  have eF : wd F (begP o + 2) = wd W (begP o + 2) := Fo _ (by omega) (by omega)
  have hpF : begP o ∈ places F 2 := by rw [k1, m1]; exact List.mem_append.2 (Or.inl t2)
  have hlF : W.length ∈ places F 2 := by rw [k1]; exact hqM
  have href : thingB F (2 * (W.length : Int)) = true := by
    unfold thingB beginB
    simp only [Bool.and_eq_true, beq_iff_eq, List.contains_iff_mem]
    refine ⟨?_, ?_⟩
    · exact kind_even (by omega) (by omega)
    · rw [show (2 * (W.length : Int) / 2).toNat = W.length by omega]; exact hlF
  have hst : standB F (formAt F (begP o)) (2 * (W.length : Int)) = true := by
    rw [form_same eF, t3]
    unfold standB nilB
    rw [if_neg (by omega), href]
    simp
  obtain ⟨g1, g2⟩ := put_keeps k2 (p := begP o) (k := k) (what := 2 * (W.length : Int)) hpF (by rw [slots_same eF]; exact hk) hst
  have hK : internW W (begP o) k T = F.set (begP o + 3 + k) (2 * (W.length : Int)) := by unfold internW; rw [hFe]
  rw [hK]
  generalize hKe : F.set (begP o + 3 + k) (2 * (W.length : Int)) = K at *
  have Kl : K.length = W.length + 3 + T.length := by rw [← hKe, List.length_set, Fl]
  have Ko : ∀ i, i < W.length → i ≠ 1 → i ≠ begP o + 3 + k → wd K i = wd W i := fun i hi h1 h2 => by rw [← hKe, wd_set_other (by omega)]; exact Fo i hi h1
  have Kk : wd K (begP o + 3 + k) = 2 * (W.length : Int) := by rw [← hKe, wd_set_same (by omega)]
  have K2 : wd K (W.length + 2) = 4 * (T.length : Int) + 1 := by rw [← hKe, wd_set_other (by omega)]; exact F2
  have KT : ∀ i, i < T.length → wd K (W.length + 3 + i) = wd T i := fun i hi => by rw [← hKe, wd_set_other (by omega)]; exact FT i hi
  have hmem : ∀ q ∈ places W 2, q ∈ places K 2 := fun q hq => by rw [g1, k1, m1]; exact List.mem_append.2 (Or.inl hq)
  have hlK : W.length ∈ places K 2 := by rw [g1]; exact hlF
  have hhead : ∀ q ∈ places W 2, wd K (q + 2) = wd W (q + 2) := fun q hq => by
    have := hpl q hq
    have := slot_apart t2 hq hk
    exact Ko _ (by omega) (by omega) (by omega)
  have hslot : ∀ q ∈ places W 2, ∀ j, j < slotsAt W q → (q ≠ begP o ∨ j ≠ k) → wd K (q + 3 + j) = wd W (q + 3 + j) := fun q hq j hj hne => by
    have := hpl q hq
    refine Ko _ (by omega) (by omega) ?_
    intro he
    rcases Nat.lt_trichotomy (begP o) q with hlt | heq | hlt
    · have := place_sep t2 hq hlt; simp only [nextAt] at this; omega
    · rcases hne with hne | hne
      · exact hne heq.symm
      · omega
    · have := place_sep hq t2 hlt; simp only [nextAt] at this; omega
  have hform : ∀ q ∈ places W 2, formAt K q = formAt W q := fun q hq => form_same (hhead q hq)
  have hslots : ∀ q ∈ places W 2, slotsAt K q = slotsAt W q := fun q hq => slots_same (hhead q hq)
  have hs2 : slotsAt K W.length = T.length := by unfold slotsAt; rw [K2]; omega
  have hf2 : formAt K W.length = 1 := by unfold formAt; rw [K2]; omega
  have hrefK : thingB K (2 * (W.length : Int)) = true := by
    unfold thingB beginB
    simp only [Bool.and_eq_true, beq_iff_eq, List.contains_iff_mem]
    refine ⟨?_, ?_⟩
    · exact kind_even (by omega) (by omega)
    · rw [show (2 * (W.length : Int) / 2).toNat = W.length by omega]; exact hlK
  have hbytes : ∀ x, bytesB W x = true → bytesB K x = true := fun x hx => by
    obtain ⟨b0, b1, b2⟩ := bytes_out hx
    exact bytes_mk (thing_mono hmem b0) (by rw [hform _ b1]; exact b2)
  have hu : unfit K 2 = none := (check_ok g2).2
  refine ⟨g2, table_mk hu (thing_mono hmem t1) (by rw [hform _ t2]; exact t3) (by rw [hslots _ t2]; exact t4) ?_, ⟨hmem, hform, hslots, ?_, ?_⟩, Kk, ?_⟩
  · intro j hj
    rw [hslots _ t2] at hj
    by_cases he : j = k
    · subst he
      rw [Kk]
      exact Or.inr (bytes_mk hrefK (by rw [begP_ref]; exact hf2))
    · rw [hslot _ t2 j hj (Or.inr he)]
      exact (t5 j hj).imp id (hbytes _)
  · intro q hq h1
    have hne : q ≠ begP o := fun e => by rw [e, t3] at h1; omega
    have l1 := text_length (hpl q hq).2
    have l2 := text_length (W := K) (p := q) (by rw [hslots q hq]; have := (hpl q hq).2; omega)
    refine eq_of_wd (by rw [l1, l2, hslots q hq]) fun j hj => ?_
    rw [l2] at hj
    have hj' := hj
    rw [hslots q hq] at hj'
    rw [text_at hj, text_at hj', hslot q hq j hj' (Or.inl hne)]
  · intro j hj h1
    by_cases he : j = k
    · subst he; exact absurd h0 h1
    · exact hslot _ t2 j hj (Or.inr he)
  · have l2 := text_length (W := K) (p := W.length) (by rw [hs2]; omega)
    refine eq_of_wd (by rw [l2, hs2]) fun j hj => ?_
    rw [l2] at hj
    rw [text_at hj, KT j (by omega)]

/-- What was made known: the heap may be, the table is one, all that was is there, and the text is found. -/
theorem intern_ok {W K : List Int} {o a : Int} {T : List Int} (hc : (checkOf W).1 = 0) (ht : tableB W o = true) (hl : T.length ≤ 60) (hT : ∀ c ∈ T, 0 ≤ c ∧ c ≤ 255) (h : internP W o T = (K, a, 0)) :
    (checkOf K).1 = 0 ∧ tableB K o = true ∧ Grown W K (begP o) ∧ findP K o T = (a, 0) := by
  obtain ⟨t1, t2, t3, t4, t5⟩ := table_out (check_ok hc).2 ht
  obtain ⟨f1, f2, f3, f4, f5⟩ := front_out (check_ok hc).1
  unfold internP at h
  cases hs : seatP W (begP o) T with
  | none => rw [hs] at h; simp at h
  | some k =>
    rw [hs] at h
    simp only at h
    obtain ⟨hk, hh⟩ := seat_lt t4 _ _ _ hs
    by_cases h0 : wd W (begP o + 3 + k) = 0
    · rw [if_pos h0] at h
      by_cases hfull : 2000 < W.length + 3 + T.length ∨ 10000 < wd W 1
      · rw [if_pos hfull] at h; simp at h
      · rw [if_neg hfull] at h
        simp only [Prod.mk.injEq, and_true] at h
        obtain ⟨rfl, rfl⟩ := h
        obtain ⟨g1, g2, g3, g4, g5⟩ := intern_new hc ht hl hT hk h0 (by omega) (by omega)
        refine ⟨g1, g2, g3, find_mk (k := k) ?_ g4 (by omega)⟩
        unfold seatP
        rw [g3.slots _ t2]
        refine seat_again g3 t4 t5 h0 ?_ _ _ hs
        refine hit_mk (Or.inr ?_)
        rw [g4, begP_ref]; exact g5
    · rw [if_neg h0] at h
      simp only [Prod.mk.injEq, and_true] at h
      obtain ⟨rfl, rfl⟩ := h
      exact ⟨hc, ht, Grown.refl _ _, find_mk hs rfl h0⟩
/-- G5, of two texts. -/
theorem names_once {W K M : List Int} {o a b : Int} {S T : List Int} (hc : (checkOf W).1 = 0) (ht : tableB W o = true) (hl : S.length ≤ 60) (hS : ∀ c ∈ S, 0 ≤ c ∧ c ≤ 255) (hl' : T.length ≤ 60) (hT : ∀ c ∈ T, 0 ≤ c ∧ c ≤ 255) (h : internP W o S = (K, a, 0)) (h' : internP K o T = (M, b, 0)) :
    findP M o S = (a, 0) ∧ (b = a ↔ T = S) := by
  obtain ⟨c1, t1, _, f1⟩ := intern_ok hc ht hl hS h
  obtain ⟨c2, t2, g2, f2⟩ := intern_ok c1 t1 hl' hT h'
  have f3 := grown_find c1 t1 g2 f1
  refine ⟨f3, fun e => ?_, fun e => ?_⟩
  · have x1 := (find_text c2 t2 f2).2
    have x2 := (find_text c2 t2 f3).2
    rw [e] at x1
    rw [← x1, ← x2]
  · rw [e, f3] at f2
    simpa using f2.symm
/-- The texts of a table, in the order of slots. -/
def allP (W : List Int) (p : Nat) : List (List Int) := ((textP W p).filter (fun x => x != 0)).map fun x => textP W (begP x)
/-- A text's sum is small. -/
theorem sum_small : ∀ (T : List Int), (∀ c ∈ T, 0 ≤ c ∧ c ≤ 255) → 0 ≤ T.sum ∧ T.sum ≤ 255 * (T.length : Int)
  | [], _ => by simp
  | c :: T, h => by
    have h1 := h c (List.mem_cons_self ..)
    have h2 := sum_small T fun x hx => h x (List.mem_cons_of_mem _ hx)
    rw [List.sum_cons, List.length_cons]
    omega
end Go.Proofs.Ytmgmbgacdjebgaa
