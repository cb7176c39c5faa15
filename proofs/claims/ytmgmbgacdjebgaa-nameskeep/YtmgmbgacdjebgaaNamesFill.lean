/- Bytes that are laid into a new thing one by one, plain: the heap may be all the while. -/
import Derived.Test.YtmgmbgacdjebgaaNamesMore
namespace Go.Proofs.Ytmgmbgacdjebgaa

/-- The words with a text more, nowhere named yet. -/
def textW (W T : List Int) : List Int := fillP (moreW W 0 1 T.length) (W.length + 3) T T.length
theorem textW_length (W T : List Int) : (textW W T).length = W.length + 3 + T.length := by unfold textW; rw [fill_length, moreW_length]
theorem intern_text (W T : List Int) (p k : Nat) : internW W p k T = (textW W T).set (p + 3 + k) (2 * (W.length : Int)) := rfl
/-- What is so of the words when i bytes are laid. -/
structure Filling (W T : List Int) (i : Nat) : Prop where
  check : (checkOf (fillP (moreW W 0 1 T.length) (W.length + 3) T i)).1 = 0
  mem : W.length ∈ places (fillP (moreW W 0 1 T.length) (W.length + 3) T i) 2
  old : ∀ q ∈ places W 2, q ∈ places (fillP (moreW W 0 1 T.length) (W.length + 3) T i) 2
  form : formAt (fillP (moreW W 0 1 T.length) (W.length + 3) T i) W.length = 1
  slots : slotsAt (fillP (moreW W 0 1 T.length) (W.length + 3) T i) W.length = T.length
  head : ∀ q ∈ places W 2, wd (fillP (moreW W 0 1 T.length) (W.length + 3) T i) (q + 2) = wd W (q + 2)
theorem filling {W T : List Int} (hc : (checkOf W).1 = 0) (hl : T.length ≤ 60) (hT : ∀ c ∈ T, 0 ≤ c ∧ c ≤ 255) (hfit : W.length + 3 + T.length ≤ 2000) (hh : wd W 1 ≤ 10000) {i : Nat} (hi : i ≤ T.length) : Filling W T i := by
  obtain ⟨c1, c2, c3⟩ := check_fine hc
  obtain ⟨f1, f2, f3, f4, f5⟩ := front_out c1
  have hM := moreW_more W 0 1 T.length f1
  obtain ⟨m1, m2, m3, m4⟩ := hM.places hc (by omega) hl
  have hMc := hM.may hc (by unfold nilB; rfl) (by omega) hl hfit hh
  have hqM : W.length ∈ places (moreW W 0 1 T.length) 2 := by rw [m1]; simp
  obtain ⟨k1, k2⟩ := fill_keeps hMc hqM m4 hT i (by omega) hi
  have e2 : wd (fillP (moreW W 0 1 T.length) (W.length + 3) T i) (W.length + 2) = wd (moreW W 0 1 T.length) (W.length + 2) := fill_out i _ (by omega)
  refine ⟨k2, by rw [k1]; exact hqM, fun q hq => by rw [k1, m1]; exact List.mem_append.2 (Or.inl hq), by rw [form_same e2]; exact m4, by rw [slots_same e2]; omega, fun q hq => ?_⟩
  have := (place_fit c2 hq).1
  have := (fits_out (place_fit c2 hq).2.2.1).2.2.2.2
  rw [fill_out i _ (by omega)]
  exact hM.old _ (by omega) (by omega)
theorem Filling.thing {W T : List Int} {i : Nat} (h : Filling W T i) (hl : 2 ≤ W.length) (hfit : W.length ≤ 1999) : thingB (fillP (moreW W 0 1 T.length) (W.length + 3) T i) (2 * (W.length : Int)) = true := by
  unfold thingB beginB
  simp only [Bool.and_eq_true, beq_iff_eq, List.contains_iff_mem]
  refine ⟨kind_even hl hfit, ?_⟩
  rw [show (2 * (W.length : Int) / 2).toNat = W.length by omega]; exact h.mem
theorem Filling.stand {W T : List Int} {i : Nat} (h : Filling W T i) (hT : ∀ c ∈ T, 0 ≤ c ∧ c ≤ 255) (hi : i < T.length) : standB (fillP (moreW W 0 1 T.length) (W.length + 3) T i) (formAt (fillP (moreW W 0 1 T.length) (W.length + 3) T i) W.length) (wd T i) = true := by
  rw [h.form]
  unfold standB
  rw [if_pos rfl]
  refine decide_eq_true (hT _ ?_)
  unfold wd
  rw [List.getD_eq_getElem?_getD, List.getElem?_eq_getElem hi]
  exact List.getElem_mem _
/-- Where all bytes are laid: what Put asks of the table. -/
theorem text_put {W T : List Int} {p k : Nat} (hc : (checkOf W).1 = 0) (hl : T.length ≤ 60) (hT : ∀ c ∈ T, 0 ≤ c ∧ c ≤ 255) (hfit : W.length + 3 + T.length ≤ 2000) (hh : wd W 1 ≤ 10000) (ho : thingB W (2 * (p : Int)) = true) (hm : p ∈ places W 2) (hf : formAt W p = 0) (hk : k < slotsAt W p) :
    (checkOf (textW W T)).1 = 0 ∧ thingB (textW W T) (2 * (p : Int)) = true ∧ p ∈ places (textW W T) 2 ∧ k < slotsAt (textW W T) p ∧ standB (textW W T) (formAt (textW W T) p) (2 * (W.length : Int)) = true := by
  have h := filling hc hl hT hfit hh (Nat.le_refl T.length)
  have e2 : wd (textW W T) (p + 2) = wd W (p + 2) := h.head p hm
  refine ⟨h.check, thing_mono h.old ho, h.old p hm, by rw [slots_same e2]; exact hk, ?_⟩
  rw [form_same e2, hf]
  obtain ⟨f1, f2, f3, f4, f5⟩ := front_out (check_ok hc).1
  have ht := h.thing f1 (by omega)
  have ht' : thingB (textW W T) (2 * (W.length : Int)) = true := ht
  unfold standB nilB
  rw [if_neg (by omega), ht']
  simp
theorem wd_in {l : List Int} {P : Int → Prop} (h0 : P 0) (h : ∀ x ∈ l, P x) (k : Nat) : P (wd l k) := by
  unfold wd
  by_cases hk : k < l.length
  · rw [List.getD_eq_getElem?_getD, List.getElem?_eq_getElem hk]; exact h _ (List.getElem_mem hk)
  · rw [List.getD_eq_getElem?_getD, List.getElem?_eq_none (by omega)]; exact h0
theorem in_wd {l : List Int} {P : Int → Prop} (h : ∀ k, P (wd l k)) : ∀ x ∈ l, P x := fun x hx => by
  obtain ⟨j, hj, rfl⟩ := List.getElem_of_mem hx
  have := h j
  unfold wd at this
  rw [List.getD_eq_getElem?_getD, List.getElem?_eq_getElem hj] at this
  exact this
theorem set_in {l : List Int} {P : Int → Prop} {i : Nat} {a : Int} (h : ∀ x ∈ l, P x) (ha : P a) : ∀ x ∈ l.set i a, P x := fun x hx => (List.mem_or_eq_of_mem_set hx).elim (h x) (fun e => e ▸ ha)
/-- What is so of all words, of small numbers, and of those that New lays, is so of the words with a text more. -/
theorem fill_in_all {W T : List Int} {P : Int → Prop} (hP : ∀ x, -100000 ≤ x → x ≤ 100000 → P x) (hW : ∀ x ∈ W, P x) (hT : ∀ c ∈ T, 0 ≤ c ∧ c ≤ 255) (hl : T.length ≤ 60) (hh0 : 0 ≤ wd W 1) (hh : wd W 1 ≤ 10001) : ∀ i, ∀ x ∈ fillP (moreW W 0 1 T.length) (W.length + 3) T i, P x
  | 0 => by
    unfold fillP moreW
    refine set_in (fun x hx => ?_) (hP _ (by omega) (by omega))
    rcases List.mem_append.1 hx with hx | hx
    · rcases List.mem_append.1 hx with hx | hx
      · exact hW x hx
      · simp only [List.mem_cons, List.not_mem_nil, or_false] at hx
        rcases hx with rfl | rfl | rfl <;> exact hP _ (by omega) (by omega)
    · rw [(List.mem_replicate.1 hx).2]; exact hP _ (by omega) (by omega)
  | i + 1 => by
    unfold fillP
    refine set_in (fill_in_all hP hW hT hl hh0 hh i) ?_
    refine wd_in (hP 0 (by omega) (by omega)) (fun c hc => ?_) i
    have := hT c hc
    exact hP c (by omega) (by omega)
end Go.Proofs.Ytmgmbgacdjebgaa
