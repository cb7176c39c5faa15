/- What becomes of a heap that may be when a slot changes or a thing is made: it may be still. Plain functions on lists, no Go in sight. -/
import Derived.Test.YthdhaokjibfjdaaHeapPlain
namespace Go.Proofs.Ythdhaokjibfjdaa

theorem places_sep {W : List Int} : ∀ (n a : Nat), W.length - a ≤ n → ∀ p ∈ places W a, ∀ q ∈ places W a, p < q → nextAt W p ≤ q
  | 0, a, hn, p, hp, _, _, _ => by rw [places_end (by omega)] at hp; cases hp
  | n + 1, a, hn, p, hp, q, hq, hlt => by
    by_cases h : a < W.length
    · rw [places_in h] at hp hq
      rcases List.mem_cons.1 hp with rfl | hp
      · rcases List.mem_cons.1 hq with rfl | hq
        · omega
        · exact (place_ge hq).1
      · rcases List.mem_cons.1 hq with rfl | hq
        · have := (place_ge hp).1; simp [nextAt] at this; omega
        · exact places_sep n (nextAt W a) (by simp [nextAt]; omega) p hp q hq hlt
    · rw [places_end h] at hp; cases hp
theorem place_sep {W : List Int} {a p q : Nat} (hp : p ∈ places W a) (hq : q ∈ places W a) (h : p < q) : nextAt W p ≤ q := places_sep _ a (Nat.le_refl _) p hp q hq h
/-- A slot's place is none of the places of a thing's head. -/
theorem slot_apart {W : List Int} {a p q k : Nat} (hp : p ∈ places W a) (hq : q ∈ places W a) (hk : k < slotsAt W p) : q + 2 < p + 3 + k ∨ p + 3 + k < q := by
  rcases Nat.lt_trichotomy p q with h | h | h
  · have := place_sep hp hq h; simp only [nextAt] at this; omega
  · omega
  · omega

theorem slots_same {W W' : List Int} {q : Nat} (h : wd W' (q + 2) = wd W (q + 2)) : slotsAt W' q = slotsAt W q := by unfold slotsAt; rw [h]
theorem next_same {W W' : List Int} {q : Nat} (h : wd W' (q + 2) = wd W (q + 2)) : nextAt W' q = nextAt W q := by unfold nextAt; rw [slots_same h]
theorem form_same {W W' : List Int} {q : Nat} (h : wd W' (q + 2) = wd W (q + 2)) : formAt W' q = formAt W q := by unfold formAt; rw [h]
theorem fits_same {W W' : List Int} {q : Nat} (h : wd W' (q + 2) = wd W (q + 2)) (hl : W.length ≤ W'.length) (hf : fitsB W q = true) : fitsB W' q = true := by
  obtain ⟨h1, h2, h3, h4, h5⟩ := fits_out hf
  refine fits_mk ⟨by omega, by rw [h]; exact h2, by rw [h]; exact h3, by rw [h]; exact h4, by rw [slots_same h]; omega⟩

theorem places_grow' {W W' : List Int} (hl : W.length ≤ W'.length) : ∀ (n a : Nat), W.length - a ≤ n → a ≤ W.length → unfit W a = none → (∀ q ∈ places W a, wd W' (q + 2) = wd W (q + 2)) →
    places W' a = places W a ++ places W' W.length ∧ unfit W' a = unfit W' W.length
  | 0, a, hn, ha, _, _ => by
    have : a = W.length := by omega
    subst this
    rw [places_end (W := W) (by omega)]; exact ⟨rfl, rfl⟩
  | n + 1, a, hn, ha, hu, hs => by
    by_cases h : a < W.length
    · obtain ⟨hf, hu'⟩ := unfit_head h hu
      have h2 := hs a (by rw [places_in h]; exact List.mem_cons_self ..)
      have hnx := next_same h2
      have hle : nextAt W a ≤ W.length := (fits_out hf).2.2.2.2
      obtain ⟨r1, r2⟩ := places_grow' hl n (nextAt W a) (by simp [nextAt]; omega) hle hu' (fun q hq => hs q (by rw [places_in h]; exact List.mem_cons_of_mem _ hq))
      have h' : a < W'.length := by omega
      rw [places_in h', places_in h, hnx, r1, unfit_in h' (fits_same h2 hl hf), hnx, r2]
      exact ⟨rfl, rfl⟩
    · have : a = W.length := by omega
      subst this
      rw [places_end (W := W) (by omega)]; exact ⟨rfl, rfl⟩
theorem places_grow {W W' : List Int} {a : Nat} (hl : W.length ≤ W'.length) (ha : a ≤ W.length) (hu : unfit W a = none) (hs : ∀ q ∈ places W a, wd W' (q + 2) = wd W (q + 2)) :
    places W' a = places W a ++ places W' W.length ∧ unfit W' a = unfit W' W.length := places_grow' hl _ a (Nat.le_refl _) ha hu hs

theorem bad_none {W : List Int} {f : Int} : ∀ (n k : Nat), badSlot W f k n = none ↔ ∀ j, j < n → standB W f (wd W (k + j)) = true
  | 0, k => by simp [badSlot]
  | n + 1, k => by
    constructor
    · intro h j hj
      cases hs : standB W f (wd W k) with
      | false => rw [bad_no hs] at h; cases h
      | true =>
        rw [bad_yes hs] at h
        cases j with
        | zero => exact hs
        | succ j => have := (bad_none n (k + 1)).1 h j (by omega); rw [show k + (j + 1) = k + 1 + j by omega]; exact this
    · intro h
      rw [bad_yes (by have := h 0 (by omega); simpa using this)]
      exact (bad_none n (k + 1)).2 fun j hj => by have := h (j + 1) (by omega); rw [show k + 1 + j = k + (j + 1) by omega]; exact this

/-- What is said of the first of some things that are all right. -/
theorem fault_cons {W : List Int} {seen : List Int} {p : Nat} {r : List Nat} (h : (faultOf W seen (p :: r)).1 = 0) :
    nilB W (wd W p) = true ∧ twiceB W seen p = false ∧ badSlot W (formAt W p) (p + 3) (slotsAt W p) = none ∧ (faultOf W (seen ++ [wd W (p + 1)]) r).1 = 0 := by
  cases h1 : nilB W (wd W p) with
  | false => rw [fault_kind h1] at h; cases h
  | true =>
    cases h2 : twiceB W seen p with
    | true => rw [fault_twice h1 h2] at h; cases h
    | false =>
      cases h3 : badSlot W (formAt W p) (p + 3) (slotsAt W p) with
      | some k => rw [fault_slot h1 h2 h3] at h; cases h
      | none => rw [fault_next h1 h2 h3] at h; exact ⟨rfl, rfl, rfl, h⟩

theorem twice_out {W : List Int} {seen : List Int} {p : Nat} (h : twiceB W seen p = false) : wd W (p + 1) ∉ seen ∧ 1 ≤ wd W (p + 1) ∧ wd W (p + 1) < wd W 1 := by
  unfold twiceB at h
  rw [Bool.or_eq_false_iff] at h
  obtain ⟨h1, h2⟩ := h
  have := of_decide_eq_false h2
  exact ⟨fun hm => (by rw [List.contains_iff_mem.2 hm] at h1; exact Bool.noConfusion h1), by omega, by omega⟩
theorem twice_mk {W : List Int} {seen : List Int} {p : Nat} (h : wd W (p + 1) ∉ seen ∧ 1 ≤ wd W (p + 1) ∧ wd W (p + 1) < wd W 1) : twiceB W seen p = false := by
  unfold twiceB
  rw [Bool.or_eq_false_iff]
  refine ⟨?_, decide_eq_false (by omega)⟩
  rw [Bool.eq_false_iff]; exact fun hc => h.1 (List.contains_iff_mem.1 hc)

/-- Of all of some things that are all right. -/
theorem fault_all {W : List Int} : ∀ (ps : List Nat) (seen : List Int), (faultOf W seen ps).1 = 0 → ∀ p ∈ ps,
    nilB W (wd W p) = true ∧ badSlot W (formAt W p) (p + 3) (slotsAt W p) = none ∧ wd W (p + 1) ∉ seen ∧ 1 ≤ wd W (p + 1) ∧ wd W (p + 1) < wd W 1
  | [], _, _, p, hp => by cases hp
  | a :: r, seen, h, p, hp => by
    obtain ⟨h1, h2, h3, h4⟩ := fault_cons h
    rcases List.mem_cons.1 hp with rfl | hp
    · obtain ⟨t1, t2, t3⟩ := twice_out h2; exact ⟨h1, h3, t1, t2, t3⟩
    · obtain ⟨a1, a2, a3, a4⟩ := fault_all r _ h4 p hp
      exact ⟨a1, a2, fun hm => a3 (List.mem_append.2 (Or.inl hm)), a4⟩
/-- Unlike things have unlike hashes. -/
theorem fault_apart {W : List Int} : ∀ (ps : List Nat) (seen : List Int), (faultOf W seen ps).1 = 0 → ps.Nodup → ∀ p ∈ ps, ∀ q ∈ ps, wd W (p + 1) = wd W (q + 1) → p = q
  | [], _, _, _, p, hp, _, _, _ => by cases hp
  | a :: r, seen, h, hn, p, hp, q, hq, he => by
    obtain ⟨h1, h2, h3, h4⟩ := fault_cons h
    rcases List.mem_cons.1 hp with rfl | hp
    · rcases List.mem_cons.1 hq with rfl | hq
      · rfl
      · exact absurd (by rw [he]; simp) (fault_all r _ h4 q hq).2.2.1
    · rcases List.mem_cons.1 hq with rfl | hq'
      · exact absurd (by rw [he]; simp) (fault_all r _ h4 p (by assumption)).2.2.1
      · exact fault_apart r _ h4 (List.nodup_cons.1 hn).2 p (by assumption) q hq' he

theorem fault_keep {W W' : List Int} (h1 : wd W 1 ≤ wd W' 1) : ∀ (ps : List Nat) (seen : List Int), (faultOf W seen ps).1 = 0 →
    (∀ p ∈ ps, (nilB W (wd W p) = true → nilB W' (wd W' p) = true) ∧ wd W' (p + 1) = wd W (p + 1) ∧ (badSlot W (formAt W p) (p + 3) (slotsAt W p) = none → badSlot W' (formAt W' p) (p + 3) (slotsAt W' p) = none)) →
    faultOf W' seen ps = (0, 0)
  | [], _, _, _ => rfl
  | a :: r, seen, h, hs => by
    obtain ⟨c1, c2, c3, c4⟩ := fault_cons h
    obtain ⟨s1, s2, s3⟩ := hs a (List.mem_cons_self ..)
    obtain ⟨t1, t2, t3⟩ := twice_out c2
    rw [fault_next (s1 c1) (twice_mk (by rw [s2]; exact ⟨t1, t2, by omega⟩)) (s3 c3), s2]
    exact fault_keep h1 r _ c4 fun p hp => hs p (List.mem_cons_of_mem _ hp)
theorem fault_append {W : List Int} : ∀ (ps r : List Nat) (seen : List Int), (faultOf W seen ps).1 = 0 → faultOf W seen (ps ++ r) = faultOf W (seen ++ ps.map fun p => wd W (p + 1)) r
  | [], r, seen, _ => by simp
  | a :: ps, r, seen, h => by
    obtain ⟨c1, c2, c3, c4⟩ := fault_cons h
    rw [List.cons_append, fault_next c1 c2 c3, fault_append ps r _ c4]
    simp

/-- Who was a thing's reference is one where there are more places. -/
theorem nil_mono {W W' : List Int} (h : ∀ q ∈ places W 2, q ∈ places W' 2) {o : Int} (ho : nilB W o = true) : nilB W' o = true := by
  unfold nilB thingB beginB at ho ⊢
  simp only [Bool.or_eq_true, Bool.and_eq_true, beq_iff_eq, List.contains_iff_mem] at ho ⊢
  rcases ho with ho | ⟨h1, h2⟩
  · exact Or.inl ho
  · exact Or.inr ⟨h1, h _ h2⟩
theorem thing_mono {W W' : List Int} (h : ∀ q ∈ places W 2, q ∈ places W' 2) {o : Int} (ho : thingB W o = true) : thingB W' o = true := by
  unfold thingB beginB at ho ⊢
  simp only [Bool.and_eq_true, beq_iff_eq, List.contains_iff_mem] at ho ⊢
  exact ⟨ho.1, h _ ho.2⟩
theorem stand_mono {W W' : List Int} (h : ∀ q ∈ places W 2, q ∈ places W' 2) {f o : Int} (ho : standB W f o = true) : standB W' f o = true := by
  unfold standB at ho ⊢
  split
  · rename_i hf; rw [if_pos hf] at ho; exact ho
  · rename_i hf; rw [if_neg hf] at ho
    simp only [Bool.or_eq_true] at ho ⊢
    exact ho.imp id (nil_mono h)

theorem wd_set_other {W : List Int} {i j : Nat} {x : Int} (h : i ≠ j) : wd (W.set i x) j = wd W j := by
  unfold wd; rw [List.getD_eq_getElem?_getD, List.getD_eq_getElem?_getD, List.getElem?_set_ne h]
theorem wd_set_same {W : List Int} {i : Nat} {x : Int} (h : i < W.length) : wd (W.set i x) i = x := by
  unfold wd; rw [List.getD_eq_getElem?_getD, List.getElem?_set_self h]; rfl

theorem check_fine {W : List Int} (h : (checkOf W).1 = 0) : (frontOf W).1 = 0 ∧ unfit W 2 = none ∧ (faultOf W [] (places W 2)).1 = 0 := by
  obtain ⟨h1, h2⟩ := check_ok h
  refine ⟨h1, h2, ?_⟩
  rw [check_things h1 h2] at h; exact h
theorem front_again {W W' : List Int} (h : (frontOf W).1 = 0) (hl : W.length ≤ W'.length) (hm : W'.length ≤ 2000) (h0 : wd W' 0 = wd W 0) (h1 : wd W 1 ≤ wd W' 1) (h2 : wd W' 1 ≤ 10001) : (frontOf W').1 = 0 := by
  obtain ⟨a1, a2, a3, a4, a5⟩ := front_out h
  rw [front_ok (by omega) (by rw [h0]; exact a3) (by omega)]

/-- A slot that changes to what may stand there: places are as they were, and the heap may be. -/
theorem put_keeps {W : List Int} {p k : Nat} {what : Int} (h : (checkOf W).1 = 0) (hp : p ∈ places W 2) (hk : k < slotsAt W p) (hs : standB W (formAt W p) what = true) :
    places (W.set (p + 3 + k) what) 2 = places W 2 ∧ (checkOf (W.set (p + 3 + k) what)).1 = 0 := by
  obtain ⟨c1, c2, c3⟩ := check_fine h
  obtain ⟨f1, f2, f3, f4, f5⟩ := front_out c1
  have hp2 := (place_fit c2 hp).1
  have hi : p + 3 + k < W.length := by have := (fits_out (place_fit c2 hp).2.2.1).2.2.2.2; omega
  have hlen : (W.set (p + 3 + k) what).length = W.length := List.length_set
  have hd : ∀ q ∈ places W 2, ∀ j, j ≤ 2 → wd (W.set (p + 3 + k) what) (q + j) = wd W (q + j) := fun q hq j hj => wd_set_other (by have := slot_apart hp hq hk; omega)
  obtain ⟨g1, g2⟩ := places_grow (W := W) (W' := W.set (p + 3 + k) what) (by omega) f1 c2 (fun q hq => hd q hq 2 (by omega))
  rw [places_end (W := W.set (p + 3 + k) what) (p := W.length) (by omega), List.append_nil] at g1
  rw [unfit_end (W := W.set (p + 3 + k) what) (p := W.length) (by omega)] at g2
  refine ⟨g1, ?_⟩
  have w1 : wd (W.set (p + 3 + k) what) 1 = wd W 1 := wd_set_other (by omega)
  have w0 : wd (W.set (p + 3 + k) what) 0 = wd W 0 := wd_set_other (by omega)
  have hmem : ∀ q ∈ places W 2, q ∈ places (W.set (p + 3 + k) what) 2 := fun q hq => by rw [g1]; exact hq
  rw [check_things (front_again c1 (by omega) (by omega) w0 (by omega) (by omega)) g2, g1, fault_keep (W := W) (by omega) _ _ c3 fun q hq => ⟨?_, hd q hq 1 (by omega), ?_⟩]
  · intro hn; rw [show q = q + 0 by rfl, hd q hq 0 (by omega)]; exact nil_mono hmem hn
  · intro hb
    rw [form_same (hd q hq 2 (by omega)), slots_same (hd q hq 2 (by omega))]
    rw [bad_none] at hb ⊢
    intro j hj
    by_cases he : p + 3 + k = q + 3 + j
    · have hpq : p = q := by
        rcases Nat.lt_trichotomy p q with hlt | heq | hlt
        · have := place_sep hp hq hlt; simp only [nextAt] at this; omega
        · exact heq
        · have := place_sep hq hp hlt; simp only [nextAt] at this; omega
      subst hpq
      rw [← he, wd_set_same hi]; exact stand_mono hmem hs
    · rw [wd_set_other he]; exact stand_mono hmem (hb j hj)

/-- What is said of words with a thing more at their end. -/
structure OneMore (W M : List Int) (cl fo : Int) (m : Nat) : Prop where
  length : M.length = W.length + 3 + m
  old : ∀ i, i < W.length → i ≠ 1 → wd M i = wd W i
  one : wd M 1 = wd W 1 + 1
  cls : wd M W.length = cl
  hash : wd M (W.length + 1) = wd W 1
  shape : wd M (W.length + 2) = 4 * (m : Int) + fo
  zero : ∀ j, j < m → wd M (W.length + 3 + j) = 0

theorem OneMore.places {W M : List Int} {cl fo : Int} {m : Nat} (hM : OneMore W M cl fo m) (h : (checkOf W).1 = 0) (hfo : 0 ≤ fo ∧ fo ≤ 2) (hm : m ≤ 60) :
    places M 2 = places W 2 ++ [W.length] ∧ unfit M 2 = none ∧ slotsAt M W.length = m ∧ formAt M W.length = fo := by
  obtain ⟨c1, c2, c3⟩ := check_fine h
  obtain ⟨f1, f2, f3, f4, f5⟩ := front_out c1
  have hl := hM.length
  have hsl : slotsAt M W.length = m := by unfold slotsAt; rw [hM.shape]; omega
  have hfm : formAt M W.length = fo := by unfold formAt; rw [hM.shape]; omega
  obtain ⟨g1, g2⟩ := places_grow (W := W) (W' := M) (by omega) f1 c2 (fun q hq => by
    have hq2 := (place_fit c2 hq)
    have := (fits_out hq2.2.2.1).1
    exact hM.old _ (by omega) (by omega))
  have hf : fitsB M W.length = true := fits_mk ⟨by omega, by rw [hM.shape]; omega, by rw [hM.shape]; omega, by rw [hM.shape]; omega, by rw [hsl]; omega⟩
  have hn : nextAt M W.length = M.length := by unfold nextAt; rw [hsl, hl]
  rw [places_in (W := M) (p := W.length) (by omega), hn, places_end (W := M) (p := M.length) (by omega)] at g1
  rw [unfit_in (W := M) (p := W.length) (by omega) hf, hn, unfit_end (W := M) (p := M.length) (by omega)] at g2
  exact ⟨g1, g2, hsl, hfm⟩

/-- A heap with a thing more may be. -/
theorem OneMore.may {W M : List Int} {cl fo : Int} {m : Nat} (hM : OneMore W M cl fo m) (h : (checkOf W).1 = 0) (hc : nilB W cl = true) (hfo : 0 ≤ fo ∧ fo ≤ 2) (hm : m ≤ 60) (hfit : W.length + 3 + m ≤ 2000) (hh : wd W 1 ≤ 10000) :
    (checkOf M).1 = 0 := by
  obtain ⟨c1, c2, c3⟩ := check_fine h
  obtain ⟨f1, f2, f3, f4, f5⟩ := front_out c1
  obtain ⟨g1, g2, hsl, hfm⟩ := hM.places h hfo hm
  have hl := hM.length
  have hone := hM.one
  have hmem : ∀ q ∈ Go.Proofs.Ythdhaokjibfjdaa.places W 2, q ∈ Go.Proofs.Ythdhaokjibfjdaa.places M 2 := fun q hq => by rw [g1]; exact List.mem_append.2 (Or.inl hq)
  have w0 : wd M 0 = wd W 0 := hM.old 0 (by omega) (by omega)
  rw [check_things (front_again c1 (by omega) (by omega) w0 (by omega) (by omega)) g2, g1]
  have hk : faultOf M [] (Go.Proofs.Ythdhaokjibfjdaa.places W 2) = (0, 0) := by
    refine fault_keep (W := W) (by omega) _ _ c3 fun q hq => ?_
    have hq2 := (place_fit c2 hq)
    obtain ⟨b1, b2, b3, b4, b5⟩ := fits_out hq2.2.2.1
    have e0 := hM.old q (by omega) (by omega)
    have e1 := hM.old (q + 1) (by omega) (by omega)
    have e2 := hM.old (q + 2) (by omega) (by omega)
    refine ⟨fun hn => by rw [e0]; exact nil_mono hmem hn, e1, fun hb => ?_⟩
    rw [form_same e2, slots_same e2]
    rw [bad_none] at hb ⊢
    intro j hj
    rw [hM.old (q + 3 + j) (by omega) (by omega)]; exact stand_mono hmem (hb j hj)
  rw [fault_append _ _ _ (by rw [hk])]
  rw [fault_next (by rw [hM.cls]; exact nil_mono hmem hc) (twice_mk ⟨?_, by rw [hM.hash]; omega, by rw [hM.hash]; omega⟩) ?_]
  · rfl
  · rw [hM.hash, List.nil_append]
    intro hmm
    obtain ⟨q, hq, he⟩ := List.mem_map.1 hmm
    have hq2 := (place_fit c2 hq)
    have := (fits_out hq2.2.2.1).1
    rw [hM.old (q + 1) (by omega) (by omega)] at he
    have := (fault_all _ _ c3 q hq).2.2.2.2
    omega
  · rw [hsl, hfm, bad_none]
    intro j hj
    rw [hM.zero j hj]
    unfold standB
    split
    · decide
    · have : kindOf 0 = 2 := by decide
      simp [nilB, this]

end Go.Proofs.Ythdhaokjibfjdaa
