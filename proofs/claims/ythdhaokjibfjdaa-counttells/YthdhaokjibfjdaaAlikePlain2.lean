/- Two heaps that are alike: the program's answer is the document's. No Go in sight. -/
import Derived.Test.YthdhaokjibfjdaaAlikePlain
namespace Go.Proofs.Ythdhaokjibfjdaa

/-- A reference of a heap. -/
def okRef (W : List Int) (o : Int) : Prop := (kindOf o == 1 || nilB W o) = true
theorem ok_thing {W : List Int} {o : Int} (h : okRef W o) (hk : kindOf o = 3) : thingB W o = true := by
  unfold okRef nilB at h
  rw [hk] at h
  simpa using h
theorem thing_kind {W : List Int} {o : Int} (h : thingB W o = true) : kindOf o = 3 := (thing_out h).1

/-- A heap that may be: what is known of its things. -/
structure Fine (W : List Int) : Prop where
  few : W.length ≤ 2000
  fit : unfit W 2 = none
  cls : ∀ p ∈ places W 2, okRef W (wd W p)
  slot : ∀ p ∈ places W 2, formAt W p ≠ 1 → ∀ k, k < slotsAt W p → okRef W (wd W (p + 3 + k))
  apart : ∀ p ∈ places W 2, ∀ q ∈ places W 2, wd W (p + 1) = wd W (q + 1) → p = q
  room : ∀ p ∈ places W 2, p + 3 + slotsAt W p ≤ W.length
  shape : ∀ p ∈ places W 2, wd W (p + 2) = 4 * (slotsAt W p : Int) + formAt W p
  form : ∀ p ∈ places W 2, formAt W p = 0 ∨ formAt W p = 1 ∨ formAt W p = 2
theorem places_nodup {W : List Int} : ∀ (n p : Nat), W.length - p ≤ n → (places W p).Nodup
  | 0, p, hn => by rw [places_end (by omega)]; exact List.nodup_nil
  | n + 1, p, hn => by
    by_cases h : p < W.length
    · rw [places_in h, List.nodup_cons]
      exact ⟨fun hm => by have := (place_ge hm).1; simp [nextAt] at this; omega, places_nodup n _ (by simp [nextAt]; omega)⟩
    · rw [places_end h]; exact List.nodup_nil
theorem fine_of {W : List Int} (h : (checkOf W).1 = 0) : Fine W := by
  obtain ⟨c1, c2, c3⟩ := check_fine h
  obtain ⟨f1, f2, _⟩ := front_out c1
  have hA := fault_all _ _ c3
  refine ⟨f2, c2, fun p hp => ?_, fun p hp hf k hk => ?_, fun p hp q hq e => fault_apart _ _ c3 (places_nodup _ 2 (Nat.le_refl _)) p hp q hq e, fun p hp => (fits_out (place_fit c2 hp).2.2.1).2.2.2.2, fun p hp => ?_, fun p hp => ?_⟩
  · unfold okRef; rw [(hA p hp).1]; simp
  · have := (bad_none _ _).1 (hA p hp).2.1 k hk
    unfold standB at this
    rw [if_neg hf] at this; exact this
  · have := fits_out (place_fit c2 hp).2.2.1
    unfold slotsAt formAt; omega
  · have := fits_out (place_fit c2 hp).2.2.1
    unfold formAt; omega

theorem reached_place {W R : List Int} {x : Int} (h : Reached W R x) : pl2 x ∈ places W 2 ∧ x = 2 * (pl2 x : Int) := by
  obtain ⟨p, hx, hm, _, he⟩ := thing_ref h.thing
  unfold pl2; rw [he]; exact ⟨hm, hx⟩
theorem Fine.lead {W R : List Int} (hW : Fine W) {x o : Int} (hx : Reached W R x) (ho : o ∈ leadsAt W (pl2 x)) : okRef W o := by
  have hp := (reached_place hx).1
  unfold leadsAt at ho
  rcases List.mem_cons.1 ho with rfl | ho
  · exact hW.cls _ hp
  · split at ho
    · rename_i f0
      obtain ⟨k, hk, e⟩ := List.getElem_of_mem ho
      have hk' : k < slotsAt W (pl2 x) := by rw [List.length_take, List.length_drop] at hk; omega
      have := hW.slot _ hp (by omega) k hk'
      rw [← slotList_at hk'] at this
      have e2 : wd (slotList W (pl2 x)) k = o := by
        unfold wd slotList; rw [List.getD_eq_getElem?_getD, List.getElem?_eq_getElem hk, e]; rfl
      rwa [e2] at this
    · cases ho
theorem Fine.one {W R : List Int} (hW : Fine W) {x x' : Int} (hx : Reached W R x) (hx' : Reached W R x') (h : wd W (pl2 x + 1) = wd W (pl2 x' + 1)) : x = x' := by
  obtain ⟨h1, e1⟩ := reached_place hx
  obtain ⟨h2, e2⟩ := reached_place hx'
  rw [e1, e2, hW.apart _ h1 _ h2 h]

theorem rel_left {W V : List Int} {P : Pairs} {x y : Int} (h : Rel W V P x y) (hy : okRef V y) (ht : thingB W x = true) : x ∈ dom P := by
  unfold Rel at h
  split at h
  · exact mem_dom h
  · rename_i hc
    subst h
    exact absurd ⟨ht, ok_thing hy (thing_kind ht)⟩ hc
theorem rel_right {W V : List Int} {P : Pairs} {x y : Int} (h : Rel W V P x y) (hx : okRef W x) (ht : thingB V y = true) : y ∈ img P := by
  unfold Rel at h
  split at h
  · exact mem_img h
  · rename_i hc
    subst h
    exact absurd ⟨ok_thing hx (thing_kind ht), ht⟩ hc
theorem pair_index {P : Pairs} {x y : Int} (h : (x, y) ∈ P) : ∃ i, i < P.length ∧ pairAt P i = (x, y) := by
  obtain ⟨i, hi, e⟩ := List.getElem_of_mem h
  exact ⟨i, hi, by unfold pairAt; rw [List.getD_eq_getElem?_getD, List.getElem?_eq_getElem hi, e]; rfl⟩
theorem Looked.at {W V R S : List Int} {P : Pairs} (h : Looked W V R S P P.length) {x y : Int} (hm : (x, y) ∈ P) : Done W V P x y := by
  obtain ⟨i, hi, e⟩ := pair_index hm
  have := h.done i hi
  rw [e] at this; exact this
theorem wd_index {xs : List Int} {o : Int} (h : o ∈ xs) : ∃ i, i < xs.length ∧ wd xs i = o := by
  obtain ⟨i, hi, e⟩ := List.getElem_of_mem h
  exact ⟨i, hi, by unfold wd; rw [List.getD_eq_getElem?_getD, List.getElem?_eq_getElem hi, e]; rfl⟩
theorem leads_cases {W : List Int} {p : Nat} {o : Int} (h : o ∈ leadsAt W p) : o = wd W p ∨ (formAt W p = 0 ∧ o ∈ slotList W p) := by
  unfold leadsAt at h
  rcases List.mem_cons.1 h with h | h
  · exact Or.inl h
  · split at h
    · exact Or.inr ⟨by assumption, h⟩
    · cases h

/-- In the end who is given is who is reached. -/
theorem Looked.all_left {W V R S : List Int} {P : Pairs} (hV : Fine V) (hS : ∀ y ∈ S, okRef V y) (h : Looked W V R S P P.length) {x : Int} (hx : Reached W R x) : x ∈ dom P := by
  induction hx with
  | root ho ht =>
    obtain ⟨i, hi, rfl⟩ := wd_index ho
    exact rel_left (h.rooted.2 i hi) (hS _ (wd_mem (by have := h.rooted.1; omega))) ht
  | @step x o hx ho ht ih =>
    obtain ⟨y, hy⟩ := dom_mem ih
    have hd := h.at hy
    have hyr := h.valid.right y (mem_img hy)
    rcases leads_cases ho with rfl | ⟨f0, ho⟩
    · exact rel_left hd.cls (hV.lead hyr (class_lead' _ _)) ht
    · obtain ⟨k, hk, rfl⟩ := wd_index ho
      have hE := hd.plain (by show formAt W (pl2 x) ≠ 1; unfold pl2; rw [f0]; decide) (by show formAt W (pl2 x) ≠ 2; unfold pl2; rw [f0]; decide)
      exact rel_left (hE.2 k hk) (hV.lead hyr (slots_lead (by rw [← hd.form]; exact f0) (wd_mem (by have := hE.1; unfold pl2 at this ⊢; omega)))) ht
theorem Looked.all_right {W V R S : List Int} {P : Pairs} (hW : Fine W) (hR : ∀ x ∈ R, okRef W x) (h : Looked W V R S P P.length) {y : Int} (hy : Reached V S y) : y ∈ img P := by
  induction hy with
  | root ho ht =>
    obtain ⟨i, hi, rfl⟩ := wd_index ho
    exact rel_right (h.rooted.2 i (by have := h.rooted.1; omega)) (hR _ (wd_mem (by have := h.rooted.1; omega))) ht
  | @step y o hy ho ht ih =>
    obtain ⟨x, hx⟩ := img_mem ih
    have hd := h.at hx
    have hxr := h.valid.left x (mem_dom hx)
    rcases leads_cases ho with rfl | ⟨f0, ho⟩
    · exact rel_right hd.cls (hW.lead hxr (class_lead' _ _)) ht
    · have f0' : formAt W (pl2 x) = 0 := by rw [hd.form]; exact f0
      obtain ⟨k, hk, rfl⟩ := wd_index ho
      have hE := hd.plain (by rw [f0']; decide) (by rw [f0']; decide)
      have hk' : k < (slotList W (pl2 x)).length := by have := hE.1; unfold pl2 at this ⊢; omega
      exact rel_right (hE.2 k hk') (hW.lead hxr (slots_lead f0' (wd_mem hk'))) ht

/-! The document's way. -/

/-- Marks that tell what is reached. -/
def Tells (W R : List Int) (A : List Bool) : Prop := A.length = W.length ∧ ∀ k, bt A k = true ↔ Reached W R (2 * (k : Int))
theorem Tells.at {W R : List Int} {A : List Bool} (h : Tells W R A) {x : Int} (hx : kindOf x = 3) : bt A (pl2 x) = true ↔ Reached W R x := by
  have := kind3 hx
  rw [h.2 (pl2 x), show 2 * (pl2 x : Int) = x by unfold pl2; omega]

def sameB (W : List Int) (A : List Bool) (V : List Int) (B : List Bool) (o q : Int) : Bool :=
  if kindOf o = 3 ∧ kindOf q = 3 then bt A (pl2 o) && bt B (pl2 q) && (wd W (pl2 o + 1) == wd V (pl2 q + 1)) else o == q
def weakB (A : List Bool) (x : Int) : Int := if kindOf x = 3 ∧ bt A (pl2 x) = false then 0 else x
def slotB (W : List Int) (A : List Bool) (V : List Int) (B : List Bool) (form x y : Int) : Bool :=
  if form = 1 then x == y else if form = 2 then sameB W A V B (weakB A x) (weakB B y) else sameB W A V B x y
def slotsB (W : List Int) (A : List Bool) (V : List Int) (B : List Bool) (p q k : Nat) : Nat → Bool
  | 0 => true
  | n + 1 => if slotB W A V B (formAt W p) (wd W (p + 3 + k)) (wd V (q + 3 + k)) = true then slotsB W A V B p q (k + 1) n else false
def thingsB (W : List Int) (A : List Bool) (V : List Int) (B : List Bool) (p q : Nat) : Bool :=
  if wd W (p + 2) = wd V (q + 2) then (if sameB W A V B (wd W p) (wd V q) = true then slotsB W A V B p q 0 (slotsAt W p) else false) else false
def hashedB (V : List Int) (B : List Bool) (h : Int) (k : Nat) : Nat → Option Nat
  | 0 => none
  | n + 1 => if bt B k = true ∧ wd V (k + 1) = h then some k else hashedB V B h (k + 1) n
def rootsB (W : List Int) (A : List Bool) (V : List Int) (B : List Bool) (R S : List Int) (k : Nat) : Nat → Bool
  | 0 => true
  | n + 1 => if sameB W A V B (wd R k) (wd S k) = true then rootsB W A V B R S (k + 1) n else false
def eachB (W : List Int) (A : List Bool) (V : List Int) (B : List Bool) (k : Nat) : Nat → Bool
  | 0 => true
  | n + 1 => if bt A k = true then (match hashedB V B (wd W (k + 1)) 0 V.length with | none => false | some q => if thingsB W A V B k q = true then eachB W A V B (k + 1) n else false) else eachB W A V B (k + 1) n
theorem eachB_succ (W : List Int) (A : List Bool) (V : List Int) (B : List Bool) (k n : Nat) : eachB W A V B k (n + 1) = if bt A k = true then (match hashedB V B (wd W (k + 1)) 0 V.length with | none => false | some q => if thingsB W A V B k q = true then eachB W A V B (k + 1) n else false) else eachB W A V B (k + 1) n := rfl
def refB (W : List Int) (A : List Bool) (V : List Int) (B : List Bool) (R S : List Int) : Bool :=
  if R.length = S.length then (if marks A = marks B then (if rootsB W A V B R S 0 R.length = true then eachB W A V B 0 W.length else false) else false) else false

theorem slotsB_iff {W : List Int} {A : List Bool} {V : List Int} {B : List Bool} {p q : Nat} : ∀ (n k : Nat), slotsB W A V B p q k n = true ↔ ∀ j, j < n → slotB W A V B (formAt W p) (wd W (p + 3 + (k + j))) (wd V (q + 3 + (k + j))) = true
  | 0, k => by simp [slotsB]
  | n + 1, k => by
    unfold slotsB
    split
    · rename_i h
      rw [slotsB_iff n (k + 1)]
      constructor
      · intro g j hj
        cases j with
        | zero => exact h
        | succ j => have := g j (by omega); rwa [show k + 1 + j = k + (j + 1) by omega] at this
      · intro g j hj
        have := g (j + 1) (by omega); rwa [show k + (j + 1) = k + 1 + j by omega] at this
    · rename_i h
      exact ⟨fun g => (by cases g), fun g => absurd (g 0 (by omega)) h⟩
theorem rootsB_iff {W : List Int} {A : List Bool} {V : List Int} {B : List Bool} {R S : List Int} : ∀ (n k : Nat), rootsB W A V B R S k n = true ↔ ∀ j, j < n → sameB W A V B (wd R (k + j)) (wd S (k + j)) = true
  | 0, k => by simp [rootsB]
  | n + 1, k => by
    unfold rootsB
    split
    · rename_i h
      rw [rootsB_iff n (k + 1)]
      constructor
      · intro g j hj
        cases j with
        | zero => exact h
        | succ j => have := g j (by omega); rwa [show k + 1 + j = k + (j + 1) by omega] at this
      · intro g j hj
        have := g (j + 1) (by omega); rwa [show k + (j + 1) = k + 1 + j by omega] at this
    · rename_i h
      exact ⟨fun g => (by cases g), fun g => absurd (g 0 (by omega)) h⟩
theorem eachB_iff {W : List Int} {A : List Bool} {V : List Int} {B : List Bool} : ∀ (n k : Nat), eachB W A V B k n = true ↔ ∀ j, j < n → bt A (k + j) = true → ∃ q, hashedB V B (wd W (k + j + 1)) 0 V.length = some q ∧ thingsB W A V B (k + j) q = true
  | 0, k => by simp [eachB]
  | n + 1, k => by
    have ih := eachB_iff (W := W) (A := A) (V := V) (B := B) n (k + 1)
    have split' : (∀ j, j < n + 1 → bt A (k + j) = true → ∃ q, hashedB V B (wd W (k + j + 1)) 0 V.length = some q ∧ thingsB W A V B (k + j) q = true) ↔
        (bt A k = true → ∃ q, hashedB V B (wd W (k + 1)) 0 V.length = some q ∧ thingsB W A V B k q = true) ∧ eachB W A V B (k + 1) n = true := by
      rw [ih]
      constructor
      · intro g
        refine ⟨g 0 (by omega), fun j hj => ?_⟩
        have := g (j + 1) (by omega); rwa [show k + (j + 1) = k + 1 + j by omega] at this
      · rintro ⟨g0, g⟩ j hj
        cases j with
        | zero => exact g0
        | succ j => have := g j (by omega); rwa [show k + 1 + j = k + (j + 1) by omega] at this
    rw [split', eachB_succ]
    split
    · rename_i hb
      cases hh : hashedB V B (wd W (k + 1)) 0 V.length with
      | none => simp [hb]
      | some q =>
        simp only [hb, true_implies]
        constructor
        · intro g
          split at g
          · rename_i ht; exact ⟨⟨q, rfl, ht⟩, g⟩
          · cases g
        · rintro ⟨⟨q', e, ht⟩, g⟩
          injection e with e; subst e
          rw [if_pos ht]; exact g
    · rename_i hb
      simp [hb]
theorem hashedB_some {V : List Int} {B : List Bool} {h : Int} : ∀ (n k : Nat) {q : Nat}, hashedB V B h k n = some q → bt B q = true ∧ wd V (q + 1) = h
  | 0, k, q, e => by cases e
  | n + 1, k, q, e => by
    unfold hashedB at e
    split at e
    · rename_i hc; injection e with e; subst e; exact hc
    · exact hashedB_some n (k + 1) e
theorem hashedB_ex {V : List Int} {B : List Bool} {h : Int} : ∀ (n k : Nat) {q : Nat}, k ≤ q → q < k + n → bt B q = true → wd V (q + 1) = h → ∃ q', hashedB V B h k n = some q'
  | 0, k, q, h1, h2, _, _ => by omega
  | n + 1, k, q, h1, h2, h3, h4 => by
    unfold hashedB
    split
    · exact ⟨k, rfl⟩
    · rename_i hc
      have hne : q ≠ k := fun e => hc (by rw [← e]; exact ⟨h3, h4⟩)
      exact hashedB_ex n (k + 1) (by omega) (by omega) h3 h4

theorem count_take (A : List Bool) : ∀ n, n ≤ A.length → (markedRefs A n).length = (A.take n).count true
  | 0, _ => by simp [markedRefs]
  | n + 1, h => by
    have ih := count_take A n (by omega)
    have hb : bt A n = A[n] := by unfold bt; rw [List.getD_eq_getElem?_getD, List.getElem?_eq_getElem (by omega)]; rfl
    rw [List.take_succ_eq_append_getElem (by omega), List.count_append, ← ih, ← hb]
    cases hv : bt A n with
    | true => rw [marked_yes hv]; simp
    | false => rw [marked_no hv]; simp
theorem Tells.marks {W R : List Int} {A : List Bool} (h : Tells W R A) : marks A = (reachList W R).length := by
  rw [← marked_all h.2, ← h.1, count_take A A.length (Nat.le_refl _), List.take_length]; rfl

/-- All that is said of two heaps and their roots. -/
structure Two (W V R S : List Int) (A B : List Bool) : Prop where
  one : Fine W
  other : Fine V
  roots : ∀ x ∈ R, okRef W x
  others : ∀ y ∈ S, okRef V y
  tellsA : Tells W R A
  tellsB : Tells V S B

/-- What is alike by hashes is, said of what is reached. -/
theorem Two.same {W V R S : List Int} {A B : List Bool} (T : Two W V R S A B) {x y : Int} (hx : okRef W x) (hy : okRef V y) :
    sameB W A V B x y = true ↔ (if thingB W x = true ∧ thingB V y = true then Reached W R x ∧ Reached V S y ∧ wd W (pl2 x + 1) = wd V (pl2 y + 1) else x = y) := by
  unfold sameB
  by_cases hk : kindOf x = 3 ∧ kindOf y = 3
  · rw [if_pos hk, if_pos ⟨ok_thing hx hk.1, ok_thing hy hk.2⟩, ← T.tellsA.at hk.1, ← T.tellsB.at hk.2]
    simp [and_assoc]
  · rw [if_neg hk, if_neg (fun h => hk ⟨thing_kind h.1, thing_kind h.2⟩)]
    simp
/-- Related by pairs that are all looked at: alike by hashes. -/
theorem Two.rel_same {W V R S : List Int} {A B : List Bool} (T : Two W V R S A B) {P : Pairs} (h : Looked W V R S P P.length) {x y : Int} (hx : okRef W x) (hy : okRef V y) (hr : Rel W V P x y) : sameB W A V B x y = true := by
  rw [T.same hx hy]
  unfold Rel at hr
  split
  · rename_i hc
    rw [if_pos hc] at hr
    exact ⟨h.valid.left x (mem_dom hr), h.valid.right y (mem_img hr), (h.at hr).hash⟩
  · rename_i hc
    rw [if_neg hc] at hr; exact hr
theorem ok_zero (W : List Int) : okRef W 0 := by
  unfold okRef nilB
  have : kindOf 0 = 2 := by decide
  rw [this]; rfl
theorem Two.kept_left {W V R S : List Int} {A B : List Bool} (T : Two W V R S A B) {P : Pairs} (h : Looked W V R S P P.length) {x : Int} (hx : okRef W x) : keptP W (dom P) x = weakB A x ∧ okRef W (weakB A x) := by
  have e : (x ∉ dom P ∧ thingB W x = true) ↔ (kindOf x = 3 ∧ bt A (pl2 x) = false) := by
    constructor
    · rintro ⟨h1, h2⟩
      have hk := thing_kind h2
      refine ⟨hk, Bool.eq_false_iff.2 fun hb => h1 (h.all_left T.other T.others ((T.tellsA.at hk).1 hb))⟩
    · rintro ⟨h1, h2⟩
      refine ⟨fun hm => ?_, ok_thing hx h1⟩
      rw [(T.tellsA.at h1).2 (h.valid.left x hm)] at h2; cases h2
  unfold keptP weakB
  by_cases hc : kindOf x = 3 ∧ bt A (pl2 x) = false
  · rw [if_pos hc, if_pos (e.2 hc)]; exact ⟨rfl, ok_zero W⟩
  · rw [if_neg hc, if_neg (fun h => hc (e.1 h))]; exact ⟨rfl, hx⟩
theorem Two.kept_right {W V R S : List Int} {A B : List Bool} (T : Two W V R S A B) {P : Pairs} (h : Looked W V R S P P.length) {y : Int} (hy : okRef V y) : keptP V (img P) y = weakB B y ∧ okRef V (weakB B y) := by
  have e : (y ∉ img P ∧ thingB V y = true) ↔ (kindOf y = 3 ∧ bt B (pl2 y) = false) := by
    constructor
    · rintro ⟨h1, h2⟩
      have hk := thing_kind h2
      refine ⟨hk, Bool.eq_false_iff.2 fun hb => h1 (h.all_right T.one T.roots ((T.tellsB.at hk).1 hb))⟩
    · rintro ⟨h1, h2⟩
      refine ⟨fun hm => ?_, ok_thing hy h1⟩
      rw [(T.tellsB.at h1).2 (h.valid.right y hm)] at h2; cases h2
  unfold keptP weakB
  by_cases hc : kindOf y = 3 ∧ bt B (pl2 y) = false
  · rw [if_pos hc, if_pos (e.2 hc)]; exact ⟨rfl, ok_zero V⟩
  · rw [if_neg hc, if_neg (fun h => hc (e.1 h))]; exact ⟨rfl, hy⟩

theorem Two.slots_eq {W V R S : List Int} {A B : List Bool} (T : Two W V R S A B) {p q : Nat} (hp : p ∈ places W 2) (hq : q ∈ places V 2) (hf : formAt W p = formAt V q) : wd W (p + 2) = wd V (q + 2) ↔ (slotList W p).length = (slotList V q).length := by
  rw [T.one.shape p hp, T.other.shape q hq, hf, slotList_length (T.one.room p hp), slotList_length (T.other.room q hq)]
  omega

/-- What the program finds, the document says. -/
theorem Two.hold_ref {W V R S : List Int} {A B : List Bool} (T : Two W V R S A B) (h : holdP W V R S = true) : refB W A V B R S = true := by
  unfold holdP at h
  split at h
  case isFalse => cases h
  rename_i h1
  have hRS : R.length = S.length := by
    unfold eqF at h1; split at h1
    · assumption
    · cases h1
  unfold eqF at h1 h
  rw [if_pos hRS] at h1 h
  have hv0 : Valid W V R S [] := ⟨by simp [dom], by simp [img], fun x hx => by simp [dom] at hx, fun x hx => by simp [img] at hx⟩
  obtain ⟨a1, _, a3⟩ := eqP_alike (R := R) (S := S) R S [] hRS hv0 (fun x hx ht => .root hx ht) (fun y hy ht => .root hy ht)
  have hL0 : Looked W V R S (eqP (alikeP W V) [] R S).2 0 := ⟨a1, a3 h1, fun i hi => by omega, Nat.zero_le _⟩
  cases hl : loopP W V (W.length + 1) (eqP (alikeP W V) [] R S).2 0 with
  | none => rw [hl] at h; cases h
  | some P =>
    rw [hl] at h
    have hL := loop_spec T.one.form _ _ _ (by omega) hL0 P hl
    have hw : ∀ z ∈ P, weakOne W V P z = true := List.all_eq_true.1 h
    have hdom : ∀ x, x ∈ dom P ↔ Reached W R x := fun x => ⟨hL.valid.left x, hL.all_left T.other T.others⟩
    have himg : ∀ y, y ∈ img P ↔ Reached V S y := fun y => ⟨hL.valid.right y, hL.all_right T.one T.roots⟩
    have hmk : marks A = marks B := by
      rw [T.tellsA.marks, T.tellsB.marks]
      have e1 := ((List.perm_ext_iff_of_nodup hL.valid.one (reach_nodup W R)).2 fun o => by rw [hdom o, mem_reach]).length_eq
      have e2 := ((List.perm_ext_iff_of_nodup hL.valid.other (reach_nodup V S)).2 fun o => by rw [himg o, mem_reach]).length_eq
      rw [← e1, ← e2]; simp [dom, img]
    unfold refB
    rw [if_pos hRS, if_pos hmk, if_pos]
    · rw [eachB_iff]
      intro j hj hb
      rw [Nat.zero_add] at hb ⊢
      have hjr := (T.tellsA.2 j).1 hb
      obtain ⟨y, hy⟩ := dom_mem ((hdom _).2 hjr)
      have hd := hL.at hy
      have hyr := (himg y).1 (mem_img hy)
      obtain ⟨hyp, hye⟩ := reached_place hyr
      obtain ⟨hjp, _⟩ := reached_place hjr
      have pj : pl2 (2 * (j : Int)) = j := by unfold pl2; omega
      rw [pj] at hjp
      have hbq : bt B (pl2 y) = true := (T.tellsB.2 _).2 (by rw [← hye]; exact hyr)
      have hql := (place_ge hyp).2
      obtain ⟨q', hq'⟩ := hashedB_ex (V := V) (B := B) (h := wd W (j + 1)) V.length 0 (q := pl2 y) (Nat.zero_le _) (by omega) hbq (by have := hd.hash; rw [pj] at this; exact this.symm)
      obtain ⟨b1, b2⟩ := hashedB_some _ _ hq'
      have hq'r := (T.tellsB.2 q').1 b1
      obtain ⟨hq'p, _⟩ := reached_place hq'r
      have pq : pl2 (2 * (q' : Int)) = q' := by unfold pl2; omega
      rw [pq] at hq'p
      have hqe : q' = pl2 y := T.other.apart q' hq'p (pl2 y) hyp (by rw [b2]; have := hd.hash; rw [pj] at this; exact this)
      subst hqe
      refine ⟨_, hq', ?_⟩
      have hform : formAt W j = formAt V (pl2 y) := by have := hd.form; rwa [pj] at this
      have hcls := hd.cls
      rw [pj] at hcls
      have hone := T.one.slot j hjp
      have hoth := T.other.slot (pl2 y) hyp
      have weak := hw _ hy
      unfold weakOne at weak
      simp only [pj] at weak
      have hlen : (slotList W j).length = (slotList V (pl2 y)).length := by
        rcases T.one.form j hjp with f | f | f
        · have := (hd.plain (by rw [pj, f]; decide) (by rw [pj, f]; decide)).1; rwa [pj] at this
        · have := (hd.bytes (by rw [pj, f])).1; rwa [pj] at this
        · rw [if_pos f] at weak
          unfold eqF at weak
          split at weak
          · assumption
          · cases weak
      have l1 := slotList_length (T.one.room j hjp)
      have l2 := slotList_length (T.other.room _ hyp)
      unfold thingsB
      rw [if_pos ((T.slots_eq hjp hyp hform).2 hlen), if_pos (T.rel_same hL (T.one.cls j hjp) (T.other.cls _ hyp) hcls), slotsB_iff]
      intro k hk
      rw [Nat.zero_add]
      have s1 := slotList_at (W := W) (p := j) (k := k) (by omega)
      have s2 := slotList_at (W := V) (p := pl2 y) (k := k) (by omega)
      rw [← s1, ← s2]
      unfold slotB
      rcases T.one.form j hjp with f | f | f
      · have := (hd.plain (by rw [pj, f]; decide) (by rw [pj, f]; decide)).2 k (by rw [pj]; omega)
        rw [pj] at this
        rw [if_neg (by rw [f]; decide), if_neg (by rw [f]; decide)]
        exact T.rel_same hL (by rw [s1]; exact hone (by rw [f]; decide) k (by omega)) (by rw [s2]; exact hoth (by rw [← hform, f]; decide) k (by omega)) this
      · have := (hd.bytes (by rw [pj, f])).2 k (by rw [pj]; omega)
        rw [pj] at this
        rw [if_pos f]; simpa using this
      · rw [if_neg (by rw [f]; decide), if_pos f]
        rw [if_pos f] at weak
        unfold eqF at weak
        rw [if_pos hlen] at weak
        have := ((eqP_weak (W := W) (V := V) (slotList W j) (slotList V (pl2 y)) P hlen).2.1 weak).2 k (by omega)
        have o1 : okRef W (wd (slotList W j) k) := by rw [s1]; exact hone (by rw [f]; decide) k (by omega)
        have o2 : okRef V (wd (slotList V (pl2 y)) k) := by rw [s2]; exact hoth (by rw [← hform, f]; decide) k (by omega)
        obtain ⟨k1, k2⟩ := T.kept_left hL o1
        obtain ⟨k3, k4⟩ := T.kept_right hL o2
        dsimp only at this
        rw [k1, k3] at this
        exact T.rel_same hL k2 k4 this
    · rw [rootsB_iff]
      intro j hj
      rw [Nat.zero_add]
      exact T.rel_same hL (T.roots _ (wd_mem hj)) (T.others _ (wd_mem (by omega))) (hL.rooted.2 j hj)

/-- Pairs of things with one hash. -/
structure Cons (W V R S : List Int) (P : Pairs) : Prop where
  valid : Valid W V R S P
  hash : ∀ x y, (x, y) ∈ P → wd W (pl2 x + 1) = wd V (pl2 y + 1)
theorem Two.mem_of {W V R S : List Int} {A B : List Bool} (T : Two W V R S A B) {P : Pairs} (h : Cons W V R S P) {x y : Int} (hx : Reached W R x) (hy : Reached V S y) (he : wd W (pl2 x + 1) = wd V (pl2 y + 1)) (hd : x ∈ dom P ∨ y ∈ img P) : (x, y) ∈ P := by
  rcases hd with hd | hd
  · obtain ⟨y', hm⟩ := dom_mem hd
    have : y' = y := T.other.one (h.valid.right y' (mem_img hm)) hy (by rw [← h.hash x y' hm]; exact he)
    subst this; exact hm
  · obtain ⟨x', hm⟩ := img_mem hd
    have : x' = x := T.one.one (h.valid.left x' (mem_dom hm)) hx (by rw [h.hash x' y hm]; exact he.symm)
    subst this; exact hm
theorem Two.alike_true {W V R S : List Int} {A B : List Bool} (T : Two W V R S A B) {P : Pairs} (h : Cons W V R S P) {x y : Int} (hx : okRef W x) (hy : okRef V y) (hs : sameB W A V B x y = true) : (alikeP W V P x y).1 = true ∧ Cons W V R S (alikeP W V P x y).2 := by
  rw [T.same hx hy] at hs
  have hval : thingB W x = true ∧ thingB V y = true → Valid W V R S (alikeP W V P x y).2 := fun hc => by
    rw [if_pos hc] at hs
    exact alikeP_valid h.valid (fun _ => hs.1) (fun _ => hs.2.1)
  unfold alikeP at hval ⊢
  by_cases hc : thingB W x = true ∧ thingB V y = true
  · have hval := hval hc
    rw [if_pos hc] at hs hval ⊢
    by_cases hd : x ∈ dom P ∨ y ∈ img P
    · rw [if_pos hd]
      exact ⟨decide_eq_true (T.mem_of h hs.1 hs.2.1 hs.2.2 hd), h⟩
    · rw [if_neg hd] at hval ⊢
      refine ⟨rfl, hval, fun a b hm => ?_⟩
      rcases List.mem_append.1 hm with hm | hm
      · exact h.hash a b hm
      · rw [List.mem_singleton] at hm; injection hm with e1 e2; subst e1 e2; exact hs.2.2
  · rw [if_neg hc] at hs ⊢
    exact ⟨decide_eq_true hs, h⟩
theorem Two.eqP_true {W V R S : List Int} {A B : List Bool} (T : Two W V R S A B) : ∀ (xs ys : List Int) (P : Pairs), Cons W V R S P → (∀ x ∈ xs, okRef W x) → (∀ y ∈ ys, okRef V y) → Each (fun x y => sameB W A V B x y = true) xs ys →
    (eqP (alikeP W V) P xs ys).1 = true ∧ Cons W V R S (eqP (alikeP W V) P xs ys).2
  | [], [], P, h, _, _, _ => ⟨rfl, h⟩
  | x :: xs, y :: ys, P, h, hx, hy, hE => by
    rw [each_cons] at hE
    obtain ⟨h1, h2⟩ := T.alike_true h (hx x (by simp)) (hy y (by simp)) hE.1
    rw [eqP_cons, if_pos h1]
    exact T.eqP_true xs ys _ h2 (fun z hz => hx z (by simp [hz])) (fun z hz => hy z (by simp [hz])) hE.2
  | [], _ :: _, _, _, _, _, hE => by have := hE.1; simp at this
  | _ :: _, [], _, _, _, _, hE => by have := hE.1; simp at this

theorem Two.things_out {W V R S : List Int} {A B : List Bool} (T : Two W V R S A B) {p q : Nat} (hp : p ∈ places W 2) (hq : q ∈ places V 2) (h : thingsB W A V B p q = true) :
    formAt W p = formAt V q ∧ sameB W A V B (wd W p) (wd V q) = true ∧ Each (fun x y => slotB W A V B (formAt W p) x y = true) (slotList W p) (slotList V q) := by
  unfold thingsB at h
  split at h
  case isFalse => cases h
  rename_i hs
  split at h
  case isFalse => cases h
  rename_i hc
  have hf : formAt W p = formAt V q := by unfold formAt; rw [hs]
  have hl := (T.slots_eq hp hq hf).1 hs
  have l1 := slotList_length (T.one.room p hp)
  have l2 := slotList_length (T.other.room q hq)
  refine ⟨hf, hc, hl, fun k hk => ?_⟩
  have := (slotsB_iff _ _).1 h k (by omega)
  rw [Nat.zero_add] at this
  rw [slotList_at (by omega), slotList_at (by omega)]; exact this
theorem Fine.slot_ok {W : List Int} (hW : Fine W) {p : Nat} (hp : p ∈ places W 2) (hf : formAt W p ≠ 1) : ∀ o ∈ slotList W p, okRef W o := fun o ho => by
  obtain ⟨k, hk, rfl⟩ := wd_index ho
  rw [slotList_length (hW.room p hp)] at hk
  rw [slotList_at hk]; exact hW.slot p hp hf k hk

theorem Two.step_true {W V R S : List Int} {A B : List Bool} (T : Two W V R S A B) {P : Pairs} (h : Cons W V R S P) {x y : Int} (hm : (x, y) ∈ P) (ht : thingsB W A V B (pl2 x) (pl2 y) = true) : ∃ P', pairStep W V P x y = some P' ∧ Cons W V R S P' := by
  obtain ⟨hp, _⟩ := reached_place (h.valid.left x (mem_dom hm))
  obtain ⟨hq, _⟩ := reached_place (h.valid.right y (mem_img hm))
  obtain ⟨hf, hc, hE⟩ := T.things_out hp hq ht
  obtain ⟨a1, a2⟩ := T.alike_true h (T.one.cls _ hp) (T.other.cls _ hq) hc
  unfold pairStep
  rw [if_pos ⟨h.hash x y hm, hf, a1⟩]
  generalize (alikeP W V P (wd W (pl2 x)) (wd V (pl2 y))).2 = P1 at *
  by_cases f2 : formAt W (pl2 x) = 2
  · rw [if_pos f2]; exact ⟨P1, rfl, a2⟩
  · rw [if_neg f2]
    unfold eqF
    rw [if_pos hE.1]
    by_cases f1 : formAt W (pl2 x) = 1
    · have ew : wayP W V (formAt W (pl2 x)) = sameP := by unfold wayP; rw [if_pos f1]
      obtain ⟨e1, e2⟩ := eqP_same (slotList W (pl2 x)) (slotList V (pl2 y)) P1 hE.1
      rw [ew, if_pos (e2.2 (hE.mono fun a b hr => by unfold slotB at hr; rw [if_pos f1] at hr; simpa using hr)), e1]
      exact ⟨P1, rfl, a2⟩
    · have ew : wayP W V (formAt W (pl2 x)) = alikeP W V := by unfold wayP; rw [if_neg f1, if_neg f2]
      obtain ⟨e1, e2⟩ := T.eqP_true (slotList W (pl2 x)) (slotList V (pl2 y)) P1 a2 (T.one.slot_ok hp f1) (T.other.slot_ok hq (by rw [← hf]; exact f1)) (hE.mono fun a b hr => by unfold slotB at hr; rw [if_neg f1, if_neg f2] at hr; exact hr)
      rw [ew, if_pos e1]
      exact ⟨_, rfl, e2⟩
theorem Two.loop_true {W V R S : List Int} {A B : List Bool} (T : Two W V R S A B) (hth : ∀ P, Cons W V R S P → ∀ x y, (x, y) ∈ P → thingsB W A V B (pl2 x) (pl2 y) = true) : ∀ (k : Nat) (P : Pairs) (n : Nat), Cons W V R S P → ∃ P', loopP W V k P n = some P' ∧ Cons W V R S P'
  | 0, P, _, h => ⟨P, rfl, h⟩
  | k + 1, P, n, h => by
    unfold loopP
    by_cases hn : n < P.length
    · rw [if_pos hn]
      obtain ⟨P1, hs, h1⟩ := T.step_true h (pair_mem hn) (hth P h _ _ (pair_mem hn))
      rw [hs]
      exact T.loop_true hth k P1 (n + 1) h1
    · rw [if_neg hn]; exact ⟨P, rfl, h⟩

/-- What the document says, the program finds. -/
theorem Two.ref_hold {W V R S : List Int} {A B : List Bool} (T : Two W V R S A B) (h : refB W A V B R S = true) : holdP W V R S = true := by
  unfold refB at h
  split at h
  case isFalse => cases h
  rename_i hRS
  split at h
  case isFalse => cases h
  split at h
  case isFalse => cases h
  rename_i hroots
  rw [rootsB_iff] at hroots
  rw [eachB_iff] at h
  have hth : ∀ P, Cons W V R S P → ∀ x y, (x, y) ∈ P → thingsB W A V B (pl2 x) (pl2 y) = true := fun P hP x y hm => by
    have hxr := hP.valid.left x (mem_dom hm)
    have hyr := hP.valid.right y (mem_img hm)
    obtain ⟨hp, hxe⟩ := reached_place hxr
    obtain ⟨hq, hye⟩ := reached_place hyr
    obtain ⟨q, hh, ht⟩ := h (pl2 x) (place_ge hp).2 (by rw [Nat.zero_add]; exact (T.tellsA.2 _).2 (by rw [← hxe]; exact hxr))
    rw [Nat.zero_add] at hh ht
    obtain ⟨b1, b2⟩ := hashedB_some _ _ hh
    have hqr := (T.tellsB.2 q).1 b1
    obtain ⟨hqp, _⟩ := reached_place hqr
    have pq : pl2 (2 * (q : Int)) = q := by unfold pl2; omega
    rw [pq] at hqp
    have : q = pl2 y := T.other.apart q hqp _ hq (by rw [b2]; exact hP.hash x y hm)
    subst this; exact ht
  have hv0 : Valid W V R S [] := ⟨by simp [dom], by simp [img], fun x hx => by simp [dom] at hx, fun x hx => by simp [img] at hx⟩
  have hc0 : Cons W V R S [] := ⟨hv0, fun x y hm => by cases hm⟩
  obtain ⟨e1, e2⟩ := T.eqP_true R S [] hc0 T.roots T.others ⟨hRS, fun k hk => by have := hroots k hk; rwa [Nat.zero_add] at this⟩
  obtain ⟨a1, _, a3⟩ := eqP_alike (R := R) (S := S) R S [] hRS hv0 (fun x hx ht => .root hx ht) (fun y hy ht => .root hy ht)
  have hL0 : Looked W V R S (eqP (alikeP W V) [] R S).2 0 := ⟨a1, a3 e1, fun i hi => by omega, Nat.zero_le _⟩
  obtain ⟨P, hl, hP⟩ := T.loop_true hth (W.length + 1) _ 0 e2
  have hL := loop_spec T.one.form _ _ _ (by omega) hL0 P hl
  unfold holdP eqF
  rw [if_pos hRS, if_pos e1, hl]
  show P.all (weakOne W V P) = true
  rw [List.all_eq_true]
  rintro ⟨x, y⟩ hm
  unfold weakOne
  dsimp only
  by_cases f2 : formAt W (pl2 x) = 2
  · rw [if_pos f2]
    obtain ⟨hp, _⟩ := reached_place (hP.valid.left x (mem_dom hm))
    obtain ⟨hq, _⟩ := reached_place (hP.valid.right y (mem_img hm))
    obtain ⟨hf, _, hE⟩ := T.things_out hp hq (hth P hP x y hm)
    unfold eqF
    rw [if_pos hE.1, (eqP_weak (W := W) (V := V) _ _ P hE.1).2]
    refine ⟨hE.1, fun k hk => ?_⟩
    have hs := hE.2 k hk
    unfold slotB at hs
    dsimp only at hs
    rw [if_neg (by rw [f2]; decide), if_pos f2] at hs
    have o1 := T.one.slot_ok hp (by rw [f2]; decide) _ (wd_mem hk)
    have o2 := T.other.slot_ok hq (by rw [← hf, f2]; decide) _ (wd_mem (show k < (slotList V (pl2 y)).length by have := hE.1; omega))
    obtain ⟨k1, k2⟩ := T.kept_left hL o1
    obtain ⟨k3, k4⟩ := T.kept_right hL o2
    dsimp only
    rw [k1, k3]
    rw [T.same k2 k4] at hs
    unfold Rel
    split
    · rename_i hc
      rw [if_pos hc] at hs
      exact T.mem_of hP hs.1 hs.2.1 hs.2.2 (Or.inl (hL.all_left T.other T.others hs.1))
    · rename_i hc
      rw [if_neg hc] at hs; exact hs
  · rw [if_neg f2]

/-- The two answers are one. -/
theorem Two.one_mind {W V R S : List Int} {A B : List Bool} (T : Two W V R S A B) : holdP W V R S = refB W A V B R S := by
  rw [Bool.eq_iff_iff]; exact ⟨T.hold_ref, T.ref_hold⟩

end Go.Proofs.Ythdhaokjibfjdaa
