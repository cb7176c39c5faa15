/- What chapter 3 says of two heaps that are alike, as plain functions on lists of numbers: the program's way (pairs that grow) and the document's (hashes), and that they come to one. No Go in sight. -/
import Derived.Test.YthdhaokjibfjdaaReachPlain
namespace Go.Proofs.Ythdhaokjibfjdaa

/-- The place that a reference is of. -/
def pl2 (x : Int) : Nat := (x / 2).toNat
/-- The slots of the thing at p. -/
def slotList (W : List Int) (p : Nat) : List Int := (W.drop (p + 3)).take (slotsAt W p)
theorem slotList_length {W : List Int} {p : Nat} (h : p + 3 + slotsAt W p ≤ W.length) : (slotList W p).length = slotsAt W p := by
  unfold slotList; rw [List.length_take, List.length_drop]; omega
theorem slotList_at {W : List Int} {p k : Nat} (hk : k < slotsAt W p) : wd (slotList W p) k = wd W (p + 3 + k) := by
  unfold slotList wd
  rw [List.getD_eq_getElem?_getD, List.getElem?_take, if_pos hk, List.getElem?_drop, List.getD_eq_getElem?_getD]

abbrev Pairs := List (Int × Int)
/-- Who is given to someone. -/
def dom (P : Pairs) : List Int := P.map Prod.fst
/-- Who is given. -/
def img (P : Pairs) : List Int := P.map Prod.snd

/-- Two references are alike; two that have not been given to anyone are from now on. -/
def alikeP (W V : List Int) (P : Pairs) (x y : Int) : Bool × Pairs :=
  if thingB W x = true ∧ thingB V y = true then (if x ∈ dom P ∨ y ∈ img P then (decide ((x, y) ∈ P), P) else (true, P ++ [(x, y)])) else (decide (x = y), P)
/-- One by one, as long as it goes well. -/
def eqP (f : Pairs → Int → Int → Bool × Pairs) : Pairs → List Int → List Int → Bool × Pairs
  | P, x :: xs, y :: ys => if (f P x y).1 = true then eqP f (f P x y).2 xs ys else (false, (f P x y).2)
  | P, _, _ => (true, P)
theorem eqP_cons (f : Pairs → Int → Int → Bool × Pairs) (P : Pairs) (x y : Int) (xs ys : List Int) : eqP f P (x :: xs) (y :: ys) = if (f P x y).1 = true then eqP f (f P x y).2 xs ys else (false, (f P x y).2) := rfl
theorem eqP_nil (f : Pairs → Int → Int → Bool × Pairs) (P : Pairs) : eqP f P [] [] = (true, P) := rfl
/-- Two lists. -/
def eqF (f : Pairs → Int → Int → Bool × Pairs) (P : Pairs) (xs ys : List Int) : Bool × Pairs := if xs.length = ys.length then eqP f P xs ys else (false, P)
def sameP (P : Pairs) (x y : Int) : Bool × Pairs := (decide (x = y), P)
/-- A reference; nil if it is of a thing that has not been come to. -/
def keptP (W : List Int) (D : List Int) (x : Int) : Int := if x ∉ D ∧ thingB W x = true then 0 else x
def weakP (W V : List Int) (P : Pairs) (x y : Int) : Bool × Pairs := alikeP W V P (keptP W (dom P) x) (keptP V (img P) y)
/-- How slots of a form are held against each other. -/
def wayP (W V : List Int) (form : Int) : Pairs → Int → Int → Bool × Pairs := if form = 1 then sameP else if form = 2 then weakP W V else alikeP W V
/-- A pair is looked at: who is given then; none: they are not alike. -/
def pairStep (W V : List Int) (P : Pairs) (x y : Int) : Option Pairs :=
  if wd W (pl2 x + 1) = wd V (pl2 y + 1) ∧ formAt W (pl2 x) = formAt V (pl2 y) ∧ (alikeP W V P (wd W (pl2 x)) (wd V (pl2 y))).1 = true then
    (if formAt W (pl2 x) = 2 then some (alikeP W V P (wd W (pl2 x)) (wd V (pl2 y))).2 else
      (if (eqF (wayP W V (formAt W (pl2 x))) (alikeP W V P (wd W (pl2 x)) (wd V (pl2 y))).2 (slotList W (pl2 x)) (slotList V (pl2 y))).1 = true then
        some (eqF (wayP W V (formAt W (pl2 x))) (alikeP W V P (wd W (pl2 x)) (wd V (pl2 y))).2 (slotList W (pl2 x)) (slotList V (pl2 y))).2 else none))
  else none
/-- The pair at n. -/
def pairAt (P : Pairs) (n : Nat) : Int × Int := P.getD n (0, 0)
/-- Along the row of pairs, which grows. -/
def loopP (W V : List Int) : Nat → Pairs → Nat → Option Pairs
  | 0, P, _ => some P
  | k + 1, P, n => if n < P.length then (match pairStep W V P (pairAt P n).1 (pairAt P n).2 with | some P' => loopP W V k P' (n + 1) | none => none) else some P
/-- The slots of Weak of a pair. -/
def weakOne (W V : List Int) (P : Pairs) (z : Int × Int) : Bool := if formAt W (pl2 z.1) = 2 then (eqF (weakP W V) P (slotList W (pl2 z.1)) (slotList V (pl2 z.2))).1 else true
/-- The program's answer. -/
def holdP (W V R S : List Int) : Bool :=
  if (eqF (alikeP W V) [] R S).1 = true then (match loopP W V (W.length + 1) (eqF (alikeP W V) [] R S).2 0 with | some P => P.all (weakOne W V P) | none => false) else false

theorem mem_dom {P : Pairs} {x y : Int} (h : (x, y) ∈ P) : x ∈ dom P := List.mem_map.2 ⟨(x, y), h, rfl⟩
theorem mem_img {P : Pairs} {x y : Int} (h : (x, y) ∈ P) : y ∈ img P := List.mem_map.2 ⟨(x, y), h, rfl⟩
theorem dom_mem {P : Pairs} {x : Int} (h : x ∈ dom P) : ∃ y, (x, y) ∈ P := by obtain ⟨⟨a, b⟩, h1, rfl⟩ := List.mem_map.1 h; exact ⟨b, h1⟩
theorem img_mem {P : Pairs} {y : Int} (h : y ∈ img P) : ∃ x, (x, y) ∈ P := by obtain ⟨⟨a, b⟩, h1, rfl⟩ := List.mem_map.1 h; exact ⟨a, h1⟩

/-- What is true of pairs on the way. -/
structure Valid (W V R S : List Int) (P : Pairs) : Prop where
  one : (dom P).Nodup
  other : (img P).Nodup
  left : ∀ x ∈ dom P, Reached W R x
  right : ∀ y ∈ img P, Reached V S y
/-- Related by pairs. -/
def Rel (W V : List Int) (P : Pairs) (x y : Int) : Prop := if thingB W x = true ∧ thingB V y = true then (x, y) ∈ P else x = y
theorem Rel.mono {W V : List Int} {P P' : Pairs} {x y : Int} (h : Rel W V P x y) (hs : ∀ z ∈ P, z ∈ P') : Rel W V P' x y := by
  unfold Rel at h ⊢
  split
  · rename_i hc; rw [if_pos hc] at h; exact hs _ h
  · rename_i hc; rw [if_neg hc] at h; exact h

theorem alikeP_grows (W V : List Int) (P : Pairs) (x y : Int) : ∃ t, (alikeP W V P x y).2 = P ++ t := by
  unfold alikeP
  split
  · split
    · exact ⟨[], by simp⟩
    · exact ⟨[(x, y)], rfl⟩
  · exact ⟨[], by simp⟩
theorem alikeP_rel {W V : List Int} {P : Pairs} {x y : Int} (h : (alikeP W V P x y).1 = true) : Rel W V (alikeP W V P x y).2 x y := by
  unfold alikeP at h ⊢
  unfold Rel
  split
  · rename_i hc
    rw [if_pos hc] at h
    split
    · rename_i hd
      rw [if_pos hd] at h
      exact of_decide_eq_true h
    · simp
  · rename_i hc
    rw [if_neg hc] at h
    exact of_decide_eq_true h
theorem alikeP_valid {W V R S : List Int} {P : Pairs} {x y : Int} (hv : Valid W V R S P) (hx : thingB W x = true → Reached W R x) (hy : thingB V y = true → Reached V S y) : Valid W V R S (alikeP W V P x y).2 := by
  unfold alikeP
  split
  · rename_i hc
    split
    · exact hv
    · rename_i hd
      have e1 : dom (P ++ [(x, y)]) = dom P ++ [x] := by simp [dom]
      have e2 : img (P ++ [(x, y)]) = img P ++ [y] := by simp [img]
      refine ⟨?_, ?_, fun z hz => ?_, fun z hz => ?_⟩
      · rw [e1, List.nodup_append]
        exact ⟨hv.one, by simp, fun a ha b hb => by rw [List.mem_singleton] at hb; subst hb; exact fun e => hd (Or.inl (e ▸ ha))⟩
      · rw [e2, List.nodup_append]
        exact ⟨hv.other, by simp, fun a ha b hb => by rw [List.mem_singleton] at hb; subst hb; exact fun e => hd (Or.inr (e ▸ ha))⟩
      · rw [e1] at hz
        rcases List.mem_append.1 hz with hz | hz
        · exact hv.left z hz
        · rw [List.mem_singleton] at hz; subst hz; exact hx hc.1
      · rw [e2] at hz
        rcases List.mem_append.1 hz with hz | hz
        · exact hv.right z hz
        · rw [List.mem_singleton] at hz; subst hz; exact hy hc.2
  · exact hv

/-- Two lists, place by place. -/
def Each (r : Int → Int → Prop) (xs ys : List Int) : Prop := xs.length = ys.length ∧ ∀ k, k < xs.length → r (wd xs k) (wd ys k)
theorem each_cons {r : Int → Int → Prop} {x y : Int} {xs ys : List Int} : Each r (x :: xs) (y :: ys) ↔ r x y ∧ Each r xs ys := by
  unfold Each
  constructor
  · rintro ⟨h1, h2⟩
    exact ⟨h2 0 (by simp), by simpa using h1, fun k hk => h2 (k + 1) (by simpa using hk)⟩
  · rintro ⟨h0, h1, h2⟩
    refine ⟨by simp [h1], fun k hk => ?_⟩
    cases k with
    | zero => exact h0
    | succ k => exact h2 k (by simpa using hk)
theorem Each.mono {r r' : Int → Int → Prop} {xs ys : List Int} (h : Each r xs ys) (hr : ∀ x y, r x y → r' x y) : Each r' xs ys := ⟨h.1, fun k hk => hr _ _ (h.2 k hk)⟩

/-- alike, over two lists. -/
theorem eqP_alike {W V R S : List Int} : ∀ (xs ys : List Int) (P : Pairs), xs.length = ys.length → Valid W V R S P → (∀ x ∈ xs, thingB W x = true → Reached W R x) → (∀ y ∈ ys, thingB V y = true → Reached V S y) →
    Valid W V R S (eqP (alikeP W V) P xs ys).2 ∧ (∃ t, (eqP (alikeP W V) P xs ys).2 = P ++ t) ∧ ((eqP (alikeP W V) P xs ys).1 = true → Each (Rel W V (eqP (alikeP W V) P xs ys).2) xs ys)
  | [], [], P, _, hv, _, _ => ⟨hv, ⟨[], by simp [eqP]⟩, fun _ => ⟨rfl, fun k hk => by simp at hk⟩⟩
  | x :: xs, y :: ys, P, hl, hv, hx, hy => by
    have hv1 := alikeP_valid (x := x) (y := y) hv (hx x (by simp)) (hy y (by simp))
    obtain ⟨t1, ht1⟩ := alikeP_grows W V P x y
    rw [eqP_cons]
    split
    · rename_i h1
      obtain ⟨a, ⟨t2, ht2⟩, c⟩ := eqP_alike xs ys (alikeP W V P x y).2 (by simpa using hl) hv1 (fun z hz => hx z (by simp [hz])) (fun z hz => hy z (by simp [hz]))
      refine ⟨a, ⟨t1 ++ t2, by rw [ht2, ht1, List.append_assoc]⟩, fun h => ?_⟩
      rw [each_cons]
      refine ⟨(alikeP_rel h1).mono fun z hz => by rw [ht2]; exact List.mem_append.2 (Or.inl hz), c h⟩
    · exact ⟨hv1, ⟨t1, ht1⟩, fun h => by cases h⟩
  | [], _ :: _, _, hl, _, _, _ => by simp at hl
  | _ :: _, [], _, hl, _, _, _ => by simp at hl
theorem eqP_same : ∀ (xs ys : List Int) (P : Pairs), xs.length = ys.length → (eqP sameP P xs ys).2 = P ∧ ((eqP sameP P xs ys).1 = true ↔ Each (· = ·) xs ys)
  | [], [], P, _ => ⟨rfl, by simp [eqP, Each]⟩
  | x :: xs, y :: ys, P, hl => by
    obtain ⟨h1, h2⟩ := eqP_same xs ys P (by simpa using hl)
    rw [each_cons, ← h2, eqP_cons]
    by_cases e : x = y
    · rw [if_pos (by simp [sameP, e])]
      exact ⟨h1, by simp [e, show (sameP P y y).2 = P from rfl]⟩
    · rw [if_neg (by simp [sameP, e])]
      exact ⟨rfl, by simp [e]⟩
  | [], _ :: _, _, hl => by simp at hl
  | _ :: _, [], _, hl => by simp at hl
theorem thing_zero (W : List Int) : thingB W 0 = false := by
  unfold thingB
  have : kindOf 0 = 2 := by decide
  rw [this]; rfl
theorem kept_thing {W D : List Int} {x : Int} (h : thingB W (keptP W D x) = true) : x ∈ D ∧ keptP W D x = x := by
  unfold keptP at h ⊢
  by_cases hc : x ∉ D ∧ thingB W x = true
  · rw [if_pos hc, thing_zero] at h; cases h
  · rw [if_neg hc] at h ⊢
    exact ⟨Classical.byContradiction fun hn => hc ⟨hn, h⟩, rfl⟩
theorem weakP_same {W V : List Int} {P : Pairs} {x y : Int} : (weakP W V P x y).2 = P ∧ ((weakP W V P x y).1 = true ↔ Rel W V P (keptP W (dom P) x) (keptP V (img P) y)) := by
  unfold weakP alikeP Rel
  split
  · rename_i hc
    obtain ⟨h1, h2⟩ := kept_thing hc.1
    rw [h2, if_pos (Or.inl h1)]
    exact ⟨rfl, by simp⟩
  · exact ⟨rfl, by simp⟩
theorem eqP_weak {W V : List Int} : ∀ (xs ys : List Int) (P : Pairs), xs.length = ys.length → (eqP (weakP W V) P xs ys).2 = P ∧ ((eqP (weakP W V) P xs ys).1 = true ↔ Each (fun x y => Rel W V P (keptP W (dom P) x) (keptP V (img P) y)) xs ys)
  | [], [], P, _ => ⟨rfl, by simp [eqP, Each]⟩
  | x :: xs, y :: ys, P, hl => by
    obtain ⟨h1, h2⟩ := eqP_weak (W := W) (V := V) xs ys P (by simpa using hl)
    obtain ⟨g1, g2⟩ := weakP_same (W := W) (V := V) (P := P) (x := x) (y := y)
    rw [each_cons, ← h2, ← g2, eqP_cons, g1]
    by_cases e : (weakP W V P x y).1 = true
    · rw [if_pos e]; exact ⟨h1, by simp [e]⟩
    · rw [if_neg e]; exact ⟨rfl, by simp [e]⟩
  | [], _ :: _, _, hl => by simp at hl
  | _ :: _, [], _, hl => by simp at hl

/-! Pairs that were looked at. -/

/-- A pair whose heads, class and slots are related. -/
structure Done (W V : List Int) (P : Pairs) (x y : Int) : Prop where
  hash : wd W (pl2 x + 1) = wd V (pl2 y + 1)
  form : formAt W (pl2 x) = formAt V (pl2 y)
  cls : Rel W V P (wd W (pl2 x)) (wd V (pl2 y))
  plain : formAt W (pl2 x) ≠ 1 → formAt W (pl2 x) ≠ 2 → Each (Rel W V P) (slotList W (pl2 x)) (slotList V (pl2 y))
  bytes : formAt W (pl2 x) = 1 → Each (· = ·) (slotList W (pl2 x)) (slotList V (pl2 y))
theorem Done.mono {W V : List Int} {P P' : Pairs} {x y : Int} (h : Done W V P x y) (hs : ∀ z ∈ P, z ∈ P') : Done W V P' x y :=
  ⟨h.hash, h.form, h.cls.mono hs, fun h1 h2 => (h.plain h1 h2).mono fun _ _ hr => hr.mono hs, h.bytes⟩

theorem class_lead' (W : List Int) (p : Nat) : wd W p ∈ leadsAt W p := by simp [leadsAt]
theorem slots_lead {W : List Int} {p : Nat} (h : formAt W p = 0) {o : Int} (ho : o ∈ slotList W p) : o ∈ leadsAt W p := by
  unfold leadsAt slotList at *; rw [if_pos h]; exact List.mem_cons_of_mem _ ho
theorem lead_of {W R : List Int} {x o : Int} (hx : Reached W R x) (ho : o ∈ leadsAt W (pl2 x)) : thingB W o = true → Reached W R o := fun ht => .step hx ho ht

/-- What a step does. -/
theorem step_spec {W V R S : List Int} {P P' : Pairs} {x y : Int} (hfo : ∀ p ∈ places W 2, formAt W p = 0 ∨ formAt W p = 1 ∨ formAt W p = 2) (hv : Valid W V R S P) (hxy : (x, y) ∈ P) (h : pairStep W V P x y = some P') :
    Valid W V R S P' ∧ (∃ t, P' = P ++ t) ∧ Done W V P' x y := by
  have hx := hv.left x (mem_dom hxy)
  have hy := hv.right y (mem_img hxy)
  unfold pairStep at h
  split at h
  case isFalse => cases h
  rename_i hc
  obtain ⟨c1, c2, c3⟩ := hc
  have hv1 := alikeP_valid (x := wd W (pl2 x)) (y := wd V (pl2 y)) hv (lead_of hx (class_lead' _ _)) (lead_of hy (class_lead' _ _))
  obtain ⟨t1, ht1⟩ := alikeP_grows W V P (wd W (pl2 x)) (wd V (pl2 y))
  have hr1 := alikeP_rel c3
  generalize (alikeP W V P (wd W (pl2 x)) (wd V (pl2 y))).2 = P1 at *
  split at h
  · rename_i f2
    injection h with h; subst h
    exact ⟨hv1, ⟨t1, ht1⟩, c1, c2, hr1, fun _ h2 => absurd f2 h2, fun h1 => by rw [f2] at h1; cases h1⟩
  · rename_i f2
    split at h
    case isFalse => cases h
    rename_i he
    injection h with h; subst h
    unfold eqF at he ⊢
    split at he
    case isFalse => cases he
    rename_i hl
    rw [if_pos hl] at *
    by_cases f1 : formAt W (pl2 x) = 1
    · have ew : wayP W V (formAt W (pl2 x)) = sameP := by unfold wayP; rw [if_pos f1]
      rw [ew] at he ⊢
      obtain ⟨e1, e2⟩ := eqP_same (slotList W (pl2 x)) (slotList V (pl2 y)) P1 hl
      rw [e1]
      exact ⟨hv1, ⟨t1, ht1⟩, c1, c2, hr1, fun h1 _ => absurd f1 h1, fun _ => e2.1 he⟩
    · have ew : wayP W V (formAt W (pl2 x)) = alikeP W V := by unfold wayP; rw [if_neg f1, if_neg f2]
      rw [ew] at he ⊢
      obtain ⟨p, _, hp, _, hpe⟩ := thing_ref hx.thing
      obtain ⟨q, _, hq, _, hqe⟩ := thing_ref hy.thing
      have f0 : formAt W (pl2 x) = 0 := by
        rcases hfo p hp with h | h | h
        · unfold pl2; rw [hpe]; exact h
        · exact absurd (by unfold pl2; rw [hpe]; exact h) f1
        · exact absurd (by unfold pl2; rw [hpe]; exact h) f2
      obtain ⟨a, ⟨t2, ht2⟩, c⟩ := eqP_alike (R := R) (S := S) (slotList W (pl2 x)) (slotList V (pl2 y)) P1 hl hv1 (fun z hz => lead_of hx (slots_lead f0 hz)) (fun z hz => lead_of hy (slots_lead (c2 ▸ f0) hz))
      refine ⟨a, ⟨t1 ++ t2, by rw [ht2, ht1, List.append_assoc]⟩, c1, c2, hr1.mono fun z hz => by rw [ht2]; exact List.mem_append.2 (Or.inl hz), fun _ _ => c he, fun h1 => absurd h1 f1⟩

/-- How far the pairs have been looked at. -/
structure Looked (W V R S : List Int) (P : Pairs) (n : Nat) : Prop where
  valid : Valid W V R S P
  rooted : Each (Rel W V P) R S
  done : ∀ i, i < n → Done W V P (pairAt P i).1 (pairAt P i).2
  le : n ≤ P.length
theorem pair_mem {P : Pairs} {n : Nat} (h : n < P.length) : ((pairAt P n).1, (pairAt P n).2) ∈ P := by
  unfold pairAt; rw [List.getD_eq_getElem?_getD, List.getElem?_eq_getElem h]; exact List.getElem_mem h
theorem pair_left {P t : Pairs} {n : Nat} (h : n < P.length) : pairAt (P ++ t) n = pairAt P n := by
  unfold pairAt; rw [List.getD_eq_getElem?_getD, List.getD_eq_getElem?_getD, List.getElem?_append_left h]
theorem Looked.next {W V R S : List Int} {P P' : Pairs} {n : Nat} (hfo : ∀ p ∈ places W 2, formAt W p = 0 ∨ formAt W p = 1 ∨ formAt W p = 2) (h : Looked W V R S P n) (hn : n < P.length) (hs : pairStep W V P (pairAt P n).1 (pairAt P n).2 = some P') : Looked W V R S P' (n + 1) := by
  obtain ⟨hv, ⟨t, ht⟩, hd⟩ := step_spec hfo h.valid (pair_mem hn) hs
  have hsub : ∀ z ∈ P, z ∈ P' := fun z hz => by rw [ht]; exact List.mem_append.2 (Or.inl hz)
  refine ⟨hv, h.rooted.mono fun _ _ hr => hr.mono hsub, fun i hi => ?_, by rw [ht, List.length_append]; omega⟩
  rw [ht, pair_left (by omega)]
  by_cases e : i = n
  · subst e; rw [← ht]; exact hd
  · rw [← ht]; exact (h.done i (by omega)).mono hsub
theorem Valid.short {W V R S : List Int} {P : Pairs} (h : Valid W V R S P) : P.length ≤ W.length := by
  have := short_of h.one h.left
  simpa [dom] using this
theorem loop_spec {W V R S : List Int} (hfo : ∀ p ∈ places W 2, formAt W p = 0 ∨ formAt W p = 1 ∨ formAt W p = 2) : ∀ (k : Nat) (P : Pairs) (n : Nat), W.length + 1 ≤ k + n → Looked W V R S P n → ∀ P', loopP W V k P n = some P' → Looked W V R S P' P'.length
  | 0, P, n, hk, hL, P', h => by
    have := hL.valid.short; have := hL.le; omega
  | k + 1, P, n, hk, hL, P', h => by
    unfold loopP at h
    split at h
    · rename_i hn
      cases hs : pairStep W V P (pairAt P n).1 (pairAt P n).2 with
      | none => rw [hs] at h; cases h
      | some P1 =>
        rw [hs] at h
        exact loop_spec hfo k P1 (n + 1) (by omega) (hL.next hfo hn hs) P' h
    · injection h with h; subst h
      have hle := hL.le
      have : n = P.length := by omega
      subst this; exact hL

end Go.Proofs.Ythdhaokjibfjdaa
