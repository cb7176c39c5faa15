/- Several texts in one. -/
import Derived.Test.YthdhaokjibfjdaaGh
/- Where things come to stand, as a list; a walk along all things. No Go in sight. -/
namespace Go.Proofs.Ythdhaokjibfjdaa

/-- A list of new places. -/
def TOk (T W : List Int) (qs : List Nat) : Prop := T.length = W.length ∧ ∀ k, wd T k = (newAt W 2 qs k : Int)
theorem newAt_snoc (W : List Int) : ∀ (qs : List Nat) (top p k : Nat), p ∉ qs → newAt W top (qs ++ [p]) k = if k = p then top + roomSum W qs else newAt W top qs k
  | [], top, p, k, _ => by
    rw [List.nil_append, newAt, newAt, newAt, roomSum]
    by_cases e : p = k
    · rw [if_pos e, if_pos e.symm]; rfl
    · rw [if_neg e, if_neg (fun h => e h.symm)]
  | q :: r, top, p, k, h => by
    have hq : p ≠ q := fun e => h (by rw [e]; exact List.mem_cons_self ..)
    rw [List.cons_append, newAt, newAt_snoc W r _ p k (fun hm => h (List.mem_cons_of_mem _ hm)), newAt, roomSum]
    by_cases e : q = k
    · rw [if_pos e, if_pos e, if_neg (by omega)]
    · rw [if_neg e, if_neg e, Nat.add_assoc]
theorem TOk.start (W : List Int) : TOk (List.replicate W.length 0) W [] :=
  ⟨by simp, fun k => by unfold wd; rw [List.getD_eq_getElem?_getD, List.getElem?_replicate]; split <;> rfl⟩
theorem TOk.set {T W : List Int} {qs : List Nat} {p : Nat} (h : TOk T W qs) (hp : p < W.length) (hn : p ∉ qs) : TOk (T.set p ((2 + roomSum W qs : Nat) : Int)) W (qs ++ [p]) := by
  refine ⟨by rw [List.length_set]; exact h.1, fun k => ?_⟩
  rw [newAt_snoc W qs 2 p k hn]
  by_cases e : k = p
  · subst e; rw [if_pos rfl, wd_set_same (by rw [h.1]; exact hp)]
  · rw [if_neg e, wd_set_other (fun h => e h.symm)]; exact h.2 k
theorem newAt_le (W : List Int) : ∀ (qs : List Nat) (top k : Nat), newAt W top qs k ≤ top + roomSum W qs
  | [], top, k => by rw [newAt]; omega
  | q :: r, top, k => by
    rw [newAt, roomSum]
    split
    · omega
    · have := newAt_le W r (top + roomAt W q) k; omega
theorem TOk.bounds {T W : List Int} {qs : List Nat} (h : TOk T W qs) (hs : 2 + roomSum W qs ≤ 2000) (k : Nat) : 0 ≤ wd T k ∧ wd T k ≤ 2000 := by
  rw [h.2 k]; have := newAt_le W qs 2 k; omega

/-- What is known of where a walk along all things stands. -/
structure AtPlace (W : List Int) (A : List Bool) (pre : List Nat) (p : Nat) : Prop where
  all : pre ++ places W p = places W 2
  fit : unfit W p = none
  two : 2 ≤ p
  top : p ≤ W.length
theorem AtPlace.next {W : List Int} {A : List Bool} {pre : List Nat} {p : Nat} (h : AtPlace W A pre p) (hp : p < W.length) : AtPlace W A (pre ++ [p]) (nextAt W p) := by
  obtain ⟨hf, hu⟩ := unfit_head hp h.fit
  have := (fits_out hf).2.2.2.2
  exact ⟨by rw [← h.all, places_in hp]; simp, hu, by have := h.two; unfold nextAt; omega, by unfold nextAt; omega⟩
theorem AtPlace.mem {W : List Int} {A : List Bool} {pre : List Nat} {p : Nat} (h : AtPlace W A pre p) (hp : p < W.length) : p ∈ places W 2 ∧ p ∉ pre := by
  have hall := h.all
  rw [places_in hp] at hall
  have hn := places_nodup (W := W) _ 2 (Nat.le_refl _)
  refine ⟨by rw [← hall]; simp, fun hm => ?_⟩
  rw [← hall, List.nodup_append] at hn
  exact hn.2.2 p hm p (List.mem_cons_self ..) rfl
theorem AtPlace.sum {W : List Int} {A : List Bool} {pre : List Nat} {p : Nat} (h : AtPlace W A pre p) (hu : unfit W 2 = none) : p = 2 + roomSum W pre := by
  have h1 := places_sum (W := W) _ 2 (Nat.le_refl _) (by have := h.two; have := h.top; omega) hu
  have h2 := places_sum (W := W) _ p (Nat.le_refl _) h.top h.fit
  rw [← h.all, roomSum_append] at h1
  omega
end Go.Proofs.Ythdhaokjibfjdaa

/- What chapter 18 says of colours, as plain functions on lists of numbers: what is white in the end. No Go in sight. -/
namespace Go.Proofs.Ythdhaokjibfjdaa

structure Tri where
  W : List Int
  R : List Int
  C : List Int
structure OpT where
  kind : Int
  o : Int
  pos : Int
  what : Int
  form : Int
  size : Int
/-- What is white is grey. -/
def shadeC (C : List Int) (o : Int) : List Int := if kindOf o = 3 ∧ wd C (pl2 o) = 0 then C.set (pl2 o) 1 else C
def shadeL (C l : List Int) : List Int := l.foldl shadeC C
def scanC (W C : List Int) : List Int := match (places W 2).find? (fun p => wd C p == 1) with
  | some p => shadeL (C.set p 2) (leadsAt W p)
  | none => C
/-- A small reference, nil, or of a thing that is reached now. -/
def nowT (W R : List Int) (o : Int) : Prop := okRef W o ∧ (kindOf o = 3 → Reached W R o)
open Classical in
noncomputable def nowB (W R : List Int) (o : Int) : Bool := decide (nowT W R o)
theorem nowB_iff {W R : List Int} {o : Int} : nowB W R o = true ↔ nowT W R o := by unfold nowB; simp
def PutOk (s : Tri) (p : OpT) : Prop := thingB s.W p.o = true ∧ 0 ≤ p.pos ∧ p.pos < (slotsAt s.W (pl2 p.o) : Int) ∧ standB s.W (formAt s.W (pl2 p.o)) p.what = true ∧ nowT s.W s.R p.o ∧ (formAt s.W (pl2 p.o) ≠ 1 → nowT s.W s.R p.what)
def NewOk (s : Tri) (p : OpT) : Prop := 0 ≤ p.form ∧ p.form ≤ 2 ∧ 0 ≤ p.size ∧ p.size ≤ 60 ∧ (s.W.length : Int) + 3 + p.size ≤ 2000 ∧ wd s.W 1 ≤ 10000
def RootOk (s : Tri) (p : OpT) : Prop := nowT s.W s.R p.what ∧ 0 ≤ p.pos ∧ p.pos < (s.R.length : Int)
def padC (C : List Int) (n : Nat) : List Int := C ++ List.replicate (n - C.length) 0
def putT (s : Tri) (p : OpT) : Tri := ⟨s.W.set (pl2 p.o + 3 + p.pos.toNat) p.what, s.R, if formAt s.W (pl2 p.o) = 0 then shadeC s.C (wd s.W (pl2 p.o + 3 + p.pos.toNat)) else s.C⟩
def newT (s : Tri) (p : OpT) : Tri := ⟨newWords s.W 0 p.form p.size, s.R ++ [2 * (s.W.length : Int)], (padC s.C ((newWords s.W 0 p.form p.size).length + 1)).set s.W.length 2⟩
def rootT (s : Tri) (p : OpT) : Tri := ⟨s.W, s.R.set p.pos.toNat p.what, shadeC s.C (wd s.R p.pos.toNat)⟩
open Classical in
noncomputable def doT (s : Tri) (p : OpT) : Tri :=
  if p.kind = 1 then ⟨s.W, s.R, scanC s.W s.C⟩
  else if p.kind = 2 then (if PutOk s p then putT s p else s)
  else if p.kind = 3 then (if NewOk s p then newT s p else s)
  else if p.kind = 4 then (if RootOk s p then rootT s p else s)
  else s
def firstT (W R : List Int) : Tri := ⟨W, R, shadeL (List.replicate (W.length + 1) 0) R⟩
noncomputable def playT (W R : List Int) (ops : List OpT) : Tri := ops.foldl doT (firstT W R)
def coloursT (s : Tri) : List Int := (places s.W 2).map (wd s.C)
def doneT (s : Tri) : Bool := (places s.W 2).all fun p => wd s.C p != 1
def freedT (s : Tri) : List Int := if doneT s = true then ((places s.W 2).filter fun p => wd s.C p == 0).map (fun p : Nat => 2 * (p : Int)) else []

/-! Shades. -/
theorem wd_past {l : List Int} {k : Nat} (h : l.length ≤ k) : wd l k = 0 := by unfold wd; rw [List.getD_eq_getElem?_getD, List.getElem?_eq_none h]; rfl
theorem shade_length (C : List Int) (o : Int) : (shadeC C o).length = C.length := by unfold shadeC; split <;> simp
theorem shadeL_length : ∀ (l C : List Int), (shadeL C l).length = C.length
  | [], _ => rfl
  | o :: r, C => by show (shadeL (shadeC C o) r).length = _; rw [shadeL_length r, shade_length]
theorem shade_cases (C : List Int) (o : Int) (k : Nat) : wd (shadeC C o) k = wd C k ∨ (wd C k = 0 ∧ wd (shadeC C o) k = 1 ∧ kindOf o = 3 ∧ pl2 o = k) := by
  unfold shadeC
  by_cases h : kindOf o = 3 ∧ wd C (pl2 o) = 0
  · rw [if_pos h]
    by_cases e : pl2 o = k
    · subst e
      by_cases hl : pl2 o < C.length
      · exact Or.inr ⟨h.2, wd_set_same hl, h.1, rfl⟩
      · rw [List.set_eq_of_length_le (by omega)]; exact Or.inl rfl
    · exact Or.inl (wd_set_other e)
  · rw [if_neg h]; exact Or.inl rfl
theorem shade_hit {C : List Int} {o : Int} (hk : kindOf o = 3) (hl : pl2 o < C.length) : wd (shadeC C o) (pl2 o) ≠ 0 := by
  unfold shadeC
  by_cases h : wd C (pl2 o) = 0
  · rw [if_pos ⟨hk, h⟩, wd_set_same hl]; decide
  · rw [if_neg (fun x => h x.2)]; exact h
theorem shadeL_cases : ∀ (l C : List Int) (k : Nat), wd (shadeL C l) k = wd C k ∨ (wd C k = 0 ∧ wd (shadeL C l) k = 1 ∧ ∃ o ∈ l, kindOf o = 3 ∧ pl2 o = k)
  | [], _, _ => Or.inl rfl
  | o :: r, C, k => by
    show wd (shadeL (shadeC C o) r) k = _ ∨ _ ∧ wd (shadeL (shadeC C o) r) k = 1 ∧ _
    rcases shadeL_cases r (shadeC C o) k with h | ⟨h1, h2, x, hx, h3⟩
    · rcases shade_cases C o k with g | ⟨g1, g2, g3, g4⟩
      · exact Or.inl (h.trans g)
      · exact Or.inr ⟨g1, h.trans g2, o, List.mem_cons_self .., g3, g4⟩
    · rcases shade_cases C o k with g | ⟨g1, g2, _⟩
      · exact Or.inr ⟨g ▸ h1, h2, x, List.mem_cons_of_mem _ hx, h3⟩
      · rw [g2] at h1; cases h1
theorem shadeL_mono {l C : List Int} {k : Nat} (h : wd C k ≠ 0) : wd (shadeL C l) k ≠ 0 := by
  rcases shadeL_cases l C k with g | ⟨g1, _⟩
  · rw [g]; exact h
  · exact absurd g1 h
theorem shadeL_hit : ∀ {l C : List Int} {o : Int}, o ∈ l → kindOf o = 3 → pl2 o < C.length → wd (shadeL C l) (pl2 o) ≠ 0
  | x :: r, C, o, ho, hk, hl => by
    show wd (shadeL (shadeC C x) r) (pl2 o) ≠ 0
    rcases List.mem_cons.1 ho with rfl | ho
    · exact shadeL_mono (shade_hit hk hl)
    · exact shadeL_hit ho hk (by rw [shade_length]; exact hl)
theorem shadeL_snoc (C l : List Int) (o : Int) : shadeL C (l ++ [o]) = shadeC (shadeL C l) o := by unfold shadeL; rw [List.foldl_append]; rfl

/-! What is held. -/
/-- Who was reached at first, or has come since. -/
def HeldT (W0 R0 : List Int) (p : Nat) : Prop := Reached W0 R0 (2 * (p : Int)) ∨ W0.length ≤ p
/-- Who hangs on a grey one, by white ones. -/
inductive GreyR (W C : List Int) : Nat → Prop
  | one {q p : Nat} : q ∈ places W 2 → wd C q = 1 → 2 * (p : Int) ∈ leadsAt W q → GreyR W C p
  | more {q p : Nat} : GreyR W C q → q ∈ places W 2 → wd C q = 0 → 2 * (p : Int) ∈ leadsAt W q → GreyR W C p
theorem grey_step {W W' C C' : List Int} (hp : ∀ q ∈ places W 2, q ∈ places W' 2)
    (h1 : ∀ q ∈ places W 2, wd C q = 0 → wd C' q = 0 ∨ wd C' q = 1) (h2 : ∀ q, wd C q ≠ 0 → wd C' q ≠ 0)
    (h3 : ∀ q ∈ places W 2, wd C q = 1 → wd C' q = 1 ∨ ∀ p ∈ places W 2, 2 * (p : Int) ∈ leadsAt W q → wd C' p ≠ 0)
    (h4 : ∀ q ∈ places W 2, ∀ p ∈ places W 2, 2 * (p : Int) ∈ leadsAt W q → 2 * (p : Int) ∈ leadsAt W' q ∨ wd C' p ≠ 0) {p : Nat} (hpl : p ∈ places W 2)
    (h : wd C p ≠ 0 ∨ GreyR W C p) : wd C' p ≠ 0 ∨ GreyR W' C' p := by
  rcases h with h | h
  · exact Or.inl (h2 p h)
  · have key : ∀ p, GreyR W C p → p ∈ places W 2 → wd C' p ≠ 0 ∨ GreyR W' C' p := by
      intro p h
      induction h with
      | @one q p hq hc hl =>
        intro hpl
        rcases h4 q hq p hpl hl with e | e
        · rcases h3 q hq hc with g | g
          · exact Or.inr (.one (hp q hq) g e)
          · exact Or.inl (g p hpl hl)
        · exact Or.inl e
      | @more q p hg hq hc hl ih =>
        intro hpl
        rcases h4 q hq p hpl hl with e | e
        · rcases h1 q hq hc with g | g
          · rcases ih hq with i | i
            · exact absurd g i
            · exact Or.inr (.more i (hp q hq) g e)
          · exact Or.inr (.one (hp q hq) g e)
        · exact Or.inl e
    exact key p h hpl
structure TInv (W0 R0 : List Int) (s : Tri) : Prop where
  may : (checkOf s.W).1 = 0
  roots : ∀ x ∈ s.R, okRef s.W x
  len : s.C.length = s.W.length + 1
  grow : W0.length ≤ s.W.length
  old : ∀ p ∈ places W0 2, p ∈ places s.W 2
  only : ∀ p ∈ places s.W 2, p < W0.length → p ∈ places W0 2
  col : ∀ p, wd s.C p = 0 ∨ wd s.C p = 1 ∨ wd s.C p = 2
  lead : ∀ p ∈ places s.W 2, HeldT W0 R0 p → ∀ o ∈ leadsAt s.W p, thingB s.W o = true → HeldT W0 R0 (pl2 o)
  root : ∀ x ∈ s.R, thingB s.W x = true → HeldT W0 R0 (pl2 x)
  held : ∀ p ∈ places s.W 2, wd s.C p ≠ 0 → HeldT W0 R0 p
  grey : ∀ p ∈ places s.W 2, HeldT W0 R0 p → wd s.C p ≠ 0 ∨ GreyR s.W s.C p
theorem thing_at {W : List Int} {o : Int} (h : thingB W o = true) : pl2 o ∈ places W 2 ∧ o = 2 * (pl2 o : Int) := by
  obtain ⟨p, e, hm, _, hp⟩ := thing_ref h
  have : pl2 o = p := hp
  rw [this]; exact ⟨hm, e⟩
/-- What is reached now is held. -/
theorem TInv.now {W0 R0 : List Int} {s : Tri} (h : TInv W0 R0 s) {o : Int} (ho : Reached s.W s.R o) : HeldT W0 R0 (pl2 o) := by
  induction ho with
  | root hm ht => exact h.root _ hm ht
  | @step x o hx hm ht ih => exact h.lead _ (reached_place hx).1 ih o hm ht
theorem TInv.lt {W0 R0 : List Int} {s : Tri} (h : TInv W0 R0 s) {p : Nat} (hp : p ∈ places s.W 2) : p < s.C.length := by
  rw [h.len]; have := (place_ge hp).2; omega
theorem first_inv {W R : List Int} (hc : (checkOf W).1 = 0) (hr : ∀ x ∈ R, okRef W x) : TInv W R (firstT W R) := by
  have hz : ∀ k, wd (List.replicate (W.length + 1) (0 : Int)) k = 0 := fun k => by
    unfold wd; rw [List.getD_eq_getElem?_getD, List.getElem?_replicate]; split <;> rfl
  have hin : ∀ p ∈ places W 2, ¬ W.length ≤ p := fun p hp => by have := (place_ge hp).2; omega
  refine ⟨hc, hr, by show (shadeL _ R).length = _; rw [shadeL_length]; simp; rfl, Nat.le_refl _, fun p hp => hp, fun p hp _ => hp, fun p => ?_, fun p hp hh o ho ht => ?_, fun x hx ht => ?_, fun p hp hcp => ?_, fun p hp hh => ?_⟩
  · rcases shadeL_cases R (List.replicate (W.length + 1) 0) p with h | ⟨_, h, _⟩
    · exact Or.inl (h.trans (hz p))
    · exact Or.inr (Or.inl h)
  · rcases hh with hh | hh
    · refine Or.inl ?_
      rw [← (thing_at ht).2]
      exact .step hh (by show o ∈ leadsAt W (pl2 (2 * (p : Int))); rw [pl2_two]; exact ho) ht
    · exact absurd hh (hin p hp)
  · refine Or.inl ?_
    rw [← (thing_at ht).2]
    exact .root hx ht
  · rcases shadeL_cases R (List.replicate (W.length + 1) 0) p with h | ⟨_, _, o, ho, hk, hpo⟩
    · exact absurd (h.trans (hz p)) hcp
    · have ht := ok_thing (hr o ho) hk
      refine Or.inl ?_
      rw [← hpo, ← (thing_at ht).2]; exact .root ho ht
  · rcases hh with hh | hh
    · have key : ∀ o, Reached W R o → wd (shadeL (List.replicate (W.length + 1) 0) R) (pl2 o) ≠ 0 ∨ GreyR W (shadeL (List.replicate (W.length + 1) 0) R) (pl2 o) := by
        intro o ho
        induction ho with
        | @root o hm ht =>
          refine Or.inl (shadeL_hit hm (thing_kind ht) ?_)
          have := (place_ge (thing_at ht).1).2
          simp; omega
        | @step x o hx hm ht ih =>
          have hxp := (reached_place hx).1
          rw [(thing_at ht).2] at hm
          rcases shadeL_cases R (List.replicate (W.length + 1) 0) (pl2 x) with h | ⟨_, h, _⟩
          · rw [hz] at h
            rcases ih with i | i
            · exact absurd h i
            · exact Or.inr (.more i hxp h hm)
          · exact Or.inr (.one hxp h hm)
      have := key _ hh
      rw [pl2_two] at this; exact this
    · exact absurd hh (hin p hp)
end Go.Proofs.Ythdhaokjibfjdaa

/- What stays true while things are coloured: what is white in the end is not reached, what was not reached at first is white. No Go in sight. -/
namespace Go.Proofs.Ythdhaokjibfjdaa

theorem mem_leads {W : List Int} {q : Nat} (hr : q + 3 + slotsAt W q ≤ W.length) {o : Int} : o ∈ leadsAt W q ↔ o = wd W q ∨ (formAt W q = 0 ∧ ∃ j, j < slotsAt W q ∧ o = wd W (q + 3 + j)) := by
  constructor
  · intro h
    rcases leads_cases h with rfl | ⟨hf, hs⟩
    · exact Or.inl rfl
    · obtain ⟨j, hj, rfl⟩ := wd_index hs
      rw [slotList_length hr] at hj
      exact Or.inr ⟨hf, j, hj, slotList_at hj⟩
  · rintro (rfl | ⟨hf, j, hj, rfl⟩)
    · exact class_lead' W q
    · refine slots_lead hf ?_
      rw [← slotList_at hj]
      exact wd_mem (by rw [slotList_length hr]; exact hj)
theorem lead_okT {W : List Int} (hf : Fine W) {q : Nat} (hq : q ∈ places W 2) {o : Int} (ho : o ∈ leadsAt W q) : okRef W o := by
  rcases (mem_leads (hf.room q hq)).1 ho with rfl | ⟨h0, j, hj, rfl⟩
  · exact hf.cls q hq
  · exact hf.slot q hq (by rw [h0]; decide) j hj
theorem place_kind {W : List Int} (hl : W.length ≤ 2000) {p : Nat} (hp : p ∈ places W 2) : kindOf (2 * (p : Int)) = 3 := thing_kind (ref_thing hl hp)
/-! A scan. -/
theorem scan_inv {W0 R0 : List Int} {s : Tri} (h : TInv W0 R0 s) : TInv W0 R0 ⟨s.W, s.R, scanC s.W s.C⟩ := by
  have hf := fine_of h.may
  unfold scanC
  cases hfi : (places s.W 2).find? (fun p => wd s.C p == 1) with
  | none => exact h
  | some p =>
    have hp1 : wd s.C p = 1 := by have := List.find?_some hfi; simpa using this
    have hpm : p ∈ places s.W 2 := List.mem_of_find?_eq_some hfi
    have hpl := h.lt hpm
    have hheld := h.held p hpm (by rw [hp1]; decide)
    have e1 : ∀ k, k ≠ p → wd (s.C.set p 2) k = wd s.C k := fun k hk => wd_set_other (fun e => hk e.symm)
    have e2 : wd (s.C.set p 2) p = 2 := wd_set_same hpl
    refine ⟨h.may, h.roots, by show (shadeL _ _).length = _; rw [shadeL_length, List.length_set]; exact h.len, h.grow, h.old, h.only, fun k => ?_, h.lead, h.root, fun k hk hck => ?_, fun k hk hh => ?_⟩
    · rcases shadeL_cases (leadsAt s.W p) (s.C.set p 2) k with g | ⟨_, g, _⟩
      · show wd (shadeL _ _) k = 0 ∨ _
        rw [g]
        by_cases e : k = p
        · subst e; rw [e2]; exact Or.inr (Or.inr rfl)
        · rw [e1 k e]; exact h.col k
      · exact Or.inr (Or.inl g)
    · rcases shadeL_cases (leadsAt s.W p) (s.C.set p 2) k with g | ⟨_, _, o, ho, hko, hpo⟩
      · by_cases e : k = p
        · subst e; exact hheld
        · exact h.held k hk (by rw [← e1 k e, ← g]; exact hck)
      · have ht := ok_thing (lead_okT hf hpm ho) hko
        rw [← hpo]; exact h.lead p hpm hheld o ho ht
    · refine grey_step (W := s.W) (C := s.C) (fun q hq => hq) (fun q hq hc => ?_) (fun q hc => ?_) (fun q hq hc => ?_) (fun q hq p' hp' hl => Or.inl hl) hk (h.grey k hk hh)
      · have e : q ≠ p := fun e => by rw [e, hp1] at hc; cases hc
        rcases shadeL_cases (leadsAt s.W p) (s.C.set p 2) q with g | ⟨_, g, _⟩
        · left; rw [g, e1 q e]; exact hc
        · exact Or.inr g
      · by_cases e : q = p
        · subst e; exact shadeL_mono (by rw [e2]; decide)
        · exact shadeL_mono (by rw [e1 q e]; exact hc)
      · by_cases e : q = p
        · subst e
          refine Or.inr fun p' hp' hl => ?_
          have := shadeL_hit (C := s.C.set q 2) hl (place_kind hf.few hp') (by rw [pl2_two, List.length_set]; exact h.lt hp')
          rw [pl2_two] at this; exact this
        · left
          rcases shadeL_cases (leadsAt s.W p) (s.C.set p 2) q with g | ⟨g, _⟩
          · rw [g, e1 q e]; exact hc
          · rw [e1 q e, hc] at g; cases g
/-! A shade besides. -/
theorem shade_grey {W C : List Int} {W' : List Int} (o : Int) (hp : ∀ q ∈ places W 2, q ∈ places W' 2) (h4 : ∀ q ∈ places W 2, ∀ p ∈ places W 2, 2 * (p : Int) ∈ leadsAt W q → 2 * (p : Int) ∈ leadsAt W' q ∨ wd (shadeC C o) p ≠ 0) {k : Nat} (hk : k ∈ places W 2) (h : wd C k ≠ 0 ∨ GreyR W C k) : wd (shadeC C o) k ≠ 0 ∨ GreyR W' (shadeC C o) k := by
  refine grey_step hp (fun q hq hc => ?_) (fun q hc => ?_) (fun q hq hc => ?_) h4 hk h
  · rcases shade_cases C o q with g | ⟨_, g, _⟩
    · left; rw [g]; exact hc
    · exact Or.inr g
  · rcases shade_cases C o q with g | ⟨g, _⟩
    · rw [g]; exact hc
    · exact absurd g hc
  · left
    rcases shade_cases C o q with g | ⟨g, _⟩
    · rw [g]; exact hc
    · rw [hc] at g; cases g
theorem shade_col {C : List Int} (o : Int) (h : ∀ p, wd C p = 0 ∨ wd C p = 1 ∨ wd C p = 2) : ∀ p, wd (shadeC C o) p = 0 ∨ wd (shadeC C o) p = 1 ∨ wd (shadeC C o) p = 2 := fun p => by
  rcases shade_cases C o p with g | ⟨_, g, _⟩
  · rw [g]; exact h p
  · exact Or.inr (Or.inl g)
theorem root_inv {W0 R0 : List Int} {s : Tri} {p : OpT} (h : TInv W0 R0 s) (ho : RootOk s p) : TInv W0 R0 (rootT s p) := by
  obtain ⟨⟨h1, h2⟩, h3, h4⟩ := ho
  have hm : wd s.R p.pos.toNat ∈ s.R := wd_mem (by omega)
  have hset : ∀ x ∈ s.R.set p.pos.toNat p.what, x ∈ s.R ∨ x = p.what := fun x hx => List.mem_or_eq_of_mem_set hx
  refine ⟨h.may, fun x hx => ?_, by show (shadeC _ _).length = _; rw [shade_length]; exact h.len, h.grow, h.old, h.only, shade_col _ h.col, h.lead, fun x hx ht => ?_, fun k hk hck => ?_, fun k hk hh => shade_grey _ (fun q hq => hq) (fun q _ p' _ hl => Or.inl hl) hk (h.grey k hk hh)⟩
  · rcases hset x hx with g | g
    · exact h.roots x g
    · rw [g]; exact h1
  · rcases hset x hx with g | g
    · exact h.root x g ht
    · subst g; exact h.now (h2 (thing_kind ht))
  · rcases shade_cases s.C (wd s.R p.pos.toNat) k with g | ⟨_, _, g, e⟩
    · exact h.held k hk (by rw [← g]; exact hck)
    · rw [← e]; exact h.root _ hm (ok_thing (h.roots _ hm) g)
/-! A slot that changes. -/
theorem put_words {W : List Int} {p k : Nat} {what : Int} (hc : (checkOf W).1 = 0) (hp : p ∈ places W 2) (hk : k < slotsAt W p) (hs : standB W (formAt W p) what = true) :
    (∀ o, thingB (W.set (p + 3 + k) what) o = thingB W o) ∧ (∀ q ∈ places W 2, slotsAt (W.set (p + 3 + k) what) q = slotsAt W q ∧ formAt (W.set (p + 3 + k) what) q = formAt W q ∧ wd (W.set (p + 3 + k) what) q = wd W q ∧ ∀ j, j < slotsAt W q → wd (W.set (p + 3 + k) what) (q + 3 + j) = if q = p ∧ j = k then what else wd W (q + 3 + j)) := by
  have hf := fine_of hc
  have hpl := (put_keeps hc hp hk hs).1
  have hroom := hf.room p hp
  refine ⟨fun o => by unfold thingB beginB; rw [hpl], fun q hq => ?_⟩
  have hd : ∀ j, j ≤ 2 → wd (W.set (p + 3 + k) what) (q + j) = wd W (q + j) := fun j hj => wd_set_other (by have := slot_apart hp hq hk; omega)
  refine ⟨slots_same (hd 2 (by omega)), form_same (hd 2 (by omega)), hd 0 (by omega), fun j hj => ?_⟩
  by_cases e : q = p ∧ j = k
  · obtain ⟨rfl, rfl⟩ := e
    rw [if_pos ⟨rfl, rfl⟩, wd_set_same (by omega)]
  · rw [if_neg e]
    refine wd_set_other fun h => e ?_
    rcases Nat.lt_trichotomy p q with hlt | heq | hlt
    · have := place_sep hp hq hlt; simp only [nextAt] at this; omega
    · subst heq; exact ⟨rfl, by omega⟩
    · have := place_sep hq hp hlt; simp only [nextAt] at this; omega
theorem put_core {W0 R0 W R C : List Int} {o what : Int} {k : Nat} (h : TInv W0 R0 ⟨W, R, C⟩) (ht : thingB W o = true) (hk : k < slotsAt W (pl2 o)) (hst : standB W (formAt W (pl2 o)) what = true) (hreach : Reached W R o) (hw : formAt W (pl2 o) ≠ 1 → nowT W R what) :
    TInv W0 R0 ⟨W.set (pl2 o + 3 + k) what, R, if formAt W (pl2 o) = 0 then shadeC C (wd W (pl2 o + 3 + k)) else C⟩ := by
  have hpm := (thing_at ht).1
  have hheld : HeldT W0 R0 (pl2 o) := h.now hreach
  have hmay : (checkOf W).1 = 0 := h.may
  have hf := fine_of hmay
  obtain ⟨g1, g2⟩ := put_keeps hmay hpm hk hst
  obtain ⟨t1, t2⟩ := put_words hmay hpm hk hst
  have hf' := fine_of g2
  have hroom' : ∀ q ∈ places W 2, q + 3 + slotsAt (W.set (pl2 o + 3 + k) what) q ≤ (W.set (pl2 o + 3 + k) what).length := fun q hq => hf'.room q (by rw [g1]; exact hq)
  have hok : ∀ x, okRef W x → okRef (W.set (pl2 o + 3 + k) what) x := fun x hx => by unfold okRef nilB at hx ⊢; rw [t1]; exact hx
  have hto : ∀ q ∈ places W 2, ∀ x ∈ leadsAt (W.set (pl2 o + 3 + k) what) q, x ∈ leadsAt W q ∨ (q = pl2 o ∧ formAt W (pl2 o) = 0 ∧ x = what) := fun q hq x hx => by
    obtain ⟨u1, u2, u3, u4⟩ := t2 q hq
    rcases (mem_leads (hroom' q hq)).1 hx with e | ⟨e0, j, hj, e⟩
    · exact Or.inl ((mem_leads (hf.room q hq)).2 (Or.inl (e.trans u3)))
    · rw [u1] at hj
      rw [u4 j hj] at e
      rw [u2] at e0
      by_cases c : q = pl2 o ∧ j = k
      · rw [if_pos c] at e; exact Or.inr ⟨c.1, by rw [← c.1]; exact e0, e⟩
      · rw [if_neg c] at e; exact Or.inl ((mem_leads (hf.room q hq)).2 (Or.inr ⟨e0, j, hj, e⟩))
  have hof : ∀ q ∈ places W 2, ∀ x ∈ leadsAt W q, x ∈ leadsAt (W.set (pl2 o + 3 + k) what) q ∨ (formAt W (pl2 o) = 0 ∧ x = wd W (pl2 o + 3 + k)) := fun q hq x hx => by
    obtain ⟨u1, u2, u3, u4⟩ := t2 q hq
    rcases (mem_leads (hf.room q hq)).1 hx with e | ⟨e0, j, hj, e⟩
    · exact Or.inl ((mem_leads (hroom' q hq)).2 (Or.inl (e.trans u3.symm)))
    · by_cases c : q = pl2 o ∧ j = k
      · obtain ⟨rfl, rfl⟩ := c
        exact Or.inr ⟨e0, e⟩
      · have := u4 j hj
        rw [if_neg c] at this
        exact Or.inl ((mem_leads (hroom' q hq)).2 (Or.inr ⟨by rw [u2]; exact e0, j, by rw [u1]; exact hj, by rw [this]; exact e⟩))
  have hC : ∀ (C' : List Int), C' = (if formAt W (pl2 o) = 0 then shadeC C (wd W (pl2 o + 3 + k)) else C) → C'.length = W.length + 1 ∧ (∀ p, wd C' p = 0 ∨ wd C' p = 1 ∨ wd C' p = 2) ∧ (∀ q ∈ places W 2, wd C' q ≠ 0 → HeldT W0 R0 q) ∧ (∀ q ∈ places W 2, HeldT W0 R0 q → wd C' q ≠ 0 ∨ GreyR (W.set (pl2 o + 3 + k) what) C' q) := by
    rintro C' rfl
    by_cases h0 : formAt W (pl2 o) = 0
    · rw [if_pos h0]
      have hlead : wd W (pl2 o + 3 + k) ∈ leadsAt W (pl2 o) := (mem_leads (hf.room _ hpm)).2 (Or.inr ⟨h0, k, hk, rfl⟩)
      refine ⟨by rw [shade_length]; exact h.len, shade_col _ h.col, fun q hq hc => ?_, fun q hq hh => shade_grey _ (fun q hq => by rw [g1]; exact hq) (fun q hq p' hp' hl => ?_) hq (h.grey q hq hh)⟩
      · rcases shade_cases C (wd W (pl2 o + 3 + k)) q with e | ⟨_, _, e, eq⟩
        · exact h.held q hq (by rw [← e]; exact hc)
        · rw [← eq]; exact h.lead _ hpm hheld _ hlead (ok_thing (lead_okT hf hpm hlead) e)
      · rcases hof q hq _ hl with e | ⟨_, e⟩
        · exact Or.inl e
        · right
          have hx : pl2 (wd W (pl2 o + 3 + k)) = p' := by rw [← e, pl2_two]
          have := shade_hit (C := C) (o := wd W (pl2 o + 3 + k)) (by rw [← e]; exact place_kind hf.few hp') (by rw [hx]; exact h.lt hp')
          rw [hx] at this; exact this
    · rw [if_neg h0]
      refine ⟨h.len, h.col, h.held, fun q hq hh => grey_step (fun q hq => by rw [g1]; exact hq) (fun q _ hc => Or.inl hc) (fun q hc => hc) (fun q _ hc => Or.inl hc) (fun q hq p' hp' hl => ?_) hq (h.grey q hq hh)⟩
      rcases hof q hq _ hl with e | ⟨e, _⟩
      · exact Or.inl e
      · exact absurd e h0
  obtain ⟨c1, c2, c3, c4⟩ := hC _ rfl
  have hlen : (W.set (pl2 o + 3 + k) what).length = W.length := List.length_set
  have hin : ∀ q, q ∈ places (W.set (pl2 o + 3 + k) what) 2 → q ∈ places W 2 := fun q hq => by rw [g1] at hq; exact hq
  have hth : ∀ x, thingB (W.set (pl2 o + 3 + k) what) x = true → thingB W x = true := fun x hx => by rw [t1] at hx; exact hx
  have hgr : W0.length ≤ W.length := h.grow
  refine ⟨g2, fun x hx => hok x (h.roots x hx), by show _ = (W.set (pl2 o + 3 + k) what).length + 1; rw [hlen]; exact c1, by show W0.length ≤ (W.set (pl2 o + 3 + k) what).length; omega, fun q hq => by show q ∈ places (W.set (pl2 o + 3 + k) what) 2; rw [g1]; exact h.old q hq, fun q hq hl => h.only q (hin q hq) hl, c2, fun q hq hh x hx hxt => ?_, fun x hx hxt => h.root x hx (hth x hxt), fun q hq => c3 q (hin q hq), fun q hq => c4 q (hin q hq)⟩
  have hq' := hin q hq
  have hxt' := hth x hxt
  rcases hto q hq' x hx with e | ⟨_, e0, e⟩
  · exact h.lead q hq' hh x e hxt'
  · subst e; exact h.now ((hw (by rw [e0]; decide)).2 (thing_kind hxt'))
theorem put_inv {W0 R0 : List Int} {s : Tri} {p : OpT} (h : TInv W0 R0 s) (ho : PutOk s p) : TInv W0 R0 (putT s p) := by
  obtain ⟨ht, h1, h2, hst, ⟨_, hn⟩, hw⟩ := ho
  have hk : p.pos.toNat < slotsAt s.W (pl2 p.o) := by omega
  exact put_core (W := s.W) (R := s.R) (C := s.C) h ht hk hst (hn (thing_kind ht)) hw
/-! A thing more. -/
theorem pad_at {C : List Int} {n k : Nat} : wd (padC C n) k = wd C k := by
  unfold padC
  by_cases h : k < C.length
  · exact wd_left h
  · rw [wd_past (l := C) (by omega)]
    obtain ⟨j, rfl⟩ : ∃ j, k = C.length + j := ⟨k - C.length, by omega⟩
    rw [wd_right rfl]
    unfold wd; rw [List.getD_eq_getElem?_getD, List.getElem?_replicate]; split <;> rfl
theorem pad_length {C : List Int} {n : Nat} (h : C.length ≤ n) : (padC C n).length = n := by unfold padC; rw [List.length_append, List.length_replicate]; omega
theorem new_core {W0 R0 W R C : List Int} {form : Int} {m : Nat} (h : TInv W0 R0 ⟨W, R, C⟩) (f1 : 0 ≤ form) (f2 : form ≤ 2) (s2 : m ≤ 60) (hfit : W.length + 3 + m ≤ 2000) (hh : wd W 1 ≤ 10000) :
    TInv W0 R0 ⟨newWords W 0 form m, R ++ [2 * (W.length : Int)], (padC C ((newWords W 0 form m).length + 1)).set W.length 2⟩ := by
  have hmay : (checkOf W).1 = 0 := h.may
  have hgr : W0.length ≤ W.length := h.grow
  have hclen : C.length = W.length + 1 := h.len
  have hf := fine_of hmay
  have hl2 : 2 ≤ W.length := (front_out (check_fine hmay).1).1
  have hM := one_moreN W 0 form m hl2
  have hn0 : nilB W 0 = true := by unfold nilB; rw [show kindOf 0 = 2 by decide]; rfl
  have may' := hM.may hmay hn0 ⟨f1, f2⟩ (by omega) (by omega) hh
  obtain ⟨g1, g2, g3, g4⟩ := hM.places hmay ⟨f1, f2⟩ (by omega)
  have hf' := fine_of may'
  have hlen := hM.length
  have hmem : ∀ q ∈ places W 2, q ∈ places (newWords W 0 form m) 2 := fun q hq => by rw [g1]; exact List.mem_append.2 (Or.inl hq)
  have hcase : ∀ q ∈ places (newWords W 0 form m) 2, q ∈ places W 2 ∨ q = W.length := fun q hq => by
    rw [g1] at hq
    rcases List.mem_append.1 hq with e | e
    · exact Or.inl e
    · exact Or.inr (List.mem_singleton.1 e)
  have hnew : HeldT W0 R0 W.length := Or.inr hgr
  have hwd : ∀ q ∈ places W 2, ∀ j, j < 3 + slotsAt W q → wd (newWords W 0 form m) (q + j) = wd W (q + j) := fun q hq j hj => by
    have := hf.room q hq
    have := (place_ge hq).1
    exact hM.old _ (by omega) (by omega)
  have hleads : ∀ q ∈ places W 2, ∀ x, x ∈ leadsAt (newWords W 0 form m) q ↔ x ∈ leadsAt W q := fun q hq x => by
    have e2 := hwd q hq 2 (by omega)
    have e0 := hwd q hq 0 (by omega)
    rw [mem_leads (hf'.room q (hmem q hq)), mem_leads (hf.room q hq), slots_same e2, form_same e2]
    rw [Nat.add_zero] at e0
    rw [e0]
    refine or_congr Iff.rfl (and_congr Iff.rfl (exists_congr fun j => and_congr_right fun hj => ?_))
    rw [show q + 3 + j = q + (3 + j) by omega, hwd q hq (3 + j) (by omega)]
  have hlead0 : ∀ x ∈ leadsAt (newWords W 0 form m) W.length, x = 0 := fun x hx => by
    rcases (mem_leads (hf'.room _ (by rw [g1]; simp))).1 hx with e | ⟨_, j, hj, e⟩
    · rw [e, hM.cls]
    · rw [g3] at hj; rw [e, hM.zero j hj]
  have hwC : ∀ q, q ≠ W.length → wd ((padC C ((newWords W 0 form m).length + 1)).set W.length 2) q = wd C q := fun q hq => by rw [wd_set_other (fun e => hq e.symm), pad_at]
  have hpl : (padC C ((newWords W 0 form m).length + 1)).length = (newWords W 0 form m).length + 1 := pad_length (by omega)
  have hwN : wd ((padC C ((newWords W 0 form m).length + 1)).set W.length 2) W.length = 2 := wd_set_same (by omega)
  have hne : ∀ q ∈ places W 2, q ≠ W.length := fun q hq => by have := (place_ge hq).2; omega
  have hokm : ∀ x, okRef W x → okRef (newWords W 0 form m) x := fun x hx => by
    unfold okRef at hx ⊢
    simp only [Bool.or_eq_true] at hx ⊢
    exact hx.imp id (nil_mono hmem)
  have hthing : ∀ x, okRef W x → thingB (newWords W 0 form m) x = true → thingB W x = true := fun x hx ht => ok_thing hx (thing_kind ht)
  have htn : thingB (newWords W 0 form m) (2 * (W.length : Int)) = true := ref_thing hf'.few (by rw [g1]; simp)
  refine ⟨may', fun x hx => ?_, by show ((padC _ _).set _ _).length = _; rw [List.length_set]; exact hpl, by show W0.length ≤ (newWords W 0 form m).length; omega, fun q hq => hmem q (h.old q hq), fun q hq hl => ?_, fun q => ?_, fun q hq hh x hx hxt => ?_, fun x hx hxt => ?_, fun q hq hc => ?_, fun q hq hh => ?_⟩
  · rcases List.mem_append.1 hx with e | e
    · exact hokm x (h.roots x e)
    · rw [List.mem_singleton] at e; rw [e]; unfold okRef nilB; rw [htn]; simp
  · rcases hcase q hq with e | e
    · exact h.only q e hl
    · omega
  · show wd ((padC C ((newWords W 0 form m).length + 1)).set W.length 2) q = 0 ∨ _
    by_cases e : q = W.length
    · subst e; exact Or.inr (Or.inr hwN)
    · have hcq : wd C q = 0 ∨ wd C q = 1 ∨ wd C q = 2 := h.col q
      rcases hcq with g | g | g
      · exact Or.inl ((hwC q e).trans g)
      · exact Or.inr (Or.inl ((hwC q e).trans g))
      · exact Or.inr (Or.inr ((hwC q e).trans g))
  · rcases hcase q hq with e | e
    · have hx' := (hleads q e x).1 hx
      exact h.lead q e hh x hx' (hthing x (lead_okT hf e hx') hxt)
    · subst e
      have := hlead0 x hx
      subst this
      have := thing_kind hxt
      exact absurd this (by decide)
  · rcases List.mem_append.1 hx with e | e
    · exact h.root x e (hthing x (h.roots x e) hxt)
    · rw [List.mem_singleton] at e; subst e; rw [pl2_two]; exact hnew
  · rcases hcase q hq with e | e
    · exact h.held q e (by rw [← hwC q (hne q e)]; exact hc)
    · subst e; exact hnew
  · rcases hcase q hq with e | e
    · refine grey_step (W := W) (C := C) hmem (fun q hq hc => ?_) (fun q hc => ?_) (fun q hq hc => ?_) (fun q hq p' hp' hl => Or.inl ((hleads q hq _).2 hl)) e (h.grey q e hh)
      · left; exact (hwC q (hne q hq)).trans hc
      · show wd ((padC C ((newWords W 0 form m).length + 1)).set W.length 2) q ≠ 0
        by_cases e : q = W.length
        · subst e; rw [hwN]; decide
        · rw [hwC q e]; exact hc
      · left; exact (hwC q (hne q hq)).trans hc
    · subst e
      left
      show wd ((padC C ((newWords W 0 form m).length + 1)).set W.length 2) W.length ≠ 0
      rw [hwN]; decide
theorem new_inv {W0 R0 : List Int} {s : Tri} {p : OpT} (h : TInv W0 R0 s) (ho : NewOk s p) : TInv W0 R0 (newT s p) := by
  obtain ⟨f1, f2, s1, s2, hfit, hh⟩ := ho
  obtain ⟨m, hm⟩ : ∃ m : Nat, p.size = (m : Int) := ⟨p.size.toNat, by omega⟩
  unfold newT
  rw [hm]
  exact new_core (W := s.W) (R := s.R) (C := s.C) h f1 f2 (by omega) (by omega) hh
theorem do_inv {W0 R0 : List Int} {s : Tri} (p : OpT) (h : TInv W0 R0 s) : TInv W0 R0 (doT s p) := by
  unfold doT
  split
  · exact scan_inv h
  · split
    · split
      · rename_i ho; exact put_inv h ho
      · exact h
    · split
      · split
        · rename_i ho; exact new_inv h ho
        · exact h
      · split
        · split
          · rename_i ho; exact root_inv h ho
          · exact h
        · exact h
theorem fold_inv {W0 R0 : List Int} : ∀ (ops : List OpT) (s : Tri), TInv W0 R0 s → TInv W0 R0 (ops.foldl doT s)
  | [], _, h => h
  | p :: r, _, h => fold_inv r _ (do_inv p h)
theorem play_inv {W R : List Int} (ops : List OpT) (hc : (checkOf W).1 = 0) (hr : ∀ x ∈ R, okRef W x) : TInv W R (playT W R ops) := fold_inv ops _ (first_inv hc hr)
/-- Where it is done nothing that is reached is white. -/
theorem TInv.safe {W0 R0 : List Int} {s : Tri} (h : TInv W0 R0 s) (hd : doneT s = true) {p : Nat} (hp : Reached s.W s.R (2 * (p : Int))) : wd s.C p ≠ 0 := by
  have hpl := (reached_place hp).1
  rw [pl2_two] at hpl
  have hh := h.now hp
  rw [pl2_two] at hh
  have hno : ∀ q ∈ places s.W 2, wd s.C q ≠ 1 := fun q hq => by
    unfold doneT at hd
    have := List.all_eq_true.1 hd q hq
    simpa using this
  rcases h.grey p hpl hh with g | g
  · exact g
  · exfalso
    have key : ∀ p, GreyR s.W s.C p → False := by
      intro p hg
      induction hg with
      | one hq hc _ => exact hno _ hq hc
      | more _ _ _ _ ih => exact ih
    exact key p g
/-- What was there, and was not reached, at first is white. -/
theorem TInv.white {W0 R0 : List Int} {s : Tri} (h : TInv W0 R0 s) {p : Nat} (hp : p ∈ places W0 2) (hr : ¬ Reached W0 R0 (2 * (p : Int))) : wd s.C p = 0 := by
  refine Classical.byContradiction fun hc => ?_
  rcases h.held p (h.old p hp) hc with g | g
  · exact hr g
  · have := (place_ge hp).2; omega
end Go.Proofs.Ythdhaokjibfjdaa
