/- What chapter 18 says of colours, as plain functions on lists of numbers: what is white in the end. No Go in sight. -/
import Derived.Test.YtabniplgibfgeaaNewPlain
import Derived.Test.YtabniplgibfgeaaToPlain
namespace Go.Proofs.Ytabniplgibfgeaa

structure Tri where
  W : List Int
  R : List Int
  C : List Int
structure OpT where
  kind : Int
  o : Int
  pos : Int
  what : Int
  form : Int
  size : Int
/-- What is white is grey. -/
def shadeC (C : List Int) (o : Int) : List Int := if kindOf o = 3 ∧ wd C (pl2 o) = 0 then C.set (pl2 o) 1 else C
def shadeL (C l : List Int) : List Int := l.foldl shadeC C
def scanC (W C : List Int) : List Int := match (places W 2).find? (fun p => wd C p == 1) with
  | some p => shadeL (C.set p 2) (leadsAt W p)
  | none => C
/-- A small reference, nil, or of a thing that is reached now. -/
def nowT (W R : List Int) (o : Int) : Prop := okRef W o ∧ (kindOf o = 3 → Reached W R o)
open Classical in
noncomputable def nowB (W R : List Int) (o : Int) : Bool := decide (nowT W R o)
theorem nowB_iff {W R : List Int} {o : Int} : nowB W R o = true ↔ nowT W R o := by unfold nowB; simp
def PutOk (s : Tri) (p : OpT) : Prop := thingB s.W p.o = true ∧ 0 ≤ p.pos ∧ p.pos < (slotsAt s.W (pl2 p.o) : Int) ∧ standB s.W (formAt s.W (pl2 p.o)) p.what = true ∧ nowT s.W s.R p.o ∧ (formAt s.W (pl2 p.o) ≠ 1 → nowT s.W s.R p.what)
def NewOk (s : Tri) (p : OpT) : Prop := 0 ≤ p.form ∧ p.form ≤ 2 ∧ 0 ≤ p.size ∧ p.size ≤ 60 ∧ (s.W.length : Int) + 3 + p.size ≤ 2000 ∧ wd s.W 1 ≤ 10000
def RootOk (s : Tri) (p : OpT) : Prop := nowT s.W s.R p.what ∧ 0 ≤ p.pos ∧ p.pos < (s.R.length : Int)
def padC (C : List Int) (n : Nat) : List Int := C ++ List.replicate (n - C.length) 0
def putT (s : Tri) (p : OpT) : Tri := ⟨s.W.set (pl2 p.o + 3 + p.pos.toNat) p.what, s.R, if formAt s.W (pl2 p.o) = 0 then shadeC s.C (wd s.W (pl2 p.o + 3 + p.pos.toNat)) else s.C⟩
def newT (s : Tri) (p : OpT) : Tri := ⟨newWords s.W 0 p.form p.size, s.R ++ [2 * (s.W.length : Int)], (padC s.C ((newWords s.W 0 p.form p.size).length + 1)).set s.W.length 2⟩
def rootT (s : Tri) (p : OpT) : Tri := ⟨s.W, s.R.set p.pos.toNat p.what, shadeC s.C (wd s.R p.pos.toNat)⟩
open Classical in
noncomputable def doT (s : Tri) (p : OpT) : Tri :=
  if p.kind = 1 then ⟨s.W, s.R, scanC s.W s.C⟩
  else if p.kind = 2 then (if PutOk s p then putT s p else s)
  else if p.kind = 3 then (if NewOk s p then newT s p else s)
  else if p.kind = 4 then (if RootOk s p then rootT s p else s)
  else s
def firstT (W R : List Int) : Tri := ⟨W, R, shadeL (List.replicate (W.length + 1) 0) R⟩
noncomputable def playT (W R : List Int) (ops : List OpT) : Tri := ops.foldl doT (firstT W R)
def coloursT (s : Tri) : List Int := (places s.W 2).map (wd s.C)
def doneT (s : Tri) : Bool := (places s.W 2).all fun p => wd s.C p != 1
def freedT (s : Tri) : List Int := if doneT s = true then ((places s.W 2).filter fun p => wd s.C p == 0).map (fun p : Nat => 2 * (p : Int)) else []

/-! Shades. -/
theorem wd_past {l : List Int} {k : Nat} (h : l.length ≤ k) : wd l k = 0 := by unfold wd; rw [List.getD_eq_getElem?_getD, List.getElem?_eq_none h]; rfl
theorem shade_length (C : List Int) (o : Int) : (shadeC C o).length = C.length := by unfold shadeC; split <;> simp
theorem shadeL_length : ∀ (l C : List Int), (shadeL C l).length = C.length
  | [], _ => rfl
  | o :: r, C => by show (shadeL (shadeC C o) r).length = _; rw [shadeL_length r, shade_length]
theorem shade_cases (C : List Int) (o : Int) (k : Nat) : wd (shadeC C o) k = wd C k ∨ (wd C k = 0 ∧ wd (shadeC C o) k = 1 ∧ kindOf o = 3 ∧ pl2 o = k) := by
  unfold shadeC
  by_cases h : kindOf o = 3 ∧ wd C (pl2 o) = 0
  · rw [if_pos h]
    by_cases e : pl2 o = k
    · subst e
      by_cases hl : pl2 o < C.length
      · exact Or.inr ⟨h.2, wd_set_same hl, h.1, rfl⟩
      · rw [List.set_eq_of_length_le (by omega)]; exact Or.inl rfl
    · exact Or.inl (wd_set_other e)
  · rw [if_neg h]; exact Or.inl rfl
theorem shade_hit {C : List Int} {o : Int} (hk : kindOf o = 3) (hl : pl2 o < C.length) : wd (shadeC C o) (pl2 o) ≠ 0 := by
  unfold shadeC
  by_cases h : wd C (pl2 o) = 0
  · rw [if_pos ⟨hk, h⟩, wd_set_same hl]; decide
  · rw [if_neg (fun x => h x.2)]; exact h
theorem shadeL_cases : ∀ (l C : List Int) (k : Nat), wd (shadeL C l) k = wd C k ∨ (wd C k = 0 ∧ wd (shadeL C l) k = 1 ∧ ∃ o ∈ l, kindOf o = 3 ∧ pl2 o = k)
  | [], _, _ => Or.inl rfl
  | o :: r, C, k => by
    show wd (shadeL (shadeC C o) r) k = _ ∨ _ ∧ wd (shadeL (shadeC C o) r) k = 1 ∧ _
    rcases shadeL_cases r (shadeC C o) k with h | ⟨h1, h2, x, hx, h3⟩
    · rcases shade_cases C o k with g | ⟨g1, g2, g3, g4⟩
      · exact Or.inl (h.trans g)
      · exact Or.inr ⟨g1, h.trans g2, o, List.mem_cons_self .., g3, g4⟩
    · rcases shade_cases C o k with g | ⟨g1, g2, _⟩
      · exact Or.inr ⟨g ▸ h1, h2, x, List.mem_cons_of_mem _ hx, h3⟩
      · rw [g2] at h1; cases h1
theorem shadeL_mono {l C : List Int} {k : Nat} (h : wd C k ≠ 0) : wd (shadeL C l) k ≠ 0 := by
  rcases shadeL_cases l C k with g | ⟨g1, _⟩
  · rw [g]; exact h
  · exact absurd g1 h
theorem shadeL_hit : ∀ {l C : List Int} {o : Int}, o ∈ l → kindOf o = 3 → pl2 o < C.length → wd (shadeL C l) (pl2 o) ≠ 0
  | x :: r, C, o, ho, hk, hl => by
    show wd (shadeL (shadeC C x) r) (pl2 o) ≠ 0
    rcases List.mem_cons.1 ho with rfl | ho
    · exact shadeL_mono (shade_hit hk hl)
    · exact shadeL_hit ho hk (by rw [shade_length]; exact hl)
theorem shadeL_snoc (C l : List Int) (o : Int) : shadeL C (l ++ [o]) = shadeC (shadeL C l) o := by unfold shadeL; rw [List.foldl_append]; rfl

/-! What is held. -/
/-- Who was reached at first, or has come since. -/
def HeldT (W0 R0 : List Int) (p : Nat) : Prop := Reached W0 R0 (2 * (p : Int)) ∨ W0.length ≤ p
/-- Who hangs on a grey one, by white ones. -/
inductive GreyR (W C : List Int) : Nat → Prop
  | one {q p : Nat} : q ∈ places W 2 → wd C q = 1 → 2 * (p : Int) ∈ leadsAt W q → GreyR W C p
  | more {q p : Nat} : GreyR W C q → q ∈ places W 2 → wd C q = 0 → 2 * (p : Int) ∈ leadsAt W q → GreyR W C p
theorem grey_step {W W' C C' : List Int} (hp : ∀ q ∈ places W 2, q ∈ places W' 2)
    (h1 : ∀ q ∈ places W 2, wd C q = 0 → wd C' q = 0 ∨ wd C' q = 1) (h2 : ∀ q, wd C q ≠ 0 → wd C' q ≠ 0)
    (h3 : ∀ q ∈ places W 2, wd C q = 1 → wd C' q = 1 ∨ ∀ p ∈ places W 2, 2 * (p : Int) ∈ leadsAt W q → wd C' p ≠ 0)
    (h4 : ∀ q ∈ places W 2, ∀ p ∈ places W 2, 2 * (p : Int) ∈ leadsAt W q → 2 * (p : Int) ∈ leadsAt W' q ∨ wd C' p ≠ 0) {p : Nat} (hpl : p ∈ places W 2)
    (h : wd C p ≠ 0 ∨ GreyR W C p) : wd C' p ≠ 0 ∨ GreyR W' C' p := by
  rcases h with h | h
  · exact Or.inl (h2 p h)
  · have key : ∀ p, GreyR W C p → p ∈ places W 2 → wd C' p ≠ 0 ∨ GreyR W' C' p := by
      intro p h
      induction h with
      | @one q p hq hc hl =>
        intro hpl
        rcases h4 q hq p hpl hl with e | e
        · rcases h3 q hq hc with g | g
          · exact Or.inr (.one (hp q hq) g e)
          · exact Or.inl (g p hpl hl)
        · exact Or.inl e
      | @more q p hg hq hc hl ih =>
        intro hpl
        rcases h4 q hq p hpl hl with e | e
        · rcases h1 q hq hc with g | g
          · rcases ih hq with i | i
            · exact absurd g i
            · exact Or.inr (.more i (hp q hq) g e)
          · exact Or.inr (.one (hp q hq) g e)
        · exact Or.inl e
    exact key p h hpl
structure TInv (W0 R0 : List Int) (s : Tri) : Prop where
  may : (checkOf s.W).1 = 0
  roots : ∀ x ∈ s.R, okRef s.W x
  len : s.C.length = s.W.length + 1
  grow : W0.length ≤ s.W.length
  old : ∀ p ∈ places W0 2, p ∈ places s.W 2
  only : ∀ p ∈ places s.W 2, p < W0.length → p ∈ places W0 2
  col : ∀ p, wd s.C p = 0 ∨ wd s.C p = 1 ∨ wd s.C p = 2
  lead : ∀ p ∈ places s.W 2, HeldT W0 R0 p → ∀ o ∈ leadsAt s.W p, thingB s.W o = true → HeldT W0 R0 (pl2 o)
  root : ∀ x ∈ s.R, thingB s.W x = true → HeldT W0 R0 (pl2 x)
  held : ∀ p ∈ places s.W 2, wd s.C p ≠ 0 → HeldT W0 R0 p
  grey : ∀ p ∈ places s.W 2, HeldT W0 R0 p → wd s.C p ≠ 0 ∨ GreyR s.W s.C p
theorem thing_at {W : List Int} {o : Int} (h : thingB W o = true) : pl2 o ∈ places W 2 ∧ o = 2 * (pl2 o : Int) := by
  obtain ⟨p, e, hm, _, hp⟩ := thing_ref h
  have : pl2 o = p := hp
  rw [this]; exact ⟨hm, e⟩
/-- What is reached now is held. -/
theorem TInv.now {W0 R0 : List Int} {s : Tri} (h : TInv W0 R0 s) {o : Int} (ho : Reached s.W s.R o) : HeldT W0 R0 (pl2 o) := by
  induction ho with
  | root hm ht => exact h.root _ hm ht
  | @step x o hx hm ht ih => exact h.lead _ (reached_place hx).1 ih o hm ht
theorem TInv.lt {W0 R0 : List Int} {s : Tri} (h : TInv W0 R0 s) {p : Nat} (hp : p ∈ places s.W 2) : p < s.C.length := by
  rw [h.len]; have := (place_ge hp).2; omega
theorem first_inv {W R : List Int} (hc : (checkOf W).1 = 0) (hr : ∀ x ∈ R, okRef W x) : TInv W R (firstT W R) := by
  have hz : ∀ k, wd (List.replicate (W.length + 1) (0 : Int)) k = 0 := fun k => by
    unfold wd; rw [List.getD_eq_getElem?_getD, List.getElem?_replicate]; split <;> rfl
  have hin : ∀ p ∈ places W 2, ¬ W.length ≤ p := fun p hp => by have := (place_ge hp).2; omega
  refine ⟨hc, hr, by show (shadeL _ R).length = _; rw [shadeL_length]; simp; rfl, Nat.le_refl _, fun p hp => hp, fun p hp _ => hp, fun p => ?_, fun p hp hh o ho ht => ?_, fun x hx ht => ?_, fun p hp hcp => ?_, fun p hp hh => ?_⟩
  · rcases shadeL_cases R (List.replicate (W.length + 1) 0) p with h | ⟨_, h, _⟩
    · exact Or.inl (h.trans (hz p))
    · exact Or.inr (Or.inl h)
  · rcases hh with hh | hh
    · refine Or.inl ?_
      rw [← (thing_at ht).2]
      exact .step hh (by show o ∈ leadsAt W (pl2 (2 * (p : Int))); rw [pl2_two]; exact ho) ht
    · exact absurd hh (hin p hp)
  · refine Or.inl ?_
    rw [← (thing_at ht).2]
    exact .root hx ht
  · rcases shadeL_cases R (List.replicate (W.length + 1) 0) p with h | ⟨_, _, o, ho, hk, hpo⟩
    · exact absurd (h.trans (hz p)) hcp
    · have ht := ok_thing (hr o ho) hk
      refine Or.inl ?_
      rw [← hpo, ← (thing_at ht).2]; exact .root ho ht
  · rcases hh with hh | hh
    · have key : ∀ o, Reached W R o → wd (shadeL (List.replicate (W.length + 1) 0) R) (pl2 o) ≠ 0 ∨ GreyR W (shadeL (List.replicate (W.length + 1) 0) R) (pl2 o) := by
        intro o ho
        induction ho with
        | @root o hm ht =>
          refine Or.inl (shadeL_hit hm (thing_kind ht) ?_)
          have := (place_ge (thing_at ht).1).2
          simp; omega
        | @step x o hx hm ht ih =>
          have hxp := (reached_place hx).1
          rw [(thing_at ht).2] at hm
          rcases shadeL_cases R (List.replicate (W.length + 1) 0) (pl2 x) with h | ⟨_, h, _⟩
          · rw [hz] at h
            rcases ih with i | i
            · exact absurd h i
            · exact Or.inr (.more i hxp h hm)
          · exact Or.inr (.one hxp h hm)
      have := key _ hh
      rw [pl2_two] at this; exact this
    · exact absurd hh (hin p hp)
end Go.Proofs.Ytabniplgibfgeaa
