/- What chapter 5 says of who becomes whom, as plain functions on lists of numbers: references turned where they stand, and what is true of them. No Go in sight. -/
import Derived.Test.YtgggmdanpdggpacMovePlain
namespace Go.Proofs.Ytgggmdanpdggpac

/-! References turned where they stand. -/
/-- The words, their references turned. -/
def renW (t : Int → Int) (W : List Int) : List Int := wd W 0 :: wd W 1 :: (places W 2).flatMap (thingW t W)
theorem ren_length {t : Int → Int} {W : List Int} (h2 : 2 ≤ W.length) (hu : unfit W 2 = none) : (renW t W).length = W.length := by
  have h := places_sum _ 2 (Nat.le_refl _) h2 hu
  unfold renW
  simp only [List.length_cons, flat_length _ fun p hp => (fits_out (place_fit hu hp).2.2.1).2.2.2.2]; omega
theorem ren_zero (t : Int → Int) (W : List Int) : wd (renW t W) 0 = wd W 0 := rfl
theorem ren_one (t : Int → Int) (W : List Int) : wd (renW t W) 1 = wd W 1 := rfl
theorem ren_parts {t : Int → Int} {W : List Int} {p : Nat} (hu : unfit W 2 = none) (h : p ∈ places W 2) : ∃ A B, renW t W = A ++ (thingW t W p ++ B) ∧ A.length = p := by
  obtain ⟨pre, post, e⟩ := List.append_of_mem h
  have hnd := places_nodup (W := W) _ 2 (Nat.le_refl _)
  have hn : p ∉ pre := by
    rw [e, List.nodup_append] at hnd
    exact fun hm => hnd.2.2 p hm p (List.mem_cons_self ..) rfl
  refine ⟨wd W 0 :: wd W 1 :: pre.flatMap (thingW t W), post.flatMap (thingW t W), ?_, ?_⟩
  · unfold renW
    rw [e, List.flatMap_append, List.flatMap_cons]; rfl
  · have h2 := newAt_same (W := W) _ 2 (Nat.le_refl _) p h
    rw [e, newAt_split hn] at h2
    simp only [List.length_cons, flat_length pre fun q hq => (fits_out (place_fit hu (by rw [e]; exact List.mem_append.2 (Or.inl hq) : q ∈ places W 2)).2.2.1).2.2.2.2]; omega
theorem ren_word {t : Int → Int} {W : List Int} {p j : Nat} (hu : unfit W 2 = none) (h : p ∈ places W 2) (hj : j < roomAt W p) : wd (renW t W) (p + j) = wd (thingW t W p) j := by
  obtain ⟨A, B, e, hl⟩ := ren_parts (t := t) hu h
  rw [e, wd_right hl, wd_left (by rw [thingW_length (fits_out (place_fit hu h).2.2.1).2.2.2.2]; exact hj)]
theorem ren_cls {t : Int → Int} {W : List Int} {p : Nat} (hu : unfit W 2 = none) (h : p ∈ places W 2) : wd (renW t W) p = t (wd W p) := ren_word (j := 0) hu h (by unfold roomAt; omega)
theorem ren_hash {t : Int → Int} {W : List Int} {p : Nat} (hu : unfit W 2 = none) (h : p ∈ places W 2) : wd (renW t W) (p + 1) = wd W (p + 1) := ren_word (j := 1) hu h (by unfold roomAt; omega)
theorem ren_shape {t : Int → Int} {W : List Int} {p : Nat} (hu : unfit W 2 = none) (h : p ∈ places W 2) : wd (renW t W) (p + 2) = wd W (p + 2) := ren_word (j := 2) hu h (by unfold roomAt; omega)
theorem ren_nslots {t : Int → Int} {W : List Int} {p : Nat} (hu : unfit W 2 = none) (h : p ∈ places W 2) : slotsAt (renW t W) p = slotsAt W p := by unfold slotsAt; rw [ren_shape hu h]
theorem ren_form {t : Int → Int} {W : List Int} {p : Nat} (hu : unfit W 2 = none) (h : p ∈ places W 2) : formAt (renW t W) p = formAt W p := by unfold formAt; rw [ren_shape hu h]
theorem map_wd {t : Int → Int} {xs : List Int} {k : Nat} (h : k < xs.length) : wd (xs.map t) k = t (wd xs k) := by
  unfold wd; rw [List.getD_eq_getElem?_getD, List.getElem?_map, List.getElem?_eq_getElem h, List.getD_eq_getElem?_getD, List.getElem?_eq_getElem h]; rfl
theorem ren_slot {t : Int → Int} {W : List Int} {p k : Nat} (hu : unfit W 2 = none) (h : p ∈ places W 2) (hk : k < slotsAt W p) : wd (renW t W) (p + 3 + k) = if formAt W p = 1 then wd W (p + 3 + k) else t (wd W (p + 3 + k)) := by
  have hr := (fits_out (place_fit hu h).2.2.1).2.2.2.2
  have := ren_word (t := t) (j := 3 + k) hu h (by unfold roomAt; omega)
  rw [← Nat.add_assoc] at this
  rw [this, show thingW t W p = [t (wd W p), wd W (p + 1), wd W (p + 2)] ++ slotsW t W p from rfl, wd_right (n := 3) rfl]
  unfold slotsW
  split
  · exact slotList_at hk
  · rw [map_wd (by rw [slotList_length hr]; exact hk), slotList_at hk]
theorem places_congr {V W : List Int} (hl : V.length = W.length) : ∀ (n a : Nat), W.length - a ≤ n → (∀ p ∈ places W a, wd V (p + 2) = wd W (p + 2)) → places V a = places W a ∧ (unfit W a = none → unfit V a = none)
  | 0, a, hn, _ => by rw [places_end (W := V) (by omega), places_end (W := W) (by omega), unfit_end (W := V) (by omega)]; exact ⟨rfl, fun _ => rfl⟩
  | n + 1, a, hn, h => by
    by_cases hlt : a < W.length
    · rw [places_in hlt] at h
      have e := h a (List.mem_cons_self ..)
      have hs : slotsAt V a = slotsAt W a := by unfold slotsAt; rw [e]
      have hx : nextAt V a = nextAt W a := by unfold nextAt; rw [hs]
      obtain ⟨i1, i2⟩ := places_congr hl n (nextAt W a) (by simp [nextAt]; omega) fun p hp => h p (List.mem_cons_of_mem _ hp)
      rw [places_in hlt, places_in (W := V) (by omega), hx, i1]
      refine ⟨rfl, fun hu => ?_⟩
      obtain ⟨hf, hu'⟩ := unfit_head hlt hu
      have hf' : fitsB V a = true := fits_mk (by rw [e, hs, hl]; exact fits_out hf)
      rw [unfit_in (by omega) hf', hx]; exact i2 hu'
    · rw [places_end (W := V) (by omega), places_end hlt, unfit_end (W := V) (by omega)]; exact ⟨rfl, fun _ => rfl⟩
theorem ren_places {t : Int → Int} {W : List Int} (h2 : 2 ≤ W.length) (hu : unfit W 2 = none) : places (renW t W) 2 = places W 2 := (places_congr (ren_length h2 hu) _ 2 (Nat.le_refl _) fun _ hp => ren_shape hu hp).1
theorem ren_unfit {t : Int → Int} {W : List Int} (h2 : 2 ≤ W.length) (hu : unfit W 2 = none) : unfit (renW t W) 2 = none := (places_congr (ren_length h2 hu) _ 2 (Nat.le_refl _) fun _ hp => ren_shape hu hp).2 hu
theorem ren_thing {t : Int → Int} {W : List Int} (h2 : 2 ≤ W.length) (hu : unfit W 2 = none) (o : Int) : thingB (renW t W) o = thingB W o := by unfold thingB beginB; rw [ren_places h2 hu]
theorem ren_nil {t : Int → Int} {W : List Int} (h2 : 2 ≤ W.length) (hu : unfit W 2 = none) (o : Int) : nilB (renW t W) o = nilB W o := by unfold nilB; rw [ren_thing h2 hu]
theorem ren_ok {t : Int → Int} {W : List Int} (h2 : 2 ≤ W.length) (hu : unfit W 2 = none) (o : Int) : okRef (renW t W) o = okRef W o := by unfold okRef; rw [ren_nil h2 hu]
theorem ren_slots {t : Int → Int} {W : List Int} {p : Nat} (hu : unfit W 2 = none) (h : p ∈ places W 2) : slotList (renW t W) p = slotsW t W p := by
  obtain ⟨A, B, e, hl⟩ := ren_parts (t := t) hu h
  have hs := slotsW_length (t := t) (fits_out (place_fit hu h).2.2.1).2.2.2.2
  have e2 : renW t W = (A ++ [t (wd W p), wd W (p + 1), wd W (p + 2)]) ++ (slotsW t W p ++ B) := by rw [e]; simp [thingW]
  unfold slotList
  rw [ren_nslots hu h, e2, List.drop_append_of_le_length (by simp; omega), List.drop_eq_nil_of_le (by simp; omega), List.nil_append, List.take_append_of_le_length (by omega), ← hs, List.take_length]

/-- A turn that leads to things alone. -/
def Leads (W : List Int) (t : Int → Int) : Prop := ∀ o, t o = o ∨ thingB W (t o) = true
theorem Leads.nil {W : List Int} {t : Int → Int} (h : Leads W t) {o : Int} (ho : nilB W o = true) : nilB W (t o) = true := by
  rcases h o with e | e
  · rw [e]; exact ho
  · unfold nilB; rw [e, Bool.or_true]
theorem Leads.ok {W : List Int} {t : Int → Int} (h : Leads W t) {o : Int} (ho : okRef W o) : okRef W (t o) := by
  rcases h o with e | e
  · rw [e]; exact ho
  · unfold okRef nilB; rw [e]; simp
/-- What comes out may be. -/
theorem ren_check {t : Int → Int} {W : List Int} (h : (checkOf W).1 = 0) (hT : Leads W t) : checkOf (renW t W) = (0, 0) := by
  obtain ⟨c1, hu, c3⟩ := check_fine h
  obtain ⟨f1, f2, f3, f4, f5⟩ := front_out c1
  have F := fine_of h
  have hl := ren_length (t := t) f1 hu
  have hf : (frontOf (renW t W)).1 = 0 := by rw [front_ok (W := renW t W) (by omega) f3 (by rw [ren_one]; omega)]
  rw [check_things hf (ren_unfit f1 hu), ren_places f1 hu]
  refine fault_mk _ _ (fun p hp => ?_) ?_
  · obtain ⟨a1, a2, a3, a4, a5⟩ := fault_all _ _ c3 p hp
    rw [ren_cls hu hp, ren_hash hu hp, ren_nil f1 hu]
    refine ⟨hT.nil a1, ?_, by simp, a4, a5⟩
    rw [bad_none, ren_nslots hu hp, ren_form hu hp]
    intro k hk
    have := (bad_none _ _).1 a2 k hk
    rw [ren_slot hu hp hk]
    unfold standB at this ⊢
    rw [ren_nil f1 hu]
    split
    · rename_i h1; rw [if_pos h1] at this; exact this
    · rename_i h1; rw [if_neg h1] at this; exact hT.ok this
  · refine List.Pairwise.imp_of_mem (fun {a b} ha hb hne => ?_) (places_nodup (W := W) _ 2 (Nat.le_refl _))
    rw [ren_hash hu ha, ren_hash hu hb]
    exact fun e => hne (F.apart a ha b hb e)
/-- Turned twice is not turned, if that is so of each. -/
theorem ren_twice {t : Int → Int} {W : List Int} (h2 : 2 ≤ W.length) (hu : unfit W 2 = none) (ht : ∀ o, t (t o) = o) : renW t (renW t W) = W := by
  have h1 : (places W 2).flatMap (thingW t (renW t W)) = (places W 2).flatMap (thingW id W) := by
    rw [List.flatMap_def, List.flatMap_def]
    congr 1
    refine List.map_congr_left fun p hp => ?_
    unfold thingW
    rw [ren_cls hu hp, ren_hash hu hp, ren_shape hu hp, ht]
    have : slotsW t (renW t W) p = slotsW id W p := by
      unfold slotsW
      rw [ren_slots hu hp, ren_form hu hp]
      unfold slotsW
      split
      · rfl
      · rw [List.map_map, show t ∘ t = id from funext ht]
    rw [this]; rfl
  show wd (renW t W) 0 :: wd (renW t W) 1 :: (places (renW t W) 2).flatMap (thingW t (renW t W)) = W
  rw [ren_places h2 hu, h1, flat_same (t := id) (fun _ => rfl) _ 2 (Nat.le_refl _) h2 hu, ren_zero, ren_one, ← drop_wd (show 1 < W.length by omega), ← drop_wd (show 0 < W.length by omega), List.drop_zero]

/-! Words that are turned one by one. -/
/-- Those below j are of V, the others of W. -/
def mixW (V W : List Int) (j : Nat) : List Int := V.take j ++ W.drop j
theorem mix_length {V W : List Int} (h : V.length = W.length) (j : Nat) : (mixW V W j).length = W.length := by unfold mixW; simp; omega
theorem mix_below {V W : List Int} {j k : Nat} (h : V.length = W.length) (hk : k < j) (hj : j ≤ W.length) : wd (mixW V W j) k = wd V k := by
  unfold mixW
  rw [wd_left (by simp; omega)]
  unfold wd
  rw [List.getD_eq_getElem?_getD, List.getD_eq_getElem?_getD, List.getElem?_take, if_pos hk]
theorem mix_above {V W : List Int} {j k : Nat} (h : V.length = W.length) (hk : j ≤ k) (hj : j ≤ W.length) : wd (mixW V W j) k = wd W k := by
  unfold mixW
  rw [show k = (V.take j).length + (k - j) by simp; omega, wd_right rfl]
  unfold wd
  rw [List.getD_eq_getElem?_getD, List.getD_eq_getElem?_getD, List.getElem?_drop]
  congr 2
  simp; omega
theorem wd_ext {a b : List Int} (hl : a.length = b.length) (h : ∀ k, k < a.length → wd a k = wd b k) : a = b := by
  refine List.ext_getElem hl fun k h1 h2 => ?_
  have := h k h1
  unfold wd at this
  rw [List.getD_eq_getElem?_getD, List.getElem?_eq_getElem h1, List.getD_eq_getElem?_getD, List.getElem?_eq_getElem h2] at this
  exact this
theorem wd_set {a : List Int} {j k : Nat} {x : Int} (hj : j < a.length) : wd (a.set j x) k = if j = k then x else wd a k := by
  unfold wd
  rw [List.getD_eq_getElem?_getD, List.getElem?_set, List.getD_eq_getElem?_getD]
  split
  · subst_vars; simp
  · rfl
theorem mix_set {V W : List Int} {j : Nat} (h : V.length = W.length) (hj : j < W.length) : (mixW V W j).set j (wd V j) = mixW V W (j + 1) := by
  refine wd_ext (by rw [List.length_set, mix_length h, mix_length h]) fun k hk => ?_
  rw [List.length_set, mix_length h] at hk
  rw [wd_set (by rw [mix_length h]; exact hj)]
  split
  · rename_i e; subst e; rw [mix_below h (by omega) (by omega)]
  · rename_i e
    by_cases hlt : k < j
    · rw [mix_below h hlt (by omega), mix_below h (by omega) (by omega)]
    · rw [mix_above h (by omega) (by omega), mix_above h (by omega) (by omega)]
theorem mix_skip {V W : List Int} {i j : Nat} (h : V.length = W.length) (hij : i ≤ j) (hj : j ≤ W.length) (hs : ∀ k, i ≤ k → k < j → wd V k = wd W k) : mixW V W i = mixW V W j := by
  refine wd_ext (by rw [mix_length h, mix_length h]) fun k hk => ?_
  rw [mix_length h] at hk
  by_cases h1 : k < i
  · rw [mix_below h h1 (by omega), mix_below h (by omega) hj]
  · by_cases h2 : k < j
    · rw [mix_above h (by omega) (by omega), mix_below h h2 hj, hs k (by omega) h2]
    · rw [mix_above h (by omega) (by omega), mix_above h (by omega) hj]
theorem mix_zero (V W : List Int) : mixW V W 0 = W := by unfold mixW; simp
theorem mix_end {V W : List Int} (h : V.length = W.length) : mixW V W W.length = V := by unfold mixW; rw [← h, List.take_length, h, List.drop_length, List.append_nil]

/-! Who becomes whom. -/
/-- Whom o becomes, if anybody. -/
def becAt (both : Bool) : List (Int × Int) → Int → Option Int
  | [], _ => none
  | (a, b) :: r, o => if o = a then some b else if both = true ∧ o = b then some a else becAt both r o
/-- Who o is then. -/
def otherP (both : Bool) (L : List (Int × Int)) (o : Int) : Int := (becAt both L o).getD o
/-- a and b are not as they should be behind those of L. -/
def twiceP (both : Bool) (L : List (Int × Int)) (a b : Int) : Bool := (both && a == b) || L.any fun q => q.1 == a || (both && (q.1 == b || q.2 == a || q.2 == b))
theorem bec_snoc (both : Bool) (a b o : Int) : ∀ (L : List (Int × Int)), becAt both (L ++ [(a, b)]) o = (becAt both L o).or (if o = a then some b else if both = true ∧ o = b then some a else none)
  | [] => by simp [becAt]
  | (x, y) :: L => by
    rw [List.cons_append, becAt, becAt, bec_snoc both a b o L]
    split
    · rfl
    · split <;> rfl
theorem bec_none (both : Bool) (o : Int) : ∀ (L : List (Int × Int)), becAt both L o = none ↔ ∀ q ∈ L, o ≠ q.1 ∧ (both = true → o ≠ q.2)
  | [] => by simp [becAt]
  | (x, y) :: L => by
    rw [becAt]
    by_cases h1 : o = x
    · rw [if_pos h1]; simp [h1]
    · rw [if_neg h1]
      by_cases h2 : both = true ∧ o = y
      · rw [if_pos h2]
        constructor
        · intro h; cases h
        · intro h; exact absurd h2.2 ((h _ (List.mem_cons_self ..)).2 h2.1)
      · rw [if_neg h2, bec_none both o L]
        constructor
        · intro h q hq
          rcases List.mem_cons.1 hq with rfl | hq
          · exact ⟨h1, fun hb e => h2 ⟨hb, e⟩⟩
          · exact h q hq
        · intro h q hq; exact h q (List.mem_cons_of_mem _ hq)
theorem bec_some {both : Bool} {o x : Int} : ∀ {L : List (Int × Int)}, becAt both L o = some x → ∃ q ∈ L, (o = q.1 ∧ x = q.2) ∨ (both = true ∧ o = q.2 ∧ x = q.1)
  | [], h => by cases h
  | (a, b) :: L, h => by
    rw [becAt] at h
    by_cases h1 : o = a
    · rw [if_pos h1] at h; exact ⟨_, List.mem_cons_self .., Or.inl ⟨h1, (Option.some.inj h).symm⟩⟩
    · rw [if_neg h1] at h
      by_cases h2 : both = true ∧ o = b
      · rw [if_pos h2] at h; exact ⟨_, List.mem_cons_self .., Or.inr ⟨h2.1, h2.2, (Option.some.inj h).symm⟩⟩
      · rw [if_neg h2] at h
        obtain ⟨q, hq, hx⟩ := bec_some h
        exact ⟨q, List.mem_cons_of_mem _ hq, hx⟩
theorem other_cases (both : Bool) (L : List (Int × Int)) (o : Int) : (otherP both L o = o ∧ becAt both L o = none) ∨ ∃ q ∈ L, (o = q.1 ∧ otherP both L o = q.2) ∨ (both = true ∧ o = q.2 ∧ otherP both L o = q.1) := by
  unfold otherP
  cases h : becAt both L o with
  | none => exact Or.inl ⟨rfl, rfl⟩
  | some x => exact Or.inr (bec_some h)
theorem twice_no {both : Bool} {L : List (Int × Int)} {a b : Int} : twiceP both L a b = false ↔ (both = true → a ≠ b) ∧ becAt both L a = none ∧ (both = true → becAt both L b = none) := by
  rw [bec_none, bec_none]
  unfold twiceP
  rw [Bool.or_eq_false_iff, List.any_eq_false]
  cases both with
  | false =>
    simp only [Bool.false_and, Bool.or_false, true_and, Bool.false_eq_true, false_imp_iff, and_true]
    constructor
    · intro h q hq e; exact h q hq (by simp [e])
    · intro h q hq e; exact h q hq (by simpa using Eq.symm (by simpa using e))
  | true =>
    simp only [Bool.true_and, forall_const]
    constructor
    · rintro ⟨h1, h2⟩
      refine ⟨by simpa using h1, fun q hq => ?_, fun q hq => ?_⟩
      all_goals
        have := h2 q hq
        simp only [Bool.or_eq_true, beq_iff_eq, not_or] at this
        exact ⟨fun e => by simp_all, fun e => by simp_all⟩
    · rintro ⟨h1, h2, h3⟩
      refine ⟨by simpa using h1, fun q hq => ?_⟩
      have a1 := h2 q hq
      have a2 := h3 q hq
      simp only [Bool.or_eq_true, beq_iff_eq, not_or]
      exact ⟨fun e => a1.1 e.symm, ⟨fun e => a2.1 e.symm, fun e => a1.2 e.symm⟩, fun e => a2.2 e.symm⟩

/-- Lists of which each names who is new. -/
structure Good (both : Bool) (L : List (Int × Int)) : Prop where
  each : L.Pairwise fun q r => q.1 ≠ r.1 ∧ (both = true → q.1 ≠ r.2 ∧ q.2 ≠ r.1 ∧ q.2 ≠ r.2)
  own : both = true → ∀ q ∈ L, q.1 ≠ q.2
theorem Good.nil (both : Bool) : Good both [] := ⟨List.Pairwise.nil, fun _ q hq => by cases hq⟩
theorem Good.snoc {both : Bool} {L : List (Int × Int)} {a b : Int} (h : Good both L) (ht : twiceP both L a b = false) : Good both (L ++ [(a, b)]) := by
  obtain ⟨h1, h2, h3⟩ := twice_no.1 ht
  rw [bec_none] at h2
  refine ⟨List.pairwise_append.2 ⟨h.each, List.pairwise_singleton .., fun q hq r hr => ?_⟩, fun hb q hq => ?_⟩
  · rw [List.mem_singleton] at hr; subst hr
    refine ⟨fun e => (h2 q hq).1 e.symm, fun hb => ?_⟩
    have h4 := (bec_none both b L).1 (h3 hb) q hq
    exact ⟨fun e => h4.1 e.symm, fun e => (h2 q hq).2 hb e.symm, fun e => h4.2 hb e.symm⟩
  · rcases List.mem_append.1 hq with hq | hq
    · exact h.own hb q hq
    · rw [List.mem_singleton] at hq; subst hq; exact h1 hb
theorem Good.tail {both : Bool} {q : Int × Int} {L : List (Int × Int)} (h : Good both (q :: L)) : Good both L :=
  ⟨(List.pairwise_cons.1 h.each).2, fun hb r hr => h.own hb r (List.mem_cons_of_mem _ hr)⟩
/-- Both ways done twice is nothing. -/
theorem other_twice : ∀ {L : List (Int × Int)}, Good true L → ∀ o, otherP true L (otherP true L o) = o
  | [], _, o => rfl
  | (a, b) :: L, h, o => by
    have hab := h.own rfl _ (List.mem_cons_self ..)
    have hL := (List.pairwise_cons.1 h.each).1
    by_cases h1 : o = a
    · have e : otherP true ((a, b) :: L) o = b := by unfold otherP; rw [becAt, if_pos h1]; rfl
      rw [e]; unfold otherP; rw [becAt, if_neg (fun e => hab e.symm), if_pos ⟨rfl, rfl⟩]; exact h1.symm
    · by_cases h2 : o = b
      · have e : otherP true ((a, b) :: L) o = a := by unfold otherP; rw [becAt, if_neg h1, if_pos ⟨rfl, h2⟩]; rfl
        rw [e]; unfold otherP; rw [becAt, if_pos rfl]; exact h2.symm
      · have step : ∀ x, x ≠ a → x ≠ b → otherP true ((a, b) :: L) x = otherP true L x := fun x n1 n2 => by
          unfold otherP; rw [becAt, if_neg n1, if_neg (fun e => n2 e.2)]
        rw [step o h1 h2]
        have hne : otherP true L o ≠ a ∧ otherP true L o ≠ b := by
          rcases other_cases true L o with ⟨e, _⟩ | ⟨q, hq, ⟨_, e⟩ | ⟨_, _, e⟩⟩
          · rw [e]; exact ⟨h1, h2⟩
          · have := (hL q hq).2 rfl; rw [e]; exact ⟨fun e => this.1 e.symm, fun e => this.2.2 e.symm⟩
          · have := hL q hq; rw [e]; exact ⟨fun e => this.1 e.symm, fun e => (this.2 rfl).2.1 e.symm⟩
        rw [step _ hne.1 hne.2]
        exact other_twice h.tail o

/-! Two lists. -/
theorem zip_snoc {F T : List Int} {i : Nat} (hl : F.length = T.length) (hi : i < F.length) : (F.zip T).take (i + 1) = (F.zip T).take i ++ [(wd F i, wd T i)] := by
  have hz : i < (F.zip T).length := by simp; omega
  rw [List.take_add_one, List.getElem?_eq_getElem hz, List.getElem_zip]
  unfold wd
  rw [List.getD_eq_getElem?_getD, List.getElem?_eq_getElem hi, List.getD_eq_getElem?_getD, List.getElem?_eq_getElem (by omega)]; rfl
theorem zip_all {F T : List Int} (hl : F.length = T.length) : (F.zip T).take F.length = F.zip T := List.take_of_length_le (by simp; omega)
theorem mem_zip {F T : List Int} {q : Int × Int} (h : q ∈ F.zip T) : ∃ i, i < F.length ∧ i < T.length ∧ q = (wd F i, wd T i) := by
  obtain ⟨i, hi, rfl⟩ := List.mem_iff_getElem.1 h
  simp only [List.length_zip] at hi
  refine ⟨i, by omega, by omega, ?_⟩
  rw [List.getElem_zip]
  unfold wd
  rw [List.getD_eq_getElem?_getD, List.getElem?_eq_getElem (by omega), List.getD_eq_getElem?_getD, List.getElem?_eq_getElem (by omega)]; rfl
/-- One of both is no thing, at i. -/
def oddAt (W F T : List Int) (i : Nat) : Bool := !(thingB W (wd F i) && thingB W (wd T i))
/-- One of both is not new, at i. -/
def twAt (both : Bool) (F T : List Int) (i : Nat) : Bool := twiceP both ((F.zip T).take i) (wd F i) (wd T i)
/-- What is wrong with two lists first (E1). -/
def wrongOf (W F T : List Int) (both : Bool) : Int × Int :=
  if F.length = T.length then
    (match (List.range F.length).find? (oddAt W F T) with
    | some i => (3, (i : Int))
    | none => match (List.range F.length).find? (twAt both F T) with
      | some i => (5, (i : Int))
      | none => (0, 0))
  else (1, 0)
theorem first_some {p : Nat → Bool} {n i : Nat} (hi : i < n) (hp : p i = true) (h : ∀ j, j < i → p j = false) : (List.range n).find? p = some i := by
  rw [List.find?_range_eq_some]
  exact ⟨hp, List.mem_range.2 hi, fun j hj => by rw [h j hj]; rfl⟩
theorem first_none {p : Nat → Bool} {n : Nat} (h : ∀ j, j < n → p j = false) : (List.range n).find? p = none := by
  rw [List.find?_range_eq_none]
  exact fun j hj => by rw [h j hj]; rfl
theorem none_first {p : Nat → Bool} {n : Nat} (h : (List.range n).find? p = none) : ∀ j, j < n → p j = false := by
  rw [List.find?_range_eq_none] at h
  exact fun j hj => by simpa using h j hj
theorem wrong_size {W F T : List Int} {both : Bool} (h : F.length ≠ T.length) : wrongOf W F T both = (1, 0) := by unfold wrongOf; rw [if_neg h]
theorem wrong_kind {W F T : List Int} {both : Bool} {i : Nat} (h : F.length = T.length) (hi : i < F.length) (hp : oddAt W F T i = true) (hb : ∀ j, j < i → oddAt W F T j = false) : wrongOf W F T both = (3, (i : Int)) := by
  unfold wrongOf; rw [if_pos h, first_some hi hp hb]
theorem wrong_twice {W F T : List Int} {both : Bool} {i : Nat} (h : F.length = T.length) (h0 : ∀ j, j < F.length → oddAt W F T j = false) (hi : i < F.length) (hp : twAt both F T i = true) (hb : ∀ j, j < i → twAt both F T j = false) : wrongOf W F T both = (5, (i : Int)) := by
  unfold wrongOf; rw [if_pos h, first_none h0]; show (match (List.range F.length).find? (twAt both F T) with | some i => ((5 : Int), (i : Int)) | none => (0, 0)) = _
  rw [first_some hi hp hb]
theorem wrong_none {W F T : List Int} {both : Bool} (h : F.length = T.length) (h0 : ∀ j, j < F.length → oddAt W F T j = false) (hb : ∀ j, j < F.length → twAt both F T j = false) : wrongOf W F T both = (0, 0) := by
  unfold wrongOf; rw [if_pos h, first_none h0]; show (match (List.range F.length).find? (twAt both F T) with | some i => ((5 : Int), (i : Int)) | none => (0, 0)) = _
  rw [first_none hb]
/-- Lists of which nothing is wrong. -/
structure Pairs2 (W F T : List Int) (both : Bool) : Prop where
  long : F.length = T.length
  kind : ∀ j, j < F.length → oddAt W F T j = false
  once : ∀ j, j < F.length → twAt both F T j = false
theorem wrong_ok {W F T : List Int} {both : Bool} (h : (wrongOf W F T both).1 = 0) : Pairs2 W F T both := by
  unfold wrongOf at h
  by_cases hl : F.length = T.length
  · rw [if_pos hl] at h
    cases h1 : (List.range F.length).find? (oddAt W F T) with
    | some i => rw [h1] at h; cases h
    | none =>
      rw [h1] at h
      cases h2 : (List.range F.length).find? (twAt both F T) with
      | some i => simp only [h2] at h; cases h
      | none => exact ⟨hl, none_first h1, none_first h2⟩
  · rw [if_neg hl] at h; cases h
theorem Pairs2.wrong {W F T : List Int} {both : Bool} (P : Pairs2 W F T both) : wrongOf W F T both = (0, 0) := wrong_none P.long P.kind P.once
theorem Pairs2.things {W F T : List Int} {both : Bool} (P : Pairs2 W F T both) {q : Int × Int} (h : q ∈ F.zip T) : thingB W q.1 = true ∧ thingB W q.2 = true := by
  obtain ⟨i, hi, _, rfl⟩ := mem_zip h
  have := P.kind i hi
  unfold oddAt at this
  simpa using this
theorem Pairs2.good_to {W F T : List Int} {both : Bool} (P : Pairs2 W F T both) : ∀ i, i ≤ F.length → Good both ((F.zip T).take i)
  | 0, _ => by rw [List.take_zero]; exact Good.nil both
  | i + 1, h => by rw [zip_snoc P.long (by omega)]; exact (P.good_to i (by omega)).snoc (P.once i (by omega))
theorem Pairs2.good {W F T : List Int} {both : Bool} (P : Pairs2 W F T both) : Good both (F.zip T) := by
  have := P.good_to F.length (Nat.le_refl _); rwa [zip_all P.long] at this
theorem Pairs2.leads {W F T : List Int} {both : Bool} (P : Pairs2 W F T both) : Leads W (otherP both (F.zip T)) := fun o => by
  rcases other_cases both (F.zip T) o with ⟨e, _⟩ | ⟨q, hq, ⟨_, e⟩ | ⟨_, _, e⟩⟩
  · exact Or.inl e
  · exact Or.inr (by rw [e]; exact (P.things hq).2)
  · exact Or.inr (by rw [e]; exact (P.things hq).1)
/-- Behind One nothing is in from, but what is in to, too. -/
theorem Pairs2.behind {F T : List Int} {r : Int} (h : otherP false (F.zip T) r ∈ F) (hl : F.length = T.length) : otherP false (F.zip T) r ∈ T := by
  rcases other_cases false (F.zip T) r with ⟨e, e2⟩ | ⟨q, hq, ⟨_, e⟩ | ⟨hb, _⟩⟩
  · rw [bec_none] at e2
    rw [e] at h
    obtain ⟨i, hi, e3⟩ := List.mem_iff_getElem.1 h
    have hm : (F.zip T)[i]'(by simp; omega) ∈ F.zip T := List.getElem_mem _
    rw [List.getElem_zip, e3] at hm
    exact absurd rfl (e2 _ hm).1
  · rw [e]; exact (List.of_mem_zip hq).2
  · cases hb
end Go.Proofs.Ytgggmdanpdggpac
