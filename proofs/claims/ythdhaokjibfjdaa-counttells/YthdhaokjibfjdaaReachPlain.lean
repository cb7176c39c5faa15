/- What chapter 3 says of what is reached, as plain functions on lists of numbers, and what is true of them. No Go in sight. -/
import Derived.Test.YthdhaokjibfjdaaKeepPlain
namespace Go.Proofs.Ythdhaokjibfjdaa

/-- What who reaches the thing at p comes to from there. -/
def leadsAt (W : List Int) (p : Nat) : List Int := wd W p :: (if formAt W p = 0 then (W.drop (p + 3)).take (slotsAt W p) else [])
/-- o is the reference of a thing that is reached. -/
inductive Reached (W roots : List Int) : Int → Prop
  | root {o : Int} : o ∈ roots → thingB W o = true → Reached W roots o
  | step {x o : Int} : Reached W roots x → o ∈ leadsAt W (x / 2).toNat → thingB W o = true → Reached W roots o
theorem Reached.thing {W roots : List Int} {o : Int} (h : Reached W roots o) : thingB W o = true := by cases h <;> assumption
open Classical in
/-- The references of what is reached, rising. -/
noncomputable def reachList (W roots : List Int) : List Int := ((List.range W.length).filter fun p : Nat => decide (Reached W roots (2 * (p : Int)))).map fun p : Nat => 2 * (p : Int)

theorem kind3 {o : Int} (h : kindOf o = 3) : o % 2 = 0 ∧ 4 ≤ o ∧ o ≤ 3998 := by
  unfold kindOf at h
  split at h
  · cases h
  · split at h
    · cases h
    · split at h
      · assumption
      · cases h
theorem thing_ref {W : List Int} {o : Int} (h : thingB W o = true) : ∃ p : Nat, o = 2 * (p : Int) ∧ p ∈ places W 2 ∧ p < W.length ∧ (o / 2).toNat = p := by
  obtain ⟨hk, hm⟩ := thing_out h
  have := kind3 hk
  exact ⟨(o / 2).toNat, by omega, hm, (place_ge hm).2, rfl⟩
/-- Each thing of a heap with few words has its reference. -/
theorem ref_thing {W : List Int} {p : Nat} (hl : W.length ≤ 2000) (h : p ∈ places W 2) : thingB W (2 * (p : Int)) = true := by
  have h1 := place_ge h
  unfold thingB beginB
  have hk : kindOf (2 * (p : Int)) = 3 := by
    unfold kindOf
    rw [if_neg (by omega), if_neg (by unfold smallB; simp), if_pos (by omega)]
  rw [hk, show (2 * (p : Int) / 2).toNat = p by omega, List.contains_iff_mem.2 h]
  rfl

theorem mem_reach {W roots : List Int} {o : Int} : o ∈ reachList W roots ↔ Reached W roots o := by
  unfold reachList
  simp only [List.mem_map, List.mem_filter, List.mem_range, decide_eq_true_eq]
  constructor
  · rintro ⟨p, ⟨_, h⟩, rfl⟩; exact h
  · intro h
    obtain ⟨p, rfl, _, hp, _⟩ := thing_ref h.thing
    exact ⟨p, ⟨hp, h⟩, rfl⟩
theorem reach_rises (W roots : List Int) : (reachList W roots).Pairwise (· < ·) := by
  unfold reachList
  refine List.Pairwise.map _ (fun a b (h : a < b) => by omega) (List.Pairwise.filter _ List.pairwise_lt_range)
theorem reach_nodup (W roots : List Int) : (reachList W roots).Nodup := (reach_rises W roots).imp fun h e => by omega
theorem reach_length (W roots : List Int) : (reachList W roots).length ≤ W.length := by
  unfold reachList
  rw [List.length_map]
  exact Nat.le_trans (List.length_filter_le ..) (by simp)

/-- Numbers that are those that are reached, each once, when they are sorted. -/
theorem sorted_reach {W roots f : List Int} (hn : f.Nodup) (hm : ∀ o, o ∈ f ↔ Reached W roots o) : f.mergeSort (fun x y => decide (x ≤ y)) = reachList W roots := by
  have hp : (f.mergeSort (fun x y => decide (x ≤ y))).Perm (reachList W roots) :=
    (List.mergeSort_perm ..).trans ((List.perm_ext_iff_of_nodup hn (reach_nodup W roots)).2 fun o => by rw [hm o, mem_reach])
  refine hp.eq_of_pairwise (le := fun x y => x ≤ y) (fun a b _ _ h1 h2 => by omega) ?_ ((reach_rises W roots).imp fun h => by omega)
  have := List.pairwise_mergeSort (le := fun x y : Int => decide (x ≤ y)) (fun a b c h1 h2 => by simp at *; omega) (fun a b => by simp; omega) f
  exact this.imp fun h => by simpa using h

/-! The program's way: a row that grows. -/

/-- Who is come to by refs, behind those that were. -/
def come (W : List Int) : List Int → List Int → List Int
  | f, [] => f
  | f, o :: r => come W (if o ∉ f ∧ thingB W o = true then f ++ [o] else f) r

/-- What is said of a row behind some refs. -/
theorem come_spec (W roots : List Int) : ∀ (refs f : List Int), f.Nodup → (∀ o ∈ f, Reached W roots o) → (∀ o ∈ refs, thingB W o = true → Reached W roots o) →
    (come W f refs).Nodup ∧ (∀ o ∈ come W f refs, Reached W roots o) ∧ (∃ t, come W f refs = f ++ t) ∧ (∀ o ∈ refs, thingB W o = true → o ∈ come W f refs)
  | [], f, hn, hr, _ => ⟨hn, hr, ⟨[], by simp [come]⟩, fun o ho => by cases ho⟩
  | o :: r, f, hn, hr, hs => by
    unfold come
    by_cases h : o ∉ f ∧ thingB W o = true
    · rw [if_pos h]
      obtain ⟨c1, c2, ⟨t, c3⟩, c4⟩ := come_spec W roots r (f ++ [o])
        (by rw [List.nodup_append]; exact ⟨hn, by simp, fun a ha b hb => by rw [List.mem_singleton] at hb; subst hb; exact fun e => h.1 (e ▸ ha)⟩)
        (fun x hx => by rcases List.mem_append.1 hx with hx | hx; exact hr x hx; rw [List.mem_singleton] at hx; subst hx; exact hs _ (List.mem_cons_self ..) h.2)
        (fun x hx => hs x (List.mem_cons_of_mem _ hx))
      refine ⟨c1, c2, ⟨o :: t, by rw [c3]; simp⟩, fun x hx ht => ?_⟩
      rcases List.mem_cons.1 hx with rfl | hx
      · rw [c3]; simp
      · exact c4 x hx ht
    · rw [if_neg h]
      obtain ⟨c1, c2, ⟨t, c3⟩, c4⟩ := come_spec W roots r f hn hr (fun x hx => hs x (List.mem_cons_of_mem _ hx))
      refine ⟨c1, c2, ⟨t, c3⟩, fun x hx ht => ?_⟩
      rcases List.mem_cons.1 hx with rfl | hx
      · rw [c3]
        have : x ∈ f := Classical.byContradiction fun hc => h ⟨hc, ht⟩
        exact List.mem_append.2 (Or.inl this)
      · exact c4 x hx ht

/-- What holds of the row that grows, gone along up to n. -/
structure Along (W roots f : List Int) (n : Nat) : Prop where
  once : f.Nodup
  all : ∀ o ∈ f, Reached W roots o
  begun : ∀ o ∈ roots, thingB W o = true → o ∈ f
  gone : ∀ i, i < n → ∀ o ∈ leadsAt W (wd f i / 2).toNat, thingB W o = true → o ∈ f
  le : n ≤ f.length

theorem along_start (W roots : List Int) : Along W roots (come W [] roots) 0 := by
  obtain ⟨c1, c2, _, c4⟩ := come_spec W roots roots [] List.nodup_nil (fun o h => by cases h) (fun o h ht => .root h ht)
  exact ⟨c1, c2, c4, fun i h => by omega, by omega⟩
theorem wd_mem {f : List Int} {i : Nat} (h : i < f.length) : wd f i ∈ f := by
  unfold wd; rw [List.getD_eq_getElem?_getD, List.getElem?_eq_getElem h]; exact List.getElem_mem h
theorem wd_left {f t : List Int} {i : Nat} (h : i < f.length) : wd (f ++ t) i = wd f i := by
  unfold wd; rw [List.getD_eq_getElem?_getD, List.getD_eq_getElem?_getD, List.getElem?_append_left h]
theorem Along.next {W roots f : List Int} {n : Nat} (h : Along W roots f n) (hn : n < f.length) : Along W roots (come W f (leadsAt W (wd f n / 2).toNat)) (n + 1) := by
  obtain ⟨c1, c2, ⟨t, c3⟩, c4⟩ := come_spec W roots (leadsAt W (wd f n / 2).toNat) f h.once h.all (fun o ho ht => .step (h.all _ (wd_mem hn)) ho ht)
  refine ⟨c1, c2, fun o ho ht => ?_, fun i hi o ho ht => ?_, by rw [c3]; simp; omega⟩
  · rw [c3]; exact List.mem_append.2 (Or.inl (h.begun o ho ht))
  · rw [c3, wd_left (by omega)] at ho
    by_cases he : i = n
    · subst he; exact c4 o ho ht
    · rw [c3]; exact List.mem_append.2 (Or.inl (h.gone i (by omega) o ho ht))
theorem Along.done {W roots f : List Int} {n : Nat} (h : Along W roots f n) (hn : f.length ≤ n) : ∀ o, o ∈ f ↔ Reached W roots o := by
  intro o
  refine ⟨h.all o, fun hr => ?_⟩
  induction hr with
  | root ho ht => exact h.begun _ ho ht
  | @step x o hx ho ht ih =>
    obtain ⟨i, hi, he⟩ := List.getElem_of_mem ih
    have hw : wd f i = x := by unfold wd; rw [List.getD_eq_getElem?_getD, List.getElem?_eq_getElem hi]; exact he
    exact h.gone i (by omega) o (by rw [hw]; exact ho) ht
/-- The row is never longer than there are words. -/
theorem short_of {W roots f : List Int} (hn : f.Nodup) (ha : ∀ o ∈ f, Reached W roots o) : f.length ≤ W.length := by
  exact Nat.le_trans (hn.length_le_of_subset fun o ho => mem_reach.2 (ha o ho)) (reach_length W roots)
theorem Along.short {W roots f : List Int} {n : Nat} (h : Along W roots f n) : f.length ≤ W.length := short_of h.once h.all

/-! The document's way: marks at places, round by round. -/

/-- What is marked at a place. -/
def bt (B : List Bool) (k : Nat) : Bool := B.getD k false
/-- How many are marked. -/
def marks (B : List Bool) : Nat := B.count true
/-- Is o new? -/
def newB (W : List Int) (B : List Bool) (o : Int) : Bool := thingB W o && !bt B (o / 2).toNat
/-- The marks with o. -/
def markOf (W : List Int) (B : List Bool) (o : Int) : List Bool := if newB W B o = true then B.set (o / 2).toNat true else B

theorem bt_set_same {B : List Bool} {i : Nat} (h : i < B.length) : bt (B.set i true) i = true := by
  unfold bt; rw [List.getD_eq_getElem?_getD, List.getElem?_set_self h]; rfl
theorem bt_set_other {B : List Bool} {i j : Nat} (h : i ≠ j) : bt (B.set i true) j = bt B j := by
  unfold bt; rw [List.getD_eq_getElem?_getD, List.getD_eq_getElem?_getD, List.getElem?_set_ne h]
theorem bt_set_mono {B : List Bool} {i j : Nat} (h : bt B j = true) : bt (B.set i true) j = true := by
  by_cases e : i = j
  · subst e
    by_cases hl : i < B.length
    · exact bt_set_same hl
    · rw [List.set_eq_of_length_le (by omega)]; exact h
  · rw [bt_set_other e]; exact h
theorem mark_length {W : List Int} {B : List Bool} {o : Int} : (markOf W B o).length = B.length := by
  unfold markOf; split
  · exact List.length_set
  · rfl
theorem mark_mono {W : List Int} {B : List Bool} {o : Int} {k : Nat} (h : bt B k = true) : bt (markOf W B o) k = true := by
  unfold markOf; split
  · exact bt_set_mono h
  · exact h
theorem mark_in {W : List Int} {B : List Bool} {o : Int} (hl : B.length = W.length) (ht : thingB W o = true) : bt (markOf W B o) (o / 2).toNat = true := by
  obtain ⟨p, _, _, hp, he⟩ := thing_ref ht
  unfold markOf newB
  cases hb : bt B (o / 2).toNat with
  | false => rw [if_pos (by rw [ht]; rfl)]; exact bt_set_same (by omega)
  | true => rw [if_neg (by rw [ht]; simp)]; exact hb
theorem count_set {B : List Bool} : ∀ {i : Nat}, i < B.length → bt B i = false → (B.set i true).count true = B.count true + 1 := by
  induction B with
  | nil => intro i h; simp at h
  | cons a r ih =>
    intro i h hb
    cases i with
    | zero => have : a = false := hb; subst this; simp
    | succ i =>
      have := ih (i := i) (by simpa using h) hb
      simp only [List.set_cons_succ, List.count_cons, this]; omega
theorem mark_count {W : List Int} {B : List Bool} {o : Int} (hl : B.length = W.length) (hn : newB W B o = true) : marks (markOf W B o) = marks B + 1 := by
  unfold markOf; rw [if_pos hn]
  unfold newB at hn
  rw [Bool.and_eq_true] at hn
  obtain ⟨p, _, _, hp, he⟩ := thing_ref hn.1
  exact count_set (by omega) (by simpa using hn.2)
theorem mark_old {W : List Int} {B : List Bool} {o : Int} (hn : newB W B o = false) : markOf W B o = B := by unfold markOf; rw [if_neg (by rw [hn]; decide)]

/-- Only what is reached is marked. -/
def Sound (W roots : List Int) (B : List Bool) : Prop := ∀ k, bt B k = true → Reached W roots (2 * (k : Int))
theorem Sound.mark {W roots : List Int} {B : List Bool} {o : Int} (h : Sound W roots B) (ho : thingB W o = true → Reached W roots o) : Sound W roots (markOf W B o) := by
  intro k hk
  unfold markOf at hk
  split at hk
  · rename_i hn
    unfold newB at hn
    rw [Bool.and_eq_true] at hn
    obtain ⟨p, hp, _, _, he⟩ := thing_ref hn.1
    by_cases e : (o / 2).toNat = k
    · rw [← e, he, ← hp]; exact ho hn.1
    · rw [bt_set_other e] at hk; exact h k hk
  · exact h k hk
/-- Some refs are marked. -/
def Has (W : List Int) (B : List Bool) (refs : List Int) : Prop := ∀ o ∈ refs, thingB W o = true → bt B (o / 2).toNat = true
theorem Has.mono {W : List Int} {B B' : List Bool} {refs : List Int} (h : Has W B refs) (hm : ∀ k, bt B k = true → bt B' k = true) : Has W B' refs := fun o ho ht => hm _ (h o ho ht)
theorem Has.snoc {W : List Int} {B : List Bool} {refs : List Int} {o : Int} (h : Has W B refs) (hl : B.length = W.length) : Has W (markOf W B o) (refs ++ [o]) := by
  intro x hx ht
  rcases List.mem_append.1 hx with hx | hx
  · exact mark_mono (h x hx ht)
  · rw [List.mem_singleton] at hx; subst hx; exact mark_in hl ht
theorem has_nil (W : List Int) (B : List Bool) : Has W B [] := fun o ho => by cases ho

/-- Marks that are closed tell what is reached. -/
theorem closed_tells {W roots : List Int} {B : List Bool} (hs : Sound W roots B) (hr : Has W B roots) (hc : ∀ p ∈ places W 2, bt B p = true → Has W B (leadsAt W p)) :
    ∀ k, bt B k = true ↔ Reached W roots (2 * (k : Int)) := by
  have key : ∀ o, Reached W roots o → bt B (o / 2).toNat = true := by
    intro o h
    induction h with
    | root ho ht => exact hr _ ho ht
    | @step x o hx ho ht ih =>
      obtain ⟨p, _, hm, _, he⟩ := thing_ref hx.thing
      rw [he] at ho ih
      exact hc p hm ih o ho ht
  intro k
  refine ⟨hs k, fun h => ?_⟩
  have := key _ h
  rw [show (2 * (k : Int) / 2).toNat = k by omega] at this; exact this

/-- How a round stands: B0 at its beginning, B now; whether something is new; the things whose leads have been looked at. -/
structure Round (W roots : List Int) (B0 B : List Bool) (again : Bool) (pre : List Nat) : Prop where
  length : B.length = W.length
  sound : Sound W roots B
  mono : ∀ k, bt B0 k = true → bt B k = true
  idle : again = false → B = B0 ∧ ∀ p ∈ pre, bt B p = true → Has W B (leadsAt W p)
  busy : again = true → marks B0 < marks B
/-- In the midst of a thing at p: some of its leads have been looked at. -/
structure Midst (W roots : List Int) (B0 B : List Bool) (again : Bool) (pre : List Nat) (refs : List Int) : Prop where
  round : Round W roots B0 B again pre
  has : Has W B refs
theorem Midst.mark {W roots : List Int} {B0 B : List Bool} {again : Bool} {pre : List Nat} {refs : List Int} {o : Int} (h : Midst W roots B0 B again pre refs) (ho : thingB W o = true → Reached W roots o) :
    Midst W roots B0 (markOf W B o) (again || newB W B o) pre (refs ++ [o]) := by
  obtain ⟨⟨h1, h2, h3, h4, h5⟩, h6⟩ := h
  refine ⟨⟨by rw [mark_length]; exact h1, h2.mark ho, fun k hk => mark_mono (h3 k hk), fun ha => ?_, fun ha => ?_⟩, h6.snoc h1⟩
  · rw [Bool.or_eq_false_iff] at ha
    rw [mark_old ha.2]; exact h4 ha.1
  · cases hn : newB W B o with
    | true =>
      rw [mark_count h1 hn]
      cases hg : again with
      | true => have := h5 hg; omega
      | false => rw [(h4 hg).1]; omega
    | false => rw [hn, Bool.or_false] at ha; rw [mark_old hn]; exact h5 ha
theorem Round.skip {W roots : List Int} {B0 B : List Bool} {again : Bool} {pre : List Nat} {p : Nat} (h : Round W roots B0 B again pre) (hp : bt B p = false) : Round W roots B0 B again (pre ++ [p]) := by
  obtain ⟨h1, h2, h3, h4, h5⟩ := h
  refine ⟨h1, h2, h3, fun ha => ⟨(h4 ha).1, fun q hq hb => ?_⟩, h5⟩
  rcases List.mem_append.1 hq with hq | hq
  · exact (h4 ha).2 q hq hb
  · rw [List.mem_singleton] at hq; subst hq; rw [hp] at hb; cases hb
theorem Midst.close {W roots : List Int} {B0 B : List Bool} {again : Bool} {pre : List Nat} {p : Nat} (h : Midst W roots B0 B again pre (leadsAt W p)) : Round W roots B0 B again (pre ++ [p]) := by
  obtain ⟨⟨h1, h2, h3, h4, h5⟩, h6⟩ := h
  refine ⟨h1, h2, h3, fun ha => ⟨(h4 ha).1, fun q hq hb => ?_⟩, h5⟩
  rcases List.mem_append.1 hq with hq | hq
  · exact (h4 ha).2 q hq hb
  · rw [List.mem_singleton] at hq; subst hq; exact h6
theorem marks_le (B : List Bool) : marks B ≤ B.length := List.count_le_length

/-- How it stands between rounds. -/
structure Between (W roots : List Int) (B : List Bool) (again : Bool) (round : Nat) : Prop where
  length : B.length = W.length
  sound : Sound W roots B
  rooted : Has W B roots
  count : again = true → round ≤ marks B
  closed : again = false → ∀ p ∈ places W 2, bt B p = true → Has W B (leadsAt W p)
theorem Between.start {W roots : List Int} {B : List Bool} {again : Bool} {round : Nat} (h : Between W roots B again round) : Round W roots B B false [] :=
  ⟨h.length, h.sound, fun _ hk => hk, fun _ => ⟨rfl, fun p hp => by cases hp⟩, fun ha => by cases ha⟩
theorem Between.next {W roots : List Int} {B0 B : List Bool} {again : Bool} {round : Nat} (h : Between W roots B0 true round) (hr : Round W roots B0 B again (places W 2)) : Between W roots B again (round + 1) :=
  ⟨hr.length, hr.sound, h.rooted.mono hr.mono, fun ha => by have := hr.busy ha; have := h.count rfl; omega, fun ha => (hr.idle ha).2⟩
theorem Between.tells {W roots : List Int} {B : List Bool} {again : Bool} {round : Nat} (h : Between W roots B again round) (he : ¬ (round ≤ W.length ∧ again = true)) :
    ∀ k, bt B k = true ↔ Reached W roots (2 * (k : Int)) := by
  have ha : again = false := by
    cases hg : again with
    | false => rfl
    | true =>
      have h1 := h.count hg
      have h2 := marks_le B
      have h3 := h.length
      exact absurd ⟨by omega, hg⟩ he
  exact closed_tells h.sound h.rooted (h.closed ha)

/-- The places that are marked, as references, up to n. -/
def markedRefs (B : List Bool) (n : Nat) : List Int := ((List.range n).filter fun p => bt B p).map fun p : Nat => 2 * (p : Int)
theorem marked_zero (B : List Bool) : markedRefs B 0 = [] := rfl
theorem marked_yes {B : List Bool} {n : Nat} (h : bt B n = true) : markedRefs B (n + 1) = markedRefs B n ++ [2 * (n : Int)] := by
  unfold markedRefs; rw [List.range_succ, List.filter_append, List.map_append]; simp [h]
theorem marked_no {B : List Bool} {n : Nat} (h : bt B n = false) : markedRefs B (n + 1) = markedRefs B n := by
  unfold markedRefs; rw [List.range_succ, List.filter_append, List.map_append]; simp [h]
theorem marked_all {W roots : List Int} {B : List Bool} (h : ∀ k, bt B k = true ↔ Reached W roots (2 * (k : Int))) : markedRefs B W.length = reachList W roots := by
  unfold markedRefs reachList
  congr 1
  refine List.filter_congr fun p _ => ?_
  rw [Bool.eq_iff_iff, h p]; simp
theorem marked_length (B : List Bool) (n : Nat) : (markedRefs B n).length ≤ n := by
  unfold markedRefs; rw [List.length_map]; exact Nat.le_trans (List.length_filter_le ..) (by simp)

end Go.Proofs.Ythdhaokjibfjdaa
