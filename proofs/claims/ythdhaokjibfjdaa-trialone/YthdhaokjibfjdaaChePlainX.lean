/- What chapter 17 says of moving, as plain functions on lists of numbers: things in the order in which they are come to. No Go in sight. -/
import Derived.Test.YthdhaokjibfjdaaGh
namespace Go.Proofs.Ythdhaokjibfjdaa

/-- The row of those that were moved, gone along up to n. -/
inductive Way (W R : List Int) : List Int → Nat → Prop
  | start : Way W R (come W [] R) 0
  | next {f : List Int} {n : Nat} : Way W R f n → n < f.length → Way W R (come W f (leadsAt W (pl2 (wd f n)))) (n + 1)
theorem Way.along {W R f : List Int} {n : Nat} (h : Way W R f n) : Along W R f n := by
  induction h with
  | start => exact along_start W R
  | next _ hn ih => exact ih.next hn
theorem Way.same {W R : List Int} : ∀ {n : Nat} {f f' : List Int}, Way W R f n → Way W R f' n → f = f'
  | 0, _, _, .start, .start => rfl
  | n + 1, _, _, .next h _, .next h' _ => by rw [Way.same h h']
theorem Way.back {W R f' : List Int} {n' : Nat} (h : Way W R f' n') : ∀ m, m < n' → ∃ f, Way W R f m ∧ m < f.length := by
  induction h with
  | start => intro m hm; omega
  | @next f n h hn ih =>
    intro m hm
    by_cases e : m = n
    · subst e; exact ⟨f, h, hn⟩
    · exact ih m (by omega)
/-- The row when all have been gone along. -/
def Bfs (W R f : List Int) : Prop := Way W R f f.length
theorem Bfs.last {W R f f' : List Int} (h : Bfs W R f) (h' : Bfs W R f') : f = f' := by
  rcases Nat.lt_trichotomy f.length f'.length with hl | hl | hl
  · obtain ⟨g, hg, hlt⟩ := Way.back h' f.length hl
    rw [Way.same hg h] at hlt; omega
  · unfold Bfs at h'; rw [← hl] at h'; exact Way.same h h'
  · obtain ⟨g, hg, hlt⟩ := Way.back h f'.length hl
    rw [Way.same hg h'] at hlt; omega
theorem Way.ends {W R f : List Int} {n : Nat} (h : Way W R f n) (hn : f.length ≤ n) : Bfs W R f := by
  have := h.along.le
  have e : n = f.length := by omega
  subst e; exact h
theorem Bfs.all {W R f : List Int} (h : Bfs W R f) : ∀ o, o ∈ f ↔ Reached W R o := h.along.done (Nat.le_refl _)
theorem Bfs.moves {W R f : List Int} (h : Bfs W R f) (hc : (checkOf W).1 = 0) (hr : ∀ x ∈ R, okRef W x) : Moves W R (f.map pl2) := by
  have hall := h.all
  refine ⟨hc, hr, ?_, fun p => ?_⟩
  · unfold List.Nodup; rw [List.pairwise_map]
    refine List.Pairwise.imp_of_mem (fun {a b} ha hb hne => ?_) h.along.once
    have ea := (reached_place ((hall a).1 ha)).2
    have eb := (reached_place ((hall b).1 hb)).2
    intro e; rw [ea, eb, e] at hne; exact hne rfl
  · rw [List.mem_map]
    constructor
    · rintro ⟨o, ho, rfl⟩
      have hr := (hall o).1 ho
      rw [← (reached_place hr).2]; exact hr
    · intro hr; exact ⟨_, (hall _).2 hr, pl2_two p⟩
/-- There is such a row. -/
theorem bfs_ex (W R : List Int) : ∃ f, Bfs W R f := by
  have : ∀ k n f, Way W R f n → W.length - n ≤ k → ∃ f, Bfs W R f := by
    intro k
    induction k with
    | zero =>
      intro n f h hk
      have := h.along.short
      exact ⟨f, h.ends (by omega)⟩
    | succ k ih =>
      intro n f h hk
      by_cases hn : n < f.length
      · have := h.along.short
        exact ih _ _ (.next h hn) (by omega)
      · exact ⟨f, h.ends (by omega)⟩
  exact this _ 0 _ .start (Nat.le_refl _)

/-! Moved once more. -/
namespace Moves
variable {W R : List Int} {ps : List Nat}
theorem thing_turn (M : Moves W R ps) {o : Int} (h : okRef W o) (hr : thingB W o = true → Reached W R o) : thingB (movedW W ps) (turnP W ps o) = thingB W o := by
  cases ht : thingB W o with
  | true => exact (M.turned (hr ht)).2.2.2
  | false =>
    rw [M.stays ht, Bool.eq_false_iff]
    intro hm
    rw [ok_thing h (thing_kind hm)] at ht; cases ht
theorem turn_inj (M : Moves W R ps) {x o : Int} (hx : Reached W R x) (h : okRef W o) (hr : thingB W o = true → Reached W R o) (e : turnP W ps o = turnP W ps x) : o = x := by
  obtain ⟨x1, x2, x3, x4⟩ := M.turned hx
  have ht : thingB W o = true := by rw [← M.thing_turn h hr, e]; exact x4
  obtain ⟨o1, o2, o3, o4⟩ := M.turned (hr ht)
  have := M.inj o1 x1 (by rw [← o3, ← x3, e])
  rw [(reached_place (hr ht)).2, (reached_place hx).2]
  show 2 * (pl2 o : Int) = 2 * (pl2 x : Int)
  rw [this]
theorem come_turn (M : Moves W R ps) : ∀ (refs f : List Int), (∀ o ∈ f, Reached W R o) → (∀ o ∈ refs, okRef W o ∧ (thingB W o = true → Reached W R o)) →
    come (movedW W ps) (f.map (turnP W ps)) (refs.map (turnP W ps)) = (come W f refs).map (turnP W ps)
  | [], f, _, _ => rfl
  | o :: r, f, hf, hs => by
    obtain ⟨h1, h2⟩ := hs o (List.mem_cons_self ..)
    have hmem : turnP W ps o ∈ f.map (turnP W ps) ↔ o ∈ f := by
      constructor
      · intro hm
        obtain ⟨x, hx, e⟩ := List.mem_map.1 hm
        rw [M.turn_inj (hf x hx) h1 h2 e.symm]; exact hx
      · intro hm; exact List.mem_map.2 ⟨o, hm, rfl⟩
    rw [List.map_cons]
    unfold come
    rw [M.thing_turn h1 h2]
    by_cases hc : o ∉ f ∧ thingB W o = true
    · rw [if_pos hc, if_pos ⟨fun hm => hc.1 (hmem.1 hm), hc.2⟩, show f.map (turnP W ps) ++ [turnP W ps o] = (f ++ [o]).map (turnP W ps) by simp]
      refine M.come_turn r (f ++ [o]) (fun x hx => ?_) (fun x hx => hs x (List.mem_cons_of_mem _ hx))
      rcases List.mem_append.1 hx with hx | hx
      · exact hf x hx
      · rw [List.mem_singleton] at hx; subst hx; exact h2 hc.2
    · rw [if_neg hc, if_neg (fun h => hc ⟨fun hm => h.1 (hmem.2 hm), h.2⟩)]
      exact M.come_turn r f hf (fun x hx => hs x (List.mem_cons_of_mem _ hx))
theorem leads_turn (M : Moves W R ps) {p : Nat} (h : p ∈ ps) : leadsAt (movedW W ps) (newAt W 2 ps p) = (leadsAt W p).map (turnP W ps) := by
  have hs := M.slots h
  unfold slotList at hs
  unfold leadsAt
  rw [M.cls h, M.form h, hs, List.map_cons]
  by_cases hf : formAt W p = 0
  · rw [if_pos hf, if_pos hf]; unfold slotsW; rw [if_neg (by rw [hf]; decide)]; rfl
  · rw [if_neg hf, if_neg hf]; rfl
theorem lead_ok (M : Moves W R ps) {p : Nat} (h : p ∈ ps) : ∀ o ∈ leadsAt W p, okRef W o ∧ (thingB W o = true → Reached W R o) := fun o ho => by
  refine ⟨?_, fun ht => .step ((M.all p).1 h) (by show o ∈ leadsAt W (pl2 (2 * (p : Int))); rw [pl2_two]; exact ho) ht⟩
  have hpl := M.place h
  rcases leads_cases ho with rfl | ⟨hf, hs⟩
  · exact M.fine.cls p hpl
  · obtain ⟨k, hk, rfl⟩ := wd_index hs
    rw [slotList_length (M.room h)] at hk
    rw [slotList_at hk]
    exact M.fine.slot p hpl (by rw [hf]; decide) k hk
end Moves
theorem Way.turn {W R f0 : List Int} (h0 : Bfs W R f0) (hc : (checkOf W).1 = 0) (hr : ∀ x ∈ R, okRef W x) {f : List Int} {n : Nat} (h : Way W R f n) :
    Way (movedW W (f0.map pl2)) (R.map (turnP W (f0.map pl2))) (f.map (turnP W (f0.map pl2))) n := by
  have M := h0.moves hc hr
  induction h with
  | start =>
    have := M.come_turn R [] (fun o h => by cases h) (fun o ho => ⟨hr o ho, fun ht => .root ho ht⟩)
    rw [← this]; exact .start
  | @next f n h hn ih =>
    have hreach := h.along.all _ (wd_mem hn)
    obtain ⟨t1, t2, t3, t4⟩ := M.turned hreach
    have hw : wd (f.map (turnP W (f0.map pl2))) n = turnP W (f0.map pl2) (wd f n) := by
      unfold wd; rw [List.getD_eq_getElem?_getD, List.getElem?_map, List.getElem?_eq_getElem hn, List.getD_eq_getElem?_getD, List.getElem?_eq_getElem hn]; rfl
    have := M.come_turn (leadsAt W (pl2 (wd f n))) f h.along.all (M.lead_ok t1)
    rw [← this, ← M.leads_turn t1, ← t3, ← hw]
    exact .next ih (by rw [List.length_map]; exact hn)
/-- Moved once more all stays as it is. -/
theorem Bfs.again {W R f : List Int} (h : Bfs W R f) (hc : (checkOf W).1 = 0) (hr : ∀ x ∈ R, okRef W x) :
    ∃ f', Bfs (movedW W (f.map pl2)) (R.map (turnP W (f.map pl2))) f' ∧ movedW (movedW W (f.map pl2)) (f'.map pl2) = movedW W (f.map pl2) ∧
      (R.map (turnP W (f.map pl2))).map (turnP (movedW W (f.map pl2)) (f'.map pl2)) = R.map (turnP W (f.map pl2)) := by
  have M := h.moves hc hr
  have hw := Way.turn h hc hr h
  refine ⟨f.map (turnP W (f.map pl2)), by unfold Bfs; rw [List.length_map]; exact hw, ?_⟩
  have e : (f.map (turnP W (f.map pl2))).map pl2 = places (movedW W (f.map pl2)) 2 := by
    rw [M.places, List.map_map, List.map_map]
    exact List.map_congr_left fun o ho => (M.turned ((h.all o).1 ho)).2.2.1
  rw [e]
  refine ⟨moved_same (front_out (check_fine M.may').1).1 M.unfit, ?_⟩
  conv => rhs; rw [← List.map_id (R.map (turnP W (f.map pl2)))]
  exact List.map_congr_left fun o _ => turn_same o
/-- As many words as where it is swept. -/
theorem Bfs.as_swept {W R f : List Int} (h : Bfs W R f) (hc : (checkOf W).1 = 0) (hr : ∀ x ∈ R, okRef W x) : (movedW W (f.map pl2)).length = (sweptW W R).length := by
  have M := h.moves hc hr
  have S := stay_moves hc hr
  unfold sweptW
  rw [M.length, S.length]
  congr 1
  exact roomSum_perm ((List.perm_ext_iff_of_nodup M.once S.once).2 fun p => by rw [M.all, S.all])
end Go.Proofs.Ythdhaokjibfjdaa
