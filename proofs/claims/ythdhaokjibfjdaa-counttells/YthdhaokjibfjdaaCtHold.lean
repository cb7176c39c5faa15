/- Package count: what is taken away and given back. No Go in sight. -/
import Derived.Test.YthdhaokjibfjdaaCountPlain
import Derived.Test.YthdhaokjibfjdaaGonePlain
namespace Go.Proofs.Ythdhaokjibfjdaa

/-- A count more, or less. -/
def addC (d : Int) (c : Int → Int) (o : Int) : Int → Int := fun k => if k = o then c o + d else c k
theorem addC_fold (d : Int) : ∀ (L : List Int) (c : Int → Int), L.foldl (addC d) c = fun k => c k + d * (L.count k : Int)
  | [], c => by funext k; simp
  | o :: r, c => by
    rw [List.foldl_cons, addC_fold d r]
    funext k
    unfold addC
    rw [List.count_cons]
    by_cases h : k = o
    · subst h; simp [Int.mul_add]; omega
    · rw [if_neg h, if_neg (by simpa using fun e => h e.symm)]; simp
/-- Those of some references that are of things. -/
def thingsOf (W L : List Int) : List Int := L.filter (thingB W)
theorem thingsOf_append (W L M : List Int) : thingsOf W (L ++ M) = thingsOf W L ++ thingsOf W M := List.filter_append ..
theorem thingsOf_count {W L : List Int} {p : Nat} (hl : W.length ≤ 2000) (hp : p ∈ places W 2) : (thingsOf W L).count (2 * (p : Int)) = cntL L p := by
  have ht := ref_thing hl hp
  unfold thingsOf cntL
  rw [List.count_filter ht, List.count_filter (by simpa using thing_kind ht)]
/-- What all counts begin with. -/
def tallyC (W R : List Int) : Int → Int := fun k => ((thingsOf W (R ++ allLeads W)).count k : Int)
theorem tally_is (W R : List Int) : (thingsOf W (allLeads W)).foldl (addC 1) ((thingsOf W R).foldl (addC 1) fun _ => 0) = tallyC W R := by
  rw [addC_fold, addC_fold]
  funext k
  unfold tallyC
  rw [thingsOf_append, List.count_append]
  simp
theorem tally_counts {W R : List Int} (hl : W.length ≤ 2000) : (places W 2).map (fun p : Nat => tallyC W R (2 * (p : Int))) = countsP W R :=
  List.map_congr_left fun p hp => by unfold tallyC; rw [thingsOf_count hl hp]
/-- What roots give. -/
def rootC (W R : List Int) : Int → Int := fun k => ((thingsOf W R).count k : Int)
theorem taken_is (W R : List Int) : (thingsOf W (allLeads W)).foldl (addC (-1)) (tallyC W R) = rootC W R := by
  rw [addC_fold]
  funext k
  unfold tallyC rootC
  rw [thingsOf_append, List.count_append]
  omega

/-- Counts, and those who are held. -/
abbrev Hs := (Int → Int) × List Int
/-- One gives. -/
def giveH (s : Hs) (o : Int) : Hs := (addC 1 s.1 o, if s.1 o = 0 then s.2 ++ [o] else s.2)
/-- Held are those to which something is left. -/
structure HeldOk (s : Hs) : Prop where
  pos : ∀ o, 0 ≤ s.1 o
  held : ∀ o, s.1 o = 0 ↔ o ∉ s.2
theorem HeldOk.give {s : Hs} (h : HeldOk s) (o : Int) : HeldOk (giveH s o) := by
  refine ⟨fun k => ?_, fun k => ?_⟩
  · have := h.pos k
    have := h.pos o
    unfold giveH addC
    simp only
    split <;> omega
  · have hp := h.pos o
    unfold giveH addC
    simp only
    by_cases hk : k = o
    · subst hk
      rw [if_pos rfl]
      refine ⟨fun e => by omega, fun hn => ?_⟩
      exfalso
      apply hn
      split
      · simp
      · rename_i hz
        exact Classical.not_not.1 fun h' => hz ((h.held k).2 h')
    · rw [if_neg hk, h.held k]
      split
      · rw [List.mem_append, List.mem_singleton]; simp [hk]
      · rfl
theorem give_come {W : List Int} : ∀ (L : List Int) (s : Hs), HeldOk s → ((thingsOf W L).foldl giveH s).2 = come W s.2 L ∧ HeldOk ((thingsOf W L).foldl giveH s)
  | [], s, h => ⟨rfl, h⟩
  | o :: r, s, h => by
    unfold thingsOf
    cases ht : thingB W o with
    | false =>
      rw [List.filter_cons, if_neg (by rw [ht]; decide)]
      have := give_come (W := W) r s h
      refine ⟨this.1.trans ?_, this.2⟩
      show _ = come W (if o ∉ s.2 ∧ thingB W o = true then s.2 ++ [o] else s.2) r
      rw [if_neg (fun h => by rw [ht] at h; cases h.2)]
    | true =>
      rw [List.filter_cons, if_pos ht, List.foldl_cons]
      have := give_come (W := W) r (giveH s o) (h.give o)
      refine ⟨this.1.trans ?_, this.2⟩
      show come W (giveH s o).2 r = come W (if o ∉ s.2 ∧ thingB W o = true then s.2 ++ [o] else s.2) r
      congr 1
      unfold giveH
      simp only
      by_cases hm : o ∈ s.2
      · rw [if_neg (fun e => (h.held o).1 e hm), if_neg (fun x => x.1 hm)]
      · rw [if_pos ((h.held o).2 hm), if_pos ⟨hm, ht⟩]
/-- Who is held by roots. -/
def heldP (W R : List Int) : List Nat := (places W 2).filter fun p : Nat => decide (0 < rootC W R (2 * (p : Int)))
def heldL (W R : List Int) : List Int := (heldP W R).map fun p : Nat => 2 * (p : Int)
theorem root_pos {W R : List Int} {o : Int} : 0 < rootC W R o ↔ o ∈ R ∧ thingB W o = true := by
  unfold rootC thingsOf
  rw [show (0 < ((R.filter (thingB W)).count o : Int)) ↔ 0 < (R.filter (thingB W)).count o from by omega, List.count_pos_iff, List.mem_filter]
theorem mem_heldL {W R : List Int} {o : Int} : o ∈ heldL W R ↔ o ∈ R ∧ thingB W o = true := by
  unfold heldL heldP
  rw [← root_pos]
  simp only [List.mem_map, List.mem_filter, decide_eq_true_eq]
  constructor
  · rintro ⟨p, ⟨_, h⟩, rfl⟩; exact h
  · intro h
    obtain ⟨p, rfl, hp, _⟩ := thing_ref (root_pos.1 h).2
    exact ⟨p, ⟨hp, h⟩, rfl⟩
theorem heldOk_first {W R : List Int} : HeldOk (rootC W R, heldL W R) := by
  refine ⟨fun o => Int.natCast_nonneg _, fun o => ?_⟩
  rw [mem_heldL, ← root_pos]
  show rootC W R o = 0 ↔ _
  have : 0 ≤ rootC W R o := Int.natCast_nonneg _
  omega
theorem held_along {W R : List Int} : Along W R (heldL W R) 0 := by
  refine ⟨?_, fun o h => ?_, fun o h ht => (mem_heldL).2 ⟨h, ht⟩, fun i h => by omega, by omega⟩
  · unfold heldL heldP List.Nodup
    rw [List.pairwise_map]
    refine List.Pairwise.imp ?_ (List.Nodup.sublist (List.filter_sublist ..) (places_nodup (W := W) _ 2 (Nat.le_refl _)))
    intro a b h e
    exact h (by omega)
  · obtain ⟨h1, h2⟩ := (mem_heldL).1 h
    exact .root h1 h2
/-- In the end just those have nothing that are not reached. -/
theorem held_gone {W R : List Int} {s : Hs} (h : HeldOk s) (hd : ∀ o, o ∈ s.2 ↔ Reached W R o) : ((places W 2).filter fun p : Nat => decide (s.1 (2 * (p : Int)) = 0)) = goneP W R := by
  unfold goneP
  refine List.filter_congr fun p _ => ?_
  rw [Bool.eq_iff_iff]
  simp only [decide_eq_true_eq]
  rw [h.held, hd]
theorem come_length (W L f : List Int) : (come W f L).length ≤ f.length + L.length := by
  induction L generalizing f with
  | nil => exact Nat.le_refl _
  | cons o r ih =>
    unfold come
    refine Nat.le_trans (ih _) ?_
    split <;> simp <;> omega
/-- What the first of a row lead to. -/
def ledBy (W : List Int) (f : List Int) : Nat := (f.flatMap fun o => leadsAt W (pl2 o)).length
end Go.Proofs.Ythdhaokjibfjdaa
