/- What chapter 4 says of what stays, as plain functions on lists of numbers: things laid anew, one behind the other, and what is true of them. No Go in sight. -/
import Derived.Test.YthdhaokjibfjdaaAlikePlain2
namespace Go.Proofs.Ythdhaokjibfjdaa

/-- How many words a thing takes. -/
def roomAt (W : List Int) (p : Nat) : Nat := 3 + slotsAt W p
/-- Where the thing at p comes to stand, if those of a list are laid one behind the other from a place on; 0: it is none of them. -/
def newAt (W : List Int) : Nat → List Nat → Nat → Nat
  | _, [], _ => 0
  | top, q :: r, p => if q = p then top else newAt W (top + roomAt W q) r p
/-- What becomes of a reference. -/
def turnP (W : List Int) (ps : List Nat) (o : Int) : Int := if thingB W o = true then 2 * (newAt W 2 ps (pl2 o) : Int) else o
/-- The slots of a thing, turned. -/
def slotsW (t : Int → Int) (W : List Int) (p : Nat) : List Int := if formAt W p = 1 then slotList W p else (slotList W p).map t
/-- A thing, its references turned. -/
def thingW (t : Int → Int) (W : List Int) (p : Nat) : List Int := t (wd W p) :: wd W (p + 1) :: wd W (p + 2) :: slotsW t W p
/-- The things of a list, laid one behind the other. -/
def movedW (W : List Int) (ps : List Nat) : List Int := wd W 0 :: wd W 1 :: ps.flatMap (thingW (turnP W ps) W)
/-- How many words some things take. -/
def roomSum (W : List Int) : List Nat → Nat
  | [] => 0
  | p :: r => roomAt W p + roomSum W r

theorem roomSum_append (W : List Int) : ∀ (a b : List Nat), roomSum W (a ++ b) = roomSum W a + roomSum W b
  | [], b => by simp [roomSum]
  | p :: a, b => by rw [List.cons_append, roomSum, roomSum, roomSum_append W a b]; omega
theorem roomSum_perm {W : List Int} {a b : List Nat} (h : a.Perm b) : roomSum W a = roomSum W b := by
  induction h with
  | nil => rfl
  | cons x _ ih => rw [roomSum, roomSum, ih]
  | swap x y l => rw [roomSum, roomSum, roomSum, roomSum]; omega
  | trans _ _ h1 h2 => rw [h1, h2]
theorem roomSum_sub (W : List Int) : ∀ (a b : List Nat), a.Nodup → (∀ p ∈ a, p ∈ b) → roomSum W a ≤ roomSum W b
  | [], b, _, _ => by rw [roomSum]; omega
  | p :: a, b, hn, hs => by
    have hp := List.perm_cons_erase (hs p (List.mem_cons_self ..))
    obtain ⟨h1, h2⟩ := List.nodup_cons.1 hn
    have := roomSum_sub W a (b.erase p) h2 fun q hq => (List.mem_erase_of_ne (fun e : q = p => h1 (by rw [← e]; exact hq))).2 (hs q (List.mem_cons_of_mem _ hq))
    rw [roomSum_perm hp, roomSum, roomSum]; omega
theorem newAt_none {W : List Int} : ∀ {ps : List Nat} {top p : Nat}, p ∉ ps → newAt W top ps p = 0
  | [], _, _, _ => rfl
  | q :: r, top, p, h => by
    rw [newAt, if_neg (fun e : q = p => h (by rw [← e]; exact List.mem_cons_self ..)), newAt_none (fun hm => h (List.mem_cons_of_mem _ hm))]
theorem newAt_split {W : List Int} : ∀ {pre post : List Nat} {top p : Nat}, p ∉ pre → newAt W top (pre ++ p :: post) p = top + roomSum W pre
  | [], post, top, p, _ => by rw [List.nil_append, newAt, if_pos rfl, roomSum]; rfl
  | q :: r, post, top, p, h => by
    rw [List.cons_append, newAt, if_neg (fun e : q = p => h (by rw [← e]; exact List.mem_cons_self ..)), newAt_split (fun hm => h (List.mem_cons_of_mem _ hm)), roomSum]; omega
theorem slotsW_length {t : Int → Int} {W : List Int} {p : Nat} (h : p + 3 + slotsAt W p ≤ W.length) : (slotsW t W p).length = slotsAt W p := by
  unfold slotsW; split
  · exact slotList_length h
  · rw [List.length_map]; exact slotList_length h
theorem thingW_length {t : Int → Int} {W : List Int} {p : Nat} (h : p + 3 + slotsAt W p ≤ W.length) : (thingW t W p).length = roomAt W p := by
  unfold thingW roomAt; simp only [List.length_cons, slotsW_length h]; omega
theorem flat_length {t : Int → Int} {W : List Int} : ∀ (ps : List Nat), (∀ p ∈ ps, p + 3 + slotsAt W p ≤ W.length) → (ps.flatMap (thingW t W)).length = roomSum W ps
  | [], _ => rfl
  | p :: r, h => by
    rw [List.flatMap_cons, List.length_append, flat_length r fun q hq => h q (List.mem_cons_of_mem _ hq), thingW_length (h p (List.mem_cons_self ..)), roomSum]
theorem wd_right {a b : List Int} {n j : Nat} (h : a.length = n) : wd (a ++ b) (n + j) = wd b j := by
  unfold wd; rw [List.getD_eq_getElem?_getD, List.getD_eq_getElem?_getD, List.getElem?_append_right (by omega), show n + j - a.length = j by omega]

/-- All things of a heap: their words and the two ahead are all words. -/
theorem places_sum {W : List Int} : ∀ (n a : Nat), W.length - a ≤ n → a ≤ W.length → unfit W a = none → a + roomSum W (places W a) = W.length
  | 0, a, hn, ha, _ => by rw [places_end (by omega), roomSum]; omega
  | n + 1, a, hn, ha, hu => by
    by_cases h : a < W.length
    · obtain ⟨hf, hu'⟩ := unfit_head h hu
      have hl := (fits_out hf).2.2.2.2
      have := places_sum n (nextAt W a) (by simp [nextAt]; omega) (by simp [nextAt]; omega) hu'
      rw [places_in h, roomSum, roomAt]
      simp only [nextAt] at this ⊢
      omega
    · rw [places_end h, roomSum]; omega
theorem places_rise {W : List Int} : ∀ (n a : Nat), W.length - a ≤ n → (places W a).Pairwise (· < ·)
  | 0, a, hn => by rw [places_end (by omega)]; exact List.Pairwise.nil
  | n + 1, a, hn => by
    by_cases h : a < W.length
    · rw [places_in h]
      refine List.Pairwise.cons (fun q hq => ?_) (places_rise n _ (by simp [nextAt]; omega))
      have := place_ge hq; simp [nextAt] at this; omega
    · rw [places_end h]; exact List.Pairwise.nil
theorem fault_mk {W : List Int} : ∀ (ps : List Nat) (seen : List Int),
    (∀ p ∈ ps, nilB W (wd W p) = true ∧ badSlot W (formAt W p) (p + 3) (slotsAt W p) = none ∧ wd W (p + 1) ∉ seen ∧ 1 ≤ wd W (p + 1) ∧ wd W (p + 1) < wd W 1) →
    ps.Pairwise (fun p q => wd W (p + 1) ≠ wd W (q + 1)) → faultOf W seen ps = (0, 0)
  | [], _, _, _ => rfl
  | a :: r, seen, h, hp => by
    obtain ⟨c1, c2, c3, c4⟩ := h a (List.mem_cons_self ..)
    obtain ⟨p1, p2⟩ := List.pairwise_cons.1 hp
    rw [fault_next c1 (twice_mk ⟨c3, c4⟩) c2]
    refine fault_mk r _ (fun p hm => ?_) p2
    obtain ⟨d1, d2, d3, d4⟩ := h p (List.mem_cons_of_mem _ hm)
    refine ⟨d1, d2, fun hs => ?_, d4⟩
    rcases List.mem_append.1 hs with hs | hs
    · exact d3 hs
    · rw [List.mem_singleton] at hs; exact p1 p hm hs.symm

/-- Those that are reached, each once, in some order. -/
structure Moves (W R : List Int) (ps : List Nat) : Prop where
  may : (checkOf W).1 = 0
  roots : ∀ x ∈ R, okRef W x
  once : ps.Nodup
  all : ∀ p, p ∈ ps ↔ Reached W R (2 * (p : Int))

theorem pl2_two (p : Nat) : pl2 (2 * (p : Int)) = p := by unfold pl2; omega
namespace Moves
variable {W R : List Int} {ps : List Nat}
theorem fine (M : Moves W R ps) : Fine W := fine_of M.may
theorem place (M : Moves W R ps) {p : Nat} (h : p ∈ ps) : p ∈ places W 2 := by
  have := (reached_place ((M.all p).1 h)).1; rw [pl2_two] at this; exact this
theorem room (M : Moves W R ps) {p : Nat} (h : p ∈ ps) : p + 3 + slotsAt W p ≤ W.length := M.fine.room p (M.place h)
theorem two (M : Moves W R ps) : 2 ≤ W.length := (front_out (check_fine M.may).1).1
theorem length (M : Moves W R ps) : (movedW W ps).length = 2 + roomSum W ps := by
  unfold movedW; simp only [List.length_cons, flat_length ps fun p hp => M.room hp]; omega
theorem short (M : Moves W R ps) : (movedW W ps).length ≤ W.length := by
  have h1 := roomSum_sub W ps (places W 2) M.once fun p hp => M.place hp
  have h2 := places_sum _ 2 (Nat.le_refl _) M.two M.fine.fit
  rw [M.length]; omega
theorem few (M : Moves W R ps) : (movedW W ps).length ≤ 2000 := Nat.le_trans M.short M.fine.few
/-- The words as they lie about the thing that was at p. -/
theorem parts (M : Moves W R ps) {p : Nat} (h : p ∈ ps) : ∃ A B, movedW W ps = A ++ (thingW (turnP W ps) W p ++ B) ∧ A.length = newAt W 2 ps p := by
  obtain ⟨pre, post, e⟩ := List.append_of_mem h
  have hn : p ∉ pre := by
    have := M.once; rw [e, List.nodup_append] at this
    exact fun hm => this.2.2 p hm p (List.mem_cons_self ..) rfl
  refine ⟨wd W 0 :: wd W 1 :: pre.flatMap (thingW (turnP W ps) W), post.flatMap (thingW (turnP W ps) W), ?_, ?_⟩
  · unfold movedW
    conv => lhs; rw [show ps.flatMap (thingW (turnP W ps) W) = (pre ++ p :: post).flatMap (thingW (turnP W ps) W) by rw [← e]]
    rw [List.flatMap_append, List.flatMap_cons]; rfl
  · have h2 : newAt W 2 ps p = 2 + roomSum W pre := by conv => lhs; rw [e]
                                                       exact newAt_split hn
    rw [h2]
    simp only [List.length_cons, flat_length pre fun q hq => M.room (by rw [e]; exact List.mem_append.2 (Or.inl hq))]; omega
theorem word (M : Moves W R ps) {p j : Nat} (h : p ∈ ps) (hj : j < roomAt W p) : wd (movedW W ps) (newAt W 2 ps p + j) = wd (thingW (turnP W ps) W p) j := by
  obtain ⟨A, B, e, hl⟩ := M.parts h
  rw [e, wd_right hl, wd_left (by rw [thingW_length (M.room h)]; exact hj)]
theorem cls (M : Moves W R ps) {p : Nat} (h : p ∈ ps) : wd (movedW W ps) (newAt W 2 ps p) = turnP W ps (wd W p) := by
  have := M.word (j := 0) h (by unfold roomAt; omega); exact this
theorem hash (M : Moves W R ps) {p : Nat} (h : p ∈ ps) : wd (movedW W ps) (newAt W 2 ps p + 1) = wd W (p + 1) := M.word (j := 1) h (by unfold roomAt; omega)
theorem shape (M : Moves W R ps) {p : Nat} (h : p ∈ ps) : wd (movedW W ps) (newAt W 2 ps p + 2) = wd W (p + 2) := M.word (j := 2) h (by unfold roomAt; omega)
theorem nslots (M : Moves W R ps) {p : Nat} (h : p ∈ ps) : slotsAt (movedW W ps) (newAt W 2 ps p) = slotsAt W p := by unfold slotsAt; rw [M.shape h]
theorem form (M : Moves W R ps) {p : Nat} (h : p ∈ ps) : formAt (movedW W ps) (newAt W 2 ps p) = formAt W p := by unfold formAt; rw [M.shape h]
theorem slots (M : Moves W R ps) {p : Nat} (h : p ∈ ps) : slotList (movedW W ps) (newAt W 2 ps p) = slotsW (turnP W ps) W p := by
  obtain ⟨A, B, e, hl⟩ := M.parts h
  have hs := slotsW_length (t := turnP W ps) (M.room h)
  have e2 : movedW W ps = (A ++ [turnP W ps (wd W p), wd W (p + 1), wd W (p + 2)]) ++ (slotsW (turnP W ps) W p ++ B) := by rw [e]; simp [thingW]
  unfold slotList
  rw [M.nslots h, e2, List.drop_append_of_le_length (by simp; omega), List.drop_eq_nil_of_le (by simp; omega), List.nil_append, List.take_append_of_le_length (by omega), ← hs, List.take_length]
theorem ends (M : Moves W R ps) {p : Nat} (h : p ∈ ps) : newAt W 2 ps p + roomAt W p ≤ (movedW W ps).length := by
  obtain ⟨A, B, e, hl⟩ := M.parts h
  rw [e]; simp only [List.length_append, thingW_length (M.room h)]; omega
theorem slot (M : Moves W R ps) {p k : Nat} (h : p ∈ ps) (hk : k < slotsAt W p) : wd (movedW W ps) (newAt W 2 ps p + 3 + k) = if formAt W p = 1 then wd W (p + 3 + k) else turnP W ps (wd W (p + 3 + k)) := by
  rw [← slotList_at (W := movedW W ps) (by rw [M.nslots h]; exact hk), M.slots h]
  unfold slotsW
  split
  · exact slotList_at hk
  · have hl := slotList_length (M.room h)
    unfold wd
    rw [List.getD_eq_getElem?_getD, List.getElem?_map, List.getElem?_eq_getElem (by omega)]
    have := slotList_at hk
    unfold wd at this
    rw [List.getD_eq_getElem?_getD, List.getElem?_eq_getElem (by omega)] at this
    simp only [Option.map_some, Option.getD_some] at this ⊢
    rw [this]

/-- Where things begin now. -/
theorem places_from (M : Moves W R ps) : ∀ (post pre : List Nat), ps = pre ++ post → places (movedW W ps) (2 + roomSum W pre) = post.map (newAt W 2 ps) ∧ unfit (movedW W ps) (2 + roomSum W pre) = none
  | [], pre, e => by
    have hl := M.length
    rw [List.append_nil] at e
    rw [← e, places_end (by omega), unfit_end (by omega)]; exact ⟨rfl, rfl⟩
  | p :: post, pre, e => by
    have hm : p ∈ ps := by rw [e]; simp
    have hn : p ∉ pre := by
      have := M.once; rw [e, List.nodup_append] at this
      exact fun hm => this.2.2 p hm p (List.mem_cons_self ..) rfl
    have ha : newAt W 2 ps p = 2 + roomSum W pre := by conv => lhs; rw [e]
                                                       exact newAt_split hn
    have he := M.ends hm
    have hs := M.nslots hm
    have hf := fits_out (place_fit M.fine.fit (M.place hm)).2.2.1
    obtain ⟨i1, i2⟩ := M.places_from post (pre ++ [p]) (by rw [e]; simp)
    rw [roomSum_append, roomSum, roomSum] at i1 i2
    have hx : nextAt (movedW W ps) (2 + roomSum W pre) = 2 + (roomSum W pre + (roomAt W p + 0)) := by
      unfold nextAt; rw [← ha, hs, ha]; unfold roomAt; omega
    have hlt : 2 + roomSum W pre < (movedW W ps).length := by rw [← ha]; unfold roomAt at he; omega
    have hfit : fitsB (movedW W ps) (2 + roomSum W pre) = true := by
      rw [← ha]
      refine fits_mk ?_
      rw [M.shape hm, hs]
      unfold roomAt at he
      exact ⟨by omega, hf.2.1, hf.2.2.1, hf.2.2.2.1, by omega⟩
    rw [places_in hlt, unfit_in hlt hfit, hx, i1, i2, List.map_cons, ha]; exact ⟨rfl, rfl⟩
theorem places (M : Moves W R ps) : places (movedW W ps) 2 = ps.map (newAt W 2 ps) := (M.places_from ps [] rfl).1
theorem unfit (M : Moves W R ps) : unfit (movedW W ps) 2 = none := (M.places_from ps [] rfl).2
theorem begins (M : Moves W R ps) {p : Nat} (h : p ∈ ps) : newAt W 2 ps p ∈ Go.Proofs.Ythdhaokjibfjdaa.places (movedW W ps) 2 := by rw [M.places]; exact List.mem_map.2 ⟨p, h, rfl⟩
theorem inj (M : Moves W R ps) {p q : Nat} (hp : p ∈ ps) (hq : q ∈ ps) (h : newAt W 2 ps p = newAt W 2 ps q) : p = q := by
  refine M.fine.apart p (M.place hp) q (M.place hq) ?_
  rw [← M.hash hp, ← M.hash hq, h]
/-- A reference of who is reached, turned. -/
theorem turned (M : Moves W R ps) {x : Int} (h : Reached W R x) : pl2 x ∈ ps ∧ turnP W ps x = 2 * (newAt W 2 ps (pl2 x) : Int) ∧ pl2 (turnP W ps x) = newAt W 2 ps (pl2 x) ∧ thingB (movedW W ps) (turnP W ps x) = true := by
  obtain ⟨hp, e⟩ := reached_place h
  have hm : pl2 x ∈ ps := (M.all _).2 (by rw [← e]; exact h)
  have ht : turnP W ps x = 2 * (newAt W 2 ps (pl2 x) : Int) := by unfold turnP; rw [if_pos h.thing]
  refine ⟨hm, ht, by rw [ht, pl2_two], by rw [ht]; exact ref_thing M.few (M.begins hm)⟩
theorem stays (_M : Moves W R ps) {x : Int} (h : thingB W x = false) : turnP W ps x = x := by unfold turnP; rw [if_neg (by rw [h]; decide)]
theorem goes (M : Moves W R ps) {x : Int} (ht : thingB W x = true) (h : ¬ Reached W R x) : turnP W ps x = 0 := by
  obtain ⟨p, e, _, _, hp⟩ := thing_ref ht
  have : pl2 x ∉ ps := fun hm => h (by have := (M.all _).1 hm; unfold pl2 at this; rw [hp, ← e] at this; exact this)
  unfold turnP; rw [if_pos ht, newAt_none this]; rfl
theorem ok (M : Moves W R ps) {x : Int} (h : okRef W x) : okRef (movedW W ps) (turnP W ps x) := by
  cases ht : thingB W x with
  | false =>
    rw [M.stays ht]
    unfold okRef nilB at h ⊢
    rw [ht] at h
    simp only [Bool.or_false, Bool.or_eq_true] at h ⊢
    rcases h with h | h
    · exact Or.inl h
    · exact Or.inr (Or.inl h)
  | true =>
    by_cases hr : Reached W R x
    · have := (M.turned hr).2.2.2
      unfold okRef nilB; rw [this]; simp
    · rw [M.goes ht hr]; exact ok_zero _
theorem ok_roots (M : Moves W R ps) : ∀ y ∈ R.map (turnP W ps), okRef (movedW W ps) y := by
  intro y hy
  obtain ⟨x, hx, rfl⟩ := List.mem_map.1 hy
  exact M.ok (M.roots x hx)

/-- What was laid anew may be. -/
theorem check (M : Moves W R ps) : checkOf (movedW W ps) = (0, 0) := by
  obtain ⟨c1, c2, c3⟩ := check_fine M.may
  obtain ⟨f1, f2, f3, f4, f5⟩ := front_out c1
  have hl := M.length
  have hf : (frontOf (movedW W ps)).1 = 0 := by rw [front_ok (W := movedW W ps) (by have := M.few; omega) f3 (by show ¬ (wd W 1 < 1 ∨ 10001 < wd W 1); omega)]
  rw [check_things hf M.unfit, M.places]
  refine fault_mk _ _ (fun q hq => ?_) ?_
  · obtain ⟨p, hp, rfl⟩ := List.mem_map.1 hq
    obtain ⟨a1, a2, a3, a4, a5⟩ := fault_all _ _ c3 p (M.place hp)
    have hreach := (M.all p).1 hp
    rw [M.cls hp, M.hash hp]
    refine ⟨?_, ?_, by simp, a4, a5⟩
    · cases ht : thingB W (wd W p) with
      | false => rw [M.stays ht]; unfold nilB at a1 ⊢; rw [ht, Bool.or_false] at a1; rw [a1]; rfl
      | true =>
        have hr : Reached W R (wd W p) := .step hreach (by show wd W p ∈ leadsAt W (pl2 (2 * (p : Int))); rw [pl2_two]; exact class_lead' W p) ht
        unfold nilB; rw [(M.turned hr).2.2.2, Bool.or_true]
    · rw [bad_none, M.nslots hp, M.form hp]
      intro k hk
      have := (bad_none _ _).1 a2 k hk
      rw [M.slot hp hk]
      unfold standB at this ⊢
      split
      · rename_i h1; rw [if_pos h1] at this; exact this
      · rename_i h1; rw [if_neg h1] at this; exact M.ok this
  · rw [List.pairwise_map]
    refine List.Pairwise.imp_of_mem (fun {a b} ha hb hne => ?_) M.once
    rw [M.hash ha, M.hash hb]
    exact fun e => hne (M.fine.apart a (M.place ha) b (M.place hb) e)
theorem may' (M : Moves W R ps) : (checkOf (movedW W ps)).1 = 0 := by rw [M.check]
theorem lead (M : Moves W R ps) {p : Nat} (h : p ∈ ps) {o : Int} (ho : o ∈ leadsAt W p) : turnP W ps o ∈ leadsAt (movedW W ps) (newAt W 2 ps p) := by
  rcases leads_cases ho with rfl | ⟨hf, hs⟩
  · rw [← M.cls h]; exact class_lead' _ _
  · refine slots_lead (by rw [M.form h]; exact hf) ?_
    rw [M.slots h]; unfold slotsW; rw [if_neg (by rw [hf]; decide)]
    exact List.mem_map.2 ⟨o, hs, rfl⟩
/-- Who was reached is. -/
theorem reached (M : Moves W R ps) {x : Int} (h : Reached W R x) : Reached (movedW W ps) (R.map (turnP W ps)) (turnP W ps x) := by
  induction h with
  | root ho ht => exact .root (List.mem_map.2 ⟨_, ho, rfl⟩) (M.turned (.root ho ht)).2.2.2
  | @step x o hx ho ht ih =>
    refine .step ih ?_ (M.turned (.step hx ho ht)).2.2.2
    obtain ⟨t1, t2, t3, t4⟩ := M.turned hx
    have := M.lead t1 ho
    rw [← t3] at this; exact this
/-- All that is there is reached. -/
theorem all_reached (M : Moves W R ps) {q : Nat} (h : q ∈ Go.Proofs.Ythdhaokjibfjdaa.places (movedW W ps) 2) : Reached (movedW W ps) (R.map (turnP W ps)) (2 * (q : Int)) := by
  rw [M.places] at h
  obtain ⟨p, hp, rfl⟩ := List.mem_map.1 h
  have := M.reached ((M.all p).1 hp)
  rw [(M.turned ((M.all p).1 hp)).2.1, pl2_two] at this; exact this

/-! Alike to what was there. -/
theorem together (M : Moves W R ps) {A B : List Bool} (hA : Tells W R A) (hB : Tells (movedW W ps) (R.map (turnP W ps)) B) : Two W (movedW W ps) R (R.map (turnP W ps)) A B :=
  ⟨M.fine, fine_of M.may', M.roots, M.ok_roots, hA, hB⟩
theorem same_turn (M : Moves W R ps) {A B : List Bool} (hA : Tells W R A) (hB : Tells (movedW W ps) (R.map (turnP W ps)) B) {x : Int} (h : okRef W x) (hr : thingB W x = true → Reached W R x) : sameB W A (movedW W ps) B x (turnP W ps x) = true := by
  rw [(M.together hA hB).same h (M.ok h)]
  cases ht : thingB W x with
  | false => rw [M.stays ht]; simp
  | true =>
    obtain ⟨t1, t2, t3, t4⟩ := M.turned (hr ht)
    rw [if_pos ⟨rfl, t4⟩, t3]
    exact ⟨hr ht, M.reached (hr ht), (M.hash t1).symm⟩
theorem weak_turn (M : Moves W R ps) {A B : List Bool} (hA : Tells W R A) (hB : Tells (movedW W ps) (R.map (turnP W ps)) B) {x : Int} (h : okRef W x) : sameB W A (movedW W ps) B (weakB A x) (weakB B (turnP W ps x)) = true := by
  cases ht : thingB W x with
  | false =>
    have hk : kindOf x ≠ 3 := fun hk => by rw [ok_thing h hk] at ht; cases ht
    have e1 : weakB A x = x := by unfold weakB; rw [if_neg (fun h => hk h.1)]
    have e2 : weakB B x = x := by unfold weakB; rw [if_neg (fun h => hk h.1)]
    have := M.same_turn hA hB h (fun h => by rw [ht] at h; cases h)
    rw [M.stays ht] at this ⊢
    rw [e1, e2]; exact this
  | true =>
    have hk := thing_kind ht
    by_cases hr : Reached W R x
    · have e1 : weakB A x = x := by unfold weakB; rw [if_neg (fun h => by rw [(hA.at hk).2 hr] at h; cases h.2)]
      have hr' := M.reached hr
      have hk' := thing_kind hr'.thing
      have e2 : weakB B (turnP W ps x) = turnP W ps x := by unfold weakB; rw [if_neg (fun h => by rw [(hB.at hk').2 hr'] at h; cases h.2)]
      rw [e1, e2]; exact M.same_turn hA hB h fun _ => hr
    · have hb : bt A (pl2 x) = false := Bool.eq_false_iff.2 fun hb => hr ((hA.at hk).1 hb)
      have e1 : weakB A x = 0 := by unfold weakB; rw [if_pos ⟨hk, hb⟩]
      have e2 : weakB B 0 = 0 := by unfold weakB; split <;> rfl
      rw [M.goes ht hr, e1, e2]
      unfold sameB; rw [if_neg (by decide)]; rfl
theorem count (M : Moves W R ps) : (reachList W R).length = ps.length := by
  have : (reachList W R).Perm (ps.map fun p : Nat => 2 * (p : Int)) := by
    refine (List.perm_ext_iff_of_nodup (reach_nodup W R) ?_).2 fun o => ?_
    · unfold List.Nodup; rw [List.pairwise_map]; exact M.once.imp fun h e => h (by omega)
    · rw [mem_reach, List.mem_map]
      constructor
      · intro h; have e := (reached_place h).2; exact ⟨pl2 o, (M.all _).2 (by rw [← e]; exact h), e.symm⟩
      · rintro ⟨p, hp, rfl⟩; exact (M.all p).1 hp
  rw [this.length_eq, List.length_map]
/-- What was laid anew moves as it is. -/
theorem again (M : Moves W R ps) : Moves (movedW W ps) (R.map (turnP W ps)) (Go.Proofs.Ythdhaokjibfjdaa.places (movedW W ps) 2) :=
  ⟨M.may', M.ok_roots, places_nodup _ 2 (Nat.le_refl _), fun q => ⟨M.all_reached, fun h => by have := (reached_place h).1; rw [pl2_two] at this; exact this⟩⟩
theorem alike (M : Moves W R ps) {A B : List Bool} (hA : Tells W R A) (hB : Tells (movedW W ps) (R.map (turnP W ps)) B) : refB W A (movedW W ps) B R (R.map (turnP W ps)) = true := by
  have hK := fine_of M.may'
  unfold refB
  rw [if_pos (by simp), if_pos (by rw [hA.marks, hB.marks, M.count, M.again.count, M.places, List.length_map]), if_pos]
  · rw [eachB_iff]
    intro p hp hb
    rw [Nat.zero_add] at hb ⊢
    have hr := (hA.2 p).1 hb
    have hm := (M.all p).2 hr
    have hbB : bt B (newAt W 2 ps p) = true := (hB.2 _).2 (M.all_reached (M.begins hm))
    have hlt := (place_ge (M.begins hm)).2
    obtain ⟨q, hq⟩ := hashedB_ex (V := movedW W ps) (B := B) (h := wd W (p + 1)) (movedW W ps).length 0 (Nat.zero_le _) (by omega) hbB (M.hash hm)
    obtain ⟨q1, q2⟩ := hashedB_some _ _ hq
    have hqp : q ∈ Go.Proofs.Ythdhaokjibfjdaa.places (movedW W ps) 2 := by have := (reached_place ((hB.2 q).1 q1)).1; rw [pl2_two] at this; exact this
    have e : q = newAt W 2 ps p := hK.apart _ hqp _ (M.begins hm) (by rw [q2, M.hash hm])
    refine ⟨q, hq, ?_⟩
    rw [e]
    have lead : ∀ o ∈ leadsAt W p, thingB W o = true → Reached W R o := fun o ho ht => .step hr (by show o ∈ leadsAt W (pl2 (2 * (p : Int))); rw [pl2_two]; exact ho) ht
    have hpl := M.place hm
    unfold thingsB
    rw [if_pos (M.shape hm).symm, if_pos (by rw [M.cls hm]; exact M.same_turn hA hB (M.fine.cls p hpl) (lead _ (class_lead' W p))), slotsB_iff]
    intro k hk
    rw [Nat.zero_add, M.slot hm hk]
    unfold slotB
    by_cases h1 : formAt W p = 1
    · rw [if_pos h1, if_pos h1]; simp
    · rw [if_neg h1, if_neg h1]
      have hok := M.fine.slot p hpl h1 k hk
      by_cases h2 : formAt W p = 2
      · rw [if_pos h2]; exact M.weak_turn hA hB hok
      · rw [if_neg h2]
        refine M.same_turn hA hB hok (lead _ (slots_lead (by rcases M.fine.form p hpl with h | h | h; exact h; exact absurd h h1; exact absurd h h2) ?_))
        rw [← slotList_at hk]; exact wd_mem (by rw [slotList_length (M.room hm)]; exact hk)
  · rw [rootsB_iff]
    intro j hj
    rw [Nat.zero_add]
    have e : wd (R.map (turnP W ps)) j = turnP W ps (wd R j) := by
      unfold wd; rw [List.getD_eq_getElem?_getD, List.getElem?_map, List.getElem?_eq_getElem hj, List.getD_eq_getElem?_getD, List.getElem?_eq_getElem hj]; rfl
    rw [e]
    exact M.same_turn hA hB (M.roots _ (wd_mem hj)) fun ht => .root (wd_mem hj) ht
end Moves

/-! Laid as they lie. -/
theorem newAt_same {W : List Int} : ∀ (n a : Nat), W.length - a ≤ n → ∀ p ∈ places W a, newAt W a (places W a) p = p
  | 0, a, hn, p, hp => by rw [places_end (by omega)] at hp; cases hp
  | n + 1, a, hn, p, hp => by
    by_cases h : a < W.length
    · rw [places_in h] at hp ⊢
      rw [newAt]
      by_cases e : a = p
      · rw [if_pos e]; exact e
      · rw [if_neg e]
        rcases List.mem_cons.1 hp with h1 | h1
        · exact absurd h1.symm e
        · have := newAt_same n (nextAt W a) (by simp [nextAt]; omega) p h1
          rw [show a + roomAt W a = nextAt W a by unfold roomAt nextAt; omega]; exact this
    · rw [places_end h] at hp; cases hp
theorem turn_same {W : List Int} (o : Int) : turnP W (places W 2) o = o := by
  unfold turnP
  split
  · rename_i ht
    obtain ⟨p, e, hm, _, hp⟩ := thing_ref ht
    have hp' : pl2 o = p := hp
    rw [hp', newAt_same _ 2 (Nat.le_refl _) p hm]; exact e.symm
  · rfl
theorem slotsW_same {W : List Int} {t : Int → Int} (h : ∀ o, t o = o) (p : Nat) : slotsW t W p = slotList W p := by
  unfold slotsW
  split
  · rfl
  · rw [show t = id from funext h, List.map_id]
theorem drop_wd {W : List Int} {p : Nat} (h : p < W.length) : W.drop p = wd W p :: W.drop (p + 1) := by
  rw [List.drop_eq_getElem_cons h]; congr 1; unfold wd; rw [List.getD_eq_getElem?_getD, List.getElem?_eq_getElem h]; rfl
theorem flat_same {W : List Int} {t : Int → Int} (h : ∀ o, t o = o) : ∀ (n a : Nat), W.length - a ≤ n → a ≤ W.length → unfit W a = none → (places W a).flatMap (thingW t W) = W.drop a
  | 0, a, hn, ha, _ => by rw [places_end (by omega), List.drop_eq_nil_of_le (by omega)]; rfl
  | n + 1, a, hn, ha, hu => by
    by_cases hlt : a < W.length
    · obtain ⟨hf, hu'⟩ := unfit_head hlt hu
      have hl := (fits_out hf).2.2.2.2
      rw [places_in hlt, List.flatMap_cons, flat_same h n (nextAt W a) (by simp [nextAt]; omega) (by simp [nextAt]; omega) hu']
      unfold thingW
      rw [slotsW_same h, h]
      rw [drop_wd hlt, drop_wd (p := a + 1) (by omega), drop_wd (p := a + 1 + 1) (by omega)]
      simp only [List.cons_append]
      congr 3
      unfold slotList
      have e1 : W.drop (nextAt W a) = (W.drop (a + 3)).drop (slotsAt W a) := by rw [List.drop_drop]; rfl
      rw [e1, List.take_append_drop]
    · rw [places_end hlt, List.drop_eq_nil_of_le (by omega)]; rfl
theorem moved_same {W : List Int} (h2 : 2 ≤ W.length) (hu : unfit W 2 = none) : movedW W (places W 2) = W := by
  unfold movedW
  rw [flat_same (fun o => turn_same o) _ 2 (Nat.le_refl _) h2 hu, ← drop_wd (show 1 < W.length by omega), ← drop_wd (show 0 < W.length by omega), List.drop_zero]

/-! Sweeping: in their order. -/
/-- The places of those that are reached, rising. -/
noncomputable def stayP (W R : List Int) : List Nat := (reachList W R).map pl2
theorem stay_refs (W R : List Int) : (stayP W R).map (fun p : Nat => 2 * (p : Int)) = reachList W R := by
  unfold stayP
  rw [List.map_map]
  conv => rhs; rw [← List.map_id (reachList W R)]
  refine List.map_congr_left fun o ho => ?_
  exact (reached_place (mem_reach.1 ho)).2.symm
theorem mem_stay {W R : List Int} {p : Nat} : p ∈ stayP W R ↔ Reached W R (2 * (p : Int)) := by
  rw [← mem_reach, ← stay_refs, List.mem_map]
  constructor
  · intro h; exact ⟨p, h, rfl⟩
  · rintro ⟨q, hq, e⟩; rw [show p = q by omega]; exact hq
theorem stay_rises (W R : List Int) : (stayP W R).Pairwise (· < ·) := by
  have := reach_rises W R
  rw [← stay_refs, List.pairwise_map] at this
  exact this.imp fun h => by omega
theorem stay_moves {W R : List Int} (h : (checkOf W).1 = 0) (hr : ∀ x ∈ R, okRef W x) : Moves W R (stayP W R) :=
  ⟨h, hr, (stay_rises W R).imp fun h e => by omega, fun _ => mem_stay⟩
theorem rising_same {a b : List Nat} (ha : a.Pairwise (· < ·)) (hb : b.Pairwise (· < ·)) (h : ∀ p, p ∈ a ↔ p ∈ b) : a = b := by
  have hp : a.Perm b := (List.perm_ext_iff_of_nodup (ha.imp fun h e => by omega) (hb.imp fun h e => by omega)).2 h
  exact hp.eq_of_pairwise (le := fun x y => x ≤ y) (fun a b _ _ h1 h2 => by omega) (ha.imp fun h => by omega) (hb.imp fun h => by omega)
/-- As the document goes: along all things, those that are marked. -/
theorem stay_filter {W R : List Int} {A : List Bool} (h : Tells W R A) : (places W 2).filter (fun p => bt A p) = stayP W R := by
  refine rising_same (List.Pairwise.filter _ (places_rise _ 2 (Nat.le_refl _))) (stay_rises W R) fun p => ?_
  rw [List.mem_filter, mem_stay, h.2 p]
  refine ⟨fun h => h.2, fun h => ⟨?_, h⟩⟩
  have := (reached_place h).1; rw [pl2_two] at this; exact this
/-- The words that stay, and the roots. -/
noncomputable def sweptW (W R : List Int) : List Int := movedW W (stayP W R)
noncomputable def sweptR (W R : List Int) : List Int := R.map (turnP W (stayP W R))
/-- Swept once more all stays. -/
theorem swept_stay {W R : List Int} (h : (checkOf W).1 = 0) (hr : ∀ x ∈ R, okRef W x) : stayP (sweptW W R) (sweptR W R) = places (sweptW W R) 2 := by
  have M := stay_moves h hr
  refine rising_same (stay_rises _ _) (places_rise _ 2 (Nat.le_refl _)) fun p => ?_
  rw [mem_stay]
  exact ⟨fun h => by have := (reached_place h).1; rw [pl2_two] at this; exact this, fun h => M.all_reached h⟩
theorem swept_twice {W R : List Int} (h : (checkOf W).1 = 0) (hr : ∀ x ∈ R, okRef W x) : sweptW (sweptW W R) (sweptR W R) = sweptW W R ∧ sweptR (sweptW W R) (sweptR W R) = sweptR W R := by
  have M := stay_moves h hr
  have e := swept_stay h hr
  have f := fine_of M.may'
  have h2 := (front_out (check_fine M.may').1).1
  constructor
  · show movedW (sweptW W R) (stayP (sweptW W R) (sweptR W R)) = sweptW W R
    rw [e]
    exact moved_same h2 f.fit
  · show (sweptR W R).map (turnP (sweptW W R) (stayP (sweptW W R) (sweptR W R))) = sweptR W R
    rw [e]
    conv => rhs; rw [← List.map_id (sweptR W R)]
    exact List.map_congr_left fun o _ => turn_same o

end Go.Proofs.Ythdhaokjibfjdaa
