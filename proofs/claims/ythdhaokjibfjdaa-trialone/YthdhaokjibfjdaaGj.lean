/- Several texts in one. -/
import Derived.Test.YthdhaokjibfjdaaGl
import Derived.Test.YthdhaokjibfjdaaGonePlainX
import Derived.Test.YthdhaokjibfjdaaGc
import Derived.Deep.RegionWith
import Derived.Deep.CutRange
import Derived.Deep.DeepCutAuto
/- Package count: what is taken away and given back. No Go in sight. -/
namespace Go.Proofs.Ythdhaokjibfjdaa

/-- A count more, or less. -/
def addC (d : Int) (c : Int → Int) (o : Int) : Int → Int := fun k => if k = o then c o + d else c k
theorem addC_fold (d : Int) : ∀ (L : List Int) (c : Int → Int), L.foldl (addC d) c = fun k => c k + d * (L.count k : Int)
  | [], c => by funext k; simp
  | o :: r, c => by
    rw [List.foldl_cons, addC_fold d r]
    funext k
    unfold addC
    rw [List.count_cons]
    by_cases h : k = o
    · subst h; simp [Int.mul_add]; omega
    · rw [if_neg h, if_neg (by simpa using fun e => h e.symm)]; simp
/-- Those of some references that are of things. -/
def thingsOf (W L : List Int) : List Int := L.filter (thingB W)
theorem thingsOf_append (W L M : List Int) : thingsOf W (L ++ M) = thingsOf W L ++ thingsOf W M := List.filter_append ..
theorem thingsOf_count {W L : List Int} {p : Nat} (hl : W.length ≤ 2000) (hp : p ∈ places W 2) : (thingsOf W L).count (2 * (p : Int)) = cntL L p := by
  have ht := ref_thing hl hp
  unfold thingsOf cntL
  rw [List.count_filter ht, List.count_filter (by simpa using thing_kind ht)]
/-- What all counts begin with. -/
def tallyC (W R : List Int) : Int → Int := fun k => ((thingsOf W (R ++ allLeads W)).count k : Int)
theorem tally_is (W R : List Int) : (thingsOf W (allLeads W)).foldl (addC 1) ((thingsOf W R).foldl (addC 1) fun _ => 0) = tallyC W R := by
  rw [addC_fold, addC_fold]
  funext k
  unfold tallyC
  rw [thingsOf_append, List.count_append]
  simp
theorem tally_counts {W R : List Int} (hl : W.length ≤ 2000) : (places W 2).map (fun p : Nat => tallyC W R (2 * (p : Int))) = countsP W R :=
  List.map_congr_left fun p hp => by unfold tallyC; rw [thingsOf_count hl hp]
/-- What roots give. -/
def rootC (W R : List Int) : Int → Int := fun k => ((thingsOf W R).count k : Int)
theorem taken_is (W R : List Int) : (thingsOf W (allLeads W)).foldl (addC (-1)) (tallyC W R) = rootC W R := by
  rw [addC_fold]
  funext k
  unfold tallyC rootC
  rw [thingsOf_append, List.count_append]
  omega

/-- Counts, and those who are held. -/
abbrev Hs := (Int → Int) × List Int
/-- One gives. -/
def giveH (s : Hs) (o : Int) : Hs := (addC 1 s.1 o, if s.1 o = 0 then s.2 ++ [o] else s.2)
/-- Held are those to which something is left. -/
structure HeldOk (s : Hs) : Prop where
  pos : ∀ o, 0 ≤ s.1 o
  held : ∀ o, s.1 o = 0 ↔ o ∉ s.2
theorem HeldOk.give {s : Hs} (h : HeldOk s) (o : Int) : HeldOk (giveH s o) := by
  refine ⟨fun k => ?_, fun k => ?_⟩
  · have := h.pos k
    have := h.pos o
    unfold giveH addC
    simp only
    split <;> omega
  · have hp := h.pos o
    unfold giveH addC
    simp only
    by_cases hk : k = o
    · subst hk
      rw [if_pos rfl]
      refine ⟨fun e => by omega, fun hn => ?_⟩
      exfalso
      apply hn
      split
      · simp
      · rename_i hz
        exact Classical.not_not.1 fun h' => hz ((h.held k).2 h')
    · rw [if_neg hk, h.held k]
      split
      · rw [List.mem_append, List.mem_singleton]; simp [hk]
      · rfl
theorem give_come {W : List Int} : ∀ (L : List Int) (s : Hs), HeldOk s → ((thingsOf W L).foldl giveH s).2 = come W s.2 L ∧ HeldOk ((thingsOf W L).foldl giveH s)
  | [], s, h => ⟨rfl, h⟩
  | o :: r, s, h => by
    unfold thingsOf
    cases ht : thingB W o with
    | false =>
      rw [List.filter_cons, if_neg (by rw [ht]; decide)]
      have := give_come (W := W) r s h
      refine ⟨this.1.trans ?_, this.2⟩
      show _ = come W (if o ∉ s.2 ∧ thingB W o = true then s.2 ++ [o] else s.2) r
      rw [if_neg (fun h => by rw [ht] at h; cases h.2)]
    | true =>
      rw [List.filter_cons, if_pos ht, List.foldl_cons]
      have := give_come (W := W) r (giveH s o) (h.give o)
      refine ⟨this.1.trans ?_, this.2⟩
      show come W (giveH s o).2 r = come W (if o ∉ s.2 ∧ thingB W o = true then s.2 ++ [o] else s.2) r
      congr 1
      unfold giveH
      simp only
      by_cases hm : o ∈ s.2
      · rw [if_neg (fun e => (h.held o).1 e hm), if_neg (fun x => x.1 hm)]
      · rw [if_pos ((h.held o).2 hm), if_pos ⟨hm, ht⟩]
/-- Who is held by roots. -/
def heldP (W R : List Int) : List Nat := (places W 2).filter fun p : Nat => decide (0 < rootC W R (2 * (p : Int)))
def heldL (W R : List Int) : List Int := (heldP W R).map fun p : Nat => 2 * (p : Int)
theorem root_pos {W R : List Int} {o : Int} : 0 < rootC W R o ↔ o ∈ R ∧ thingB W o = true := by
  unfold rootC thingsOf
  rw [show (0 < ((R.filter (thingB W)).count o : Int)) ↔ 0 < (R.filter (thingB W)).count o from by omega, List.count_pos_iff, List.mem_filter]
theorem mem_heldL {W R : List Int} {o : Int} : o ∈ heldL W R ↔ o ∈ R ∧ thingB W o = true := by
  unfold heldL heldP
  rw [← root_pos]
  simp only [List.mem_map, List.mem_filter, decide_eq_true_eq]
  constructor
  · rintro ⟨p, ⟨_, h⟩, rfl⟩; exact h
  · intro h
    obtain ⟨p, rfl, hp, _⟩ := thing_ref (root_pos.1 h).2
    exact ⟨p, ⟨hp, h⟩, rfl⟩
theorem heldOk_first {W R : List Int} : HeldOk (rootC W R, heldL W R) := by
  refine ⟨fun o => Int.natCast_nonneg _, fun o => ?_⟩
  rw [mem_heldL, ← root_pos]
  show rootC W R o = 0 ↔ _
  have : 0 ≤ rootC W R o := Int.natCast_nonneg _
  omega
theorem held_along {W R : List Int} : Along W R (heldL W R) 0 := by
  refine ⟨?_, fun o h => ?_, fun o h ht => (mem_heldL).2 ⟨h, ht⟩, fun i h => by omega, by omega⟩
  · unfold heldL heldP List.Nodup
    rw [List.pairwise_map]
    refine List.Pairwise.imp ?_ (List.Nodup.sublist (List.filter_sublist ..) (places_nodup (W := W) _ 2 (Nat.le_refl _)))
    intro a b h e
    exact h (by omega)
  · obtain ⟨h1, h2⟩ := (mem_heldL).1 h
    exact .root h1 h2
/-- In the end just those have nothing that are not reached. -/
theorem held_gone {W R : List Int} {s : Hs} (h : HeldOk s) (hd : ∀ o, o ∈ s.2 ↔ Reached W R o) : ((places W 2).filter fun p : Nat => decide (s.1 (2 * (p : Int)) = 0)) = goneP W R := by
  unfold goneP
  refine List.filter_congr fun p _ => ?_
  rw [Bool.eq_iff_iff]
  simp only [decide_eq_true_eq]
  rw [h.held, hd]
theorem come_length (W L f : List Int) : (come W f L).length ≤ f.length + L.length := by
  induction L generalizing f with
  | nil => exact Nat.le_refl _
  | cons o r ih =>
    unfold come
    refine Nat.le_trans (ih _) ?_
    split <;> simp <;> omega
/-- What the first of a row lead to. -/
def ledBy (W : List Int) (f : List Int) : Nat := (f.flatMap fun o => leadsAt W (pl2 o)).length
end Go.Proofs.Ythdhaokjibfjdaa

/- Package count: counts in memory, and what a function is that is called for each. -/
namespace Go.Proofs.Ythdhaokjibfjdaa
open Go.RowKit
open Go.Maps (Keyed keyOf_int_mk)

/-- Counts in memory. -/
def CMap (w : World) (mm T : Nat) (c : Int → Int) : Prop :=
  ∃ (n : Nat) (D : DataW Unit), w.ownsMap Try.prog 3 (plainElem Try.prog 3) mm n D ∧ n ≤ T ∧ ∀ o : Int, D.atKey (.int .i64 o) (.lit (.int .i64 0)) = .lit (.int .i64 (c o))
namespace CMap
variable {w w' : World} {mm T T' : Nat} {c : Int → Int}
theorem lt (h : CMap w mm T c) : mm < w.heap.size := by obtain ⟨n, D, ho, _⟩ := h; exact ho.lt
theorem blk (h : CMap w mm T c) (e : w'.heap[mm]? = w.heap[mm]?) : CMap w' mm T c := by
  obtain ⟨n, D, ⟨es, clock, hb0, r⟩, q⟩ := h
  exact ⟨n, D, ⟨es, clock, by rw [e]; exact hb0, r⟩, q⟩
theorem up (h : CMap w mm T c) (ht : T ≤ T') : CMap w mm T' c := by
  obtain ⟨n, D, h1, h2, h3⟩ := h
  exact ⟨n, D, h1, by omega, h3⟩
theorem new (w : World) : CMap (w.alloc (.map #[] 0)) w.heap.size 0 (fun _ => 0) :=
  ⟨0, .map [], World.ownsMap_made (H := Unit) w Try.prog 3 (plainElem Try.prog 3), Nat.le_refl _, fun _ => rfl⟩
theorem put {n : Nat} {D : DataW Unit} {o d : Int} (hD : w.ownsMap Try.prog 3 (plainElem Try.prog 3) mm n D) (hn : n ≤ T) (ha : ∀ o : Int, D.atKey (.int .i64 o) (.lit (.int .i64 0)) = .lit (.int .i64 (c o)))
    (ho : w'.ownsMap Try.prog 3 (plainElem Try.prog 3) mm (n + 1) (D.put (.int .i64 o) (.lit (.int .i64 (c o + d))))) : CMap w' mm (T + 1) (addC d c o) := by
  have hM := hD.isMap
  refine ⟨n + 1, _, ho, by omega, fun k => ?_⟩
  unfold addC
  by_cases e : k = o
  · subst e
    rw [Go.Maps.atKey_put_same hM (show WideAt.IsKeyLit (.int .i64 _) from trivial), if_pos rfl]
  · rw [Go.Maps.atKey_put_other (fun h => e (by simp at h; omega)), if_neg e]
    exact ha k
end CMap

/-- Those blocks are as they were. -/
def KeptC (G : Nat → Prop) (w w' : World) : Prop := ∀ k, G k → w'.heap[k]? = w.heap[k]?
theorem KeptC.trans {G : Nat → Prop} {w w' w'' : World} (h : KeptC G w w') (h' : KeptC G w' w'') : KeptC G w w'' := fun k hk => (h' k hk).trans (h k hk)
theorem KeptC.mono {G G' : Nat → Prop} {w w' : World} (h : KeptC G w w') (hg : ∀ k, G' k → G k) : KeptC G' w w' := fun k hk => h k (hg k hk)
theorem KeptC.cell {G : Nat → Prop} {w w' : World} {b j : Nat} {v : Value} (h : KeptC G w w') (hg : G b) (hv : w.cell? ⟨b, j, none⟩ = some v) : w'.cell? ⟨b, j, none⟩ = some v := (World.cell?_of_block (a := ⟨b, j, none⟩) (h b hg)).trans hv

/-- A function that is called for each of some references: from state to state, r times at most; the blocks of G stay as they are, and all that lies ahead of L. -/
structure Does (K : Nat) (cs : Array Value) {σ : Type} (st : σ → Int → σ) (L : Nat) (I : Nat → σ → (Nat → Prop) → World → Prop) : Prop where
  enters : ∀ (args : Array Value) (w : World), Sem.run Try.prog (callFunc K args) w = .ok (.enter K args) w
  less : ∀ {r r' s G w}, I r s G w → r' ≤ r → I r' s G w
  fresh : ∀ {r s G w w'} (G' : Nat → Prop), I r s G w → Below w.heap.size w w' → (∀ k, G' k → (G k ∨ w.heap.size ≤ k) ∧ k < w'.heap.size) → I r s G' w'
  out : ∀ {r s G w k}, I r s G w → G k → k < w.heap.size
  low : ∀ {r s G w}, I r s G w → L ≤ w.heap.size
  does : ∀ {r s G w} o, I (r + 1) s G w → (Lit.int .i64 o).wf = true → Calls Try.prog K (#[] ++ #[.int .i64 o] ++ cs) w fun e w' => e = .returned (.tuple #[]) ∧ I r (st s o) G w' ∧ KeptC G w w' ∧ Below L w w'
/-- What a call answers that does for some references. -/
def DoesAns {σ : Type} (I : Nat → σ → (Nat → Prop) → World → Prop) (r : Nat) (s : σ) (G : Nat → Prop) (L : Nat) (w : World) (e : Ending) (w' : World) : Prop :=
  e = .returned (.tuple #[]) ∧ I r s G w' ∧ KeptC G w w' ∧ Below L w w'
theorem Does.same {K : Nat} {cs : Array Value} {σ : Type} {st : σ → Int → σ} {L : Nat} {I : Nat → σ → (Nat → Prop) → World → Prop} (D : Does K cs st L I) {r : Nat} {s : σ} {G : Nat → Prop} {w w' : World} (h : I r s G w) (hb : Below w.heap.size w w') : I r s G w' :=
  D.fresh G h hb fun _ hk => ⟨Or.inl hk, Nat.lt_of_lt_of_le (D.out h hk) hb.size⟩
theorem ctview_low {w w' : World} {b cap bm L : Nat} {W : List Int} (h : IsView w b cap bm W) (hB : Below L w w') (hb : b < L) (hbm : bm < L) : IsView w' b cap bm W :=
  ⟨ownsRow_below h.own hB hb, h.wf, h.begun.below hB hbm⟩
/-- A block more that is kept. -/
theorem Does.beside {K : Nat} {cs : Array Value} {σ : Type} {st : σ → Int → σ} {L : Nat} {I : Nat → σ → (Nat → Prop) → World → Prop} (D : Does K cs st L I) {r g : Nat} {s : σ} {G : Nat → Prop} {w w' : World} (h : I r s G w) (hb : Below w.heap.size w w') (hg : w.heap.size ≤ g) (hl : g < w'.heap.size) : I r s (fun k => G k ∨ k = g) w' :=
  D.fresh _ h hb fun k hk => by
    rcases hk with hk | rfl
    · exact ⟨Or.inl hk, Nat.lt_of_lt_of_le (D.out h hk) hb.size⟩
    · exact ⟨Or.inr hg, hl⟩
theorem Does.drop {K : Nat} {cs : Array Value} {σ : Type} {st : σ → Int → σ} {L : Nat} {I : Nat → σ → (Nat → Prop) → World → Prop} (D : Does K cs st L I) {r g : Nat} {s : σ} {G : Nat → Prop} {w : World} (h : I r s (fun k => G k ∨ k = g) w) : I r s G w :=
  D.fresh _ h (Below.refl _ _) fun _ hk => ⟨Or.inl (Or.inl hk), D.out h (Or.inl hk)⟩
/-- The tally as it is handed on. -/
abbrev tallyV (b n cap bm mm : Nat) : Value := .agg #[sl b n cap, .map (some bm), .map (some mm)]
/-- Boxes of three. -/
theorem box3 {w w' : World} {x y z : Value} {t : TypeId} (hb : Below (w.alloc (.cells #[x, y, z] t)).heap.size (w.alloc (.cells #[x, y, z] t)) w') : w'.cell? ⟨w.heap.size, 0, none⟩ = some x ∧ w'.cell? ⟨w.heap.size, 1, none⟩ = some y ∧ w'.cell? ⟨w.heap.size, 2, none⟩ = some z ∧ w.heap.size < w'.heap.size := by
  have hs := hb.size
  simp at hs
  exact ⟨by rw [hb.cell (p := ⟨w.heap.size, 0, none⟩) (by simp)]; simp, by rw [hb.cell (p := ⟨w.heap.size, 1, none⟩) (by simp)]; simp, by rw [hb.cell (p := ⟨w.heap.size, 2, none⟩) (by simp)]; simp, by omega⟩
theorem thingsOf_drop {W refs : List Int} {i : Nat} (h : i < refs.length) : thingsOf W (refs.drop i) = (if thingB W (wd refs i) = true then [wd refs i] else []) ++ thingsOf W (refs.drop (i + 1)) := by
  rw [drop_cons h]
  unfold thingsOf
  rw [List.filter_cons]
  split <;> rfl

set_option maxHeartbeats 4000000 in
/-- each, where some references lie. -/
theorem cteach_some {K : Nat} {cs : Array Value} {σ : Type} {st : σ → Int → σ} {L : Nat} {I : Nat → σ → (Nat → Prop) → World → Prop} (D : Does K cs st L I) (W refs : List Int) (b cap bm mm rb ro rc r : Nat) (s : σ) (G : Nat → Prop) (w : World) (hv : IsView w b cap bm W) (hb : b < L) (hbm : bm < L)
    (hI : I (r + refs.length) s G w) (hg : G rb) (hr : Row w rb ro refs) (hrl : refs.length ≤ 100000) :
    Calls Try.prog 47 #[tallyV b W.length cap bm mm, .slice (some ⟨rb, ro, none⟩) refs.length rc, .func (.func K) #[] cs] w (DoesAns I r ((thingsOf W refs).foldl st s) G L w) := by
  generalize hX : (thingsOf W refs).foldl st s = X
  have HX : Hid (X = (thingsOf W (refs.drop 0)).foldl st s) := hX.symm
  clear hX
  have hent := D.enters
  have hls := D.low hI
  have hI1 : I (r + (refs.length - 0)) s (fun k => G k ∨ k = w.heap.size) (w.alloc (.cells #[sl b W.length cap, .map (some bm), .map (some mm)] 55)) :=
    D.fresh _ hI ((Below.refl _ _).alloc (Nat.le_refl _) _) fun k hk => by
      rcases hk with hk | hk
      · exact ⟨Or.inl hk, by have := D.out hI hk; simp; omega⟩
      · exact ⟨Or.inr (by omega), by simp; omega⟩
  have hB1 : Below L w (w.alloc (.cells #[sl b W.length cap, .map (some bm), .map (some mm)] 55)) := (Below.refl _ _).alloc hls _
  have hK1 : KeptC G w (w.alloc (.cells #[sl b W.length cap, .map (some bm), .map (some mm)] 55)) := fun k hk => Below.heap_alloc _ _ _ (D.out hI hk)
  obtain ⟨t0, t1, t2, _⟩ := box3 (Below.refl (w.alloc (.cells #[sl b W.length cap, .map (some bm), .map (some mm)] 55)).heap.size (w.alloc (.cells #[sl b W.length cap, .map (some bm), .map (some mm)] 55)))
  have hv1 := hv.alloc (.cells #[sl b W.length cap, .map (some bm), .map (some mm)] 55)
  have hr1 := hr.alloc (.cells #[sl b W.length cap, .map (some bm), .map (some mm)] 55)
  clear hI hv hr
  go_enter Try.func47, Try.ntmps47
  go_wp2
  go_loopw [10] (fun s10 wr => ∃ (i : Nat) (s' : σ), s10 = .int .i64 i ∧ i ≤ refs.length ∧ Hid (X = (thingsOf W (refs.drop i)).foldl st s') ∧ I (r + (refs.length - i)) s' (fun k => G k ∨ k = w.heap.size) wr ∧ KeptC G w wr ∧ Below L w wr ∧ IsView wr b cap bm W ∧ Row wr rb ro refs ∧ wr.cell? ⟨w.heap.size, 0, none⟩ = some (sl b W.length cap) ∧ wr.cell? ⟨w.heap.size, 1, none⟩ = some (.map (some bm))) (fun s10 _ => refs.length - (intOf s10).toNat)
  case atStart => exact ⟨0, s, rfl, Nat.zero_le _, HX, hI1, hK1, hB1, hv1, hr1, t0, t1⟩
  case round =>
    clear hI1 hK1 hB1 hv1 hr1 t0 t1 t2 HX
    obtain ⟨i, s', rfl, hi, HX, hI, hK, hB, hv, hr, t0, t1⟩ := hrel
    by_cases hlt : i < refs.length
    · have hci := hr.cell i hlt
      have hwf := hr.wf i
      have hrlt := hr.lt
      have hii : (i : Int) < (refs.length : Int) := by omega
      have hw1 := wrap_id (x := (i : Int) + 1) (by omega) (by omega)
      have hX := HX.out
      rw [thingsOf_drop hlt] at hX
      cases ht : thingB W (wd refs i) with
      | false =>
        rw [ht] at hX
        have HX' : Hid (X = (thingsOf W (refs.drop (i + 1))).foldl st s') := hX
        clear hX HX
        go_wp2_with (go_at_call 42; refine (has_any W b cap bm _ _ hv).mono ?_; rw [ht]; rintro e w2 ⟨rfl, hb2⟩)
        have hs2 := D.low hI
        go_roundw
        case rel => exact ⟨i + 1, s', by first | rfl | simp, by omega, HX', D.less (D.same hI hb2) (by omega), hK.trans fun k hk => hb2.block k (D.out hI (Or.inl hk)), hB.trans (hb2.mono hs2), hv.same hb2, hr.same hb2, through hb2 t0 (World.block_lt_of_cell? _ _ t0), through hb2 t1 (World.block_lt_of_cell? _ _ t1)⟩
        case measure => simp [intOf]; omega
      | true =>
        rw [ht] at hX
        have HX' : Hid (X = (thingsOf W (refs.drop (i + 1))).foldl st (st s' (wd refs i))) := hX
        clear hX HX
        have hI' : I ((r + (refs.length - (i + 1))) + 1) s' (fun k => G k ∨ k = w.heap.size) wr := D.less hI (by omega)
        go_wp2_with (first | (go_at_call 42; refine (has_any W b cap bm _ _ hv).mono ?_; rw [ht]; rintro e w2 ⟨rfl, hb2⟩) | (refine (D.does _ (D.same hI' hb2) hwf).mono ?_; rintro e w3 ⟨rfl, hI3, hK3, hB3⟩))
        have hs2 := D.low hI
        have hk12 : KeptC (fun k => G k ∨ k = w.heap.size) wr w2 := fun k hk => hb2.block k (D.out hI hk)
        have hk13 := hk12.trans hK3
        have hb13 := (hb2.mono hs2).trans hB3
        have hz3 := hb13.size
        go_roundw
        case rel => exact ⟨i + 1, _, by first | rfl | simp, by omega, HX', hI3, hK.trans (hk13.mono fun k hk => Or.inl hk), hB.trans hb13, ctview_low hv hb13 hb hbm, hr.block (hk13 rb (Or.inl hg)) hz3, hk13.cell (Or.inr rfl) t0, hk13.cell (Or.inr rfl) t1⟩
        case measure => simp [intOf]; omega
    · have HE : Hid (X = s') := by have := HX.out; rw [List.drop_eq_nil_of_le (by omega)] at this; exact this
      have hii : ¬ (i : Int) < (refs.length : Int) := by omega
      clear HX
      go_wp2_with fail
      go_end0
      have e := HE.out
      subst e
      exact ⟨rfl, D.fresh G (D.less hI (by omega)) (Below.refl _ _) fun k hk => ⟨Or.inl (Or.inl hk), D.out hI (Or.inl hk)⟩, hK, hB⟩
/-- each, where there is none. -/
theorem cteach_none {K : Nat} {cs : Array Value} {σ : Type} {st : σ → Int → σ} {L : Nat} {I : Nat → σ → (Nat → Prop) → World → Prop} (D : Does K cs st L I) (b n cap bm mm rc r : Nat) (ad : Option Addr) (s : σ) (G : Nat → Prop) (w : World) (hI : I r s G w) :
    Calls Try.prog 47 #[tallyV b n cap bm mm, .slice ad 0 rc, .func (.func K) #[] cs] w (DoesAns I r s G L w) := by
  have hls := D.low hI
  go_enter Try.func47, Try.ntmps47
  go_wp2
  refine wp_loop_rounds 1 ?_
  rw [rounds_succ]
  go_wp2
  go_end0
  exact ⟨rfl, D.same hI ((Below.refl _ _).alloc (Nat.le_refl _) _), fun k hk => Below.heap_alloc _ _ _ (D.out hI hk), (Below.refl _ _).alloc hls _⟩
/-- each, whatever the references are. -/
theorem cteach_any {K : Nat} {cs : Array Value} {σ : Type} {st : σ → Int → σ} {L : Nat} {I : Nat → σ → (Nat → Prop) → World → Prop} (D : Does K cs st L I) (W refs : List Int) (b cap bm mm rc r : Nat) (rad : Option Addr) (s : σ) (G : Nat → Prop) (w : World) (hv : IsView w b cap bm W) (hb : b < L) (hbm : bm < L)
    (hI : I (r + refs.length) s G w) (hr : 0 < refs.length → ∃ rb ro, rad = some ⟨rb, ro, none⟩ ∧ Row w rb ro refs ∧ G rb) (hrl : refs.length ≤ 100000) :
    Calls Try.prog 47 #[tallyV b W.length cap bm mm, .slice rad refs.length rc, .func (.func K) #[] cs] w (DoesAns I r ((thingsOf W refs).foldl st s) G L w) := by
  by_cases h0 : 0 < refs.length
  · obtain ⟨rb, ro, rfl, h1, h2⟩ := hr h0
    exact cteach_some D W refs b cap bm mm rb ro rc r s G w hv hb hbm hI h2 h1 hrl
  · have e0 : refs = [] := List.eq_nil_of_length_eq_zero (by omega)
    subst e0
    exact cteach_none D b W.length cap bm mm rc r rad s G w hI
end Go.Proofs.Ythdhaokjibfjdaa

/- Package count: leads, eachGiven. -/
namespace Go.Proofs.Ythdhaokjibfjdaa
open Go.RowKit
open Go.Maps (Keyed keyOf_int_mk)

set_option maxHeartbeats 2000000 in
theorem ctleads_any (W : List Int) (b cap bm mm p : Nat) (w : World) (hv : IsView w b cap bm W) (hu : unfit W 2 = none) (hl : W.length ≤ 2000) (hmem : p ∈ places W 2) :
    Calls Try.prog 52 #[tallyV b W.length cap bm mm, .int .i64 (2 * (p : Int))] w fun e w' => NumsAns w.heap.size (leadsAt W p) e w' ∧ Below w.heap.size w w' := by
  have ho := ref_thing hl hmem
  have hsl : (slotsOf W p).length ≤ 2000 := by unfold slotsOf; rw [List.length_take, List.length_drop]; omega
  go_enter Try.func52, Try.ntmps52
  go_wp2_with (first | (go_at_call 44; refine (vlook_any W b cap bm p _ (hv.alloc _) hu hl ho hmem).mono ?_; rintro e w2 ⟨⟨v2, rfl, hs2⟩, hb2⟩; have hb02 := below_call hb2; have z02 := hb02.size) | (go_at_call 43; refine (leads_any W p _ v2 _ hs2 hsl).mono ?_; rintro e w3 ⟨⟨g3, c3, rfl, hg3, hown3⟩, hb3⟩))
  go_ret
  exact ⟨⟨g3, c3, rfl, by omega, hown3⟩, hb02.trans (hb3.mono z02)⟩

theorem leads_few {W : List Int} {p : Nat} (hu : unfit W 2 = none) (hp : p ∈ places W 2) : (leadsAt W p).length ≤ 100 := by
  have h := fits_out (place_fit hu hp).2.2.1
  have h2 := leads_lenC W p
  have : slotsAt W p ≤ 60 := by unfold slotsAt; omega
  omega

set_option maxHeartbeats 8000000 in
theorem cteachGiven_any {K : Nat} {cs : Array Value} {σ : Type} {st : σ → Int → σ} {L : Nat} {I : Nat → σ → (Nat → Prop) → World → Prop} (D : Does K cs st L I) (W : List Int) (b cap bm mm r : Nat) (s : σ) (G : Nat → Prop) (w : World) (hv : IsView w b cap bm W) (hb : b < L) (hbm : bm < L) (hu : unfit W 2 = none) (hl : W.length ≤ 2000)
    (hI : I (r + 100 * (places W 2).length) s G w) :
    Calls Try.prog 48 #[tallyV b W.length cap bm mm, .func (.func K) #[] cs] w (DoesAns I r ((thingsOf W (allLeads W)).foldl st s) G L w) := by
  generalize hX : (thingsOf W (allLeads W)).foldl st s = X
  have HX : Hid (X = (thingsOf W (((places W 2).drop 0).flatMap (leadsAt W))).foldl st s) := hX.symm
  clear hX
  have hls := D.low hI
  go_enter Try.func48, Try.ntmps48
  go_wp2_with (go_at_call 26; refine (things_any W b cap bm _ (hv.alloc _) hu hl).mono ?_; rintro e w1 ⟨⟨tad, tc, rfl, hown1⟩, hb1⟩)
  have hb01 := below_call hb1
  obtain ⟨t0, t1, t2, hz1⟩ := box3 hb1
  have hI1 : I (r + 100 * ((places W 2).length - 0)) s (fun k => G k ∨ (w.heap.size ≤ k ∧ k < w1.heap.size)) w1 :=
    D.fresh _ hI hb01 fun k hk => by
      rcases hk with hk | hk
      · exact ⟨Or.inl hk, Nat.lt_of_lt_of_le (D.out hI hk) hb01.size⟩
      · exact ⟨Or.inr hk.1, hk.2⟩
  have hB1 : Below L w w1 := hb01.mono hls
  have hK1 : KeptC G w w1 := fun k hk => hb01.block k (D.out hI hk)
  have hv1 := hv.same hb01
  have hln : (refs (places W 2)).length = (places W 2).length := refs_length _
  have hown2 : w1.ownsRow w.heap.size 3 1 (.slice tad (refs (places W 2)).length tc) (refs (places W 2)).length (vals (refs (places W 2))) := own_mono (by simp) hown1
  have HO : Hid (w1.ownsRow w.heap.size 3 1 (.slice tad (refs (places W 2)).length tc) (refs (places W 2)).length (vals (refs (places W 2)))) := hown2
  have HL : Hid ((refs (places W 2)).length = (places W 2).length) := hln
  have HGo : Hid (∀ k, G k → k < w.heap.size) := fun k hk => D.out hI hk
  clear hown1 hown2 hln hI hv hb01 hb1
  go_loopw [10] (fun s10 wr => ∃ (i : Nat) (s' : σ), s10 = .int .i64 i ∧ i ≤ (refs (places W 2)).length ∧ Hid (X = (thingsOf W (((places W 2).drop i).flatMap (leadsAt W))).foldl st s') ∧ Hid (I (r + 100 * ((places W 2).length - i)) s' (fun k => G k ∨ (w.heap.size ≤ k ∧ k < w1.heap.size)) wr) ∧ KeptC G w wr ∧ KeptC (fun k => w.heap.size ≤ k ∧ k < w1.heap.size) w1 wr ∧ Below L w wr ∧ IsView wr b cap bm W) (fun s10 _ => (refs (places W 2)).length - (intOf s10).toNat)
  case atStart => exact ⟨0, s, rfl, Nat.zero_le _, HX, hI1, hK1, fun _ _ => rfl, hB1, hv1⟩
  case round =>
    clear hI1 hK1 hB1 hv1 HX
    obtain ⟨i, s', rfl, hi, HX, HI, hK, hK', hB, hv⟩ := hrel
    by_cases hlt : i < (refs (places W 2)).length
    · have hi2 : i < (places W 2).length := by have := HL.out; omega
      have hmem : (places W 2)[i] ∈ places W 2 := List.getElem_mem hi2
      have hwdi : wd (refs (places W 2)) i = 2 * ((places W 2)[i] : Int) := by
        unfold wd refs; rw [List.getD_eq_getElem?_getD, List.getElem?_map, List.getElem?_eq_getElem hi2]; rfl
      obtain ⟨g, cg, hsh, hge, hown0⟩ := own_shape HO.out (fun e => by injection e with _ h1 _; omega)
      simp only [Value.slice.injEq, true_and] at hsh
      obtain ⟨rfl, rfl⟩ := hsh
      have hcl := hK'.cell ⟨hge, own_lt hown0⟩ (own_cell hown0 hlt)
      rw [hwdi] at hcl
      have x0 := hK'.cell ⟨Nat.le_refl _, hz1⟩ t0
      have x1 := hK'.cell ⟨Nat.le_refl _, hz1⟩ t1
      have x2 := hK'.cell ⟨Nat.le_refl _, hz1⟩ t2
      have HX' : Hid (X = (thingsOf W (((places W 2).drop (i + 1)).flatMap (leadsAt W))).foldl st ((thingsOf W (leadsAt W (places W 2)[i])).foldl st s')) := by
        have := HX.out
        rw [List.drop_eq_getElem_cons hi2, List.flatMap_cons, thingsOf_append, List.foldl_append] at this
        exact this
      have hll := leads_few hu hmem
      have HIe : Hid (I (r + 100 * ((places W 2).length - (i + 1)) + (leadsAt W (places W 2)[i]).length) s' (fun k => G k ∨ (w.heap.size ≤ k ∧ k < w1.heap.size)) wr) := D.less HI.out (by omega)
      have hii : (i : Int) < ((refs (places W 2)).length : Int) := by omega
      have hi9 : i ≤ 2000 := by
        have h4 := (places_nodup (W := W) _ 2 (Nat.le_refl _)).length_le_of_subset (l₂ := List.range W.length) fun p hp => List.mem_range.2 (place_ge hp).2
        rw [List.length_range] at h4; omega
      have hw1 := wrap_id (x := (i : Int) + 1) (by omega) (by omega)
      have hgw := World.block_lt_of_cell? _ _ hcl
      have hzb := World.block_lt_of_cell? _ _ x0
      have hls2 := D.low HI.out
      clear HX HI hwdi t0 t1 t2
      generalize (places W 2)[i] = p at *
      go_upto_region 4 with fail
      go_region_with (first | (go_at_call 52; refine (ctleads_any W b cap bm mm p _ (by first | exact hv | exact hv.drew) hu hl hmem).mono ?_; rintro e w3 ⟨⟨g3, c3, rfl, hg3, hown3⟩, hb3⟩; have hb13 : Below wr.heap.size wr w3 := (Below.refl wr.heap.size wr).drew.trans hb3; have y0 := through hb13 x0 hzb; have y1 := through hb13 x1 hzb; have y2 := through hb13 x2 hzb) | (go_at_call 47; refine (cteach_some D W (leadsAt W p) b cap bm mm g3 0 c3 _ s' (fun k => (G k ∨ (w.heap.size ≤ k ∧ k < w1.heap.size)) ∨ k = g3) _ (hv.same hb13) hb hbm (D.beside HIe.out hb13 (by simpa using hg3) (own_lt hown3)) (Or.inr rfl) ⟨own_lt hown3, fun k hk => by rw [Nat.zero_add]; exact own_cell hown3 hk, leads_wf hv.wf⟩ (by omega)).mono ?_; rintro e w4 ⟨rfl, hI4, hK4, hB4⟩))
      all_goals
        go_wp2_with fail
        go_roundw
        case rel => exact ⟨i + 1, _, by first | rfl | simp, by omega, HX', D.drop hI4, fun k hk => (hK4 k (Or.inl (Or.inl hk))).trans ((hb13.block k (D.out HIe.out (Or.inl hk))).trans (hK k hk)), fun k hk => (hK4 k (Or.inl (Or.inr hk))).trans ((hb13.block k (D.out HIe.out (Or.inr hk))).trans (hK' k hk)), hB.trans ((hb13.mono hls2).trans hB4), ctview_low hv ((hb13.mono hls2).trans hB4) hb hbm⟩
        case measure => simp [intOf]; omega
    · have HE : Hid (X = s') := by have := HX.out; rw [List.drop_eq_nil_of_le (by have := HL.out; omega)] at this; exact this
      have hii : ¬ (i : Int) < ((refs (places W 2)).length : Int) := by omega
      clear HX
      go_wp2_with fail
      go_end0
      have e := HE.out
      subst e
      exact ⟨rfl, D.fresh G (D.less HI.out (by omega)) (Below.refl _ _) fun k hk => ⟨Or.inl (Or.inl hk), D.out HI.out (Or.inl hk)⟩, hK, hB⟩
end Go.Proofs.Ythdhaokjibfjdaa

/- Package count: the closures of tallyOf and takeAway; takeAway, tallyOf. -/
namespace Go.Proofs.Ythdhaokjibfjdaa
open Go.RowKit
open Go.Maps (Keyed keyOf_int_mk)

/-- A tally in box B, its counts in block mm. -/
structure TalI (b n cap bm mm L B r : Nat) (c : Int → Int) (G : Nat → Prop) (w : World) : Prop where
  b0 : w.cell? ⟨B, 0, none⟩ = some (sl b n cap)
  b1 : w.cell? ⟨B, 1, none⟩ = some (.map (some bm))
  b2 : w.cell? ⟨B, 2, none⟩ = some (.map (some mm))
  map : ∃ T, CMap w mm T c ∧ (∀ o, -(T : Int) ≤ c o ∧ c o ≤ (T : Int)) ∧ T + r ≤ 1000000
  lo : L ≤ B ∧ L ≤ mm ∧ B ≠ mm
  out : ∀ k, G k → k ≠ mm ∧ k < w.heap.size
namespace TalI
variable {b n cap bm mm L B r r' : Nat} {c c' : Int → Int} {G G' : Nat → Prop} {w w' : World}
theorem lt (h : TalI b n cap bm mm L B r c G w) : B < w.heap.size := World.block_lt_of_cell? _ _ h.b0
theorem mlt (h : TalI b n cap bm mm L B r c G w) : mm < w.heap.size := by obtain ⟨T, h1, _⟩ := h.map; exact h1.lt
theorem low (h : TalI b n cap bm mm L B r c G w) : L ≤ w.heap.size := Nat.le_trans h.lo.1 (Nat.le_of_lt h.lt)
theorem less (h : TalI b n cap bm mm L B r c G w) (hr : r' ≤ r) : TalI b n cap bm mm L B r' c G w := by
  obtain ⟨T, h1, h2, h3⟩ := h.map
  exact { h with map := ⟨T, h1, h2, by omega⟩ }
theorem fresh (h : TalI b n cap bm mm L B r c G w) (hb : Below w.heap.size w w') (hg : ∀ k, G' k → (G k ∨ w.heap.size ≤ k) ∧ k < w'.heap.size) : TalI b n cap bm mm L B r c G' w' := by
  obtain ⟨T, h1, h2⟩ := h.map
  refine ⟨through hb h.b0 h.lt, through hb h.b1 h.lt, through hb h.b2 h.lt, ⟨T, h1.blk (hb.block mm h1.lt), h2⟩, h.lo, fun k hk => ⟨?_, (hg k hk).2⟩⟩
  rcases (hg k hk).1 with h' | h'
  · exact (h.out k h').1
  · have := h1.lt; omega
/-- A count has changed. -/
theorem put {T : Nat} (h : TalI b n cap bm mm L B r c G w) (hm : CMap w' mm T c') (hg : w.grownBy w' (some mm)) (hT : ∀ o, -(T : Int) ≤ c' o ∧ c' o ≤ (T : Int)) (hr : T + r' ≤ 1000000) : TalI b n cap bm mm L B r' c' G w' ∧ KeptC G w w' ∧ Below L w w' := by
  have hk : ∀ k, k < w.heap.size → k ≠ mm → w'.heap[k]? = w.heap[k]? := fun k hk hn => hg.block k hk (fun e => hn (Option.some.inj e))
  have e := hk B h.lt h.lo.2.2
  have cc : ∀ j v, w.cell? ⟨B, j, none⟩ = some v → w'.cell? ⟨B, j, none⟩ = some v := fun j v hv => (World.cell?_of_block (a := ⟨B, j, none⟩) e).trans hv
  exact ⟨⟨cc _ _ h.b0, cc _ _ h.b1, cc _ _ h.b2, ⟨T, hm, hT, hr⟩, h.lo, fun k hk => ⟨(h.out k hk).1, Nat.lt_of_lt_of_le (h.out k hk).2 hg.size⟩⟩, fun k hk' => hk k (h.out k hk').2 (h.out k hk').1, (Below.refl L w).grown hg h.low (fun k hk => by injection hk with hk; subst hk; exact h.lo.2.1)⟩
end TalI
theorem addC_few {T : Nat} {c : Int → Int} {d o : Int} (h : ∀ o, -(T : Int) ≤ c o ∧ c o ≤ (T : Int)) (hd : -1 ≤ d ∧ d ≤ 1) : ∀ k, -((T + 1 : Nat) : Int) ≤ addC d c o k ∧ addC d c o k ≤ ((T + 1 : Nat) : Int) := fun k => by
  have h1 := h o
  have h2 := h k
  unfold addC
  split <;> constructor <;> omega

set_option maxHeartbeats 2000000 in
theorem tallyGive_any {b n cap bm mm L B r : Nat} {c : Int → Int} {G : Nat → Prop} {w : World} (o : Int) (h : TalI b n cap bm mm L B (r + 1) c G w) (hwo : (Lit.int .i64 o).wf = true) :
    Calls Try.prog 46 #[.int .i64 o, .pointer (some ⟨B, 0, none⟩)] w fun e w' => e = .returned (.tuple #[]) ∧ TalI b n cap bm mm L B r (addC 1 c o) G w' ∧ KeptC G w w' ∧ Below L w w' := by
  obtain ⟨T, ⟨m, D, hD, hm, ha⟩, hc, hT⟩ := h.map
  have b2 := h.b2
  have hbl := h.lt
  have hao := ha o
  have hco := hc o
  have hw1 := wrap_id (x := c o + 1) (by omega) (by omega)
  have hwx : (Lit.int .i64 (c o + 1)).wf = true := by go_wf
  have HA : Hid (∀ o : Int, D.atKey (.int .i64 o) (.lit (.int .i64 0)) = .lit (.int .i64 (c o))) := ha
  have HC : Hid (∀ o, -(T : Int) ≤ c o ∧ c o ≤ (T : Int)) := hc
  clear ha hc hco
  go_enter Try.func46, Try.ntmps46
  go_wp2_with (first | (at_lookup; refine wpList_lookup_own_int _ rfl _ _ 44 rfl 3 3 .i64 key3 ty59 ty3 (zero3 _) mm m D rfl hD _ _ rfl (keyOf_int_mk ty3 hwo) ?_; intro x hat hwc; have hcs : x = c o := (by rw [hao] at hat; simp at hat; exact hat.symm); subst hcs; clear hat hwc) | (at_mapUpdate; refine wpList_mapUpdate_own _ rfl _ _ _ 44 rfl 3 3 key3 ty59 (plainElem Try.prog 3) mm m D rfl hD (by unfold maxLen; omega) _ _ _ rfl rfl (keyOf_int_mk ty3 hwo) _ [] (plainElem_int ty3 hwx) ?_; intro w7 hm7 hg7))
  go_end0
  exact ⟨rfl, h.put (CMap.put hD hm HA.out hm7) hg7 (addC_few HC.out (by decide)) (by omega)⟩
set_option maxHeartbeats 2000000 in
theorem tallyTake_any {b n cap bm mm L B r : Nat} {c : Int → Int} {G : Nat → Prop} {w : World} (o : Int) (h : TalI b n cap bm mm L B (r + 1) c G w) (hwo : (Lit.int .i64 o).wf = true) :
    Calls Try.prog 49 #[.int .i64 o, .pointer (some ⟨B, 0, none⟩)] w fun e w' => e = .returned (.tuple #[]) ∧ TalI b n cap bm mm L B r (addC (-1) c o) G w' ∧ KeptC G w w' ∧ Below L w w' := by
  obtain ⟨T, ⟨m, D, hD, hm, ha⟩, hc, hT⟩ := h.map
  have b2 := h.b2
  have hbl := h.lt
  have hao := ha o
  have hco := hc o
  have hw1 := wrap_id (x := c o - 1) (by omega) (by omega)
  have hwx : (Lit.int .i64 (c o - 1)).wf = true := by go_wf
  have HA : Hid (∀ o : Int, D.atKey (.int .i64 o) (.lit (.int .i64 0)) = .lit (.int .i64 (c o))) := ha
  have HC : Hid (∀ o, -(T : Int) ≤ c o ∧ c o ≤ (T : Int)) := hc
  clear ha hc hco
  go_enter Try.func49, Try.ntmps49
  go_wp2_with (first | (at_lookup; refine wpList_lookup_own_int _ rfl _ _ 44 rfl 3 3 .i64 key3 ty59 ty3 (zero3 _) mm m D rfl hD _ _ rfl (keyOf_int_mk ty3 hwo) ?_; intro x hat hwc; have hcs : x = c o := (by rw [hao] at hat; simp at hat; exact hat.symm); subst hcs; clear hat hwc) | (at_mapUpdate; refine wpList_mapUpdate_own _ rfl _ _ _ 44 rfl 3 3 key3 ty59 (plainElem Try.prog 3) mm m D rfl hD (by unfold maxLen; omega) _ _ _ rfl rfl (keyOf_int_mk ty3 hwo) _ [] (plainElem_int ty3 hwx) ?_; intro w7 hm7 hg7))
  go_end0
  exact ⟨rfl, h.put (CMap.put (d := -1) hD hm HA.out hm7) hg7 (addC_few HC.out (by decide)) (by omega)⟩
theorem tallyGive_enters (args : Array Value) (w : World) : Sem.run Try.prog (callFunc 46 args) w = .ok (.enter 46 args) w := by kernel_rfl
theorem tallyTake_enters (args : Array Value) (w : World) : Sem.run Try.prog (callFunc 49 args) w = .ok (.enter 49 args) w := by kernel_rfl
theorem tallyGive_does (b n cap bm mm L B : Nat) : Does 46 #[.pointer (some ⟨B, 0, none⟩)] (addC 1) L (TalI b n cap bm mm L B) :=
  ⟨tallyGive_enters, fun h hr => h.less hr, fun _ h hb hg => h.fresh hb hg, fun h hk => (h.out _ hk).2, fun h => h.low, fun o h hw => tallyGive_any o h hw⟩
theorem tallyTake_does (b n cap bm mm L B : Nat) : Does 49 #[.pointer (some ⟨B, 0, none⟩)] (addC (-1)) L (TalI b n cap bm mm L B) :=
  ⟨tallyTake_enters, fun h hr => h.less hr, fun _ h hb hg => h.fresh hb hg, fun h hk => (h.out _ hk).2, fun h => h.low, fun o h hw => tallyTake_any o h hw⟩

/-- Counts, with room for more. -/
def Tal (w : World) (mm r : Nat) (c : Int → Int) : Prop := ∃ T, CMap w mm T c ∧ (∀ o, -(T : Int) ≤ c o ∧ c o ≤ (T : Int)) ∧ T + r ≤ 1000000
theorem Tal.lt {w : World} {mm r : Nat} {c : Int → Int} (h : Tal w mm r c) : mm < w.heap.size := by obtain ⟨T, h1, _⟩ := h; exact h1.lt
theorem Tal.same {w w' : World} {mm r : Nat} {c : Int → Int} (h : Tal w mm r c) (hb : Below w.heap.size w w') : Tal w' mm r c := by
  obtain ⟨T, h1, h2⟩ := h
  exact ⟨T, h1.blk (hb.block mm h1.lt), h2⟩

set_option maxHeartbeats 2000000 in
theorem takeAway_any (W : List Int) (b cap bm mm L r : Nat) (c : Int → Int) (w : World) (hv : IsView w b cap bm W) (hb : b < L) (hbm : bm < L) (hm : L ≤ mm) (hu : unfit W 2 = none) (hl : W.length ≤ 2000) (hT : Tal w mm (r + 100 * (places W 2).length) c) :
    Calls Try.prog 22 #[tallyV b W.length cap bm mm] w fun e w' => e = .returned (.tuple #[]) ∧ Tal w' mm r ((thingsOf W (allLeads W)).foldl (addC (-1)) c) ∧ KeptC (fun k => k < w.heap.size ∧ k ≠ mm) w w' ∧ Below L w w' := by
  have hml := hT.lt
  have hI : TalI b W.length cap bm mm L w.heap.size (r + 100 * (places W 2).length) c (fun k => k < w.heap.size ∧ k ≠ mm) (w.alloc (.cells #[sl b W.length cap, .map (some bm), .map (some mm)] 55)) := by
    obtain ⟨t0, t1, t2, _⟩ := box3 (Below.refl (w.alloc (.cells #[sl b W.length cap, .map (some bm), .map (some mm)] 55)).heap.size (w.alloc (.cells #[sl b W.length cap, .map (some bm), .map (some mm)] 55)))
    exact ⟨t0, t1, t2, hT.same ((Below.refl _ _).alloc (Nat.le_refl _) _), ⟨by omega, hm, by omega⟩, fun k hk => ⟨hk.2, by simp; omega⟩⟩
  have t0 := hI.b0
  have t1 := hI.b1
  have t2 := hI.b2
  have HC : Hid (Calls Try.prog 48 #[tallyV b W.length cap bm mm, .func (.func 49) #[] #[.pointer (some ⟨w.heap.size, 0, none⟩)]] (w.alloc (.cells #[sl b W.length cap, .map (some bm), .map (some mm)] 55)) (DoesAns (TalI b W.length cap bm mm L w.heap.size) r ((thingsOf W (allLeads W)).foldl (addC (-1)) c) (fun k => k < w.heap.size ∧ k ≠ mm) L _)) :=
    cteachGiven_any (tallyTake_does b W.length cap bm mm L w.heap.size) W b cap bm mm r c (fun k => k < w.heap.size ∧ k ≠ mm) _ (hv.alloc _) hb hbm hu hl hI
  clear hI
  go_enter Try.func22, Try.ntmps22
  go_wp2_with (go_at_call 48; refine HC.out.mono ?_; rintro e w2 ⟨rfl, hI2, hK2, hB2⟩)
  go_end0
  exact ⟨rfl, hI2.map, fun k hk => (hK2 k hk).trans (Below.heap_alloc _ _ _ hk.1), ((Below.refl _ _).alloc (by omega) _).trans hB2⟩
end Go.Proofs.Ythdhaokjibfjdaa
