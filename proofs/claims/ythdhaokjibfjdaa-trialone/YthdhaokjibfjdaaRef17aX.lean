/- gessoref17: copyOf, now. -/
import Derived.Test.YthdhaokjibfjdaaGi
import Derived.Test.YthdhaokjibfjdaaChePlainX
import Derived.Test.YthdhaokjibfjdaaOwnKitX
import Derived.Test.YthdhaokjibfjdaaRefHeapX
import Derived.Maps.AppendAt
namespace Go.Proofs.Ythdhaokjibfjdaa
open Go.RowKit

theorem own_wd {w : World} {B g n c i : Nat} {xs : List Int} (h : w.ownsRow B 3 1 (sl g n c) n (vals xs)) (hi : i < n) : w.cell? ⟨g, i, none⟩ = some (.int .i64 (wd xs i)) := by
  have hl : xs.length = n := by have := h.1; simpa using this
  rw [h.cellAt i (by omega)]
  unfold wd
  simp [List.getElem?_map, List.getElem?_eq_getElem (show i < xs.length by omega)]
/-- The words of some things, as they were. -/
def oldW (W : List Int) (qs : List Nat) : List Int := wd W 0 :: wd W 1 :: qs.flatMap (thingW id W)
theorem oldW_snoc (W : List Int) (qs : List Nat) (p : Nat) : oldW W (qs ++ [p]) = oldW W qs ++ thingW id W p := by unfold oldW; simp
theorem oldW_length {W : List Int} {qs : List Nat} (h : ∀ p ∈ qs, p + 3 + slotsAt W p ≤ W.length) : (oldW W qs).length = 2 + roomSum W qs := by
  unfold oldW; simp only [List.length_cons, flat_length qs h]; omega
theorem slotsW_id (W : List Int) (p : Nat) : slotsW id W p = slotList W p := by unfold slotsW; split <;> simp
theorem thing_old {W : List Int} {p j : Nat} (hj : j < roomAt W p) : wd (thingW id W p) j = wd W (p + j) := by
  unfold thingW
  rw [slotsW_id]
  match j, hj with
  | 0, _ => rfl
  | 1, _ => rfl
  | 2, _ => rfl
  | j + 3, hj =>
    show wd (slotList W p) j = _
    rw [slotList_at (by unfold roomAt at hj; omega), show p + (j + 3) = p + 3 + j by omega]
theorem thing_row {w : World} {b off : Nat} {W : List Int} {p : Nat} (hr : Row w b off W) (h : p + 3 + slotsAt W p ≤ W.length) : Row w b (off + p) (thingW id W p) := by
  refine ⟨hr.lt, fun k hk => ?_, fun k => ?_⟩
  · rw [thingW_length h] at hk
    rw [thing_old hk, Nat.add_assoc]
    exact hr.cell (p + k) (by unfold roomAt at hk; omega)
  · by_cases hk : k < roomAt W p
    · rw [thing_old hk]; exact hr.wf _
    · have : wd (thingW id W p) k = 0 := by unfold wd; rw [List.getD_eq_getElem?_getD, List.getElem?_eq_none (by rw [thingW_length h]; omega)]; rfl
      rw [this]; decide
/-- Where Move stands: those of f are there, as they were. -/
structure MvR (w : World) (W : List Int) (b off B tb g n c : Nat) (f : List Int) : Prop where
  row : Row w b off W
  low : b < B
  tlow : B ≤ tb
  size : n = (oldW W (f.map pl2)).length
  own : w.ownsRow B 3 1 (sl g n c) n (vals (oldW W (f.map pl2)))
  came : ∃ T, TOk T W (f.map pl2) ∧ w.ownsRow 0 3 1 (sl tb W.length W.length) W.length (vals T)
  apart : g ≠ tb
  once : f.Nodup
  thing : ∀ o ∈ f, thingB W o = true
theorem pl_thing {W : List Int} {o : Int} (h : thingB W o = true) : pl2 o ∈ places W 2 ∧ o = 2 * (pl2 o : Int) := by
  obtain ⟨p, e, hm, _, hp⟩ := thing_ref h
  have : pl2 o = p := hp
  rw [this]; exact ⟨hm, e⟩
theorem pl_once {W f : List Int} (hn : f.Nodup) (ht : ∀ o ∈ f, thingB W o = true) : (f.map pl2).Nodup := by
  unfold List.Nodup; rw [List.pairwise_map]
  refine List.Pairwise.imp_of_mem (fun {a b} ha hb hne e => ?_) hn
  have ea := (pl_thing (ht a ha)).2
  have eb := (pl_thing (ht b hb)).2
  rw [ea, eb, e] at hne; exact hne rfl
theorem pl_mem {W f : List Int} {o : Int} (ht : ∀ o ∈ f, thingB W o = true) (ho : thingB W o = true) : pl2 o ∈ f.map pl2 ↔ o ∈ f := by
  rw [List.mem_map]
  constructor
  · rintro ⟨x, hx, e⟩
    have ex := (pl_thing (ht x hx)).2
    have eo := (pl_thing ho).2
    rw [e, ← eo] at ex; rw [← ex]; exact hx
  · intro h; exact ⟨o, h, rfl⟩
namespace MvR
variable {w : World} {W f : List Int} {b off B tb g n c : Nat}
theorem place (h : MvR w W b off B tb g n c f) : ∀ p ∈ f.map pl2, p ∈ places W 2 := fun p hp => by
  obtain ⟨o, ho, rfl⟩ := List.mem_map.1 hp
  exact (pl_thing (h.thing o ho)).1
theorem sum (h : MvR w W b off B tb g n c f) (hf : Fine W) (h2 : 2 ≤ W.length) : 2 + roomSum W (f.map pl2) ≤ W.length ∧ n = 2 + roomSum W (f.map pl2) := by
  have h1 := roomSum_sub W _ (places W 2) (pl_once h.once h.thing) h.place
  have h3 := places_sum _ 2 (Nat.le_refl _) h2 hf.fit
  refine ⟨by omega, ?_⟩
  rw [h.size, oldW_length fun p hp => hf.room p (h.place p hp)]
theorem same (h : MvR w W b off B tb g n c f) {w' : World} (hb : ∀ k, k < w.heap.size → w'.heap[k]? = w.heap[k]?) (hs : w.heap.size ≤ w'.heap.size) : MvR w' W b off B tb g n c f := by
  obtain ⟨T, hT, hTo⟩ := h.came
  exact ⟨⟨by have := h.row.lt; omega, fun k hk => by rw [World.cell?_of_block (hb b h.row.lt)]; exact h.row.cell k hk, h.row.wf⟩, h.low, h.tlow, h.size,
    own_same h.own fun k e => hb k (h.own.lt k e).2, ⟨T, hT, own_same hTo fun k e => hb k (hTo.lt k e).2⟩, h.apart, h.once, h.thing⟩
end MvR
theorem come_one (W f : List Int) (o : Int) : come W f [o] = if o ∉ f ∧ thingB W o = true then f ++ [o] else f := rfl
theorem newAt_pos {W : List Int} : ∀ {qs : List Nat} {top p : Nat}, p ∈ qs → top ≤ newAt W top qs p
  | q :: r, top, p, h => by
    rw [newAt]
    split
    · exact Nat.le_refl _
    · rename_i hq
      rcases List.mem_cons.1 h with e | e
      · exact absurd e.symm hq
      · exact Nat.le_trans (by unfold roomAt; omega) (newAt_pos (W := W) (top := top + roomAt W q) e)
theorem come_snoc (W : List Int) : ∀ (xs f : List Int) (o : Int), come W f (xs ++ [o]) = come W (come W f xs) [o]
  | [], _, _ => rfl
  | _ :: xs, _, o => come_snoc W xs _ o
theorem come_ext (W : List Int) : ∀ (xs f : List Int), ∃ t, come W f xs = f ++ t
  | [], f => ⟨[], by simp [come]⟩
  | x :: xs, f => by
    unfold come
    obtain ⟨t, e⟩ := come_ext W xs (if x ∉ f ∧ thingB W x = true then f ++ [x] else f)
    rw [e]
    split
    · exact ⟨x :: t, by simp⟩
    · exact ⟨t, rfl⟩
theorem roomSum_next (W : List Int) (qs : List Nat) {k : Nat} (hk : k < qs.length) : roomSum W (qs.take (k + 1)) = roomSum W (qs.take k) + roomAt W qs[k] := by
  rw [List.take_succ_eq_append_getElem hk, roomSum_append, roomSum, roomSum]; omega
theorem oldW_at {W : List Int} {qs : List Nat} (hr : ∀ p ∈ qs, p + 3 + slotsAt W p ≤ W.length) {k j : Nat} (hk : k < qs.length) (hj : j < roomAt W qs[k]) : wd (oldW W qs) (2 + roomSum W (qs.take k) + j) = wd W (qs[k] + j) := by
  have e : oldW W qs = oldW W (qs.take k) ++ (thingW id W qs[k] ++ (qs.drop (k + 1)).flatMap (thingW id W)) := by
    have e2 : qs = qs.take k ++ qs[k] :: qs.drop (k + 1) := by rw [← List.drop_eq_getElem_cons hk, List.take_append_drop]
    have e3 : qs.flatMap (thingW id W) = (qs.take k).flatMap (thingW id W) ++ (thingW id W qs[k] ++ (qs.drop (k + 1)).flatMap (thingW id W)) := by
      conv => lhs; rw [e2]
      rw [List.flatMap_append, List.flatMap_cons]
    unfold oldW; rw [e3]; rfl
  rw [e, wd_right (oldW_length fun p hp => hr p (List.mem_of_mem_take hp)), wd_left (by rw [thingW_length (hr _ (List.getElem_mem hk))]; exact hj), thing_old hj]
/-- Where the k-th of f stands. -/
def atF (W f : List Int) (k : Nat) : Nat := 2 + roomSum W ((f.map pl2).take k)
theorem pl_at {f : List Int} {k : Nat} (hk : k < f.length) : (f.map pl2)[k]'(by simpa using hk) = pl2 (wd f k) := by
  rw [List.getElem_map]; unfold wd; rw [List.getD_eq_getElem?_getD, List.getElem?_eq_getElem hk]; rfl
theorem atF_next {W f : List Int} {k : Nat} (hk : k < f.length) : atF W f (k + 1) = atF W f k + roomAt W (pl2 (wd f k)) := by
  unfold atF; rw [roomSum_next W _ (by simpa using hk), pl_at hk]; omega
theorem atF_all (W f : List Int) : atF W f f.length = 2 + roomSum W (f.map pl2) := by
  unfold atF; rw [List.take_of_length_le (by simp)]
theorem atF_ext {W f : List Int} (t : List Int) {k : Nat} (hk : k ≤ f.length) : atF W (f ++ t) k = atF W f k := by
  unfold atF; rw [List.map_append, List.take_append_of_le_length (by simpa using hk)]
theorem atF_le (W f : List Int) (k : Nat) : atF W f k ≤ 2 + roomSum W (f.map pl2) := by
  unfold atF
  conv => rhs; rw [← List.take_append_drop k (f.map pl2), roomSum_append]
  omega
theorem MvR.read {w : World} {W f : List Int} {b off B tb g n c : Nat} (h : MvR w W b off B tb g n c f) (hf : Fine W) (h2 : 2 ≤ W.length) {k j : Nat} (hk : k < f.length) (hj : j < roomAt W (pl2 (wd f k))) :
    w.cell? ⟨g, atF W f k + j, none⟩ = some (.int .i64 (wd W (pl2 (wd f k) + j))) ∧ atF W f k + j < n := by
  have hn := (h.sum hf h2).2
  have h1 := atF_next (W := W) hk
  have h3 := atF_le W f (k + 1)
  have hlt : atF W f k + j < n := by omega
  refine ⟨?_, hlt⟩
  rw [own_wd h.own hlt]
  have := oldW_at (W := W) (qs := f.map pl2) (fun p hp => hf.room p (h.place p hp)) (k := k) (j := j) (by simpa using hk) (by rw [pl_at hk]; exact hj)
  rw [pl_at hk] at this
  unfold atF; rw [this]
end Go.Proofs.Ythdhaokjibfjdaa
