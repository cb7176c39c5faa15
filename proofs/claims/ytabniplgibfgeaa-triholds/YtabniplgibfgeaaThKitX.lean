/- What TriHolds asks: which places are freed, and what is read of what was answered. -/
import Derived.Test.YtabniplgibfgeaaGd
namespace Go.Proofs.Ytabniplgibfgeaa
open Go.RowKit

/-- Marks at places. -/
def markF (n : Nat) (l : List Nat) : List Bool := l.foldl (fun A p => A.set p true) (List.replicate n false)
theorem mark_fold_length : ∀ (l : List Nat) (A : List Bool), (l.foldl (fun A p => A.set p true) A).length = A.length
  | [], _ => rfl
  | p :: r, A => by rw [List.foldl_cons, mark_fold_length r]; simp
theorem markF_length (n : Nat) (l : List Nat) : (markF n l).length = n := by unfold markF; rw [mark_fold_length]; simp
theorem markF_snoc (n : Nat) (l : List Nat) (p : Nat) : markF n (l ++ [p]) = (markF n l).set p true := by unfold markF; rw [List.foldl_append]; rfl
theorem bt_setM (A : List Bool) (p k : Nat) (hp : p < A.length) : bt (A.set p true) k = true ↔ k = p ∨ bt A k = true := by
  unfold bt
  rw [List.getD_eq_getElem?_getD, List.getD_eq_getElem?_getD, List.getElem?_set]
  by_cases h : p = k
  · subst h; simp [hp]
  · have h' : ¬ k = p := fun e => h e.symm
    simp [h, h']
theorem mark_fold : ∀ (l : List Nat) (A : List Bool) (k : Nat), (∀ p ∈ l, p < A.length) → (bt (l.foldl (fun A p => A.set p true) A) k = true ↔ k ∈ l ∨ bt A k = true)
  | [], A, k, _ => by simp
  | p :: r, A, k, h => by
    rw [List.foldl_cons, mark_fold r _ k fun q hq => by rw [List.length_set]; exact h q (List.mem_cons_of_mem _ hq), bt_setM A p k (h p (List.mem_cons_self ..)), List.mem_cons]
    constructor
    · rintro (h1 | h1 | h1)
      · exact .inl (.inr h1)
      · exact .inl (.inl h1)
      · exact .inr h1
    · rintro ((h1 | h1) | h1)
      · exact .inr (.inl h1)
      · exact .inl h1
      · exact .inr (.inr h1)
theorem markF_iff {n : Nat} {l : List Nat} (h : ∀ p ∈ l, p < n) (k : Nat) : bt (markF n l) k = true ↔ k ∈ l := by
  unfold markF
  rw [mark_fold l _ k fun p hp => by rw [List.length_replicate]; exact h p hp]
  have : bt (List.replicate n false) k = false := by
    unfold bt
    rw [List.getD_eq_getElem?_getD, List.getElem?_replicate]
    split <;> rfl
  rw [this]; simp
/-- The places that are freed. -/
def freeP (s : Tri) : List Nat := (places s.W 2).filter fun p => wd s.C p == 0
theorem freed_done {s : Tri} (h : doneT s = true) : freedT s = (freeP s).map fun p : Nat => 2 * (p : Int) := by unfold freedT; rw [if_pos h]; rfl
theorem freed_not {s : Tri} (h : doneT s = false) : freedT s = [] := by unfold freedT; rw [if_neg (by rw [h]; decide)]
theorem free_mem {s : Tri} {p : Nat} : p ∈ freeP s ↔ p ∈ places s.W 2 ∧ wd s.C p = 0 := by unfold freeP; rw [List.mem_filter]; simp
theorem free_at {s : Tri} {i : Nat} (hd : doneT s = true) (hi : i < (freeP s).length) : wd (freedT s) i = 2 * (((freeP s)[i] : Nat) : Int) := by
  rw [freed_done hd]
  unfold wd
  rw [List.getD_eq_getElem?_getD, List.getElem?_map, List.getElem?_eq_getElem hi]
  rfl
theorem take_snocN {l : List Nat} {i : Nat} (h : i < l.length) : l.take (i + 1) = l.take i ++ [l[i]] := by
  rw [List.take_add_one, List.getElem?_eq_getElem h]; rfl
/-- Nothing that is reached is freed; what was not reached is. -/
theorem holds_at {W0 R0 : List Int} {s : Tri} {A B : List Bool} (h : TInv W0 R0 s) (hd : doneT s = true) (hA : Tells s.W s.R A) (hB : Tells W0 R0 B) {p : Nat} (hp : p ∈ places s.W 2) :
    ((bt A p = true → bt (markF s.W.length (freeP s)) p = false) ∧ (p < W0.length → bt B p = false → bt (markF s.W.length (freeP s)) p = true)) := by
  have hin : ∀ q ∈ freeP s, q < s.W.length := fun q hq => (place_fit (fine_of h.may).fit (free_mem.1 hq).1).2.1
  refine ⟨fun ha => ?_, fun h1 hb => ?_⟩
  · cases hm : bt (markF s.W.length (freeP s)) p with
    | false => rfl
    | true => exact absurd (free_mem.1 ((markF_iff hin p).1 hm)).2 (h.safe hd ((hA.2 p).1 ha))
  · exact (markF_iff hin p).2 (free_mem.2 ⟨hp, h.white (h.only p hp h1) fun hr => by rw [(hB.2 p).2 hr] at hb; cases hb⟩)
/-- Rows of what was answered. -/
theorem reads_row {w : World} {ad : Option Addr} {c : Nat} {xs : List Int} (h : Reads w (.slice ad xs.length c) xs) (hw : ∀ k, (Lit.int .i64 (wd xs k)).wf = true) (h0 : 0 < xs.length) : ∃ b off, ad = some ⟨b, off, none⟩ ∧ Row w b off xs := by
  obtain ⟨ad', c', e, h2⟩ := h
  injection e with e1 _ e3
  subst e1
  obtain ⟨b, off, e, hl, hc⟩ := h2 (by omega)
  exact ⟨b, off, e, hl, hc, hw⟩
theorem wd_wf {W R : List Int} (h : ∀ x ∈ R, okRef W x) (k : Nat) : (Lit.int .i64 (wd R k)).wf = true := by
  by_cases hk : k < R.length
  · rw [show wd R k = R[k] from by unfold wd; rw [List.getD_eq_getElem?_getD, List.getElem?_eq_getElem hk]; rfl]
    exact ok_wf (h _ (List.getElem_mem hk))
  · rw [wd_past (by omega)]; rfl
theorem reads_atH {w : World} {ad : Option Addr} {c : Nat} {xs : List Int} (h : Reads w (.slice ad xs.length c) xs) {k : Nat} (hk : k < xs.length) : ∃ b off, ad = some ⟨b, off, none⟩ ∧ b < w.heap.size ∧ w.cell? ⟨b, off + k, none⟩ = some (.int .i64 (wd xs k)) := by
  obtain ⟨ad', c', e, h2⟩ := h
  injection e with e1 _ e3
  subst e1
  obtain ⟨b, off, e, hl, hc⟩ := h2 (by omega)
  exact ⟨b, off, e, hl, hc k hk⟩
theorem box2h {w w' : World} {x y : Value} {t : TypeId} (hb : Below (w.alloc (.cells #[x, y] t)).heap.size (w.alloc (.cells #[x, y] t)) w') : w'.cell? ⟨w.heap.size, 0, none⟩ = some x ∧ w'.cell? ⟨w.heap.size, 1, none⟩ = some y ∧ w.heap.size < w'.heap.size := by
  have hs := hb.size
  simp at hs
  exact ⟨by rw [hb.cell (p := ⟨w.heap.size, 0, none⟩) (by simp)]; simp, by rw [hb.cell (p := ⟨w.heap.size, 1, none⟩) (by simp)]; simp, by omega⟩
end Go.Proofs.Ytabniplgibfgeaa
