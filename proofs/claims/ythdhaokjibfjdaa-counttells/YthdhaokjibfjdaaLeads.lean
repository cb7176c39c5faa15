/- reach.Leads: what who reaches a thing comes to from there. -/
import Derived.Test.YthdhaokjibfjdaaLook
import Derived.Test.YthdhaokjibfjdaaCome
import Derived.Laws.AppendOwnNone
namespace Go.Proofs.Ythdhaokjibfjdaa
open Go.RowKit

/-- Numbers in memory of their own. -/
def NumsAns (B : Nat) (ys : List Int) (e : Ending) (w : World) : Prop := ∃ g c, e = .returned (sl g ys.length c) ∧ B ≤ g ∧ w.ownsRow 0 3 1 (sl g ys.length c) ys.length (vals ys)

theorem leads_else (c h f : Int) (ad : Option Addr) (n cc : Nat) (w : World) (hf : f ≠ 0) :
    Calls Try.prog 43 #[thingV c h f (.slice ad n cc)] w fun e w' => NumsAns w.heap.size [c] e w' ∧ Below w.heap.size w w' := by
  have hb : (f == 0) = false := by simpa using hf
  clear hf
  go_enter Try.func43, Try.ntmps43
  go_wp2
  go_ret
  exact ⟨⟨w.heap.size + 1, 1, rfl, by omega, by have := own_one (w.alloc (.cells #[.int .i64 c, .int .i64 h, .int .i64 f, .slice ad n cc] 79)) (.int .i64 c); simpa using this⟩, ((Below.refl _ _).alloc (Nat.le_refl _) _).alloc (by simp) _⟩

set_option maxHeartbeats 1000000 in
theorem leads_none (c h : Int) (ad : Option Addr) (cc : Nat) (w : World) :
    Calls Try.prog 43 #[thingV c h 0 (.slice ad 0 cc)] w fun e w' => NumsAns w.heap.size [c] e w' ∧ Below w.heap.size w w' := by
  have hown := own_one (w.alloc (.cells #[.int .i64 c, .int .i64 h, .int .i64 0, .slice ad 0 cc] 79)) (.int .i64 c)
  cases ad with
  | some a =>
    go_enter Try.func43, Try.ntmps43
    go_wp2
    go_ret
    exact ⟨⟨w.heap.size + 1, 1, rfl, by omega, by simpa using hown⟩, ((Below.refl _ _).alloc (Nat.le_refl _) _).alloc (by simp) _⟩
  | none =>
    go_enter Try.func43, Try.ntmps43
    go_wp2
    go_ret
    exact ⟨⟨w.heap.size + 1, 1, rfl, by omega, by simpa using hown⟩, ((Below.refl _ _).alloc (Nat.le_refl _) _).alloc (by simp) _⟩

theorem news_own {w : World} {g c : Nat} {xs : List Int} (h : w.ownsRow 0 3 1 (sl g xs.length c) xs.length (vals xs)) : ∀ j u, (vals xs)[j]? = some u → w.cell? ((⟨g, 0, none⟩ : Addr).add j) = some u := h.cells (g := g) rfl

set_option maxHeartbeats 1000000 in
theorem leads_some (c h : Int) (xs : List Int) (g cc : Nat) (w : World) (hg : w.ownsRow 0 3 1 (sl g xs.length cc) xs.length (vals xs)) (hl : xs.length ≤ 2000) :
    Calls Try.prog 43 #[thingV c h 0 (sl g xs.length cc)] w fun e w' => NumsAns w.heap.size (c :: xs) e w' ∧ Below w.heap.size w w' := by
  obtain ⟨i0, hi, hz0, hz1, hz2⟩ := info_parts info3
  have hown := own_mono' (own_one (w.alloc (.cells #[.int .i64 c, .int .i64 h, .int .i64 0, sl g xs.length cc] 79)) (.int .i64 c)) (B := w.heap.size + 1) (by simp)
  have hown' : ((w.alloc (.cells #[.int .i64 c, .int .i64 h, .int .i64 0, sl g xs.length cc] 79)).alloc (.cells #[.int .i64 c] 3)).ownsRow (w.heap.size + 1) 3 1 (sl (w.heap.size + 1) 1 1) 1 [.int .i64 c] := by simpa using hown
  clear hown
  have hnews := news_own (w := (w.alloc (.cells #[.int .i64 c, .int .i64 h, .int .i64 0, sl g xs.length cc] 79)).alloc (.cells #[.int .i64 c] 3)) (hg.alloc _ |>.alloc _)
  go_enter Try.func43, Try.ntmps43
  go_wp2_with (at_builtin; refine wpList_append_own _ rfl (.tmp 10) (.tmp 12) 22 rfl (w.heap.size + 1) 3 i0 (.int .i64 0) 1 8 ty30 hi hz0 hz1 hz2 rfl (by decide) (sl (w.heap.size + 1) 1 1) 1 [.int .i64 c] rfl hown' ⟨g, 0, none⟩ xs.length cc (vals xs) rfl (by simp) hnews (ints_oneCell .i64 xs) (by unfold maxLen; omega) (by omega) (by simp) ?_; intro v' w3 hown3 hgrow3 hnil3; obtain ⟨g3, c3, hv3, hg3, hown4⟩ := own_shape hown3 (fun e => by have := (hnil3.1 e).1; cases this); subst hv3)
  go_ret
  refine ⟨⟨g3, c3, by simp [Nat.add_comm], by omega, by simpa [vals, Nat.add_comm] using hown4⟩, ?_⟩
  exact (((Below.refl _ _).alloc (Nat.le_refl _) _).alloc (by simp) _).grown hgrow3 (by simp; omega) (fun k hk => by simp [Value.ownBlock] at hk; omega)

theorem leads_any (W : List Int) (p B : Nat) (v : Value) (w : World) (hs : SlotsOwn B (slotsOf W p) v w) (hl : (slotsOf W p).length ≤ 2000) :
    Calls Try.prog 43 #[thingV (wd W p) (wd W (p + 1)) (formAt W p) v] w fun e w' => NumsAns w.heap.size (leadsAt W p) e w' ∧ Below w.heap.size w w' := by
  obtain ⟨ad, cc, rfl, hs⟩ := hs
  by_cases hf : formAt W p = 0
  · have e : leadsAt W p = wd W p :: slotsOf W p := by unfold leadsAt slotsOf; rw [if_pos hf]
    rw [hf, e]
    by_cases h0 : 0 < (slotsOf W p).length
    · obtain ⟨g, rfl, _, hown⟩ := hs h0
      exact leads_some _ _ _ _ _ _ hown hl
    · have e0 : slotsOf W p = [] := List.eq_nil_of_length_eq_zero (by omega)
      rw [e0]; exact leads_none _ _ _ _ _
  · have e : leadsAt W p = [wd W p] := by unfold leadsAt; rw [if_neg hf]
    rw [e]; exact leads_else _ _ _ _ _ _ _ hf

theorem own_form {w : World} {B n : Nat} {v : Value} {xs : List Value} (h : w.ownsRow B 3 1 v n xs) : ∃ ad c, v = .slice ad n c := by
  rcases h.2 with ⟨rfl, rfl⟩ | ⟨g, cap, cur, rfl, _⟩
  · exact ⟨none, 0, rfl⟩
  · exact ⟨_, _, rfl⟩

theorem leads_wf {W : List Int} {p : Nat} (h : ∀ k, (Lit.int .i64 (wd W k)).wf = true) (k : Nat) : (Lit.int .i64 (wd (leadsAt W p) k)).wf = true := by
  have h0 : (Lit.int .i64 0).wf = true := by decide
  by_cases hk : k < (leadsAt W p).length
  · have hm := wd_mem hk
    generalize wd (leadsAt W p) k = x at hm ⊢
    unfold leadsAt at hm
    rcases List.mem_cons.1 hm with e | hm
    · rw [e]; exact h p
    · split at hm
      · obtain ⟨j, hj, e⟩ := List.getElem_of_mem (List.mem_of_mem_drop (List.mem_of_mem_take hm))
        have : wd W j = W[j] := by unfold wd; rw [List.getD_eq_getElem?_getD, List.getElem?_eq_getElem hj]; rfl
        rw [e] at this
        rw [← this]; exact h j
      · cases hm
  · have : wd (leadsAt W p) k = 0 := by
      unfold wd; rw [List.getD_eq_getElem?_getD, List.getElem?_eq_none (by omega)]; rfl
    rw [this]; exact h0
theorem leads_length {W : List Int} {p : Nat} : (leadsAt W p).length ≤ W.length + 1 := by
  unfold leadsAt
  split
  · simp [List.length_take, List.length_drop]; omega
  · simp
theorem leads_pos {W : List Int} {p : Nat} : 0 < (leadsAt W p).length := by simp [leadsAt]

end Go.Proofs.Ythdhaokjibfjdaa
