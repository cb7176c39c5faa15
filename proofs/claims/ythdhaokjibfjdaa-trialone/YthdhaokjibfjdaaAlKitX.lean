/- TriAlone: what its walk needs. -/
import Derived.Test.YthdhaokjibfjdaaAlMemX
import Derived.Test.YthdhaokjibfjdaaReachGoX
import Derived.Test.YthdhaokjibfjdaaKeepIntsX
import Derived.Test.YthdhaokjibfjdaaGl
namespace Go.Proofs.Ythdhaokjibfjdaa
open Go.RowKit

theorem op_news (w : World) (t : TypeId) : ∀ j u, opCells[j]? = some u → (w.alloc (.cells #[.int .i64 1, .int .i64 0, .int .i64 0, .int .i64 0, .int .i64 0, .int .i64 0] t)).cell? ((⟨w.heap.size, 0, none⟩ : Addr).add j) = some u := fun j u hj => by
  have e : (⟨w.heap.size, 0, none⟩ : Addr).add j = ⟨w.heap.size, 0 + j, none⟩ := by
    unfold Addr.add
    split
    · rename_i h0; rw [h0]
    · rfl
  rw [e, Nat.zero_add, cell_at2 rfl]
  rw [← hj]
  rcases j with _ | _ | _ | _ | _ | _ | j
  all_goals rfl
theorem op_one : ∀ u ∈ opCells, u.oneCell' = true := by decide
theorem root9 (w : World) : RootsAt (some ⟨w.heap.size, 0, none⟩) [10] (w.alloc (.cells #[.int .i64 10] 3)) := fun _ => by
  refine ⟨w.heap.size, 0, rfl, by simp, fun k hk => ?_, fun k => wf_mk (xs := [10]) (by decide) k⟩
  have hk1 : k < 1 := hk
  rw [cell_at2 (by simp), Nat.zero_add]
  match k, hk1 with
  | 0, _ => rfl
/-- A fault's box. -/
def Fx (w : World) (X : Nat) (a b : Value) : Prop := w.heap[X]? = some (.cells #[a, b] 33 (0, 0))
theorem Fx.new (w : World) (a b : Value) : Fx (w.alloc (.cells #[a, b] 33)) w.heap.size a b := heap_alloc_new w _
theorem Fx.lt {w : World} {X : Nat} {a b : Value} (h : Fx w X a b) : X < w.heap.size := (Array.getElem?_eq_some_iff.1 h).1
theorem Fx.same {w w' : World} {X : Nat} {a b : Value} (h : Fx w X a b) (hb : Below w.heap.size w w') : Fx w' X a b := (hb.block X h.lt).trans h
theorem Fx.cells {w : World} {X : Nat} {a b : Value} (h : Fx w X a b) : (w.cell? ⟨X, 0, none⟩ = some a ∧ w.cell? ⟨X, 1, none⟩ = some b) ∧ ∀ k, w.frozen? ⟨X, k, none⟩ = false :=
  ⟨⟨cell_of_row _ _ _ _ _ _ h, cell_of_row _ _ _ _ _ _ h⟩, fun _ => frozen_of_row _ _ _ _ _ h⟩
theorem play9_any (A A1 g c : Nat) (w : World) (h1 : Row w A 0 W9) (h2 : RootsAt (some ⟨A1, 0, none⟩) [10] w) (h3 : OpsAt (some ⟨g, 0, none⟩) (List.replicate 667 scan1) w) :
    Calls Try.prog 6 #[heapV (some ⟨A, 0, none⟩) 9 9, .slice (some ⟨A1, 0, none⟩) 1 1, .slice (some ⟨g, 0, none⟩) 667 c] w fun e w' => (∃ a0 n0 c0 a1 n1 c1 a2 n2 c2 g4 c4, e = .returned (.tuple #[.agg #[.slice a0 n0 c0, .slice a1 n1 c1, .slice a2 n2 c2, .bool true, sl g4 1 c4], .agg #[.int .i64 0, .int .i64 0]]) ∧ w'.cell? ⟨g4, 0, none⟩ = some (.int .i64 4) ∧ g4 < w'.heap.size) ∧ Below w.heap.size w w' := by
  have hp := tplay_own W9 [10] (List.replicate 667 scan1) (some ⟨A, 0, none⟩) (some ⟨A1, 0, none⟩) (some ⟨g, 0, none⟩) 9 1 c w (fun _ => ⟨A, 0, rfl, h1⟩) h2 h3 (by decide) (by rw [List.length_replicate]; decide) roots9
  rw [List.length_replicate] at hp
  refine hp.mono fun e w' h => ⟨?_, h.2⟩
  obtain ⟨v0, v1, v2, v4, he, hA⟩ := h.1
  obtain ⟨hd, hf⟩ := play9 667 (by decide)
  obtain ⟨a0, c0, e0⟩ := own_form hA.words
  obtain ⟨a1, c1, e1⟩ := own_form hA.roots
  obtain ⟨a2, c2, e2⟩ := own_form hA.cols
  have h4 := hA.freed
  rw [hf] at h4
  obtain ⟨g4, c4, e4, _, hown⟩ := own_shape h4 (fun e => by have := h4.1; rw [e] at h4; rcases h4.2 with ⟨_, h0⟩ | ⟨_, _, _, h0, _⟩; simp at h0; cases h0)
  rw [hd, e0, e1, e2, e4] at he
  exact ⟨_, _, _, _, _, _, _, _, _, g4, c4, he, own_cell (W := [4]) hown (by decide), own_lt hown⟩
theorem stored7 {w : World} {X : Nat} {p0 p1 p2 p3 p4 x y : Value} (qp : Bx w X p0 p1 p2 p3 p4) (qf : Fx w (X + 1) x y) (a0 a1 a2 a3 a4 b0 b1 : Value) {w7 : World}
    (e : w7 = ((((((w.setCell ⟨X, 0, none⟩ a0).setCell ⟨X, 1, none⟩ a1).setCell ⟨X, 2, none⟩ a2).setCell ⟨X, 3, none⟩ a3).setCell ⟨X, 4, none⟩ a4).setCell ⟨X + 1, 0, none⟩ b0).setCell ⟨X + 1, 1, none⟩ b1) :
    Bx w7 X a0 a1 a2 a3 a4 ∧ Fx w7 (X + 1) b0 b1 ∧ Below X w w7 ∧ ∀ k, k ≠ X → k ≠ X + 1 → w7.heap[k]? = w.heap[k]? := by
  subst e
  have h5 := qp.put a0 a1 a2 a3 a4
  refine ⟨?_, ?_, ?_, fun k h1 h2 => ?_⟩
  · exact (Below.heap_setCell _ _ _ _ (by dsimp only; omega)).trans ((Below.heap_setCell _ _ _ _ (by dsimp only; omega)).trans h5)
  · have hf : Fx (((((w.setCell ⟨X, 0, none⟩ a0).setCell ⟨X, 1, none⟩ a1).setCell ⟨X, 2, none⟩ a2).setCell ⟨X, 3, none⟩ a3).setCell ⟨X, 4, none⟩ a4) (X + 1) x y := (set5 (by omega)).trans qf
    have hf1 : Fx ((((((w.setCell ⟨X, 0, none⟩ a0).setCell ⟨X, 1, none⟩ a1).setCell ⟨X, 2, none⟩ a2).setCell ⟨X, 3, none⟩ a3).setCell ⟨X, 4, none⟩ a4).setCell ⟨X + 1, 0, none⟩ b0) (X + 1) b0 y := heap_setCell_same _ _ _ _ _ _ hf
    exact heap_setCell_same _ _ _ _ _ _ hf1
  · exact ((below_set5 (Below.refl X w) (Nat.le_refl _)).setCell (p := ⟨X + 1, 0, none⟩) (Nat.le_succ _) _).setCell (p := ⟨X + 1, 1, none⟩) (Nat.le_succ _) _
  · exact (Below.heap_setCell _ _ _ _ h2).trans ((Below.heap_setCell _ _ _ _ h2).trans (set5 h1))
theorem playA_any (W roots : List Int) (ad rad : Option Addr) (cap rcap g c : Nat) (w : World) (hr : WordsAt ad W w) (hroots : RootsAt rad roots w) (ho : OpsAt (some ⟨g, 0, none⟩) (List.replicate 667 scan1) w) (hrl : roots.length ≤ 5000) (h : (rootsOf W roots).1 = 0) :
    Calls Try.prog 6 #[heapV ad W.length cap, .slice rad roots.length rcap, .slice (some ⟨g, 0, none⟩) 667 c] w fun e w' => (∃ a0 n0 c0 a1 n1 c1 a2 c2 a4 c4, e = .returned (.tuple #[.agg #[.slice a0 n0 c0, .slice a1 n1 c1, .slice a2 (places W 2).length c2, .bool true, .slice a4 (goneL W roots).length c4], .agg #[.int .i64 0, .int .i64 0]]) ∧ w'.ownsRow w.heap.size 3 1 (.slice a4 (goneL W roots).length c4) (goneL W roots).length (vals (goneL W roots))) ∧ Below w.heap.size w w' := by
  have hp := tplay_own W roots (List.replicate 667 scan1) ad rad (some ⟨g, 0, none⟩) cap rcap c w hr hroots ho hrl (by rw [List.length_replicate]; decide) h
  rw [List.length_replicate] at hp
  obtain ⟨hc, _, _⟩ := roots_zero h
  have hok := ok_rootsOf h
  have hf := fine_of hc
  have hn : (places W 2).length ≤ (List.replicate 667 scan1).length := by
    rw [List.length_replicate]
    have := places_third hf.fit (front_out (check_fine hc).1).1
    have := hf.few
    omega
  have hd := alone_done (R := roots) (scans_kind 667) hn
  have hg := alone_gone hc hok (scans_kind 667) hn
  have hcl := alone_colours (W := W) (R := roots) (scans_kind 667)
  refine hp.mono fun e w' h => ⟨?_, h.2⟩
  obtain ⟨v0, v1, v2, v4, he, hA⟩ := h.1
  obtain ⟨a0, c0, a1, c1, a2, c2, a4, c4, e0, e1, e2, e4⟩ := hA.forms
  have h4 := hA.freed
  rw [e4, hg] at h4
  rw [hd, e0, e1, e2, e4, hcl, hg] at he
  exact ⟨_, _, _, _, _, _, _, _, a4, c4, he, h4⟩
end Go.Proofs.Ythdhaokjibfjdaa
