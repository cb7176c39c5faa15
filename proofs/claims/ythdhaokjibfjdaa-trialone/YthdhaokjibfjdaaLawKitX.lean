/- What the laws share: what comes in, what is too vast, heaps held against each other. -/
import Derived.Test.YthdhaokjibfjdaaFrameX
import Derived.Test.YthdhaokjibfjdaaRefRootsX
import Derived.Test.YthdhaokjibfjdaaRefReachX
import Derived.Test.YthdhaokjibfjdaaRSeeX
import Derived.Test.YthdhaokjibfjdaaGh
namespace Go.Proofs.Ythdhaokjibfjdaa
open Go.ChangeShapes Go.WideShapes Go.ChangeAt Go.RowKit Go.Joins Go.Deep

theorem grew1 {w w' : World} {o : Obj} (hb : Below (w.alloc o).heap.size (w.alloc o) w') : w.heap.size < w'.heap.size := by
  have := hb.size; simp at this; omega
theorem WordsAt.below {W : List Int} {ad : Option Addr} {w w' : World} (hr : WordsAt ad W w) (hb : Below w.heap.size w w') : WordsAt ad W w' :=
  fun h => let ⟨b, off, e, r⟩ := hr h; ⟨b, off, e, r.same hb⟩
theorem lvast_yes (ad rad : Option Addr) (n cap rn rc : Nat) (w : World) (hm : n ≤ maxLen) (hrm : rn ≤ maxLen) (h : 5000 < n ∨ 5000 < rn) :
    Calls Try.prog 10 #[.agg #[.slice ad n cap], .slice rad rn rc, .slice none 0 0] w fun e w' => e = .returned (.bool true) ∧ Below w.heap.size w w' := by
  unfold maxLen at hm hrm
  have hw : (5000 : Int) < (n : Int) ∨ (¬ ((5000 : Int) < (n : Int)) ∧ (5000 : Int) < (rn : Int)) := by omega
  clear h
  rcases hw with h1 | ⟨h1, h2⟩
  all_goals
    go_enter Try.func10, Try.ntmps10
    go_wp2
    go_ret
    exact ⟨rfl, (Below.refl _ _).alloc (Nat.le_refl _) _⟩
theorem lvast_no (ad rad : Option Addr) (n cap rn rc : Nat) (w : World) (h1 : n ≤ 5000) (h2 : rn ≤ 5000) :
    Calls Try.prog 10 #[.agg #[.slice ad n cap], .slice rad rn rc, .slice none 0 0] w fun e w' => e = .returned (.bool false) ∧ Below w.heap.size w w' := by
  have a1 : ¬ ((5000 : Int) < (n : Int)) := by omega
  have a2 : ¬ ((5000 : Int) < (rn : Int)) := by omega
  go_enter Try.func10, Try.ntmps10
  go_wp2
  go_ret
  exact ⟨ret_bool (by simp), (Below.refl _ _).alloc (Nat.le_refl _) _⟩
theorem kvast_yes (ad rad : Option Addr) (n cap rn rc : Nat) (w : World) (hm : n ≤ maxLen) (hrm : rn ≤ maxLen) (h : 5000 < n ∨ 5000 < rn) :
    Calls Try.prog 5 #[.agg #[.slice ad n cap], .slice rad rn rc, .slice none 0 0] w fun e w' => e = .returned (.bool true) ∧ Below w.heap.size w w' := by
  unfold maxLen at hm hrm
  have hw : (5000 : Int) < (n : Int) ∨ (¬ ((5000 : Int) < (n : Int)) ∧ (5000 : Int) < (rn : Int)) := by omega
  clear h
  rcases hw with h1 | ⟨h1, h2⟩
  all_goals
    go_enter Try.func5, Try.ntmps5
    go_wp2
    go_ret
    exact ⟨rfl, (Below.refl _ _).alloc (Nat.le_refl _) _⟩
theorem kvast_no (ad rad : Option Addr) (n cap rn rc : Nat) (w : World) (h1 : n ≤ 5000) (h2 : rn ≤ 5000) :
    Calls Try.prog 5 #[.agg #[.slice ad n cap], .slice rad rn rc, .slice none 0 0] w fun e w' => e = .returned (.bool false) ∧ Below w.heap.size w w' := by
  have a1 : ¬ ((5000 : Int) < (n : Int)) := by omega
  have a2 : ¬ ((5000 : Int) < (rn : Int)) := by omega
  go_enter Try.func5, Try.ntmps5
  go_wp2
  go_ret
  exact ⟨ret_bool (by simp), (Below.refl _ _).alloc (Nat.le_refl _) _⟩
theorem boxes12 {w w' : World} {x y z : Value} {t t' : TypeId} (hb : Below ((w.alloc (.cells #[x] t)).alloc (.cells #[y, z] t')).heap.size ((w.alloc (.cells #[x] t)).alloc (.cells #[y, z] t')) w') :
    w'.cell? ⟨w.heap.size, 0, none⟩ = some x ∧ w'.cell? ⟨w.heap.size + 1, 0, none⟩ = some y ∧ w'.cell? ⟨w.heap.size + 1, 1, none⟩ = some z ∧ w.heap.size + 1 < w'.heap.size := by
  have hs := hb.size
  refine ⟨?_, ?_, ?_, by simp at hs; omega⟩
  · rw [hb.cell (p := ⟨w.heap.size, 0, none⟩) (by simp; omega), cell_past _ (by simp), cell_at2 rfl]; rfl
  · rw [hb.cell (p := ⟨w.heap.size + 1, 0, none⟩) (by simp), cell_at2 (by simp)]; rfl
  · rw [hb.cell (p := ⟨w.heap.size + 1, 1, none⟩) (by simp), cell_at2 (by simp)]; rfl

theorem ok_all' {W roots : List Int} (n k : Nat) : k + n = roots.length → badRoot W roots k n = none → ∀ j, k ≤ j → j < roots.length → okRef W (wd roots j) := by
  induction n generalizing k with
  | zero => intro h _ j h1 h2; omega
  | succ n ih =>
    intro hk hb j h1 h2
    cases hf : fitsRef W (wd roots k) with
    | false => rw [root_no hf] at hb; cases hb
    | true =>
      rw [root_yes hf] at hb
      by_cases hj : j = k
      · subst hj; exact hf
      · exact ih (k + 1) (by omega) hb j (by omega) h2
theorem ok_rootsOf {W roots : List Int} (h : (rootsOf W roots).1 = 0) : ∀ x ∈ roots, okRef W x := fun x hx => by
  obtain ⟨_, hb, _⟩ := roots_zero h
  obtain ⟨j, hj, e⟩ := List.getElem_of_mem hx
  have := ok_all' roots.length 0 (by omega) hb j (Nat.zero_le _) hj
  have he : wd roots j = x := by unfold wd; simp [hj, e]
  rw [he] at this; exact this
theorem bad_ok {W roots : List Int} (h : ∀ x ∈ roots, okRef W x) : ∀ (n k : Nat), k + n = roots.length → badRoot W roots k n = none
  | 0, k, _ => rfl
  | n + 1, k, hk => by
    have hf : fitsRef W (wd roots k) = true := h _ (wd_mem (by omega))
    rw [root_yes hf]; exact bad_ok h n (k + 1) (by omega)
theorem rootsOf_ok {W roots : List Int} (h : (checkOf W).1 = 0) (hr : ∀ x ∈ roots, okRef W x) : rootsOf W roots = (0, 0) := roots_ok h (bad_ok hr _ 0 (by omega))

set_option maxRecDepth 100000 in
/-- Numbers that came in. -/
theorem open_ints' {H : Type} {enc : TypeId × Value → H} {w : World} {base b0 : Nat} {spare : Nat → Bool} {held : Bool} {r : Reach} {v : Value} {d : DataW H} {p : List MemPlace} (hv : Value.okWide Try.prog w r b0 22 v) (h : DataW.Trod enc Try.prog w base spare held 22 v d p) :
    ∃ (ad : Option Addr) (cap : Nat) (R : List Int), v = .slice ad R.length cap ∧ R.length ≤ maxLen ∧ RootsAt ad R w := by
  obtain ⟨a, l, c, rfl⟩ := okWide_slice lt30 hv
  obtain ⟨fuel, hf⟩ := h
  have hy : DataW.trod enc Try.prog w base spare held fuel 22 [.slice a l c] = some (d, p) := by simpa [Value.cells] using hf
  obtain ⟨hm, R, rfl, hr⟩ := open_nums hy
  exact ⟨a, c, R, rfl, hm, fun h0 => hr (by omega)⟩

end Go.Proofs.Ythdhaokjibfjdaa
