/- What the laws of chapter 5 share: what is too vast, where answers stand. -/
import Derived.Test.YtgggmdanpdggpacLawKit
import Derived.Test.YtgggmdanpdggpacBecomeAny
namespace Go.Proofs.Ytgggmdanpdggpac
open Go.ChangeShapes Go.WideShapes Go.ChangeAt Go.RowKit Go.Joins Go.Deep

theorem kvast3_yes (ad rad fad : Option Addr) (n cap rn rc m fc : Nat) (w : World) (hm : n ≤ maxLen) (hrm : rn ≤ maxLen) (hfm : m ≤ maxLen) (h : 5000 < n ∨ 5000 < rn ∨ 5000 < m) :
    Calls Try.prog 5 #[.agg #[.slice ad n cap], .slice rad rn rc, .slice fad m fc] w fun e w' => e = .returned (.bool true) ∧ Below w.heap.size w w' := by
  unfold maxLen at hm hrm hfm
  have hw : (5000 : Int) < (n : Int) ∨ (¬ ((5000 : Int) < (n : Int)) ∧ (5000 : Int) < (rn : Int)) ∨ (¬ ((5000 : Int) < (n : Int)) ∧ ¬ ((5000 : Int) < (rn : Int)) ∧ (5000 : Int) < (m : Int)) := by omega
  clear h
  rcases hw with h1 | ⟨h1, h2⟩ | ⟨h1, h2, h3⟩
  all_goals
    go_enter Try.func5, Try.ntmps5
    go_wp2
    go_ret
    exact ⟨rfl, (Below.refl _ _).alloc (Nat.le_refl _) _⟩
theorem kvast3_no (ad rad fad : Option Addr) (n cap rn rc m fc : Nat) (w : World) (h1 : n ≤ 5000) (h2 : rn ≤ 5000) (h3 : m ≤ 5000) :
    Calls Try.prog 5 #[.agg #[.slice ad n cap], .slice rad rn rc, .slice fad m fc] w fun e w' => e = .returned (.bool false) ∧ Below w.heap.size w w' := by
  have a1 : ¬ ((5000 : Int) < (n : Int)) := by omega
  have a2 : ¬ ((5000 : Int) < (rn : Int)) := by omega
  have a3 : ¬ ((5000 : Int) < (m : Int)) := by omega
  go_enter Try.func5, Try.ntmps5
  go_wp2
  go_ret
  exact ⟨ret_bool (by simp), (Below.refl _ _).alloc (Nat.le_refl _) _⟩
/-- What One answers, whatever it is. -/
def AnyAns (e : Ending) : Prop := ∃ ad n c v, ∃ (A B : Int), e = .returned (.tuple #[.agg #[.slice ad n c], v, .agg #[.int .i64 A, .int .i64 B]])
theorem one_weak (W F T roots : List Int) (ad fad tad rad : Option Addr) (cap fc tc rcap : Nat) (w : World) (hm : W.length ≤ maxLen) (hr : WordsAt ad W w) (hF : RootsAt fad F w) (hT : RootsAt tad T w) (hroots : RootsAt rad roots w) (hn : F.length ≤ 5000) (hrl : roots.length ≤ 5000) :
    Calls Try.prog 7 #[heapV ad W.length cap, .slice fad F.length fc, .slice tad T.length tc, .slice rad roots.length rcap] w fun e w' => AnyAns e ∧ Below w.heap.size w w' := by
  by_cases h : (becFault W roots F T false).1 = 0
  · refine (one_yes W F T roots ad fad tad rad cap fc tc rcap w hr hF hT hroots hn hrl h).mono fun e w' hp => ⟨?_, hp.2⟩
    obtain ⟨g, c, g', c', rfl, _⟩ := hp.1
    exact ⟨_, _, _, _, _, _, rfl⟩
  · exact (one_fault W F T roots ad fad tad rad cap fc tc rcap w hm hr hF hT hroots hn hrl h).mono fun e w' hp => ⟨⟨_, _, _, _, _, _, hp.1⟩, hp.2⟩

/-- An answer that stands in two boxes from block X on, in a world that has come of w0. -/
structure Stand (X : Nat) (a v : Value) (A B : Int) (w0 w : World) : Prop where
  bel : Below w0.heap.size w0 w
  box : w.cell? ⟨w0.heap.size, 0, none⟩ = some a
  hp : w.cell? ⟨X, 0, none⟩ = some v
  fa : w.cell? ⟨X + 1, 0, none⟩ = some (.int .i64 A)
  fb : w.cell? ⟨X + 1, 1, none⟩ = some (.int .i64 B)
  zh : w.frozen? ⟨X, 0, none⟩ = false
  za : w.frozen? ⟨X + 1, 0, none⟩ = false
  zb : w.frozen? ⟨X + 1, 1, none⟩ = false
  lo : w0.heap.size < X
  hi : X + 1 < w.heap.size
theorem Stand.below {X : Nat} {a v : Value} {A B : Int} {w0 w w' : World} (h : Stand X a v A B w0 w) (hb : Below w.heap.size w w') : Stand X a v A B w0 w' := by
  have l1 := h.lo
  have l2 := h.hi
  refine ⟨h.bel.trans (hb.mono h.bel.size), through hb h.box ?_, through hb h.hp ?_, through hb h.fa ?_, through hb h.fb ?_, throughF hb h.zh ?_, throughF hb h.za ?_, throughF hb h.zb ?_, l1, Nat.lt_of_lt_of_le l2 hb.size⟩ <;> (dsimp only; omega)
theorem Stand.new {a v : Value} {A B : Int} {w0 w : World} {t t' : TypeId} (hb : Below w0.heap.size w0 w) (ha : w.cell? ⟨w0.heap.size, 0, none⟩ = some a) (hz : w0.heap.size < w.heap.size) : Stand w.heap.size a v A B w0 ((w.alloc (.cells #[v] t)).alloc (.cells #[.int .i64 A, .int .i64 B] t')) := by
  have h1 : Below w.heap.size w ((w.alloc (.cells #[v] t)).alloc (.cells #[.int .i64 A, .int .i64 B] t')) := ((Below.refl _ _).alloc (Nat.le_refl _) _).alloc (by simp) _
  refine ⟨hb.trans (h1.mono hb.size), through h1 ha hz, ?_, ?_, ?_, ?_, ?_, ?_, hz, by simp⟩
  · rw [cell_past _ (by simp), cell_at2 rfl]; rfl
  · rw [cell_at2 (by simp)]; rfl
  · rw [cell_at2 (by simp)]; rfl
  · rw [frozen_past _ (by simp), frozen_at2 rfl]
  · rw [frozen_at2 (by simp)]
  · rw [frozen_at2 (by simp)]
theorem Stand.set {X : Nat} {a v : Value} {A B : Int} {w0 w : World} (h : Stand X a v A B w0 w) (v' : Value) (A' B' : Int) : Stand X a v' A' B' w0 (((w.setCell ⟨X, 0, none⟩ v').setCell ⟨X + 1, 0, none⟩ (.int .i64 A')).setCell ⟨X + 1, 1, none⟩ (.int .i64 B')) := by
  have l1 := h.lo
  have l2 := h.hi
  refine ⟨((h.bel.setCell (p := ⟨X, 0, none⟩) (by dsimp only; omega) _).setCell (p := ⟨X + 1, 0, none⟩) (by dsimp only; omega) _).setCell (p := ⟨X + 1, 1, none⟩) (by dsimp only; omega) _, ?_, ?_, ?_, ?_, ?_, ?_, ?_, l1, by simpa [World.setCell] using l2⟩
  · rw [World.cell?_setCell_other _ _ _ _ (by simp), World.cell?_setCell_other _ _ _ _ (by simp), World.cell?_setCell_other _ _ _ _ (by simp)]; exact h.box
  · rw [World.cell?_setCell_other _ _ _ _ (by simp), World.cell?_setCell_other _ _ _ _ (by simp)]
    exact World.cell?_setCell_same' _ _ _ (by rw [h.hp]; rfl)
  · rw [World.cell?_setCell_other _ _ _ _ (by simp)]
    exact World.cell?_setCell_same' _ _ _ (by rw [World.cell?_setCell_other _ _ _ _ (by simp), h.fa]; rfl)
  · exact World.cell?_setCell_same' _ _ _ (by rw [World.cell?_setCell_other _ _ _ _ (by simp), World.cell?_setCell_other _ _ _ _ (by simp), h.fb]; rfl)
  · simpa using h.zh
  · simpa using h.za
  · simpa using h.zb
/-- A box of two cells, and that it can be written. -/
theorem box2F {w w' : World} {x y : Value} {t : TypeId} (hb : Below (w.alloc (.cells #[x, y] t)).heap.size (w.alloc (.cells #[x, y] t)) w') :
    w'.cell? ⟨w.heap.size, 0, none⟩ = some x ∧ w'.cell? ⟨w.heap.size, 1, none⟩ = some y ∧ w'.frozen? ⟨w.heap.size, 0, none⟩ = false ∧ w'.frozen? ⟨w.heap.size, 1, none⟩ = false ∧ w.heap.size < w'.heap.size := by
  have hs := hb.size
  refine ⟨?_, ?_, ?_, ?_, by simp at hs; omega⟩
  · rw [hb.cell (p := ⟨w.heap.size, 0, none⟩) (by simp), cell_at2 rfl]; rfl
  · rw [hb.cell (p := ⟨w.heap.size, 1, none⟩) (by simp), cell_at2 rfl]; rfl
  · rw [hb.frozen (p := ⟨w.heap.size, 0, none⟩) (by simp), frozen_at2 rfl]
  · rw [hb.frozen (p := ⟨w.heap.size, 1, none⟩) (by simp), frozen_at2 rfl]
end Go.Proofs.Ytgggmdanpdggpac
