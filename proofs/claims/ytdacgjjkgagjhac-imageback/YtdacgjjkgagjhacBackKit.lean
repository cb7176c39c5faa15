/- What ImageBack's walk stands on. -/
import Derived.Test.YtdacgjjkgagjhacOpenB
namespace Go.Proofs.Ytdacgjjkgagjhac
open Go.ChangeShapes Go.WideShapes Go.ChangeAt Go.RowKit Go.Joins Go.Deep

theorem roots_first : (rootsOf [0, 1] []).1 = 0 := by decide +kernel
theorem image_first : imageB [0, 1] [] = [71, 69, 4, 0, 2, 0] := by
  simp [imageB, listB, numB, zig, enc_low]
theorem row_first (w : World) : Row (w.alloc (.cells #[.int .i64 0, .int .i64 1] 3)) w.heap.size 0 [0, 1] := by
  refine ⟨by simp, fun k hk => ?_, fun k => ?_⟩
  · rw [Nat.zero_add, cell_at2 rfl]
    have : k = 0 ∨ k = 1 := by simp at hk; omega
    rcases this with rfl | rfl <;> rfl
  · by_cases h : k < 2
    · have : k = 0 ∨ k = 1 := by omega
      rcases this with rfl | rfl <;> decide
    · have : wd [0, 1] k = 0 := by unfold wd; rw [List.getD_eq_getElem?_getD, List.getElem?_eq_none (by simp; omega)]; rfl
      rw [this]; decide
theorem iwrite_first (g : Nat) (w0 : World) (h : Row w0 g 0 [0, 1]) : Calls Try.prog 12 #[heapV (some ⟨g, 0, none⟩) 2 2, .slice none 0 0] w0 fun e w' => WriteAns w0.heap.size [71, 69, 4, 0, 2, 0] e w' ∧ Below w0.heap.size w0 w' := by
  have := iwrite_good [0, 1] [] (some ⟨g, 0, none⟩) none 2 0 w0 (fun _ => ⟨g, 0, rfl, h⟩) (fun h => by simp at h) roots_first (by simp)
  rw [image_first] at this
  exact this
theorem str_first : strOfNums [71, 69, 4, 0, 2, 0] = { data := #[71, 69, 4, 0, 2, 0] } := by rfl
theorem bytes_first : ∀ c ∈ ([71, 69, 4, 0, 2, 0] : List Int), 0 ≤ c ∧ c ≤ 255 := by decide

/-- Where the law's boxes stand: the heap's at the foot, the fault's at X, the other heap's at Y. -/
structure Std (w0 : World) (X Y : Nat) (hv yv : Value) (A B : Int) (w : World) : Prop where
  bel : Below w0.heap.size w0 w
  h : w.cell? ⟨w0.heap.size, 0, none⟩ = some hv
  x0 : w.cell? ⟨X, 0, none⟩ = some (.int .i64 A)
  x1 : w.cell? ⟨X, 1, none⟩ = some (.int .i64 B)
  fx0 : w.frozen? ⟨X, 0, none⟩ = false
  fx1 : w.frozen? ⟨X, 1, none⟩ = false
  y : w.cell? ⟨Y, 0, none⟩ = some yv
  fy : w.frozen? ⟨Y, 0, none⟩ = false
  lx : w0.heap.size < X
  ly : X < Y
  lz : Y < w.heap.size
theorem Std.below {w0 w w' : World} {X Y : Nat} {hv yv : Value} {A B : Int} (s : Std w0 X Y hv yv A B w) (hb : Below w.heap.size w w') : Std w0 X Y hv yv A B w' := by
  have l1 := s.lx
  have l2 := s.ly
  have l3 := s.lz
  refine ⟨s.bel.trans (hb.mono s.bel.size), through hb s.h ?_, through hb s.x0 ?_, through hb s.x1 ?_, throughF hb s.fx0 ?_, throughF hb s.fx1 ?_, through hb s.y ?_, throughF hb s.fy ?_, l1, l2, Nat.lt_of_lt_of_le l3 hb.size⟩ <;> (dsimp only; omega)
theorem Std.alloc {w0 w : World} {X Y : Nat} {hv yv : Value} {A B : Int} (s : Std w0 X Y hv yv A B w) (o : Obj) : Std w0 X Y hv yv A B (w.alloc o) := s.below ((Below.refl _ _).alloc (Nat.le_refl _) o)
theorem Std.setX {w0 w : World} {X Y : Nat} {hv yv : Value} {A B : Int} (s : Std w0 X Y hv yv A B w) (A' B' : Int) : Std w0 X Y hv yv A' B' ((w.setCell ⟨X, 0, none⟩ (.int .i64 A')).setCell ⟨X, 1, none⟩ (.int .i64 B')) := by
  have l1 := s.lx
  have l2 := s.ly
  have l3 := s.lz
  refine ⟨(s.bel.setCell (p := ⟨X, 0, none⟩) (by dsimp only; omega) _).setCell (p := ⟨X, 1, none⟩) (by dsimp only; omega) _, ?_, ?_, ?_, by simpa using s.fx0, by simpa using s.fx1, ?_, by simpa using s.fy, l1, l2, by simpa [World.setCell] using l3⟩
  · rw [World.cell?_setCell_other _ _ _ _ (by intro h; injection h; omega), World.cell?_setCell_other _ _ _ _ (by intro h; injection h; omega)]; exact s.h
  · rw [World.cell?_setCell_other _ _ _ _ (by simp)]; exact World.cell?_setCell_same' _ _ _ (by rw [s.x0]; rfl)
  · exact World.cell?_setCell_same' _ _ _ (by rw [World.cell?_setCell_other _ _ _ _ (by simp), s.x1]; rfl)
  · rw [World.cell?_setCell_other _ _ _ _ (by intro h; injection h; omega), World.cell?_setCell_other _ _ _ _ (by intro h; injection h; omega)]; exact s.y
/-- The fault's box is written, the other heap's is made. -/
theorem std_new {w0 w : World} {X : Nat} {hv yv a b : Value} {A B : Int} {t : TypeId} (hb : Below w0.heap.size w0 w) (hh : w.cell? ⟨w0.heap.size, 0, none⟩ = some hv) (h0 : w.cell? ⟨X, 0, none⟩ = some a) (h1 : w.cell? ⟨X, 1, none⟩ = some b) (f0 : w.frozen? ⟨X, 0, none⟩ = false) (f1 : w.frozen? ⟨X, 1, none⟩ = false) (lx : w0.heap.size < X) (ly : X < w.heap.size) :
    Std w0 X w.heap.size hv yv A B (((w.setCell ⟨X, 0, none⟩ (.int .i64 A)).setCell ⟨X, 1, none⟩ (.int .i64 B)).alloc (.cells #[yv] t)) := by
  have e : ((w.setCell ⟨X, 0, none⟩ (.int .i64 A)).setCell ⟨X, 1, none⟩ (.int .i64 B)).heap.size = w.heap.size := by simp [World.setCell]
  have lX : X < ((w.setCell ⟨X, 0, none⟩ (.int .i64 A)).setCell ⟨X, 1, none⟩ (.int .i64 B)).heap.size := by rw [e]; exact ly
  have lH : w0.heap.size < ((w.setCell ⟨X, 0, none⟩ (.int .i64 A)).setCell ⟨X, 1, none⟩ (.int .i64 B)).heap.size := by rw [e]; omega
  refine ⟨((hb.setCell (p := ⟨X, 0, none⟩) (by dsimp only; omega) _).setCell (p := ⟨X, 1, none⟩) (by dsimp only; omega) _).alloc (by rw [e]; exact hb.size) _, ?_, ?_, ?_, ?_, ?_, ?_, ?_, lx, ly, by simp [World.setCell]⟩
  · rw [cell_past _ lH, World.cell?_setCell_other _ _ _ _ (by intro h; injection h; omega), World.cell?_setCell_other _ _ _ _ (by intro h; injection h; omega)]; exact hh
  · rw [cell_past _ lX, World.cell?_setCell_other _ _ _ _ (by simp)]; exact World.cell?_setCell_same' _ _ _ (by rw [h0]; rfl)
  · rw [cell_past _ lX]; exact World.cell?_setCell_same' _ _ _ (by rw [World.cell?_setCell_other _ _ _ _ (by simp), h1]; rfl)
  · rw [frozen_past _ lX]; simpa using f0
  · rw [frozen_past _ lX]; simpa using f1
  · rw [cell_at2 e.symm]; rfl
  · rw [frozen_at2 e.symm]
end Go.Proofs.Ytdacgjjkgagjhac
