/- What the laws of chapter 6 share. -/
import Derived.Test.YtdacgjjkgagjhacImgRead
import Derived.Test.YtdacgjjkgagjhacImgWrite
import Derived.Test.YtdacgjjkgagjhacKeepInts
namespace Go.Proofs.Ytdacgjjkgagjhac
open Go.ChangeShapes Go.WideShapes Go.ChangeAt Go.RowKit Go.Joins Go.Deep

/-- A box of two cells, and that it can be written. -/
theorem box2W {w w' : World} {x y : Value} {t : TypeId} (hb : Below (w.alloc (.cells #[x, y] t)).heap.size (w.alloc (.cells #[x, y] t)) w') :
    w'.cell? ⟨w.heap.size, 0, none⟩ = some x ∧ w'.cell? ⟨w.heap.size, 1, none⟩ = some y ∧ w'.frozen? ⟨w.heap.size, 0, none⟩ = false ∧ w'.frozen? ⟨w.heap.size, 1, none⟩ = false ∧ w.heap.size < w'.heap.size := by
  have hs := hb.size
  refine ⟨?_, ?_, ?_, ?_, by simp at hs; omega⟩
  · rw [hb.cell (p := ⟨w.heap.size, 0, none⟩) (by simp), cell_at2 rfl]; rfl
  · rw [hb.cell (p := ⟨w.heap.size, 1, none⟩) (by simp), cell_at2 rfl]; rfl
  · rw [hb.frozen (p := ⟨w.heap.size, 0, none⟩) (by simp), frozen_at2 rfl]
  · rw [hb.frozen (p := ⟨w.heap.size, 1, none⟩) (by simp), frozen_at2 rfl]
theorem reads_roots {w : World} {rad : Option Addr} {c : Nat} {xs : List Int} (h : RootsAt rad xs w) : Reads w (.slice rad xs.length c) xs :=
  ⟨rad, c, rfl, fun h0 => let ⟨b, off, e, r⟩ := h h0; ⟨b, off, e, r.lt, r.cell⟩⟩
theorem reads_words {w : World} {rad : Option Addr} {c : Nat} {xs : List Int} (h : WordsAt rad xs w) (h2 : 2 ≤ xs.length) : Reads w (.slice rad xs.length c) xs :=
  ⟨rad, c, rfl, fun _ => let ⟨b, off, e, r⟩ := h h2; ⟨b, off, e, r.lt, r.cell⟩⟩
theorem own_bytes {w : World} {g cap : Nat} {xs : List Int} (h : HasB w g cap xs) (hb : ∀ c ∈ xs, 0 ≤ c ∧ c ≤ 255) : BytesAt (some ⟨g, 0, none⟩) xs w := ⟨hb, fun _ => ⟨g, 0, rfl, h.row hb⟩⟩
/-- image.Read of an image. -/
theorem iread_image (W R : List Int) (ad : Option Addr) (cap : Nat) (w : World) (h : (rootsOf W R).1 = 0) (hR : R.length ≤ 600) (hI : (imageB W R).length ≤ maxLen) (hb : BytesAt ad (imageB W R) w) :
    Calls Try.prog 15 #[.slice ad (imageB W R).length cap] w fun e w' => ReadAns w.heap.size W R e w' ∧ Below w.heap.size w w' := by
  have := iread_any ad cap (imageB W R) w hb hI
  rw [read_image h hR] at this
  exact this
theorem image_short {W R : List Int} (h : (rootsOf W R).1 = 0) (hR : R.length ≤ 600) : (imageB W R).length ≤ 800000 := by
  obtain ⟨hc, _, _⟩ := roots_zero h
  obtain ⟨f1, f2, _⟩ := front_out (check_fine hc).1
  have hlW := listB_short (words_mild hc) ⟨by omega, by omega⟩
  have hlR := listB_short (fun x hx => ok_mild (ok_rootsOf h x hx)) ⟨by omega, by omega⟩
  unfold imageB
  simp only [List.length_cons, List.length_append]
  omega
/-- A box of two cells is written, another made, a call made. -/
theorem after_set {w5 w6 : World} {X : Nat} {o : Obj} {u v a b : Value} (hb : Below (((w5.setCell ⟨X, 0, none⟩ u).setCell ⟨X, 1, none⟩ v).alloc o).heap.size (((w5.setCell ⟨X, 0, none⟩ u).setCell ⟨X, 1, none⟩ v).alloc o) w6) (h0 : w5.cell? ⟨X, 0, none⟩ = some a) (h1 : w5.cell? ⟨X, 1, none⟩ = some b) (hlt : X < w5.heap.size) :
    w6.cell? ⟨X, 0, none⟩ = some u ∧ w6.cell? ⟨X, 1, none⟩ = some v ∧ w5.heap.size < w6.heap.size ∧ (∀ g off xs, Row w5 g off xs → g ≠ X → Row w6 g off xs) ∧ (∀ B w, Below B w w5 → B ≤ X → Below B w w6) := by
  have hs := hb.size
  have e : (((w5.setCell ⟨X, 0, none⟩ u).setCell ⟨X, 1, none⟩ v).alloc o).heap.size = w5.heap.size + 1 := by simp [World.setCell]
  have hz : X < ((w5.setCell ⟨X, 0, none⟩ u).setCell ⟨X, 1, none⟩ v).heap.size := by simpa [World.setCell] using hlt
  rw [e] at hs
  refine ⟨?_, ?_, by omega, fun g off xs r hg => ?_, fun B w hB hX => ?_⟩
  · rw [hb.cell (p := ⟨X, 0, none⟩) (by rw [e]; dsimp only; omega), cell_past _ hz, World.cell?_setCell_other _ _ _ _ (by simp)]
    exact World.cell?_setCell_same' _ _ _ (by rw [h0]; rfl)
  · rw [hb.cell (p := ⟨X, 1, none⟩) (by rw [e]; dsimp only; omega), cell_past _ hz]
    exact World.cell?_setCell_same' _ _ _ (by rw [World.cell?_setCell_other _ _ _ _ (by simp), h1]; rfl)
  · exact (((row_set (row_set r (by dsimp only; exact hg) _) (by dsimp only; exact hg) _).alloc o)).same hb
  · have hBw : B ≤ w5.heap.size := by omega
    exact (((hB.setCell (p := ⟨X, 0, none⟩) hX u).setCell (p := ⟨X, 1, none⟩) hX v).alloc (by simpa [World.setCell] using hBw) o).trans (hb.mono (by rw [e]; omega))
end Go.Proofs.Ytdacgjjkgagjhac
