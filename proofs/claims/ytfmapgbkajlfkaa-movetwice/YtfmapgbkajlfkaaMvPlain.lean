/- Where chapter 17 moves things to. -/
import Derived.Test.YtfmapgbkajlfkaaChePlain
import Derived.Test.YtfmapgbkajlfkaaLawKit
import Derived.Test.YtfmapgbkajlfkaaMoveMore
namespace Go.Proofs.Ytfmapgbkajlfkaa
open Go.ChangeShapes Go.WideShapes Go.ChangeAt Go.RowKit Go.Joins Go.Deep

/-- The row of those that are moved. -/
noncomputable def bfsF (W R : List Int) : List Int := Classical.choose (bfs_ex W R)
theorem bfsF_is (W R : List Int) : Bfs W R (bfsF W R) := Classical.choose_spec (bfs_ex W R)
/-- The words when all are moved, and the roots. -/
noncomputable def mvW (W R : List Int) : List Int := movedW W ((bfsF W R).map pl2)
noncomputable def mvR (W R : List Int) : List Int := R.map (turnP W ((bfsF W R).map pl2))
theorem mv_moves {W R : List Int} (h : (checkOf W).1 = 0) (hr : ∀ x ∈ R, okRef W x) : Moves W R ((bfsF W R).map pl2) := (bfsF_is W R).moves h hr
/-- What the program's Collect answers. -/
def MvAns (K L : List Int) (e : Ending) (w : World) : Prop :=
  ∃ ad c rd rc, e = .returned (.tuple #[.agg #[.slice ad K.length c], .slice rd L.length rc, .agg #[.int .i64 0, .int .i64 0]]) ∧ WordsAt ad K w ∧ RootsAt rd L w
theorem reads_words {w : World} {ad : Option Addr} {c : Nat} {K : List Int} (h : WordsAt ad K w) (h2 : 2 ≤ K.length) : Reads w (.slice ad K.length c) K := by
  obtain ⟨b, off, rfl, hr⟩ := h h2
  exact Reads.of_row hr
theorem reads_roots {w : World} {rad : Option Addr} {c : Nat} {xs : List Int} (h : RootsAt rad xs w) : Reads w (.slice rad xs.length c) xs := ⟨rad, c, rfl, fun h0 => by obtain ⟨b, off, e, r⟩ := h h0; exact ⟨b, off, e, r.lt, r.cell⟩⟩
theorem mv_two {W R : List Int} (h : (checkOf W).1 = 0) (hr : ∀ x ∈ R, okRef W x) : 2 ≤ (mvW W R).length := by unfold mvW; rw [(mv_moves h hr).length]; omega
theorem open_heapC {H : Type} {enc : TypeId × Value → H} {w : World} {base b0 : Nat} {spare : Nat → Bool} {held : Bool} {r : Reach} {v : Value} {d : DataW H} {p : List MemPlace} (hv : Value.okWide Try.prog w r b0 24 v) (h : DataW.Trod enc Try.prog w base spare held 24 v d p) :
    ∃ (ad : Option Addr) (cap : Nat) (W : List Int), v = .agg #[.slice ad W.length cap] ∧ W.length ≤ maxLen ∧ WordsAt ad W w ∧ W.length ≤ cap := by
  obtain ⟨v0, y0, n, rfl, hy⟩ := open_agg1 Try.underlying24 (by kernel_rfl) (by kernel_rfl) hv h
  obtain ⟨a, l, c, hs⟩ := slice_form lt30 hy
  simp at hs
  subst hs
  have hcp : l ≤ c := by
    rcases open_ints lt30 lt3 (by kernel_rfl) hy with ⟨hcs, _⟩ | ⟨y, l', c', zs, hcs, _, hl, _⟩
    · simp at hcs; omega
    · simp at hcs; omega
  obtain ⟨hm, W, rfl, hr⟩ := open_nums hy
  exact ⟨a, c, W, rfl, hm, fun h => hr (by omega), hcp⟩
end Go.Proofs.Ytfmapgbkajlfkaa
