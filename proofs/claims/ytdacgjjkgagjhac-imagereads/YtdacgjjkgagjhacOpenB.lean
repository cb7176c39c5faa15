/- Bytes that came in. -/
import Derived.Test.YtdacgjjkgagjhacImgKit
namespace Go.Proofs.Ytdacgjjkgagjhac
open Go.ChangeShapes Go.WideShapes Go.ChangeAt Go.RowKit Go.Joins Go.Deep

theorem byte_wf {x : Int} (h : (Lit.int .u8 x).wf = true) : 0 ≤ x ∧ x ≤ 255 := by
  have h2 : IntKind.u8.min ≤ x ∧ x ≤ IntKind.u8.max := by simpa [Lit.wf] using h
  exact h2
set_option maxRecDepth 100000 in
/-- Bytes that came in. -/
theorem open_bytes {H : Type} {enc : TypeId × Value → H} {w : World} {base b0 : Nat} {spare : Nat → Bool} {held : Bool} {r : Reach} {v : Value} {d : DataW H} {p : List MemPlace} (hv : Value.okWide Try.prog w r b0 33 v) (h : DataW.Trod enc Try.prog w base spare held 33 v d p) :
    ∃ (ad : Option Addr) (cap : Nat) (R : List Int), v = .slice ad R.length cap ∧ R.length ≤ maxLen ∧ BytesAt ad R w := by
  obtain ⟨a, l, c, rfl⟩ := okWide_slice tyBs hv
  obtain ⟨fuel, hf⟩ := h
  have hy : DataW.trod enc Try.prog w base spare held fuel 33 [.slice a l c] = some (d, p) := by simpa [Value.cells] using hf
  rcases open_ints tyBs tyB (by kernel_rfl) hy with ⟨hcs, _⟩ | ⟨y, l', c', zs, hcs, _, hl, hm, hz, _, hcell, hwz⟩
  · simp at hcs
    obtain ⟨rfl, rfl, rfl⟩ := hcs
    refine ⟨none, 0, [], rfl, Nat.zero_le _, ?_⟩
    exact ⟨(fun c hc => by cases hc), (fun h => by simp at h)⟩
  · simp at hcs
    obtain ⟨rfl, rfl, rfl⟩ := hcs
    have hzl : l ≤ zs.length := by rw [hz]; split <;> omega
    have hlen : (zs.take l).length = l := by rw [List.length_take]; omega
    have hby : ∀ x ∈ zs.take l, 0 ≤ x ∧ x ≤ 255 := fun x hx => by
      have := hwz x (List.mem_of_mem_take hx)
      exact byte_wf this
    refine ⟨some y, c, zs.take l, by rw [hlen], by rw [hlen]; exact Nat.le_trans hl hm, ⟨hby, fun h1 => ?_⟩⟩
    obtain ⟨b, off, spot⟩ := y
    have hc0 := hcell 0 (by omega)
    have hspot : spot = none := by simpa [Addr.add] using World.cell?_spot hc0
    subst hspot
    refine ⟨b, off, rfl, ?_, fun k hk => ?_, hby⟩
    · have := World.block_lt_of_cell? w _ hc0
      rwa [add_block] at this
    · have hk' : k < l := by rw [hlen] at hk; exact hk
      have := hcell k (by omega)
      rw [add_none] at this
      rw [this]
      simp [wd, hk']
end Go.Proofs.Ytdacgjjkgagjhac
