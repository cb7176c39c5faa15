/- gessoref7.Text: of a thing of bytes. -/
import Derived.Test.YtmgmbgacdjebgaaHText
import Derived.Test.YtmgmbgacdjebgaaRefLookYes
namespace Go.Proofs.Ytmgmbgacdjebgaa
open Go.RowKit

set_option maxRecDepth 20000 in
set_option maxHeartbeats 2000000 in
theorem rtext_any (W : List Int) (b off cap p : Nat) (w : World) (hr : Row w b off W) (hu : unfit W 2 = none) (hl : W.length ≤ 2000) (hcap : W.length ≤ cap) (ho : thingB W (2 * (p : Int)) = true) (hmem : p ∈ places W 2) (hx : ∀ c ∈ slotsOf W p, 0 ≤ c ∧ c ≤ 255) :
    Calls Try.prog 28 #[heapV (some ⟨b, off, none⟩) W.length cap, .int .i64 (2 * (p : Int))] w fun e w' => e = .returned (.string (strOfNums (slotsOf W p))) ∧ Below w.heap.size w w' := by
  have hsl : (slotsOf W p).length = slotsAt W p := slots_length (fits_out (place_fit hu hmem).2.2.1).2.2.2.2
  have h60 : (slotsOf W p).length ≤ 60 := by rw [hsl]; have := (fits_out (place_fit hu hmem).2.2.1).2.2.2.1; unfold slotsAt; omega
  clear hsl
  obtain ⟨i0, hi, hz0, hz1, hz2⟩ := info_parts infoB
  have HX : Hid (∀ c ∈ slotsOf W p, 0 ≤ c ∧ c ≤ 255) := hx
  clear hx
  generalize hxs : slotsOf W p = xs at *
  go_enter Try.func28, Try.ntmps28
  go_wp2_with (first | (go_at_call 27; refine (rlook_yes W b off cap p _ (hr.alloc _) hu hl hcap ho hmem).mono ?_; rintro e w1 ⟨⟨v1, rfl, ad1, c1, rfl, hs1⟩, hb1⟩; rw [hxs] at hs1 ⊢; have HS : Hid (SlotsAt ad1 xs w1) := (slots_at_own hs1); clear hs1; have z1 := hb1.size; simp only [World.size_alloc] at z1) | (at_make; refine wpList_make_full _ rfl _ _ 78 rfl (w1.heap.size + 1) 5 i0 (.int .u8 0) 1 tyBs hi hz0 hz1 _ _ _ _ xs.length rfl rfl rfl rfl (by rw [hz2]; omega) (by unfold maxLen; omega) (by simp) ?_; intro w2 hown2 hgrow2; have hB2 : Below (w1.heap.size + 1) (w1.alloc (.cells #[.int .i64 (wd W p), .int .i64 (wd W (p + 1)), .int .i64 (formAt W p), .slice ad1 xs.length c1] 60)) w2 := ((Below.refl _ _).grown hgrow2 (by simp) (fun k hk => by cases hk))))
  have hO : w2.ownsRow (w1.heap.size + 1) 5 1 (sl (w1.heap.size + 1) xs.length xs.length) xs.length (bytesV (fillP (List.replicate xs.length 0) 0 xs 0)) := by
    simpa [toList_madeCells_one, Value.cells, fillP] using hown2
  clear hown2 hgrow2
  go_loopw [8] (fun s wr => ∃ (i : Nat), s = .int .i64 i ∧ i ≤ xs.length ∧ Hid (wr.ownsRow (w1.heap.size + 1) 5 1 (sl (w1.heap.size + 1) xs.length xs.length) xs.length (bytesV (fillP (List.replicate xs.length 0) 0 xs i))) ∧ Below (w1.heap.size + 1) (w1.alloc (.cells #[.int .i64 (wd W p), .int .i64 (wd W (p + 1)), .int .i64 (formAt W p), .slice ad1 xs.length c1] 60)) wr) (fun s _ => xs.length - (intOf s).toNat)
  case atStart => exact ⟨0, rfl, Nat.zero_le _, hO, hB2⟩
  case round =>
    rename_i wr
    obtain ⟨i, rfl, hi', HO, hB⟩ := hrel
    clear hO hB2
    by_cases hlt : i < xs.length
    · obtain ⟨g, o, rfl, hbl, hcx⟩ := HS.out (by omega)
      have hbx : wr.cell? ⟨w1.heap.size, 3, none⟩ = some (.slice (some ⟨g, o, none⟩) xs.length c1) := by
        rw [hB.cell (p := ⟨w1.heap.size, 3, none⟩) (by simp)]; simp
      have hcell : wr.cell? ⟨g, o + i, none⟩ = some (.int .i64 (wd xs i)) := by
        rw [hB.cell (p := ⟨g, o + i, none⟩) (by dsimp only; omega), cell_past _ (by exact hbl)]; exact hcx i hlt
      have hg : wr.cell? ⟨w1.heap.size + 1, i, none⟩ = some (.int .u8 (wd (fillP (List.replicate xs.length 0) 0 xs i) i)) := own_cellB (by rw [fill_length]; simp) HO.out (by rw [fill_length]; simpa using hlt)
      have hfz := HO.out.frozenAt i
      have hwb := wrap_byte (wd_byte HX.out i)
      have hil : (i : Int) < (xs.length : Int) := by omega
      clear hcx
      go_wp2_with fail
      have hst := own_setB (k := i) (x := .int .u8 (wd xs i)) HO.out
      rw [bytesV_set] at hst
      go_roundw
      case rel => exact ⟨i + 1, by first | rfl | simp, by omega, (by show Hid _; unfold fillP; rw [Nat.zero_add]; exact hst), hB.setCell (by exact Nat.le_refl _) _⟩
      case measure => simp [intOf]; omega
    · have e : i = xs.length := by omega
      subst e
      have hO2 := HO.out
      rw [fill_all] at hO2
      have hstr := str_row (cap := xs.length) (own_brow rfl hO2 HX.out) rfl
      go_wp2_with fail
      go_ret
      exact ⟨rfl, (below_call hb1).trans ((((Below.refl _ _).alloc (Nat.le_refl _) _).trans (hB.mono (by omega))).mono (by omega))⟩
end Go.Proofs.Ytmgmbgacdjebgaa
