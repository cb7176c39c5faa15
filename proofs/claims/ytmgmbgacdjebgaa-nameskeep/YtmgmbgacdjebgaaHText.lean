/- heap.Text: a thing's bytes as a string. -/
import Derived.Test.YtmgmbgacdjebgaaTextMem
import Derived.Test.YtmgmbgacdjebgaaLook
namespace Go.Proofs.Ytmgmbgacdjebgaa
open Go.RowKit

/-- Slots that can be read. -/
def SlotsAt (ad : Option Addr) (xs : List Int) (w : World) : Prop := 0 < xs.length → ∃ b off, ad = some ⟨b, off, none⟩ ∧ b < w.heap.size ∧ ∀ k, k < xs.length → w.cell? ⟨b, off + k, none⟩ = some (.int .i64 (wd xs k))
theorem SlotsAt.below {ad : Option Addr} {xs : List Int} {w w' : World} (h : SlotsAt ad xs w) (hb : Below w.heap.size w w') : SlotsAt ad xs w' := fun h0 => by
  obtain ⟨b, off, he, hlt, hc⟩ := h h0
  exact ⟨b, off, he, by have := hb.size; omega, fun k hk => by rw [hb.cell (p := ⟨b, off + k, none⟩) hlt]; exact hc k hk⟩
theorem slots_at_own {ad : Option Addr} {xs : List Int} {w : World} {B c : Nat} (h : 0 < xs.length → ∃ g, ad = some ⟨g, 0, none⟩ ∧ B ≤ g ∧ w.ownsRow 0 3 1 (sl g xs.length c) xs.length (vals xs)) : SlotsAt ad xs w := fun h0 => by
  obtain ⟨g, e, _, hown⟩ := h h0
  exact ⟨g, 0, e, own_lt hown, fun k hk => by rw [Nat.zero_add]; exact own_cell hown hk⟩
theorem own_setB {w : World} {B b cap n k : Nat} {xs : List Value} {x : Value} (h : w.ownsRow B 5 1 (sl b n cap) n xs) : (w.setCell ⟨b, k, none⟩ x).ownsRow B 5 1 (sl b n cap) n (xs.set k x) := (h.stored k x).1

set_option maxRecDepth 20000 in
set_option maxHeartbeats 2000000 in
theorem htext_any (xs : List Int) (ad : Option Addr) (cc : Nat) (c h f : Int) (w : World) (hr : SlotsAt ad xs w) (hx : ∀ c ∈ xs, 0 ≤ c ∧ c ≤ 255) (hl : xs.length ≤ 60) :
    Calls Try.prog 37 #[thingV c h f (.slice ad xs.length cc)] w fun e w' => e = .returned (.string (strOfNums xs)) ∧ Below w.heap.size w w' := by
  obtain ⟨i0, hi, hz0, hz1, hz2⟩ := info_parts infoB
  have HR : Hid (SlotsAt ad xs w) := hr
  have HX : Hid (∀ c ∈ xs, 0 ≤ c ∧ c ≤ 255) := hx
  clear hr hx
  go_enter Try.func37, Try.ntmps37
  go_wp2_with (at_make; refine wpList_make_full _ rfl _ _ 78 rfl (w.heap.size + 1) 5 i0 (.int .u8 0) 1 tyBs hi hz0 hz1 _ _ _ _ xs.length rfl rfl rfl rfl (by rw [hz2]; omega) (by unfold maxLen; omega) (by simp) ?_; intro w1 hown1 hgrow1; have hB1 : Below (w.heap.size + 1) (w.alloc (.cells #[.int .i64 c, .int .i64 h, .int .i64 f, .slice ad xs.length cc] 60)) w1 := ((Below.refl _ _).grown hgrow1 (by simp) (fun k hk => by cases hk)); have hc1 : w1.cell? ⟨w.heap.size, 3, none⟩ = some (.slice ad xs.length cc) := (by rw [hB1.cell (p := ⟨w.heap.size, 3, none⟩) (by simp)]; simp))
  have hO : w1.ownsRow (w.heap.size + 1) 5 1 (sl (w.heap.size + 1) xs.length xs.length) xs.length (bytesV (fillP (List.replicate xs.length 0) 0 xs 0)) := by
    simpa [toList_madeCells_one, Value.cells, fillP] using hown1
  clear hown1 hgrow1
  go_loopw [13] (fun s wr => ∃ (i : Nat), s = .int .i64 i ∧ i ≤ xs.length ∧ Hid (wr.ownsRow (w.heap.size + 1) 5 1 (sl (w.heap.size + 1) xs.length xs.length) xs.length (bytesV (fillP (List.replicate xs.length 0) 0 xs i))) ∧ Below (w.heap.size + 1) (w.alloc (.cells #[.int .i64 c, .int .i64 h, .int .i64 f, .slice ad xs.length cc] 60)) wr) (fun s _ => xs.length - (intOf s).toNat)
  case atStart => exact ⟨0, rfl, Nat.zero_le _, hO, hB1⟩
  case round =>
    rename_i wr
    obtain ⟨i, rfl, hi', HO, hB⟩ := hrel
    clear hO hB1 hc1
    by_cases hlt : i < xs.length
    · obtain ⟨b, off, rfl, hbl, hcx⟩ := HR.out (by omega)
      have hcell : wr.cell? ⟨b, off + i, none⟩ = some (.int .i64 (wd xs i)) := by
        rw [hB.cell (p := ⟨b, off + i, none⟩) (by dsimp only; omega), cell_past _ (by exact hbl)]; exact hcx i hlt
      have hg : wr.cell? ⟨w.heap.size + 1, i, none⟩ = some (.int .u8 (wd (fillP (List.replicate xs.length 0) 0 xs i) i)) := own_cellB (by rw [fill_length]; simp) HO.out (by rw [fill_length]; simpa using hlt)
      have hfz := HO.out.frozenAt i
      have hwb := wrap_byte (wd_byte HX.out i)
      have hil : (i : Int) < (xs.length : Int) := by omega
      clear hcx
      go_wp2_with fail
      have hst := own_setB (k := i) (x := .int .u8 (wd xs i)) HO.out
      rw [bytesV_set] at hst
      go_roundw
      case rel => exact ⟨i + 1, by first | rfl | simp, by omega, (by show Hid _; unfold fillP; rw [Nat.zero_add]; exact hst), hB.setCell (by exact Nat.le_refl _) _⟩
      case measure => simp [intOf]; omega
    · have e : i = xs.length := by omega
      subst e
      have hO2 := HO.out
      rw [fill_all] at hO2
      have hstr := str_row (cap := xs.length) (own_brow rfl hO2 HX.out) rfl
      go_wp2_with fail
      go_ret
      exact ⟨rfl, (Below.refl _ _).alloc (Nat.le_refl _) _ |>.trans (hB.mono (by omega))⟩
end Go.Proofs.Ytmgmbgacdjebgaa
