/- names: is it a table. -/
import Derived.Test.YtmgmbgacdjebgaaRTable
namespace Go.Proofs.Ytmgmbgacdjebgaa
open Go.RowKit

/-- A table as a value. -/
abbrev tabV' (b m cap bm : Nat) (v : Value) : Value := .agg #[sl b m cap, .map (some bm), v]

set_option maxHeartbeats 1000000 in
theorem vlook_no (W : List Int) (b cap bm : Nat) (o : Int) (w : World) (hv : IsView w b cap bm W) (ho : thingB W o = false) :
    Calls Try.prog 35 #[viewV b W.length cap bm, .int .i64 o] w fun e w' => e = .returned noThing ∧ Below w.heap.size w w' := by
  go_enter Try.func35, Try.ntmps35
  go_wp2_with (first | (go_at_call 48; refine (has_any W b cap bm _ _ ((hv.alloc _).alloc _)).mono ?_; rintro e w1 ⟨rfl, hb1⟩; obtain ⟨⟨r0, r1, r2, r3⟩, ⟨t0, t1, t2, t3⟩, hzz⟩ := box4 hb1))
  refine bodyPost_ret (v := noThing) (by simp [results, Try.results35, go_sem, r0, r1, r2, r3]) rfl ⟨rfl, ?_⟩
  repeat (first | refine Below.setCell ?_ (by dsimp only; omega) _ | exact below2 hb1)

theorem box3v {w w' : World} {x0 x1 x2 : Value} {t : TypeId} (hb : Below (w.alloc (.cells #[x0, x1, x2] t)).heap.size (w.alloc (.cells #[x0, x1, x2] t)) w') :
    w'.cell? ⟨w.heap.size, 0, none⟩ = some x0 ∧ w'.cell? ⟨w.heap.size, 1, none⟩ = some x1 ∧ w'.cell? ⟨w.heap.size, 2, none⟩ = some x2 ∧ w.heap.size < w'.heap.size := by
  have A : ∀ j, w'.cell? ⟨w.heap.size, j, none⟩ = #[x0, x1, x2][j]? := fun j => by
    rw [hb.cell (p := ⟨w.heap.size, j, none⟩) (by simp)]; exact cell_at2 rfl
  exact ⟨A 0, A 1, A 2, by have := hb.size; simp at this; omega⟩

theorem fld2 (c h f : Int) (ad : Option Addr) (n k : Nat) (w : World) : (Instr.field 60 (thingV c h f (.slice ad n k)) 2).run Try.prog w = .ok (.int .i64 f) w := by kernel_rfl
theorem fld3 (c h f : Int) (ad : Option Addr) (n k : Nat) (w : World) : (Instr.field 60 (thingV c h f (.slice ad n k)) 3).run Try.prog w = .ok (.slice ad n k) w := by kernel_rfl

set_option maxRecDepth 20000 in
set_option maxHeartbeats 2000000 in
theorem hasText_any (W : List Int) (b cap bm k c : Nat) (ad : Option Addr) (o : Int) (w : World) (hv : IsView w b cap bm W) (hu : unfit W 2 = none) (hl : W.length ≤ 2000) :
    Calls Try.prog 51 #[tabV' b W.length cap bm (.slice ad k c), .int .i64 o] w fun e w' => e = .returned (.bool (bytesB W o)) ∧ Below w.heap.size w w' := by
  cases ht : thingB W o with
  | false =>
    have e : bytesB W o = false := by unfold bytesB; rw [ht]; rfl
    rw [e]; clear e
    go_enter Try.func51, Try.ntmps51
    go_wp2_with (first | (go_at_call 48; refine (has_any W b cap bm _ _ (hv.alloc _)).mono ?_; rintro e w1 ⟨rfl, hb1⟩; obtain ⟨r0, r1, r2, z1⟩ := box3v hb1))
    go_ret
    exact ⟨rfl, below_call hb1⟩
  | true =>
    obtain ⟨p, rfl, hm, _⟩ := thing_even ht
    have e : bytesB W (2 * (p : Int)) = (formAt W p == 1) := by unfold bytesB; rw [ht, begP_ref]; rfl
    rw [e]; clear e
    have hfd := fld2
    go_enter Try.func51, Try.ntmps51
    go_wp2_with (first | (go_at_call 48; refine (has_any W b cap bm _ _ (hv.alloc _)).mono ?_; rintro e w1 ⟨rfl, hb1⟩; obtain ⟨r0, r1, r2, z1⟩ := box3v hb1) | (go_at_call 35; refine (vlook_any W b cap bm p _ ((hv.alloc _).same hb1) hu hl ht hm).mono ?_; rintro e w2 ⟨⟨v2, rfl, ad2, c2, rfl, hs2⟩, hb2⟩))
    go_ret
    exact ⟨rfl, (below_call hb1).trans (hb2.mono (below_call hb1).size)⟩

set_option maxHeartbeats 1000000 in
theorem isTable_kind (W : List Int) (b cap bm k c : Nat) (ad : Option Addr) (o : Int) (w : World) (hv : IsView w b cap bm W) (ht : thingB W o = false) :
    Calls Try.prog 36 #[tabV' b W.length cap bm (.slice ad k c), .int .i64 o] w fun e w' => e = .returned (.bool false) ∧ Below w.heap.size w w' := by
  go_enter Try.func36, Try.ntmps36
  go_wp2_with (first | (go_at_call 48; refine (has_any W b cap bm _ _ (hv.alloc _)).mono ?_; rintro e w1 ⟨rfl, hb1⟩; obtain ⟨r0, r1, r2, z1⟩ := box3v hb1))
  go_ret
  exact ⟨rfl, below_call hb1⟩

set_option maxRecDepth 20000 in
set_option maxHeartbeats 2000000 in
theorem isTable_thing (W : List Int) (b cap bm p c : Nat) (ad : Option Addr) (w : World) (hv : IsView w b cap bm W) (hu : unfit W 2 = none) (hl : W.length ≤ 2000) (ho : thingB W (2 * (p : Int)) = true) (hmem : p ∈ places W 2) (hs : SlotsAt ad (slotsOf W p) w) (B : Bool) (HB : Hid (tableB W (2 * (p : Int)) = B)) :
    Calls Try.prog 36 #[tabV' b W.length cap bm (.slice ad (slotsOf W p).length c), .int .i64 (2 * (p : Int))] w fun e w' => e = .returned (.bool B) ∧ Below w.heap.size w w' := by
  have hsl : (slotsOf W p).length = slotsAt W p := slots_length (fits_out (place_fit hu hmem).2.2.1).2.2.2.2
  have h60 : (slotsOf W p).length ≤ 60 := by rw [hsl]; have := (fits_out (place_fit hu hmem).2.2.1).2.2.2.1; unfold slotsAt; omega
  have HL : Hid ((slotsOf W p).length = slotsAt W p) := hsl
  have HS : Hid (SlotsAt ad (slotsOf W p) w) := hs
  clear hsl hs
  have hfd := fld2
  by_cases hf : (formAt W p != 0) = true
  · have hB : Hid (B = false) := by rw [← HB.out]; exact table_form (by rw [begP_ref]; simpa using hf)
    go_enter Try.func36, Try.ntmps36
    go_wp2_with (first | (go_at_call 48; refine (has_any W b cap bm _ _ (hv.alloc _)).mono ?_; rintro e w1 ⟨rfl, hb1⟩; obtain ⟨r0, r1, r2, z1⟩ := box3v hb1) | (go_at_call 35; refine (vlook_any W b cap bm p _ ((hv.alloc _).same hb1) hu hl ho hmem).mono ?_; rintro e w2 ⟨⟨v2, rfl, ad2, c2, rfl, hs2⟩, hb2⟩))
    go_ret
    exact ⟨by rw [hB.out]; rfl, (below_call hb1).trans (hb2.mono (below_call hb1).size)⟩
  · have hf' : (formAt W p != 0) = false := by simpa using hf
    have HF : Hid (formAt W p = 0) := by simp at hf; exact hf
    clear hf
    have HR : Hid (∀ i, i < (slotsOf W p).length → rowB W (wd (slotsOf W p) i) = false → B = false) := fun i hi hx => by
      rw [← HB.out]
      exact table_row (i := i) (by rw [begP_ref]; exact hi) (by rw [begP_ref]; exact hx)
    have HT : Hid ((∀ i, i < (slotsOf W p).length → rowB W (wd (slotsOf W p) i) = true) → B = decide (0 < (slotsOf W p).length)) := fun h => by
      rw [← HB.out]
      by_cases h0 : 0 < (slotsOf W p).length
      · rw [decide_eq_true h0]
        exact table_yes ho (by rw [begP_ref]; exact HF.out) (by rw [begP_ref, ← HL.out]; exact h0) (by rw [begP_ref]; exact h)
      · rw [decide_eq_false h0]
        exact table_none (by rw [begP_ref, ← HL.out]; omega)
    generalize hxs : slotsOf W p = xs at *
    go_enter Try.func36, Try.ntmps36
    go_wp2_with (first | (go_at_call 48; refine (has_any W b cap bm _ _ (hv.alloc _)).mono ?_; rintro e w1 ⟨rfl, hb1⟩; obtain ⟨r0, r1, r2, z1⟩ := box3v hb1) | (go_at_call 35; refine (vlook_any W b cap bm p _ ((hv.alloc _).same hb1) hu hl ho hmem).mono ?_; rintro e w2 ⟨⟨v2, rfl, ad2, c2, rfl, hs2⟩, hb2⟩; clear hs2; have hA := hb1.trans (hb2.mono hb1.size); obtain ⟨u0, u1, u2, z2⟩ := box3v hA))
    go_loopw [23] (fun s wr => ∃ (i : Nat), s = .int .i64 i ∧ i ≤ xs.length ∧ Hid (∀ j, j < i → rowB W (wd xs j) = true) ∧ Below (w.alloc (.cells #[sl b W.length cap, .map (some bm), .slice ad xs.length c] 48)).heap.size (w.alloc (.cells #[sl b W.length cap, .map (some bm), .slice ad xs.length c] 48)) wr) (fun s _ => xs.length - (intOf s).toNat)
    case atStart => exact ⟨0, rfl, Nat.zero_le _, fun j hj => by omega, hA⟩
    case round =>
      rename_i wr
      obtain ⟨i, rfl, hi', HI, hB⟩ := hrel
      clear hA u0 u1 u2 r0 r1 r2
      obtain ⟨u0, u1, u2, z3⟩ := box3v hB
      have hvr : IsView wr b cap bm W := (hv.alloc _).same hB
      by_cases hlt : i < xs.length
      · obtain ⟨g, o, rfl, hbl, hcx⟩ := HS.out (by omega)
        have hcell : wr.cell? ⟨g, o + i, none⟩ = some (.int .i64 (wd xs i)) := by
          rw [hB.cell (p := ⟨g, o + i, none⟩) (by simp; omega), cell_past _ (by exact hbl)]; exact hcx i hlt
        have hil : (i : Int) < (xs.length : Int) := by omega
        have HN : Hid (rowB W (wd xs i) = true → ∀ j, j < i + 1 → rowB W (wd xs j) = true) := fun hy j hj => by
          by_cases he : j = i
          · subst he; exact hy
          · exact HI.out j (by omega)
        have HO : Hid (rowB W (wd xs i) = false → B = false) := HR.out i hlt
        obtain ⟨x, hx⟩ : ∃ x, wd xs i = x := ⟨_, rfl⟩
        rw [hx] at hcell HN HO
        clear hx hcx
        by_cases hx0 : x = 0
        · have hb0 : (x != 0) = false := by simpa using hx0
          have HE : Hid (∀ j, j < i + 1 → rowB W (wd xs j) = true) := HN.out (row_mk (Or.inl hx0))
          clear hx0
          go_wp2_with fail
          go_roundw
          case rel => exact ⟨i + 1, by first | rfl | simp, by omega, HE, hB⟩
          case measure => simp [intOf]; omega
        · have hb0 : (x != 0) = true := by simpa using hx0
          have hrow : rowB W x = bytesB W x := by unfold rowB; rw [beq_eq_false_iff_ne.2 hx0]; rfl
          clear hx0
          cases hby : bytesB W x with
          | true =>
            have HE : Hid (∀ j, j < i + 1 → rowB W (wd xs j) = true) := HN.out (hrow.trans hby)
            clear hrow
            go_wp2_with (first | (go_at_call 51; refine (hasText_any W b cap bm xs.length c _ x _ hvr hu hl).mono ?_; rintro e w3 ⟨rfl, hb3⟩))
            go_roundw
            case rel => exact ⟨i + 1, by first | rfl | simp, by omega, HE, hB.trans (hb3.mono hB.size)⟩
            case measure => simp [intOf]; omega
          | false =>
            have HE : Hid (B = false) := HO.out (hrow.trans hby)
            clear hrow
            go_wp2_with (first | (go_at_call 51; refine (hasText_any W b cap bm xs.length c _ x _ hvr hu hl).mono ?_; rintro e w3 ⟨rfl, hb3⟩))
            go_ret
            exact ⟨by rw [HE.out]; rfl, (below_call hB).trans (hb3.mono (below_call hB).size)⟩
      · have e : i = xs.length := by omega
        subst e
        have HE : Hid (B = decide (0 < xs.length)) := HT.out HI.out
        go_wp2_with fail
        go_ret
        exact ⟨by rw [HE.out]; first | rfl | simp, below_call hB⟩
theorem isTable_any (W : List Int) (b cap bm p c : Nat) (ad : Option Addr) (w : World) (hv : IsView w b cap bm W) (hu : unfit W 2 = none) (hl : W.length ≤ 2000) (ho : thingB W (2 * (p : Int)) = true) (hmem : p ∈ places W 2) (hs : SlotsAt ad (slotsOf W p) w) :
    Calls Try.prog 36 #[tabV' b W.length cap bm (.slice ad (slotsOf W p).length c), .int .i64 (2 * (p : Int))] w fun e w' => e = .returned (.bool (tableB W (2 * (p : Int)))) ∧ Below w.heap.size w w' :=
  isTable_thing W b cap bm p c ad w hv hu hl ho hmem hs _ rfl
end Go.Proofs.Ytmgmbgacdjebgaa
