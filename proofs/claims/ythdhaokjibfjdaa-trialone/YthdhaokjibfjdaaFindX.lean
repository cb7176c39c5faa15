/- wrongSlot, findThings: what is found of a view. -/
import Derived.Test.YthdhaokjibfjdaaGn
namespace Go.Proofs.Ythdhaokjibfjdaa
open Go.RowKit
open Go.Maps (Keyed keyOf_int_mk)

/-- What wrongSlot answers. -/
def slotAns : Option Nat → Ending
  | some k => .returned (.tuple #[.int .i64 k, .bool true])
  | none => .returned (.tuple #[.int .i64 0, .bool false])

set_option maxHeartbeats 1000000 in
theorem wrongSlot_any (W : List Int) (b cap bm p : Nat) (w : World) (hv : IsView w b cap bm W) (hu : unfit W 2 = none) (hl : W.length ≤ 2000) (hp : p ∈ places W 2) :
    Calls Try.prog 72 #[viewV b W.length cap bm, .int .i64 p] w fun e w' => e = slotAns (badSlot W (formAt W p) (p + 3) (slotsAt W p)) ∧ Below w.heap.size w w' := by
  obtain ⟨hp2, hpl, hf, _⟩ := place_fit hu hp
  have hfo := fits_out hf
  have hv1 := hv.alloc (.cells #[sl b W.length cap, .map (some bm)] 46)
  clear hf
  go_enter Try.func72, Try.ntmps72
  go_wp2_with (first | (go_at_call 66; refine (form_any W b cap bm p _ hv1.row (by omega) hl).mono ?_; rintro e w1 ⟨rfl, hb1⟩; obtain ⟨bx0, bx1⟩ := box_cells hb1; have hv2 := hv1.same hb1) | (go_at_call 67; refine (slots_any W b cap bm p _ hv2 hu hl hp).mono ?_; rintro e w2 ⟨⟨ad, c, rfl, had, hac, hcm⟩, hb2⟩))
  have hb3 := hb1.trans (hb2.mono hb1.size)
  clear hb1 hb2 hv2 bx0 bx1
  have HS : Hid (nextAt W p = p + 3 + slotsAt W p) := rfl
  go_loopw [16] (fun s wr => ∃ (k : Nat), s = .int .i64 k ∧ k ≤ slotsAt W p ∧ Hid (badSlot W (formAt W p) (p + 3) (slotsAt W p) = badSlot W (formAt W p) (p + 3 + k) (slotsAt W p - k)) ∧
      Below (w.alloc (.cells #[sl b W.length cap, .map (some bm)] 46)).heap.size (w.alloc (.cells #[sl b W.length cap, .map (some bm)] 46)) wr) (fun s _ => slotsAt W p - (intOf s).toNat)
  case atStart => exact ⟨0, rfl, Nat.zero_le _, rfl, hb3⟩
  case round =>
    obtain ⟨k, rfl, hk, hbad, hbel⟩ := hrel
    obtain ⟨bx0, bx1⟩ := box_cells hbel
    have hv2 := hv1.same hbel
    by_cases hlt : k < slotsAt W p
    · have := had (by omega)
      subst this
      have hcell := hv2.cell (k := p + 3 + k) (by omega)
      have hblt := hv2.lt
      have hkk : slotsAt W p - k = (slotsAt W p - (k + 1)) + 1 := by omega
      cases hst : standB W (formAt W p) (wd W (p + 3 + k)) with
      | true =>
        have hb1 : Hid (badSlot W (formAt W p) (p + 3) (slotsAt W p) = badSlot W (formAt W p) (p + 3 + (k + 1)) (slotsAt W p - (k + 1))) := by
          have := hbad.out; rw [hkk, bad_yes hst] at this; exact this
        clear hkk hbad
        go_wp2_with (first | (go_at_call 75; refine (mayStand_any W b cap bm _ _ _ hv2).mono ?_; rintro e w4 ⟨rfl, hb4⟩))
        go_roundw
        case rel => exact ⟨k + 1, by first | rfl | simp, by omega, hb1, hbel.trans (hb4.mono hbel.size)⟩
        case measure => simp [intOf]; omega
      | false =>
        have H : Hid (badSlot W (formAt W p) (p + 3) (slotsAt W p) = some (p + 3 + k)) := by
          have := hbad.out; rw [hkk, bad_no hst] at this; exact this
        clear hkk hbad
        go_wp2_with (first | (go_at_call 75; refine (mayStand_any W b cap bm _ _ _ hv2).mono ?_; rintro e w4 ⟨rfl, hb4⟩))
        go_ret2
        exact ⟨by rw [H.out]; rfl, below_call (hbel.trans (hb4.mono hbel.size))⟩
    · have H : Hid (badSlot W (formAt W p) (p + 3) (slotsAt W p) = none) := by
        have := hbad.out
        rw [show slotsAt W p - k = 0 by omega] at this
        exact this
      clear hbad
      go_wp2
      go_ret2
      exact ⟨by rw [H.out]; rfl, below_call hbel⟩

/-- The map in block bm has those places: one more. -/
theorem Begun.put {w w' : World} {bm n : Nat} {W : List Int} {ps : List Nat} {p : Nat} {D : DataW Unit} (hD : w.ownsMap Try.prog 3 (plainElem Try.prog 3) bm n D) (hn : n ≤ ps.length)
    (hh : ∀ k : Nat, Go.Maps.has D (.int .i64 k) = ps.contains k) (ha : ∀ k : Nat, k ∈ ps → D.atKey (.int .i64 k) (.lit (.int .i64 0)) = .lit (.int .i64 (slotsAt W k : Nat)))
    (ho : w'.ownsMap Try.prog 3 (plainElem Try.prog 3) bm (n + 1) (D.put (.int .i64 p) (.lit (.int .i64 (slotsAt W p : Nat))))) : Begun w' bm W (ps ++ [p]) := by
  have hM := hD.isMap
  refine ⟨n + 1, _, ho, by simp; omega, fun k => ?_, fun k hk => ?_⟩
  · by_cases e : k = p
    · subst e
      rw [Go.Maps.has_put_same hM (show WideAt.IsKeyLit (.int .i64 _) from trivial)]; simp
    · rw [Go.Maps.has_put_other (fun h => e (by simp at h; omega)), hh k]
      simp [e]
  · by_cases e : k = p
    · subst e
      rw [Go.Maps.atKey_put_same hM (show WideAt.IsKeyLit (.int .i64 _) from trivial)]
    · rw [Go.Maps.atKey_put_other (fun h => e (by simp at h; omega))]
      exact ha k (by simp [e] at hk; exact hk)

theorem grown_of_below {w w' : World} {row : Option Nat} (h : Below w.heap.size w w') : w.grownBy w' row := ⟨h.os, h.tape, h.output, h.size, fun k hk _ => h.block k hk⟩
theorem grown_setCell {w w' : World} {row : Option Nat} (h : w.grownBy w' row) {a : Addr} (ha : w.heap.size ≤ a.block) (u : Value) : w.grownBy (w'.setCell a u) row :=
  ⟨h.os, h.tape, h.output, by simp [World.setCell]; exact h.size, fun k hk hr => (Below.heap_setCell _ _ _ _ (by omega)).trans (h.block k hk hr)⟩
theorem grown_boxes {w wr : World} {a c x y : Value} {t t' : TypeId} {bm : Nat} (hbm : bm < w.heap.size) (h : ((w.alloc (.cells #[a, c] t)).alloc (.cells #[x, y] t')).grownBy wr (some bm)) :
    (wr.cell? ⟨w.heap.size, 0, none⟩ = some a ∧ wr.cell? ⟨w.heap.size, 1, none⟩ = some c) ∧ wr.cell? ⟨w.heap.size + 1, 0, none⟩ = some x ∧ wr.cell? ⟨w.heap.size + 1, 1, none⟩ = some y ∧
      wr.frozen? ⟨w.heap.size + 1, 0, none⟩ = false ∧ wr.frozen? ⟨w.heap.size + 1, 1, none⟩ = false ∧ w.heap.size + 2 ≤ wr.heap.size := by
  have h0 := h.block w.heap.size (by simp; omega) (by simp; omega)
  have h1 := h.block (w.heap.size + 1) (by simp) (by simp; omega)
  have hs := h.size
  refine ⟨⟨?_, ?_⟩, ?_, ?_, ?_, ?_, by simpa using hs⟩
  · rw [World.cell?_of_block (a := ⟨w.heap.size, 0, none⟩) h0]; simp
  · rw [World.cell?_of_block (a := ⟨w.heap.size, 1, none⟩) h0]; simp
  · rw [World.cell?_of_block (a := ⟨w.heap.size + 1, 0, none⟩) h1]; simp
  · rw [World.cell?_of_block (a := ⟨w.heap.size + 1, 1, none⟩) h1]; simp
  · rw [World.frozen?_of_block (a := ⟨w.heap.size + 1, 0, none⟩) h1]; simp
  · rw [World.frozen?_of_block (a := ⟨w.heap.size + 1, 1, none⟩) h1]; simp
theorem own_kept {w w' : World} {b cap bm n : Nat} {xs : List Value} (h : w.ownsRow 0 3 1 (sl b n cap) n xs) (hg : w.grownBy w' (some bm)) (hne : b ≠ bm) : w'.ownsRow 0 3 1 (sl b n cap) n xs :=
  h.kept hg (Or.inr (by simp [Value.ownBlock]; exact hne))

/-- What findThings has done: of what was there only the map in block bm has turned, which has the places. -/
def Found (W : List Int) (b cap bm : Nat) (w w' : World) (e : Ending) : Prop :=
  (match unfit W 2 with
    | some p => e = .returned (.agg #[.int .i64 2, .int .i64 p])
    | none => e = .returned (.agg #[.int .i64 0, .int .i64 0]) ∧ IsView w' b cap bm W) ∧ w.grownBy w' (some bm)

set_option maxHeartbeats 1000000 in
theorem findThings_any (W : List Int) (b cap bm : Nat) (w : World) (hown : w.ownsRow 0 3 1 (sl b W.length cap) W.length (vals W)) (hwf : ∀ k, (Lit.int .i64 (wd W k)).wf = true) (hm : Begun w bm W []) (hne : b ≠ bm) (hl : W.length ≤ 2000) :
    Calls Try.prog 57 #[viewV b W.length cap bm] w fun e w' => Found W b cap bm w w' e := by
  have hblt := own_lt hown
  have hmlt := hm.lt
  have hg0 : w.grownBy ((w.alloc (Obj.cells #[sl b W.length cap, Value.map (some bm)] 46)).alloc (Obj.cells #[Value.int IntKind.i64 0, Value.int IntKind.i64 0] 33)) (some bm) := (World.grownBy_alloc _ _ _).trans (World.grownBy_alloc _ _ _)
  go_enter Try.func57, Try.ntmps57
  go_wp2
  go_loopw [3] (fun i wr => ∃ (p : Nat) (pre : List Nat), i = .int .i64 p ∧ 2 ≤ p ∧ p ≤ 2100 ∧ pre.length ≤ p ∧ Hid (unfit W p = unfit W 2) ∧ pre ++ places W p = places W 2 ∧ Begun wr bm W pre ∧ ((w.alloc (Obj.cells #[sl b W.length cap, Value.map (some bm)] 46)).alloc (Obj.cells #[Value.int IntKind.i64 0, Value.int IntKind.i64 0] 33)).grownBy wr (some bm)) (fun i _ => 3000 - (intOf i).toNat)
  case atStart => exact ⟨2, [], rfl, by omega, by omega, by simp, rfl, rfl, hm.below (((Below.refl _ _).alloc (Nat.le_refl _) _).alloc (by simp) _) hmlt, World.grownBy.refl _ _⟩
  case round =>
    rename_i wr
    obtain ⟨p, pre, rfl, hp2, hpl, hlen, hup, hpre, hbg, hg⟩ := hrel
    obtain ⟨⟨bx0, bx1⟩, rs0, rs1, rf0, rf1, hsz⟩ := grown_boxes hmlt hg
    have hgw := hg0.trans hg
    have hown1 := own_kept hown hgw hne
    have hrow : Row wr b 0 W := own_reads hown1 hwf
    by_cases hin : p < W.length
    · cases hf : fitsB W p with
      | true =>
        have Hu : Hid (unfit W (nextAt W p) = unfit W 2) := (unfit_in hin hf).symm.trans hup
        have hfo := fits_out hf
        have hn : nextAt W p ≤ W.length := by unfold nextAt; omega
        have hge : p + 3 ≤ nextAt W p := by unfold nextAt; omega
        have hsl : (p : Int) + (3 + (slotsAt W p : Nat)) = (nextAt W p : Nat) := by unfold nextAt; omega
        have hs60 : slotsAt W p ≤ 60 := by unfold slotsAt; omega
        have hwp : (Lit.int .i64 (p : Int)).wf = true := by go_wf
        have hws : (Lit.int .i64 ((slotsAt W p : Nat) : Int)).wf = true := by go_wf
        clear hup
        go_wp2_with (first | (go_at_call 71; refine (fitting_any W b cap bm p _ hrow hl hin).mono ?_; rintro e w1 ⟨⟨n', rfl, hn'⟩, hb1⟩; have hnn := hn' hf; subst hnn; clear hn'; have hg1 := hg.trans (grown_of_below hb1); obtain ⟨⟨cx0, cx1⟩, sr0, sr1, fr0, fr1, hsz1⟩ := grown_boxes hmlt hg1; obtain ⟨n, D, hD, hDn, hDh, hDa⟩ := hbg.below hb1 hbg.lt) | (at_mapUpdate; refine wpList_mapUpdate_own _ rfl _ _ _ 44 rfl 3 3 key3 ty59 (plainElem Try.prog 3) bm n D rfl hD (by unfold maxLen; omega) _ _ _ rfl rfl (keyOf_int_mk ty3 hwp) _ [] (plainElem_int ty3 hws) ?_; intro w3 hm3 hg3))
        go_roundw
        case rel => exact ⟨nextAt W p, pre ++ [p], by first | rfl | simp, by omega, by omega, by simp; omega, Hu, by rw [← hpre, places_in hin]; simp, Begun.put hD hDn hDh hDa hm3, hg1.trans hg3⟩
        case measure => simp [intOf]; omega
      | false =>
        have H : Hid (unfit W 2 = some p) := hup.out.symm.trans (unfit_no hin hf)
        clear hup
        go_wp2_with (first | (go_at_call 71; refine (fitting_any W b cap bm p _ hrow hl hin).mono ?_; rintro e w1 ⟨⟨n', rfl, hn'⟩, hb1⟩; clear hn'; have hg1 := hg.trans (grown_of_below hb1); obtain ⟨⟨cx0, cx1⟩, sr0, sr1, fr0, fr1, hsz1⟩ := grown_boxes hmlt hg1))
        refine bodyPost_ret (v := .agg #[.int .i64 2, .int .i64 p]) (by simp [results, Try.results57, go_sem, sr0, sr1]) rfl ?_
        unfold Found
        rw [H.out]
        exact ⟨rfl, grown_setCell (grown_setCell (hg0.trans hg1) (by simp) _) (by simp) _⟩
    · have H : Hid (unfit W 2 = none) := hup.out.symm.trans (unfit_end hin)
      have hfin : pre = places W 2 := by rw [← hpre, places_end hin, List.append_nil]
      clear hup
      go_wp2
      refine bodyPost_ret (v := .agg #[.int .i64 0, .int .i64 0]) (by simp [results, Try.results57, go_sem, rs0, rs1]) rfl ?_
      unfold Found
      rw [H.out]
      have hg2 : w.grownBy ((wr.setCell ⟨w.heap.size + 1, 0, none⟩ (.int .i64 0)).setCell ⟨w.heap.size + 1, 1, none⟩ (.int .i64 0)) (some bm) := grown_setCell (grown_setCell hgw (by simp) _) (by simp) _
      refine ⟨⟨rfl, own_kept hown hg2 hne, hwf, ?_⟩, hg2⟩
      rw [hfin] at hbg
      exact hbg.below (((Below.refl _ _).setCell (by simp) _).setCell (by simp) _) (B := w.heap.size) hmlt
end Go.Proofs.Ythdhaokjibfjdaa
