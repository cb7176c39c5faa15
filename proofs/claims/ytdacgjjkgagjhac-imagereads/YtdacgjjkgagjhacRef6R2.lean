/- gessoref6.Read, behind the mark. -/
import Derived.Test.YtdacgjjkgagjhacRef6R
namespace Go.Proofs.Ytdacgjjkgagjhac
open Go.RowKit


set_option maxRecDepth 20000 in
set_option maxHeartbeats 4000000 in
theorem rread_l1 (cap : Nat) (ad : Option Addr) (b : List Int) (w : World) (h : BytesAt ad b w) (hbm : b.length ≤ maxLen) (hmk : markP b = none) (f : Int × Int) (l1 : listAt b 2 2 2000 = .error f) :
    Calls Try.prog 18 #[.slice ad b.length cap] w fun e w' => noRead f e ∧ Below w.heap.size w w' := by
  obtain ⟨hl2, hb0, hb1⟩ := mark_out hmk
  obtain ⟨gb, ob, rfl, hrow⟩ := h.2 (by omega)
  have hbA : Below w.heap.size w ((w.alloc (.cells #[.slice none 0 0] 24)).alloc (.cells #[.int .i64 0, .int .i64 0] 27)) := ((Below.refl _ _).alloc (Nat.le_refl _) _).alloc (by simp) _
  have hglt := hrow.lt
  have hc0 := (hrow.same hbA).cell 0 (by omega)
  rw [Nat.add_zero, hb0] at hc0
  have hc1 := (hrow.same hbA).cell 1 (by omega)
  rw [hb1] at hc1
  have hi0 : (0 : Int) < (b.length : Int) := by omega
  have hi1 : (1 : Int) < (b.length : Int) := by omega
  have hnl : ¬ (b.length : Int) < 2 := by omega
  have HB : Hid (BytesAt (some ⟨gb, ob, none⟩) b w) := h
  have hbm' := hbm
  unfold maxLen at hbm'
  have HL1 : Hid (∀ w0, BytesAt (some ⟨gb, ob, none⟩) b w0 → Calls Try.prog 26 #[.slice (some ⟨gb, ob, none⟩) b.length cap, .int .i64 2, .int .i64 2, .int .i64 2000] w0 fun e w' => e = .returned (.tuple #[.slice none 0 0, .int .i64 0, .agg #[.int .i64 f.1, .int .i64 f.2]]) ∧ Below w0.heap.size w0 w') := fun w0 h0 => rlist_bad (some ⟨gb, ob, none⟩) cap 2 2 2000 f b w0 h0 hbm (by omega) (by omega) (by omega) (by omega) (by omega) l1
  have hcf := listAt_code l1
  obtain ⟨F1, F2⟩ := f
  have hcb : (F1 != 0) = true := by simpa using hcf
  clear h hrow hbm hmk l1 hcf hb0 hb1
  go_enter Try.func18, Try.ntmps18
  go_wp2_with (first | (go_at_call_of 26 (Value.int IntKind.i64 2000); refine (HL1.out _ (HB.out.below hbA)).mono ?_; rintro e w1 ⟨rfl, hb1⟩; obtain ⟨⟨c0, c1, c2⟩, ⟨z0, z1, z2⟩, hz, hz0⟩ := boxesR hb1))
  go_region
  all_goals go_wp2_with fail
  all_goals refine bodyPost_ret (v := .tuple #[.agg #[.slice none 0 0], .slice none 0 0, .agg #[.int .i64 F1, .int .i64 F2]]) (by simp [results, Try.results18, go_sem, cell_past, c0, c1, c2, hz, hz0]) rfl ⟨rfl, ?_⟩
  all_goals repeat (first | refine Below.drew ?_ | refine Below.setCell ?_ (by dsimp only; omega) _ | refine Below.alloc ?_ (by first | omega | (simp; omega)) _ | exact below2 hb1)

set_option maxRecDepth 20000 in
set_option maxHeartbeats 4000000 in
theorem rread_l2 (cap : Nat) (ad : Option Addr) (b : List Int) (w : World) (h : BytesAt ad b w) (hbm : b.length ≤ maxLen) (hmk : markP b = none) (W : List Int) (p : Nat) (f : Int × Int) (l1 : listAt b 2 2 2000 = .ok (W, p)) (l2 : listAt b p 0 600 = .error f) :
    Calls Try.prog 18 #[.slice ad b.length cap] w fun e w' => noRead f e ∧ Below w.heap.size w w' := by
  obtain ⟨hl2, hb0, hb1⟩ := mark_out hmk
  obtain ⟨gb, ob, rfl, hrow⟩ := h.2 (by omega)
  have hbA : Below w.heap.size w ((w.alloc (.cells #[.slice none 0 0] 24)).alloc (.cells #[.int .i64 0, .int .i64 0] 27)) := ((Below.refl _ _).alloc (Nat.le_refl _) _).alloc (by simp) _
  have hglt := hrow.lt
  have hc0 := (hrow.same hbA).cell 0 (by omega)
  rw [Nat.add_zero, hb0] at hc0
  have hc1 := (hrow.same hbA).cell 1 (by omega)
  rw [hb1] at hc1
  have hi0 : (0 : Int) < (b.length : Int) := by omega
  have hi1 : (1 : Int) < (b.length : Int) := by omega
  have hnl : ¬ (b.length : Int) < 2 := by omega
  have HB : Hid (BytesAt (some ⟨gb, ob, none⟩) b w) := h
  have hbm' := hbm
  unfold maxLen at hbm'
  obtain ⟨hp9, _⟩ := listAt_le h.1 (by omega) (by omega) l1
  have HL1 : Hid (∀ w0, BytesAt (some ⟨gb, ob, none⟩) b w0 → Calls Try.prog 26 #[.slice (some ⟨gb, ob, none⟩) b.length cap, .int .i64 2, .int .i64 2, .int .i64 2000] w0 fun e w' => (∃ ad' c', e = .returned (.tuple #[.slice ad' W.length c', .int .i64 (p : Int), .agg #[.int .i64 0, .int .i64 0]]) ∧ OwnAt w0.heap.size ad' W w') ∧ Below w0.heap.size w0 w') := fun w0 h0 => rlist_ok (some ⟨gb, ob, none⟩) cap 2 p 2 2000 b W w0 h0 hbm (by omega) (by omega) (by omega) (by omega) (by omega) l1
  have HL2 : Hid (∀ w0, BytesAt (some ⟨gb, ob, none⟩) b w0 → Calls Try.prog 26 #[.slice (some ⟨gb, ob, none⟩) b.length cap, .int .i64 (p : Int), .int .i64 0, .int .i64 600] w0 fun e w' => e = .returned (.tuple #[.slice none 0 0, .int .i64 0, .agg #[.int .i64 f.1, .int .i64 f.2]]) ∧ Below w0.heap.size w0 w') := fun w0 h0 => rlist_bad (some ⟨gb, ob, none⟩) cap p 0 600 f b w0 h0 hbm (by omega) (by omega) (by omega) (by omega) (by omega) l2
  have hcf := listAt_code l2
  obtain ⟨F1, F2⟩ := f
  have hcb : (F1 != 0) = true := by simpa using hcf
  clear h hrow hbm hmk l1 l2 hcf hb0 hb1
  go_enter Try.func18, Try.ntmps18
  go_wp2_with (first | (go_at_call_of 26 (Value.int IntKind.i64 2000); refine (HL1.out _ (HB.out.below hbA)).mono ?_; rintro e w1 ⟨⟨aW, cW, rfl, oW⟩, hb1⟩; obtain ⟨⟨c0, c1, c2⟩, ⟨z0, z1, z2⟩, hz, hz0⟩ := boxesR hb1; have hB1 := below2 hb1; have hB1a : Below w.heap.size w (w1.alloc (.cells #[.int .i64 0, .int .i64 0] 27)) := (hB1.alloc hB1.size _); have OW1 : Hid (OwnAt _ aW W w1) := oW; clear oW) | (go_at_call_of 26 (Value.int IntKind.i64 600); refine (HL2.out _ (HB.out.below hB1a)).mono ?_; rintro e w2 ⟨rfl, hb2⟩; obtain ⟨y0, y1, fy0, fy1, zY⟩ := box2W hb2; have hB2 := hB1.trans ((below_call hb2).mono hB1.size); have d0 := through (below_call hb2) c0 hz0; have d1 := through (below_call hb2) c1 hz; have d2 := through (below_call hb2) c2 hz; have e0 := throughF (below_call hb2) z0 hz0; have e1 := throughF (below_call hb2) z1 hz; have e2 := throughF (below_call hb2) z2 hz; have lz : w.heap.size + 1 < w2.heap.size := (by omega); have lz0 : w.heap.size < w2.heap.size := (by omega); have n1 : ¬ w1.heap.size = w.heap.size := (by omega); have n2 : ¬ w1.heap.size = w.heap.size + 1 := (by omega); have n3 : ¬ w.heap.size = w1.heap.size := (by omega); have n4 : ¬ w.heap.size + 1 = w1.heap.size := (by omega)))
  go_region
  all_goals go_wp2_with fail
  all_goals refine bodyPost_ret (v := .tuple #[.agg #[.slice none 0 0], .slice none 0 0, .agg #[.int .i64 F1, .int .i64 F2]]) (by simp [results, Try.results18, go_sem, d0, d1, d2]) rfl ⟨rfl, ?_⟩
  all_goals repeat (first | refine Below.drew ?_ | refine Below.setCell ?_ (by dsimp only; omega) _ | refine Below.alloc ?_ (by first | omega | (simp; omega)) _ | exact hB2)

set_option maxRecDepth 20000 in
set_option maxHeartbeats 4000000 in
theorem rread_rest (cap : Nat) (ad : Option Addr) (b : List Int) (w : World) (h : BytesAt ad b w) (hbm : b.length ≤ maxLen) (hmk : markP b = none) (W R : List Int) (p q : Nat) (l1 : listAt b 2 2 2000 = .ok (W, p)) (l2 : listAt b p 0 600 = .ok (R, q)) (hq : q < b.length) :
    Calls Try.prog 18 #[.slice ad b.length cap] w fun e w' => noRead (9, (q : Int)) e ∧ Below w.heap.size w w' := by
  obtain ⟨hl2, hb0, hb1⟩ := mark_out hmk
  obtain ⟨gb, ob, rfl, hrow⟩ := h.2 (by omega)
  have hbA : Below w.heap.size w ((w.alloc (.cells #[.slice none 0 0] 24)).alloc (.cells #[.int .i64 0, .int .i64 0] 27)) := ((Below.refl _ _).alloc (Nat.le_refl _) _).alloc (by simp) _
  have hglt := hrow.lt
  have hc0 := (hrow.same hbA).cell 0 (by omega)
  rw [Nat.add_zero, hb0] at hc0
  have hc1 := (hrow.same hbA).cell 1 (by omega)
  rw [hb1] at hc1
  have hi0 : (0 : Int) < (b.length : Int) := by omega
  have hi1 : (1 : Int) < (b.length : Int) := by omega
  have hnl : ¬ (b.length : Int) < 2 := by omega
  have HB : Hid (BytesAt (some ⟨gb, ob, none⟩) b w) := h
  have hbm' := hbm
  unfold maxLen at hbm'
  obtain ⟨hp9, _⟩ := listAt_le h.1 (by omega) (by omega) l1
  have HL1 : Hid (∀ w0, BytesAt (some ⟨gb, ob, none⟩) b w0 → Calls Try.prog 26 #[.slice (some ⟨gb, ob, none⟩) b.length cap, .int .i64 2, .int .i64 2, .int .i64 2000] w0 fun e w' => (∃ ad' c', e = .returned (.tuple #[.slice ad' W.length c', .int .i64 (p : Int), .agg #[.int .i64 0, .int .i64 0]]) ∧ OwnAt w0.heap.size ad' W w') ∧ Below w0.heap.size w0 w') := fun w0 h0 => rlist_ok (some ⟨gb, ob, none⟩) cap 2 p 2 2000 b W w0 h0 hbm (by omega) (by omega) (by omega) (by omega) (by omega) l1
  have HL2 : Hid (∀ w0, BytesAt (some ⟨gb, ob, none⟩) b w0 → Calls Try.prog 26 #[.slice (some ⟨gb, ob, none⟩) b.length cap, .int .i64 (p : Int), .int .i64 0, .int .i64 600] w0 fun e w' => (∃ ad' c', e = .returned (.tuple #[.slice ad' R.length c', .int .i64 (q : Int), .agg #[.int .i64 0, .int .i64 0]]) ∧ OwnAt w0.heap.size ad' R w') ∧ Below w0.heap.size w0 w') := fun w0 h0 => rlist_ok (some ⟨gb, ob, none⟩) cap p q 0 600 b R w0 h0 hbm (by omega) (by omega) (by omega) (by omega) (by omega) l2
  have hqb : (q : Int) < (b.length : Int) := by omega
  clear h hrow hbm hmk l1 l2 hb0 hb1
  go_enter Try.func18, Try.ntmps18
  go_wp2_with (first | (go_at_call_of 26 (Value.int IntKind.i64 2000); refine (HL1.out _ (HB.out.below hbA)).mono ?_; rintro e w1 ⟨⟨aW, cW, rfl, oW⟩, hb1⟩; obtain ⟨⟨c0, c1, c2⟩, ⟨z0, z1, z2⟩, hz, hz0⟩ := boxesR hb1; have hB1 := below2 hb1; have hB1a : Below w.heap.size w (w1.alloc (.cells #[.int .i64 0, .int .i64 0] 27)) := (hB1.alloc hB1.size _); have OW1 : Hid (OwnAt _ aW W w1) := oW; clear oW) | (go_at_call_of 26 (Value.int IntKind.i64 600); refine (HL2.out _ (HB.out.below hB1a)).mono ?_; rintro e w2 ⟨⟨aR, cR, rfl, oR⟩, hb2⟩; obtain ⟨y0, y1, fy0, fy1, zY⟩ := box2W hb2; have hB2 := hB1.trans ((below_call hb2).mono hB1.size); have d0 := through (below_call hb2) c0 hz0; have d1 := through (below_call hb2) c1 hz; have d2 := through (below_call hb2) c2 hz; have e0 := throughF (below_call hb2) z0 hz0; have e1 := throughF (below_call hb2) z1 hz; have e2 := throughF (below_call hb2) z2 hz; have lz : w.heap.size + 1 < w2.heap.size := (by omega); have lz0 : w.heap.size < w2.heap.size := (by omega); have n1 : ¬ w1.heap.size = w.heap.size := (by omega); have n2 : ¬ w1.heap.size = w.heap.size + 1 := (by omega); have n3 : ¬ w.heap.size = w1.heap.size := (by omega); have n4 : ¬ w.heap.size + 1 = w1.heap.size := (by omega); have OW2 : Hid (OwnAt _ aW W w2) := (OW1.out.below (below_call hb2)); have OR2 : Hid (OwnAt _ aR R w2) := oR; clear oR))
  refine bodyPost_ret (v := .tuple #[.agg #[.slice none 0 0], .slice none 0 0, .agg #[.int .i64 9, .int .i64 (q : Int)]]) (by simp [results, Try.results18, go_sem, d0, d1, d2]) rfl ⟨rfl, ?_⟩
  repeat (first | refine Below.drew ?_ | refine Below.setCell ?_ (by dsimp only; omega) _ | refine Below.alloc ?_ (by first | omega | (simp; omega)) _ | exact hB2)

/-- A box of two cells is written, a call made. -/
theorem after_two {w2 w3 : World} {X : Nat} {u v a b : Value} (hb : Below ((w2.setCell ⟨X, 0, none⟩ u).setCell ⟨X, 1, none⟩ v).heap.size ((w2.setCell ⟨X, 0, none⟩ u).setCell ⟨X, 1, none⟩ v) w3) (h0 : w2.cell? ⟨X, 0, none⟩ = some a) (h1 : w2.cell? ⟨X, 1, none⟩ = some b) (hlt : X < w2.heap.size) :
    (w3.cell? ⟨X, 0, none⟩ = some u ∧ w3.cell? ⟨X, 1, none⟩ = some v) ∧ w2.heap.size ≤ w3.heap.size ∧ (∀ (p : Addr) c, w2.cell? p = some c → p.block ≠ X → p.block < w2.heap.size → w3.cell? p = some c) ∧ (∀ (p : Addr) c, w2.frozen? p = c → p.block < w2.heap.size → w3.frozen? p = c) ∧ (∀ g off xs, Row w2 g off xs → g ≠ X → Row w3 g off xs) ∧ (∀ B w, Below B w w2 → B ≤ X → Below B w w3) := by
  have hs := hb.size
  have e : ((w2.setCell ⟨X, 0, none⟩ u).setCell ⟨X, 1, none⟩ v).heap.size = w2.heap.size := by simp [World.setCell]
  rw [e] at hs
  refine ⟨⟨?_, ?_⟩, hs, fun p c hc hp hl => ?_, fun p c hc hl => ?_, fun g off xs r hg => ?_, fun B w hB hX => ?_⟩
  · rw [hb.cell (p := ⟨X, 0, none⟩) (by rw [e]; exact hlt), World.cell?_setCell_other _ _ _ _ (by simp)]
    exact World.cell?_setCell_same' _ _ _ (by rw [h0]; rfl)
  · rw [hb.cell (p := ⟨X, 1, none⟩) (by rw [e]; exact hlt)]
    exact World.cell?_setCell_same' _ _ _ (by rw [World.cell?_setCell_other _ _ _ _ (by simp), h1]; rfl)
  · rw [hb.cell (p := p) (by rw [e]; exact hl), World.cell?_setCell_other _ _ _ _ (by intro h; exact hp (by rw [← h])), World.cell?_setCell_other _ _ _ _ (by intro h; exact hp (by rw [← h]))]
    exact hc
  · rw [hb.frozen (p := p) (by rw [e]; exact hl)]; simpa using hc
  · exact (row_set (row_set r (by dsimp only; exact hg) _) (by dsimp only; exact hg) _).same hb
  · have hBw : B ≤ w2.heap.size := by omega
    exact ((hB.setCell (p := ⟨X, 0, none⟩) hX u).setCell (p := ⟨X, 1, none⟩) hX v).trans (hb.mono (by rw [e]; exact hBw))
theorem OwnAt.two {w2 w3 : World} {X B : Nat} {u v : Value} {ad : Option Addr} {l : List Int} (h : OwnAt B ad l w2) (hX : X < B) (hb : Below ((w2.setCell ⟨X, 0, none⟩ u).setCell ⟨X, 1, none⟩ v).heap.size ((w2.setCell ⟨X, 0, none⟩ u).setCell ⟨X, 1, none⟩ v) w3) : OwnAt B ad l w3 :=
  ((h.set (p := ⟨X, 0, none⟩) hX u).set (p := ⟨X, 1, none⟩) hX v).below hb
/-- What Read answers where all is well. -/
def RReadAns (W R : List Int) (e : Ending) (w : World) : Prop := ∃ v v', e = .returned (.tuple #[.agg #[v], v', .agg #[.int .i64 0, .int .i64 0]]) ∧ Reads w v W ∧ Reads w v' R

set_option maxRecDepth 20000 in
set_option maxHeartbeats 4000000 in
theorem rread_roots (cap : Nat) (ad : Option Addr) (b : List Int) (w : World) (h : BytesAt ad b w) (hbm : b.length ≤ maxLen) (hmk : markP b = none) (W R : List Int) (p q : Nat) (l1 : listAt b 2 2 2000 = .ok (W, p)) (l2 : listAt b p 0 600 = .ok (R, q)) (hq : ¬ q < b.length) (hr : (rootsOf W R).1 ≠ 0) :
    Calls Try.prog 18 #[.slice ad b.length cap] w fun e w' => noRead (rootsOf W R) e ∧ Below w.heap.size w w' := by
  obtain ⟨hl2, hb0, hb1⟩ := mark_out hmk
  obtain ⟨gb, ob, rfl, hrow⟩ := h.2 (by omega)
  have hbA : Below w.heap.size w ((w.alloc (.cells #[.slice none 0 0] 24)).alloc (.cells #[.int .i64 0, .int .i64 0] 27)) := ((Below.refl _ _).alloc (Nat.le_refl _) _).alloc (by simp) _
  have hglt := hrow.lt
  have hc0 := (hrow.same hbA).cell 0 (by omega)
  rw [Nat.add_zero, hb0] at hc0
  have hc1 := (hrow.same hbA).cell 1 (by omega)
  rw [hb1] at hc1
  have hi0 : (0 : Int) < (b.length : Int) := by omega
  have hi1 : (1 : Int) < (b.length : Int) := by omega
  have hnl : ¬ (b.length : Int) < 2 := by omega
  have HB : Hid (BytesAt (some ⟨gb, ob, none⟩) b w) := h
  have hbm' := hbm
  unfold maxLen at hbm'
  obtain ⟨hp9, _⟩ := listAt_le h.1 (by omega) (by omega) l1
  have HL1 : Hid (∀ w0, BytesAt (some ⟨gb, ob, none⟩) b w0 → Calls Try.prog 26 #[.slice (some ⟨gb, ob, none⟩) b.length cap, .int .i64 2, .int .i64 2, .int .i64 2000] w0 fun e w' => (∃ ad' c', e = .returned (.tuple #[.slice ad' W.length c', .int .i64 (p : Int), .agg #[.int .i64 0, .int .i64 0]]) ∧ OwnAt w0.heap.size ad' W w') ∧ Below w0.heap.size w0 w') := fun w0 h0 => rlist_ok (some ⟨gb, ob, none⟩) cap 2 p 2 2000 b W w0 h0 hbm (by omega) (by omega) (by omega) (by omega) (by omega) l1
  have HL2 : Hid (∀ w0, BytesAt (some ⟨gb, ob, none⟩) b w0 → Calls Try.prog 26 #[.slice (some ⟨gb, ob, none⟩) b.length cap, .int .i64 (p : Int), .int .i64 0, .int .i64 600] w0 fun e w' => (∃ ad' c', e = .returned (.tuple #[.slice ad' R.length c', .int .i64 (q : Int), .agg #[.int .i64 0, .int .i64 0]]) ∧ OwnAt w0.heap.size ad' R w') ∧ Below w0.heap.size w0 w') := fun w0 h0 => rlist_ok (some ⟨gb, ob, none⟩) cap p q 0 600 b R w0 h0 hbm (by omega) (by omega) (by omega) (by omega) (by omega) l2
  obtain ⟨_, _, _, _, a5, a6⟩ := listAt_out h.1 (by omega) l1
  obtain ⟨_, _, _, _, _, b6⟩ := listAt_out h.1 (by omega) l2
  have hW2 : 2 ≤ W.length := by omega
  have HRT : Hid (∀ aW cW aR cR w0, WordsAt aW W w0 → RootsAt aR R w0 → Calls Try.prog 13 #[heapV aW W.length cW, .slice aR R.length cR] w0 fun e w' => e = .returned (.agg #[.int .i64 (rootsOf W R).1, .int .i64 (rootsOf W R).2]) ∧ Below w0.heap.size w0 w') := fun aW cW aR cR w0 h1 h2 => rroots_any W R aW aR cW cR w0 (by unfold maxLen; omega) h1 h2 (by omega)
  generalize rootsOf W R = F at *
  have hcb : (F.1 != 0) = true := by simpa using hr
  have hqb : ¬ (q : Int) < (b.length : Int) := by omega
  clear h hrow hbm hmk l1 l2 hb0 hb1 a5 a6 b6 hr
  go_enter Try.func18, Try.ntmps18
  go_wp2_with (first | (go_at_call_of 26 (Value.int IntKind.i64 2000); refine (HL1.out _ (HB.out.below hbA)).mono ?_; rintro e w1 ⟨⟨aW, cW, rfl, oW⟩, hb1⟩; obtain ⟨gW, fW, rfl, hgW, rW⟩ := oW (by omega); obtain ⟨⟨c0, c1, c2⟩, ⟨z0, z1, z2⟩, hz, hz0⟩ := boxesR hb1; have hB1 := below2 hb1; have hB1a : Below w.heap.size w (w1.alloc (.cells #[.int .i64 0, .int .i64 0] 27)) := (hB1.alloc hB1.size _); have lW := rW.lt; have gW2 : w.heap.size + 1 < gW := (by simp at hgW; omega); have RW1 : Hid (Row w1 gW fW W) := rW; clear rW oW hgW) | (go_at_call_of 26 (Value.int IntKind.i64 600); refine (HL2.out _ (HB.out.below hB1a)).mono ?_; rintro e w2 ⟨⟨aR, cR, rfl, oR⟩, hb2⟩; obtain ⟨y0, y1, fy0, fy1, zY⟩ := box2W hb2; have hB2 := hB1.trans ((below_call hb2).mono hB1.size); have d0 := through (below_call hb2) c0 hz0; have d1 := through (below_call hb2) c1 hz; have d2 := through (below_call hb2) c2 hz; have e0 := throughF (below_call hb2) z0 hz0; have e1 := throughF (below_call hb2) z1 hz; have e2 := throughF (below_call hb2) z2 hz; have lz : w.heap.size + 1 < w2.heap.size := (by omega); have lz0 : w.heap.size < w2.heap.size := (by omega); have n1 : ¬ w1.heap.size = w.heap.size := (by omega); have n2 : ¬ w1.heap.size = w.heap.size + 1 := (by omega); have n3 : ¬ w.heap.size = w1.heap.size := (by omega); have n4 : ¬ w.heap.size + 1 = w1.heap.size := (by omega); have RW2 : Hid (Row w2 gW fW W) := (RW1.out.same (below_call hb2)); have OR2 : Hid (OwnAt (w1.heap.size + 1) aR R w2) := (by simp at oR; exact oR); clear oR) | (go_at_call 13; refine (HRT.out _ cW aR cR _ (fun _ => ⟨gW, fW, rfl, row_set (row_set RW2.out (by dsimp only; omega) _) (by dsimp only; omega) _⟩) ((OR2.out.set (p := ⟨w1.heap.size, 0, none⟩) (by dsimp only; omega) _).set (p := ⟨w1.heap.size, 1, none⟩) (by dsimp only; omega) _).roots).mono ?_; rintro e w3 ⟨rfl, hb3⟩; obtain ⟨⟨x0, x1⟩, s3, C3, F3, R3, B3⟩ := after_two hb3 y0 y1 zY; have d0' := C3 _ _ d0 (by dsimp only; omega) (by dsimp only; omega); have d1' := C3 _ _ d1 (by dsimp only; omega) (by dsimp only; omega); have d2' := C3 _ _ d2 (by dsimp only; omega) (by dsimp only; omega); have e0' := F3 _ _ e0 (by dsimp only; omega); have e1' := F3 _ _ e1 (by dsimp only; omega); have e2' := F3 _ _ e2 (by dsimp only; omega); have fx0 := F3 _ _ fy0 (by dsimp only; omega); have fx1 := F3 _ _ fy1 (by dsimp only; omega); have RW3 : Hid (Row w3 gW fW W) := (R3 _ _ _ RW2.out (by omega)); have OR3 : Hid (OwnAt (w1.heap.size + 1) aR R w3) := (OR2.out.two (by omega) hb3); have hB3 := B3 _ _ hB2 (by omega); have lz3 : w.heap.size + 1 < w3.heap.size := (by omega); have lz03 : w.heap.size < w3.heap.size := (by omega); have lY : w1.heap.size < w3.heap.size := (by omega); clear C3 F3 R3 B3))
  go_region
  all_goals go_wp2_with fail
  all_goals refine bodyPost_ret (v := .tuple #[.agg #[.slice none 0 0], .slice none 0 0, .agg #[.int .i64 F.1, .int .i64 F.2]]) (by simp [results, Try.results18, go_sem, d0', d1', d2']) rfl ⟨rfl, ?_⟩
  all_goals repeat (first | refine Below.drew ?_ | refine Below.setCell ?_ (by dsimp only; omega) _ | refine Below.alloc ?_ (by first | omega | (simp; omega)) _ | exact hB3)

set_option maxRecDepth 20000 in
set_option maxHeartbeats 4000000 in
theorem rread_ok (cap : Nat) (ad : Option Addr) (b : List Int) (w : World) (h : BytesAt ad b w) (hbm : b.length ≤ maxLen) (hmk : markP b = none) (W R : List Int) (p q : Nat) (l1 : listAt b 2 2 2000 = .ok (W, p)) (l2 : listAt b p 0 600 = .ok (R, q)) (hq : ¬ q < b.length) (hr : (rootsOf W R).1 = 0) :
    Calls Try.prog 18 #[.slice ad b.length cap] w fun e w' => RReadAns W R e w' ∧ Below w.heap.size w w' := by
  obtain ⟨hl2, hb0, hb1⟩ := mark_out hmk
  obtain ⟨gb, ob, rfl, hrow⟩ := h.2 (by omega)
  have hbA : Below w.heap.size w ((w.alloc (.cells #[.slice none 0 0] 24)).alloc (.cells #[.int .i64 0, .int .i64 0] 27)) := ((Below.refl _ _).alloc (Nat.le_refl _) _).alloc (by simp) _
  have hglt := hrow.lt
  have hc0 := (hrow.same hbA).cell 0 (by omega)
  rw [Nat.add_zero, hb0] at hc0
  have hc1 := (hrow.same hbA).cell 1 (by omega)
  rw [hb1] at hc1
  have hi0 : (0 : Int) < (b.length : Int) := by omega
  have hi1 : (1 : Int) < (b.length : Int) := by omega
  have hnl : ¬ (b.length : Int) < 2 := by omega
  have HB : Hid (BytesAt (some ⟨gb, ob, none⟩) b w) := h
  have hbm' := hbm
  unfold maxLen at hbm'
  obtain ⟨hp9, _⟩ := listAt_le h.1 (by omega) (by omega) l1
  have HL1 : Hid (∀ w0, BytesAt (some ⟨gb, ob, none⟩) b w0 → Calls Try.prog 26 #[.slice (some ⟨gb, ob, none⟩) b.length cap, .int .i64 2, .int .i64 2, .int .i64 2000] w0 fun e w' => (∃ ad' c', e = .returned (.tuple #[.slice ad' W.length c', .int .i64 (p : Int), .agg #[.int .i64 0, .int .i64 0]]) ∧ OwnAt w0.heap.size ad' W w') ∧ Below w0.heap.size w0 w') := fun w0 h0 => rlist_ok (some ⟨gb, ob, none⟩) cap 2 p 2 2000 b W w0 h0 hbm (by omega) (by omega) (by omega) (by omega) (by omega) l1
  have HL2 : Hid (∀ w0, BytesAt (some ⟨gb, ob, none⟩) b w0 → Calls Try.prog 26 #[.slice (some ⟨gb, ob, none⟩) b.length cap, .int .i64 (p : Int), .int .i64 0, .int .i64 600] w0 fun e w' => (∃ ad' c', e = .returned (.tuple #[.slice ad' R.length c', .int .i64 (q : Int), .agg #[.int .i64 0, .int .i64 0]]) ∧ OwnAt w0.heap.size ad' R w') ∧ Below w0.heap.size w0 w') := fun w0 h0 => rlist_ok (some ⟨gb, ob, none⟩) cap p q 0 600 b R w0 h0 hbm (by omega) (by omega) (by omega) (by omega) (by omega) l2
  obtain ⟨_, _, _, _, a5, a6⟩ := listAt_out h.1 (by omega) l1
  obtain ⟨_, _, _, _, _, b6⟩ := listAt_out h.1 (by omega) l2
  have hW2 : 2 ≤ W.length := by omega
  have h00 := (roots_zero hr).2.2
  have HRT : Hid (∀ aW cW aR cR w0, WordsAt aW W w0 → RootsAt aR R w0 → Calls Try.prog 13 #[heapV aW W.length cW, .slice aR R.length cR] w0 fun e w' => e = .returned (.agg #[.int .i64 0, .int .i64 0]) ∧ Below w0.heap.size w0 w') := fun aW cW aR cR w0 h1 h2 => by have := rroots_any W R aW aR cW cR w0 (by unfold maxLen; omega) h1 h2 (by omega); rw [h00] at this; exact this
  have hqb : ¬ (q : Int) < (b.length : Int) := by omega
  clear h hrow hbm hmk l1 l2 hb0 hb1 a5 a6 b6 hr h00
  go_enter Try.func18, Try.ntmps18
  go_wp2_with (first | (go_at_call_of 26 (Value.int IntKind.i64 2000); refine (HL1.out _ (HB.out.below hbA)).mono ?_; rintro e w1 ⟨⟨aW, cW, rfl, oW⟩, hb1⟩; obtain ⟨gW, fW, rfl, hgW, rW⟩ := oW (by omega); obtain ⟨⟨c0, c1, c2⟩, ⟨z0, z1, z2⟩, hz, hz0⟩ := boxesR hb1; have hB1 := below2 hb1; have hB1a : Below w.heap.size w (w1.alloc (.cells #[.int .i64 0, .int .i64 0] 27)) := (hB1.alloc hB1.size _); have lW := rW.lt; have gW2 : w.heap.size + 1 < gW := (by simp at hgW; omega); have RW1 : Hid (Row w1 gW fW W) := rW; clear rW oW hgW) | (go_at_call_of 26 (Value.int IntKind.i64 600); refine (HL2.out _ (HB.out.below hB1a)).mono ?_; rintro e w2 ⟨⟨aR, cR, rfl, oR⟩, hb2⟩; obtain ⟨y0, y1, fy0, fy1, zY⟩ := box2W hb2; have hB2 := hB1.trans ((below_call hb2).mono hB1.size); have d0 := through (below_call hb2) c0 hz0; have d1 := through (below_call hb2) c1 hz; have d2 := through (below_call hb2) c2 hz; have e0 := throughF (below_call hb2) z0 hz0; have e1 := throughF (below_call hb2) z1 hz; have e2 := throughF (below_call hb2) z2 hz; have lz : w.heap.size + 1 < w2.heap.size := (by omega); have lz0 : w.heap.size < w2.heap.size := (by omega); have n1 : ¬ w1.heap.size = w.heap.size := (by omega); have n2 : ¬ w1.heap.size = w.heap.size + 1 := (by omega); have n3 : ¬ w.heap.size = w1.heap.size := (by omega); have n4 : ¬ w.heap.size + 1 = w1.heap.size := (by omega); have RW2 : Hid (Row w2 gW fW W) := (RW1.out.same (below_call hb2)); have OR2 : Hid (OwnAt (w1.heap.size + 1) aR R w2) := (by simp at oR; exact oR); clear oR) | (go_at_call 13; refine (HRT.out _ cW aR cR _ (fun _ => ⟨gW, fW, rfl, row_set (row_set RW2.out (by dsimp only; omega) _) (by dsimp only; omega) _⟩) ((OR2.out.set (p := ⟨w1.heap.size, 0, none⟩) (by dsimp only; omega) _).set (p := ⟨w1.heap.size, 1, none⟩) (by dsimp only; omega) _).roots).mono ?_; rintro e w3 ⟨rfl, hb3⟩; obtain ⟨⟨x0, x1⟩, s3, C3, F3, R3, B3⟩ := after_two hb3 y0 y1 zY; have d0' := C3 _ _ d0 (by dsimp only; omega) (by dsimp only; omega); have d1' := C3 _ _ d1 (by dsimp only; omega) (by dsimp only; omega); have d2' := C3 _ _ d2 (by dsimp only; omega) (by dsimp only; omega); have e0' := F3 _ _ e0 (by dsimp only; omega); have e1' := F3 _ _ e1 (by dsimp only; omega); have e2' := F3 _ _ e2 (by dsimp only; omega); have fx0 := F3 _ _ fy0 (by dsimp only; omega); have fx1 := F3 _ _ fy1 (by dsimp only; omega); have RW3 : Hid (Row w3 gW fW W) := (R3 _ _ _ RW2.out (by omega)); have OR3 : Hid (OwnAt (w1.heap.size + 1) aR R w3) := (OR2.out.two (by omega) hb3); have hB3 := B3 _ _ hB2 (by omega); have lz3 : w.heap.size + 1 < w3.heap.size := (by omega); have lz03 : w.heap.size < w3.heap.size := (by omega); have lY : w1.heap.size < w3.heap.size := (by omega); clear C3 F3 R3 B3))
  refine bodyPost_ret (v := .tuple #[.agg #[.slice (some ⟨gW, fW, none⟩) W.length cW], .slice aR R.length cR, .agg #[.int .i64 0, .int .i64 0]]) (by simp [results, Try.results18, go_sem, d0', d1', d2']) rfl ⟨⟨_, _, rfl, ?_, ?_⟩, ?_⟩
  · refine Reads.of_row ?_
    repeat (first | refine row_set ?_ (by dsimp only; omega) _ | refine Row.alloc ?_ _ | exact RW3.out)
  · refine reads_roots (OwnAt.roots (B := w1.heap.size + 1) ?_)
    repeat (first | refine OwnAt.set ?_ (by dsimp only; omega) _ | exact OR3.out)
  · repeat (first | refine Below.drew ?_ | refine Below.setCell ?_ (by dsimp only; omega) _ | refine Below.alloc ?_ (by first | omega | (simp; omega)) _ | exact hB3)

/-- gessoref6.Read, in one. -/
theorem rread_any (cap : Nat) (ad : Option Addr) (b : List Int) (w : World) (h : BytesAt ad b w) (hbm : b.length ≤ maxLen) :
    Calls Try.prog 18 #[.slice ad b.length cap] w fun e w' => (match readP b with
      | .error f => noRead f e
      | .ok (W, R) => RReadAns W R e w') ∧ Below w.heap.size w w' := by
  rw [readP_lists]
  unfold listsP
  cases hmk : markP b with
  | some f => exact rread_mark ad cap b w h hbm f hmk
  | none =>
    simp only
    cases l1 : listAt b 2 2 2000 with
    | error f => exact rread_l1 cap ad b w h hbm hmk f l1
    | ok Wp =>
      obtain ⟨W, p⟩ := Wp
      simp only
      cases l2 : listAt b p 0 600 with
      | error f => exact rread_l2 cap ad b w h hbm hmk W p f l1 l2
      | ok Rq =>
        obtain ⟨R, q⟩ := Rq
        simp only
        by_cases hq : q < b.length
        · rw [if_pos hq]; exact rread_rest cap ad b w h hbm hmk W R p q l1 l2 hq
        · rw [if_neg hq]
          simp only
          by_cases hr : (rootsOf W R).1 = 0
          · rw [if_pos hr]; exact rread_ok cap ad b w h hbm hmk W R p q l1 l2 hq hr
          · rw [if_neg hr]; exact rread_roots cap ad b w h hbm hmk W R p q l1 l2 hq hr

end Go.Proofs.Ytdacgjjkgagjhac
