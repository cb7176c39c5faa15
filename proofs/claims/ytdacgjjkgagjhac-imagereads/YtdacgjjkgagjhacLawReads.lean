/- ImageReads holds for all bytes that can come in, with no condition: the program reads which image they are, as the document says, or tells what is wrong first; what is read is written as it was. -/
import Derived.Test.YtdacgjjkgagjhacOpenB
import Derived.Test.YtdacgjjkgagjhacRef6R2
namespace Go.Proofs.Ytdacgjjkgagjhac.imageReads
open Go.ChangeShapes Go.WideShapes Go.ChangeAt Go.RowKit Go.Joins Go.Deep

theorem readP_code {b : List Int} {f : Int × Int} (h : readP b = .error f) : f.1 ≠ 0 := by
  rw [readP_lists] at h
  cases hl : listsP b with
  | error g => rw [hl] at h; simp only [Except.error.injEq] at h; subst h; exact listsP_code hl
  | ok WR =>
    obtain ⟨W, R⟩ := WR
    rw [hl] at h
    simp only at h
    split at h
    · cases h
    · simp only [Except.error.injEq] at h; subst h; assumption
theorem reads_nil (w : World) : Reads w (.slice none 0 0) [] := ⟨none, 0, rfl, fun h => by simp at h⟩

set_option maxRecDepth 20000 in
set_option maxHeartbeats 4000000 in
theorem walk_bad (b : List Int) (ad : Option Addr) (cap : Nat) (w : World) (hbm : b.length ≤ maxLen) (hb : BytesAt ad b w) (f : Int × Int) (hf : readP b = .error f) :
    Calls Try.prog 5 #[.slice ad b.length cap] w fun e w' => e = .returned (.bool true) ∧ Below w.heap.size w w' := by
  have h1 : Hid (∀ w0, BytesAt ad b w0 → Calls Try.prog 15 #[.slice ad b.length cap] w0 fun e w' => noRead f e ∧ Below w0.heap.size w0 w') := fun w0 h0 => by
    have := iread_any ad cap b w0 h0 hbm
    rw [hf] at this; exact this
  have h2 : Hid (∀ w0, BytesAt ad b w0 → Calls Try.prog 18 #[.slice ad b.length cap] w0 fun e w' => noRead f e ∧ Below w0.heap.size w0 w') := fun w0 h0 => by
    have := rread_any cap ad b w0 h0 hbm
    rw [hf] at this; exact this
  have hc0 := readP_code hf
  obtain ⟨F1, F2⟩ := f
  have hcz : (F1 != 0) = true := by simpa using hc0
  have HB : Hid (BytesAt ad b w) := hb
  clear hb hf hbm hc0
  go_enter Try.func5, Try.ntmps5
  go_wp2_with (first | (go_at_call 15; refine (h1.out _ HB.out).mono ?_; rintro e w1 ⟨rfl, hb1⟩; have hB1a : Below w.heap.size w ((w1.alloc (.cells #[.slice none 0 0] 24)).alloc (.cells #[.int .i64 F1, .int .i64 F2] 27)) := ((hb1.alloc hb1.size _).alloc (by simp; have := hb1.size; omega) _)) | (go_at_call 18; refine (h2.out _ (HB.out.below hB1a)).mono ?_; rintro e w2 ⟨rfl, hb2⟩; obtain ⟨⟨c0, c1, c2⟩, ⟨z0, z1, z2⟩, hz, hz0⟩ := boxesR hb2; have hB2 := hb1.trans ((below2 hb2).mono hb1.size)) | (go_at_call 16; refine (lheaps_any [] [] _ _ _ (reads_nil _) (reads_nil _) (by simp)).mono ?_; rintro e w3 ⟨rfl, hb3⟩; obtain ⟨⟨d0, d1, d2⟩, ⟨y0, y1, y2⟩, hy, hy0⟩ := boxesR hb3; have hB3 := hB2.trans ((below2 hb3).mono hB2.size); have e0 := through (below2 hb3) c0 hz0; have e1 := through (below2 hb3) c1 hz; have e2 := through (below2 hb3) c2 hz; have lx : w1.heap.size + 1 < w3.heap.size := (by omega); have lx0 : w1.heap.size < w3.heap.size := (by omega)) | (go_at_call 17; refine (ints_any [] [] _ _ _ (reads_nil _) (reads_nil _) (by simp)).mono ?_; rintro e w4 ⟨rfl, m, rfl⟩))
  go_ret
  exact ⟨rfl, below_drewN hB3 m⟩

set_option maxRecDepth 20000 in
set_option maxHeartbeats 4000000 in
theorem walk_good (b : List Int) (ad : Option Addr) (cap : Nat) (w : World) (hbm : b.length ≤ maxLen) (hb : BytesAt ad b w) (W R : List Int) (hf : readP b = .ok (W, R)) :
    Calls Try.prog 5 #[.slice ad b.length cap] w fun e w' => e = .returned (.bool true) ∧ Below w.heap.size w w' := by
  obtain ⟨hI, h0, h6⟩ := image_read hb.1 hf
  obtain ⟨hc, _, _⟩ := roots_zero h0
  obtain ⟨w2', wl, _⟩ := front_out (check_fine hc).1
  have hb0 : 0 < b.length := by rw [← hI]; unfold imageB; simp
  obtain ⟨gb, ob, rfl, hrow⟩ := hb.2 hb0
  have h1 : Hid (∀ w0, BytesAt (some ⟨gb, ob, none⟩) b w0 → Calls Try.prog 15 #[.slice (some ⟨gb, ob, none⟩) b.length cap] w0 fun e w' => ReadAns w0.heap.size W R e w' ∧ Below w0.heap.size w0 w') := fun w0 h0 => by
    have := iread_any (some ⟨gb, ob, none⟩) cap b w0 h0 hbm
    rw [hf] at this; exact this
  have h2 : Hid (∀ w0, BytesAt (some ⟨gb, ob, none⟩) b w0 → Calls Try.prog 18 #[.slice (some ⟨gb, ob, none⟩) b.length cap] w0 fun e w' => RReadAns W R e w' ∧ Below w0.heap.size w0 w') := fun w0 h0 => by
    have := rread_any cap (some ⟨gb, ob, none⟩) b w0 h0 hbm
    rw [hf] at this; exact this
  have h3 : Hid (∀ g g' w0, Row w0 g 0 W → Row w0 g' 0 R → Calls Try.prog 12 #[heapV (some ⟨g, 0, none⟩) W.length W.length, sl g' R.length R.length] w0 fun e w' => WriteAns w0.heap.size b e w' ∧ Below w0.heap.size w0 w') := fun g g' w0 r1 r2 => by
    have := iwrite_good W R (some ⟨g, 0, none⟩) (some ⟨g', 0, none⟩) W.length R.length w0 (fun _ => ⟨g, 0, rfl, r1⟩) (fun _ => ⟨g', 0, rfl, r2⟩) h0 h6
    rw [hI] at this; exact this
  have HB : Hid (BytesAt (some ⟨gb, ob, none⟩) b w) := hb
  have HBy : Hid (∀ c ∈ b, 0 ≤ c ∧ c ≤ 255) := hb.1
  have HRow : Hid (BRow w gb ob b) := hrow
  have hgb := hrow.lt
  have hlm : W.length ≤ 1000000 := by omega
  have hrm : R.length ≤ 1000000 := by omega
  have hWW : (W == W) = true := by simp
  have hRR : (R == R) = true := by simp
  clear hb hf hbm hI h0 h6 hc w2' wl hb0 hrow
  go_enter Try.func5, Try.ntmps5
  go_wp2_with (first | (go_at_call 15; refine (h1.out _ HB.out).mono ?_; rintro e w1 ⟨⟨gW, gR, rfl, rW, rR, hgW, hgR⟩, hb1⟩; have hB1a : Below w.heap.size w ((w1.alloc (.cells #[sl gW W.length W.length] 24)).alloc (.cells #[.int .i64 0, .int .i64 0] 27)) := ((hb1.alloc hb1.size _).alloc (by simp; have := hb1.size; omega) _); have lW := rW.lt; have lR := rR.lt; have RW1 : Hid (Row w1 gW 0 W) := rW; have RR1 : Hid (Row w1 gR 0 R) := rR; clear rW rR) | (go_at_call 18; refine (h2.out _ (HB.out.below hB1a)).mono ?_; rintro e w2 ⟨⟨_, _, rfl, ⟨aW, cW, rfl, sW⟩, ⟨aR, cR, rfl, sR⟩⟩, hb2⟩; obtain ⟨⟨c0, c1, c2⟩, ⟨z0, z1, z2⟩, hz, hz0⟩ := boxesR hb2; have hB2 := hb1.trans ((below2 hb2).mono hb1.size); have RW2 : Hid (Row w2 gW 0 W) := (RW1.out.same (below2 hb2)); have RR2 : Hid (Row w2 gR 0 R) := (RR1.out.same (below2 hb2)); have AW2 : Hid (Reads w2 (.slice aW W.length cW) W) := ⟨aW, cW, rfl, sW⟩; have AR2 : Hid (Reads w2 (.slice aR R.length cR) R) := ⟨aR, cR, rfl, sR⟩; clear sW sR) | (go_at_call 16; refine (lheaps_any W W _ _ _ (Reads.of_row ((RW2.out.alloc _).alloc _)) (AW2.out.below (((Below.refl _ _).alloc (Nat.le_refl _) _).alloc (by simp) _)) hlm).mono ?_; rw [hWW]; rintro e w3 ⟨rfl, hb3⟩; obtain ⟨⟨d0, d1, d2⟩, ⟨y0, y1, y2⟩, hy, hy0⟩ := boxesR hb3; have hB3 := hB2.trans ((below2 hb3).mono hB2.size); have e0 := through (below2 hb3) c0 hz0; have e1 := through (below2 hb3) c1 hz; have e2 := through (below2 hb3) c2 hz; have fe1 := throughF (below2 hb3) z1 hz; have fe2 := throughF (below2 hb3) z2 hz; have lx : w1.heap.size + 1 < w3.heap.size := (by omega); have lx0 : w1.heap.size < w3.heap.size := (by omega); have RW3 : Hid (Row w3 gW 0 W) := (RW2.out.same (below2 hb3)); have RR3 : Hid (Row w3 gR 0 R) := (RR2.out.same (below2 hb3)); have AR3 : Hid (Reads w3 (.slice aR R.length cR) R) := (AR2.out.below (below2 hb3))) | (go_at_call 17; refine (ints_any R R _ _ _ (Reads.of_row RR3.out) AR3.out hrm).mono ?_; rw [hRR]; rintro e w4 ⟨rfl, m, rfl⟩) | (go_at_call 12; refine (h3.out gW gR _ (RW3.out.same (below_drewN (Below.refl _ _) m)) (RR3.out.same (below_drewN (Below.refl _ _) m))).mono ?_; rintro e w5 ⟨⟨g5, c5, rfl, hg5, hh5⟩, hb5⟩; have hb35 : Below w3.heap.size w3 w5 := ((below_drewN (Below.refl _ _) m).trans (hb5.mono (by simp))); have hB5 := hB3.trans (hb35.mono hB3.size); have k1 := through hb35 e1 lx; have k2 := through hb35 e2 lx; have fk1 := throughF hb35 fe1 lx; have fk2 := throughF hb35 fe2 lx; have s5 := hb35.size; have hg5a : w3.heap.size ≤ g5 := (by simpa using hg5); have n5 : ¬ g5 = w1.heap.size + 1 := (by omega); have nb : ¬ gb = w1.heap.size + 1 := (by have := hb1.size; omega); have hh5s := ((hh5.block (Below.heap_setCell w5 ⟨w1.heap.size + 1, 0, none⟩ (.int .i64 0) _ (by dsimp only; exact n5)) (by simp [World.setCell])).block (Below.heap_setCell (w5.setCell ⟨w1.heap.size + 1, 0, none⟩ (.int .i64 0)) ⟨w1.heap.size + 1, 1, none⟩ (.int .i64 0) _ (by dsimp only; exact n5)) (by simp [World.setCell])); have hr5s := (((HRow.out.same hB5).block (Below.heap_setCell w5 ⟨w1.heap.size + 1, 0, none⟩ (.int .i64 0) _ (by dsimp only; exact nb)) (by simp [World.setCell])).block (Below.heap_setCell (w5.setCell ⟨w1.heap.size + 1, 0, none⟩ (.int .i64 0)) ⟨w1.heap.size + 1, 1, none⟩ (.int .i64 0) _ (by dsimp only; exact nb)) (by simp [World.setCell])); have q1 := str_row (n := b.length) (cap := c5) (hh5s.row HBy.out) rfl; have q2 := str_row (n := b.length) (cap := cap) hr5s rfl))
  have s1 := hb1.size
  go_ret
  exact ⟨rfl, (hB5.setCell (p := ⟨w1.heap.size + 1, 0, none⟩) (by dsimp only; omega) _).setCell (p := ⟨w1.heap.size + 1, 1, none⟩) (by dsimp only; omega) _⟩

theorem walk (b : List Int) (ad : Option Addr) (cap : Nat) (w : World) (hbm : b.length ≤ maxLen) (hb : BytesAt ad b w) :
    Calls Try.prog 5 #[.slice ad b.length cap] w fun e w' => e = .returned (.bool true) ∧ Below w.heap.size w w' := by
  cases hf : readP b with
  | error f => exact walk_bad b ad cap w hbm hb f hf
  | ok VR => exact walk_good b ad cap w hbm hb VR.1 VR.2 hf

set_option maxRecDepth 100000 in
theorem lifted (os : Os) (started : os.Started) (H : Type) (enc : TypeId × Value → H) :
    ReturnsInHanded {} Try.checked os 5 .any (Rows.imageReadsSpec.pre6 enc Try.prog Try.f5 Rows.imageReadsRow.domain false) (Rows.imageReadsSpec.post enc Try.prog Try.f5 false true false false) := by
  refine returnsInHanded_of_change (C := Try.checked) own started (by kernel_rfl) Try.func5
    (ChangeSpec.witness6 (enc := enc) (C := Try.checked) false ⟨#[], #[.slice none 0 0], []⟩ 8 (by kernel_rfl) (by kernel_rfl) (by kernel_rfl) (by kernel_rfl)) ?_
  intro W base args ds gs before hval0 hW hcnd _
  have hval : ∀ (j : Nat) t v, Try.f5.params[j]? = some t → args[j]? = some v → Value.okWide Try.prog W .any base t v := hval0
  have hW' := hW
  obtain ⟨p, q, hA0, hV, rfl, hfz, hnd⟩ := hW
  have hA : DataW.TrodAll enc Try.prog W 0 (fun _ => true) true Try.f5.params.toList args.toList ds p := hA0
  rw [Try.params5] at hA hval
  obtain ⟨v0, vs0, d0, ds0, p0, q0, hargs, rfl, rfl, h0, r0⟩ := trodAll_cons hA
  obtain ⟨rfl, rfl, rfl⟩ := trodAll_nil r0
  obtain rfl : args = #[v0] := by cases args; simp_all
  obtain ⟨rfl, rfl⟩ := trodVars_none hV
  have lt0 : ∀ x ∈ p0, x.block < W.heap.size := by obtain ⟨m, hm⟩ := h0; exact DataW.trod_lt m _ _ _ hm
  obtain ⟨ad0, cap0, L0, rfl, hm0, hr0⟩ := open_bytes (hval 0 33 v0 rfl rfl) h0
  clear hA0 hval0
  refine (walk L0 ad0 cap0 W hm0 hr0).mono fun e W' ⟨he, bel⟩ => ?_
  subst he
  exact ⟨_, rfl, _, _, _, [], _, [], hW', trodAll_mk1 (shut_bool lt4 _), (trodAll_cons_mk (Below.trod laidOut (by kernel_rfl) (of_decide_eq_true (by kernel_rfl)) h0 bel lt0) trodAll_mk0), rfl, bel.frame _, fun h => by cases h⟩

theorem over : Rows.imageReadsRow.holds Try.pinned (OpenSpec.ofChange Rows.imageReadsSpec) :=
  OpenClaim.holds_of_wide 5 Try.f5 rfl rfl rfl rfl rfl rfl rfl ⟨rfl, rfl, rfl, rfl, rfl⟩ rfl rfl rfl rfl rfl (by kernel_rfl) Try.func5 (by kernel_rfl)
    (of_decide_eq_true (by kernel_rfl)) (by unfold Func.isWrapper; first | (rw [if_pos (by decide +kernel)]; kernel_rfl) | (rw [if_neg (by decide +kernel)]; exact ⟨rfl, rfl⟩))
    (fun os started H enc _ => lifted os started H enc)

end Go.Proofs.Ytdacgjjkgagjhac.imageReads
namespace Go.Proofs.Ytdacgjjkgagjhac
/-- The statement. -/
theorem imageReads_holds : Rows.ImageReadsSaid := imageReads.over
#print axioms imageReads_holds
end Go.Proofs.Ytdacgjjkgagjhac
