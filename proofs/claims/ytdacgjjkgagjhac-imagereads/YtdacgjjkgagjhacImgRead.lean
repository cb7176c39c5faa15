/- image.Read. -/
import Derived.Test.YtdacgjjkgagjhacListsOf
import Derived.Test.YtdacgjjkgagjhacImageMore
namespace Go.Proofs.Ytdacgjjkgagjhac
open Go.RowKit

theorem fit_wf {x : Int} (h : fitN x) : (Lit.int .i64 x).wf = true := by
  have e : (128 : Nat) ^ 9 = 9223372036854775808 := by decide
  unfold fitN zig at h
  rw [e] at h
  have h1 : -4611686018427387904 ≤ x ∧ x ≤ 4611686018427387904 := by split at h <;> omega
  obtain ⟨h1, h2⟩ := h1
  go_wf
theorem fill_row {w : World} {g n : Nat} {xs : List Int} (h : Fill w g n xs) (hf : ∀ x ∈ xs, fitN x) : Row w g 0 xs :=
  ⟨h.lt, fun k hk => by rw [Nat.zero_add]; exact h.cell k hk, fun k => by
    by_cases hk : k < xs.length
    · unfold wd; rw [List.getD_eq_getElem?_getD, List.getElem?_eq_getElem hk]; exact fit_wf (hf _ (List.getElem_mem hk))
    · unfold wd; rw [List.getD_eq_getElem?_getD, List.getElem?_eq_none (by omega)]; decide⟩
theorem readP_lists (b : List Int) : readP b = match listsP b with
    | .error f => .error f
    | .ok (W, R) => if (rootsOf W R).1 = 0 then .ok (W, R) else .error (rootsOf W R) := by
  unfold readP listsP markP
  by_cases h0 : (0 < b.length ∧ wd b 0 ≠ 71) ∨ (1 < b.length ∧ wd b 1 ≠ 69)
  · rw [if_pos h0, if_pos h0]
  · rw [if_neg h0, if_neg h0]
    by_cases h1 : b.length < 2
    · rw [if_pos h1, if_pos h1]
    · rw [if_neg h1, if_neg h1]
      cases listAt b 2 2 2000 with
      | error e => rfl
      | ok Wp =>
        obtain ⟨W, p⟩ := Wp
        simp only
        cases listAt b p 0 600 with
        | error e => rfl
        | ok Rq =>
          obtain ⟨R, q⟩ := Rq
          simp only
          by_cases hq : q < b.length
          · rw [if_pos hq, if_pos hq]
          · rw [if_neg hq, if_neg hq]
theorem listsP_fit {b W R : List Int} (hb : ∀ c ∈ b, 0 ≤ c ∧ c ≤ 255) (h : listsP b = .ok (W, R)) : (∀ x ∈ W, fitN x) ∧ (∀ x ∈ R, fitN x) ∧ 2 ≤ W.length ∧ W.length ≤ 2000 ∧ R.length ≤ 600 := by
  unfold listsP at h
  cases hm : markP b with
  | some f => rw [hm] at h; cases h
  | none =>
    rw [hm] at h
    simp only at h
    cases l1 : listAt b 2 2 2000 with
    | error e => rw [l1] at h; cases h
    | ok Wp =>
      obtain ⟨W', p⟩ := Wp
      rw [l1] at h
      simp only at h
      cases l2 : listAt b p 0 600 with
      | error e => rw [l2] at h; cases h
      | ok Rq =>
        obtain ⟨R', q⟩ := Rq
        rw [l2] at h
        simp only at h
        split at h
        · cases h
        · simp only [Except.ok.injEq, Prod.mk.injEq] at h
          obtain ⟨rfl, rfl⟩ := h
          obtain ⟨_, _, _, a4, a5, a6⟩ := listAt_out hb (by omega) l1
          obtain ⟨_, _, _, b4, b5, b6⟩ := listAt_out hb (by omega) l2
          exact ⟨a4, b4, by omega, by omega, by omega⟩
theorem numAt_code {b : List Int} {p : Nat} {f : Int × Int} (h : numAt b p = .error f) : f.1 ≠ 0 := by
  unfold numAt at h
  cases hd : decN b p 9 0 0 with
  | short => rw [hd] at h; simp only [Except.error.injEq] at h; subst h; simp
  | form => rw [hd] at h; simp only [Except.error.injEq] at h; subst h; simp
  | num u k => rw [hd] at h; cases h
theorem numsAt_code {b : List Int} : ∀ (n p : Nat) (f : Int × Int), numsAt b n p = .error f → f.1 ≠ 0
  | 0, p, f, h => by simp [numsAt] at h
  | n + 1, p, f, h => by
    rw [numsAt] at h
    cases h1 : numAt b p with
    | error e => rw [h1] at h; simp only [Except.error.injEq] at h; subst h; exact numAt_code h1
    | ok xq =>
      rw [h1] at h
      simp only at h
      cases h2 : numsAt b n xq.2 with
      | error e => rw [h2] at h; simp only [Except.error.injEq] at h; subst h; exact numsAt_code n xq.2 _ h2
      | ok lr => rw [h2] at h; cases h
theorem listAt_code {b : List Int} {p : Nat} {least most : Int} {f : Int × Int} (h : listAt b p least most = .error f) : f.1 ≠ 0 := by
  unfold listAt at h
  cases h1 : numAt b p with
  | error e => rw [h1] at h; simp only [Except.error.injEq] at h; subst h; exact numAt_code h1
  | ok xq =>
    rw [h1] at h
    simp only at h
    split at h
    · simp only [Except.error.injEq] at h; subst h; simp
    · exact numsAt_code _ _ _ h
theorem markP_code {b : List Int} {f : Int × Int} (h : markP b = some f) : f.1 ≠ 0 := by
  unfold markP at h
  split at h
  · simp only [Option.some.injEq] at h; subst h; simp
  · split at h
    · simp only [Option.some.injEq] at h; subst h; simp
    · cases h
theorem listsP_code {b : List Int} {f : Int × Int} (h : listsP b = .error f) : f.1 ≠ 0 := by
  unfold listsP at h
  cases hm : markP b with
  | some f => rw [hm] at h; simp only [Except.error.injEq] at h; subst h; exact markP_code hm
  | none =>
    rw [hm] at h
    simp only at h
    cases l1 : listAt b 2 2 2000 with
    | error e => rw [l1] at h; simp only [Except.error.injEq] at h; subst h; exact listAt_code l1
    | ok Wp =>
      rw [l1] at h
      simp only at h
      cases l2 : listAt b Wp.2 0 600 with
      | error e => rw [l2] at h; simp only [Except.error.injEq] at h; subst h; exact listAt_code l2
      | ok Rq =>
        rw [l2] at h
        simp only at h
        split at h
        · simp only [Except.error.injEq] at h; subst h; simp
        · cases h

/-- What lies in the two boxes of Read's results. -/
theorem boxesR {w w' : World} {a x y : Value} {t t' : TypeId} (hb : Below ((w.alloc (.cells #[a] t)).alloc (.cells #[x, y] t')).heap.size ((w.alloc (.cells #[a] t)).alloc (.cells #[x, y] t')) w') :
    (w'.cell? ⟨w.heap.size, 0, none⟩ = some a ∧ w'.cell? ⟨w.heap.size + 1, 0, none⟩ = some x ∧ w'.cell? ⟨w.heap.size + 1, 1, none⟩ = some y) ∧ (w'.frozen? ⟨w.heap.size, 0, none⟩ = false ∧ w'.frozen? ⟨w.heap.size + 1, 0, none⟩ = false ∧ w'.frozen? ⟨w.heap.size + 1, 1, none⟩ = false) ∧ w.heap.size + 1 < w'.heap.size ∧ w.heap.size < w'.heap.size := by
  obtain ⟨c0, c1, c2, c3, c4, hz⟩ := boxes1 hb
  refine ⟨⟨c0, c1, c2⟩, ⟨?_, c3, c4⟩, hz, by omega⟩
  rw [hb.frozen (p := ⟨w.heap.size, 0, none⟩) (by simp; omega), frozen_past _ (by simp), frozen_at2 rfl]

set_option maxRecDepth 20000 in
set_option maxHeartbeats 2000000 in
theorem iread_lists (ad : Option Addr) (cap : Nat) (b : List Int) (w : World) (h : BytesAt ad b w) (hm : b.length ≤ maxLen) (f : Int × Int) (hf : listsP b = .error f) :
    Calls Try.prog 15 #[.slice ad b.length cap] w fun e w' => e = .returned (.tuple #[.agg #[.slice none 0 0], .slice none 0 0, .agg #[.int .i64 f.1, .int .i64 f.2]]) ∧ Below w.heap.size w w' := by
  have HL : Hid (∀ w0, BytesAt ad b w0 → Calls Try.prog 25 #[.slice ad b.length cap] w0 fun e w' => e = .returned (.tuple #[.slice none 0 0, .slice none 0 0, .agg #[.int .i64 f.1, .int .i64 f.2]]) ∧ Below w0.heap.size w0 w') := fun w0 h0 => by
    have := listsOf_any ad cap b w0 h0 hm
    rw [hf] at this; exact this
  have H : Hid (BytesAt ad b w) := h
  have hc := listsP_code hf
  obtain ⟨f1, f2⟩ := f
  have hb0 : (f1 != 0) = true := by simpa using hc
  clear h hc hf
  go_enter Try.func15, Try.ntmps15
  go_wp2_with (go_at_call 25; refine (HL.out _ (H.out.below (((Below.refl _ _).alloc (Nat.le_refl _) _).alloc (by simp) _))).mono ?_; rintro e w1 ⟨rfl, hb1⟩; obtain ⟨⟨c0, c1, c2⟩, ⟨z0, z1, z2⟩, hz, hz0⟩ := boxesR hb1)
  go_region
  all_goals go_wp2_with fail
  all_goals refine bodyPost_ret (v := .tuple #[.agg #[.slice none 0 0], .slice none 0 0, .agg #[.int .i64 f1, .int .i64 f2]]) (by simp [results, Try.results15, go_sem, cell_past, c0, c1, c2, hz, hz0]) rfl ⟨rfl, ?_⟩
  all_goals repeat (first | refine Below.drew ?_ | refine Below.setCell ?_ (by dsimp only; omega) _ | refine Below.alloc ?_ (by first | omega | (simp; omega)) _ | exact below2 hb1)

set_option maxRecDepth 20000 in
set_option maxHeartbeats 2000000 in
theorem iread_roots (ad : Option Addr) (cap : Nat) (b W R : List Int) (w : World) (h : BytesAt ad b w) (hm : b.length ≤ maxLen) (hf : listsP b = .ok (W, R)) (hr : (rootsOf W R).1 ≠ 0) :
    Calls Try.prog 15 #[.slice ad b.length cap] w fun e w' => e = .returned (.tuple #[.agg #[.slice none 0 0], .slice none 0 0, .agg #[.int .i64 (rootsOf W R).1, .int .i64 (rootsOf W R).2]]) ∧ Below w.heap.size w w' := by
  obtain ⟨fW, fR, lW2, lW, lR⟩ := listsP_fit h.1 hf
  have HL : Hid (∀ w0, BytesAt ad b w0 → Calls Try.prog 25 #[.slice ad b.length cap] w0 fun e w' => (∃ g g', e = .returned (.tuple #[sl g W.length W.length, sl g' R.length R.length, .agg #[.int .i64 0, .int .i64 0]]) ∧ Row w' g 0 W ∧ Row w' g' 0 R ∧ w0.heap.size ≤ g ∧ w0.heap.size ≤ g') ∧ Below w0.heap.size w0 w') := fun w0 h0 => by
    have := listsOf_any ad cap b w0 h0 hm
    rw [hf] at this
    exact this.mono fun e w' ⟨⟨g, g', e1, e2, e3, e5⟩, e4⟩ => ⟨⟨g, g', e1, fill_row e2 fW, fill_row e3 fR, e5⟩, e4⟩
  have HS : Hid (∀ g g' w0, Row w0 g 0 W → Row w0 g' 0 R → Calls Try.prog 20 #[heapV (some ⟨g, 0, none⟩) W.length W.length, .slice (some ⟨g', 0, none⟩) R.length R.length] w0 fun e w' => e = .returned (.tuple #[noView, .agg #[.int .i64 (rootsOf W R).1, .int .i64 (rootsOf W R).2]]) ∧ Below w0.heap.size w0 w') :=
    fun g g' w0 h1 h2 => rsee_bad W R _ _ W.length R.length w0 (by unfold maxLen; omega) (fun _ => ⟨g, 0, rfl, h1⟩) (fun _ => ⟨g', 0, rfl, h2⟩) (by omega) hr
  have H : Hid (BytesAt ad b w) := h
  generalize rootsOf W R = F at *
  have hb0 : (F.1 != 0) = true := by simpa using hr
  clear h hr hf fW fR
  go_enter Try.func15, Try.ntmps15
  go_wp2_with (first | (go_at_call 25; refine (HL.out _ (H.out.below (((Below.refl _ _).alloc (Nat.le_refl _) _).alloc (by simp) _))).mono ?_; rintro e w1 ⟨⟨g, g', rfl, rW, rR, hgg, hgg'⟩, hb1⟩; obtain ⟨⟨c0, c1, c2⟩, ⟨z0, z1, z2⟩, hz, hz0⟩ := boxesR hb1; have hbA : Below w1.heap.size w1 ((w1.alloc (.cells #[.int .i64 0, .int .i64 0] 27)).alloc (.cells #[sl g W.length W.length] 24)) := (((Below.refl _ _).alloc (Nat.le_refl _) _).alloc (by simp) _); have rW' : Hid (Row _ g 0 W) := (rW.same hbA); have rR' : Hid (Row _ g' 0 R) := (rR.same hbA); clear rW rR) | (go_at_call 20; refine (HS.out g g' _ rW'.out rR'.out).mono ?_; rintro e w2 ⟨rfl, hb2⟩; have hbB := hbA.trans (hb2.mono hbA.size); have k0 := through hbB c0 hz0; have k1 := through hbB c1 hz; have k2 := through hbB c2 hz; have y0 := throughF hbB z0 hz0; have y1 := throughF hbB z1 hz; have y2 := throughF hbB z2 hz; have hs2 := hbB.size; have lz : w.heap.size + 1 < w2.heap.size := (by omega); have lz0 : w.heap.size < w2.heap.size := (by omega)))
  go_region
  all_goals go_wp2_with fail
  all_goals refine bodyPost_ret (v := .tuple #[.agg #[.slice none 0 0], .slice none 0 0, .agg #[.int .i64 F.1, .int .i64 F.2]]) (by simp [results, Try.results15, go_sem, cell_past, k0, k1, k2, lz, lz0]) rfl ⟨rfl, ?_⟩
  all_goals have hbC := (below2 hb1).trans (hbB.mono (below2 hb1).size)
  all_goals repeat (first | refine Below.drew ?_ | refine Below.setCell ?_ (by dsimp only; omega) _ | refine Below.alloc ?_ (by first | omega | (simp; omega)) _ | exact hbC)

theorem row_set {w : World} {b off : Nat} {xs : List Int} (h : Row w b off xs) {p : Addr} (hp : b ≠ p.block) (v : Value) : Row (w.setCell p v) b off xs := h.block (Below.heap_setCell _ _ _ _ hp) (by simp [World.setCell])
/-- What Read answers. -/
def ReadAns (B : Nat) (W R : List Int) (e : Ending) (w : World) : Prop := ∃ g g', e = .returned (.tuple #[.agg #[sl g W.length W.length], sl g' R.length R.length, .agg #[.int .i64 0, .int .i64 0]]) ∧ Row w g 0 W ∧ Row w g' 0 R ∧ B ≤ g ∧ B ≤ g'

set_option maxRecDepth 20000 in
set_option maxHeartbeats 2000000 in
theorem iread_good (ad : Option Addr) (cap : Nat) (b W R : List Int) (w : World) (h : BytesAt ad b w) (hm : b.length ≤ maxLen) (hf : listsP b = .ok (W, R)) (hr : (rootsOf W R).1 = 0) :
    Calls Try.prog 15 #[.slice ad b.length cap] w fun e w' => ReadAns w.heap.size W R e w' ∧ Below w.heap.size w w' := by
  obtain ⟨fW, fR, lW2, lW, lR⟩ := listsP_fit h.1 hf
  have HL : Hid (∀ w0, BytesAt ad b w0 → Calls Try.prog 25 #[.slice ad b.length cap] w0 fun e w' => (∃ g g', e = .returned (.tuple #[sl g W.length W.length, sl g' R.length R.length, .agg #[.int .i64 0, .int .i64 0]]) ∧ Row w' g 0 W ∧ Row w' g' 0 R ∧ w0.heap.size ≤ g ∧ w0.heap.size ≤ g') ∧ Below w0.heap.size w0 w') := fun w0 h0 => by
    have := listsOf_any ad cap b w0 h0 hm
    rw [hf] at this
    exact this.mono fun e w' ⟨⟨g, g', e1, e2, e3, e5⟩, e4⟩ => ⟨⟨g, g', e1, fill_row e2 fW, fill_row e3 fR, e5⟩, e4⟩
  have HS : Hid (∀ g g' w0, Row w0 g 0 W → Row w0 g' 0 R → Calls Try.prog 20 #[heapV (some ⟨g, 0, none⟩) W.length W.length, .slice (some ⟨g', 0, none⟩) R.length R.length] w0 fun e w' => ViewAns W w0.heap.size e w' ∧ Below w0.heap.size w0 w') :=
    fun g g' w0 h1 h2 => rsee_good W R _ _ W.length R.length w0 (fun _ => ⟨g, 0, rfl, h1⟩) (fun _ => ⟨g', 0, rfl, h2⟩) (by omega) hr
  have H : Hid (BytesAt ad b w) := h
  clear h hr hf fW fR
  go_enter Try.func15, Try.ntmps15
  go_wp2_with (first | (go_at_call 25; refine (HL.out _ (H.out.below (((Below.refl _ _).alloc (Nat.le_refl _) _).alloc (by simp) _))).mono ?_; rintro e w1 ⟨⟨g, g', rfl, rW, rR, hgg, hgg'⟩, hb1⟩; obtain ⟨⟨c0, c1, c2⟩, ⟨z0, z1, z2⟩, hz, hz0⟩ := boxesR hb1; have hbA : Below w1.heap.size w1 ((w1.alloc (.cells #[.int .i64 0, .int .i64 0] 27)).alloc (.cells #[sl g W.length W.length] 24)) := (((Below.refl _ _).alloc (Nat.le_refl _) _).alloc (by simp) _); have rW' : Hid (Row _ g 0 W) := (rW.same hbA); have rR' : Hid (Row _ g' 0 R) := (rR.same hbA); have hgW := rW.lt; have hgR := rR.lt; clear rW rR; have hh : ((w1.alloc (.cells #[.int .i64 0, .int .i64 0] 27)).alloc (.cells #[sl g W.length W.length] 24)).cell? ⟨w1.heap.size + 1, 0, none⟩ = some (sl g W.length W.length) := (by rw [cell_at2 (by simp)]; rfl)) | (go_at_call 20; refine (HS.out g g' _ rW'.out rR'.out).mono ?_; rintro e w2 ⟨⟨b2, cap2, bm2, rfl, _, _, _, _⟩, hb2⟩; have hbB := hbA.trans (hb2.mono hbA.size); have k0 := through hbB c0 hz0; have k1 := through hbB c1 hz; have k2 := through hbB c2 hz; have y0 := throughF hbB z0 hz0; have y1 := throughF hbB z1 hz; have y2 := throughF hbB z2 hz; have hs2 := hbB.size; have lz : w.heap.size + 1 < w2.heap.size := (by omega); have lz0 : w.heap.size < w2.heap.size := (by omega); have rW2 : Hid (Row w2 g 0 W) := (rW'.out.same hb2); have rR2 : Hid (Row w2 g' 0 R) := (rR'.out.same hb2); have hhB := through hb2 hh (by simp); have hs3 := hb2.size; have lz1 : w1.heap.size + 1 < w2.heap.size := (by simp at hs3; omega); have lz2 : w1.heap.size < w2.heap.size := (by omega)))
  simp at hgg hgg'
  refine bodyPost_ret (v := .tuple #[.agg #[sl g W.length W.length], sl g' R.length R.length, .agg #[.int .i64 0, .int .i64 0]]) (by simp [results, Try.results15, go_sem, cell_past, k0, k1, k2, lz, lz0]) rfl ⟨⟨g, g', rfl, ?_, ?_, by omega, by omega⟩, ?_⟩
  · repeat (first | refine row_set ?_ (by dsimp only; omega) _ | refine Row.alloc ?_ _ | exact rW2.out)
  · repeat (first | refine row_set ?_ (by dsimp only; omega) _ | refine Row.alloc ?_ _ | exact rR2.out)
  · have hbC := (below2 hb1).trans (hbB.mono (below2 hb1).size)
    repeat (first | refine Below.drew ?_ | refine Below.setCell ?_ (by dsimp only; omega) _ | refine Below.alloc ?_ (by first | omega | (simp; omega)) _ | exact hbC)
/-- image.Read, in one. -/
theorem iread_any (ad : Option Addr) (cap : Nat) (b : List Int) (w : World) (h : BytesAt ad b w) (hm : b.length ≤ maxLen) :
    Calls Try.prog 15 #[.slice ad b.length cap] w fun e w' => (match readP b with
      | .error f => e = .returned (.tuple #[.agg #[.slice none 0 0], .slice none 0 0, .agg #[.int .i64 f.1, .int .i64 f.2]])
      | .ok (W, R) => ReadAns w.heap.size W R e w') ∧ Below w.heap.size w w' := by
  rw [readP_lists]
  cases hf : listsP b with
  | error f => exact iread_lists ad cap b w h hm f hf
  | ok WR =>
    obtain ⟨W, R⟩ := WR
    simp only
    by_cases hr : (rootsOf W R).1 = 0
    · rw [if_pos hr]; exact iread_good ad cap b W R w h hm hf hr
    · rw [if_neg hr]; exact iread_roots ad cap b W R w h hm hf hr
end Go.Proofs.Ytdacgjjkgagjhac
