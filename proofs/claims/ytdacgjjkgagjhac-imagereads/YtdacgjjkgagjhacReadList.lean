/- image's reader: the list that stands there; the mark; the end. -/
import Derived.Test.YtdacgjjkgagjhacReadNum
import Derived.Test.YtdacgjjkgagjhacOwnKit
import Derived.Laws.MakeOwn
import Derived.Laws.OwnMore
namespace Go.Proofs.Ytdacgjjkgagjhac
open Go.RowKit

theorem number_ok (rb cap p q : Nat) (n : Int) (ad : Option Addr) (b : List Int) (w : World) (h : Rd w rb ad cap b p) (hn : numAt b p = .ok (n, q)) :
    Calls Try.prog 60 #[.pointer (some ⟨rb, 0, none⟩)] w fun e w' => e = .returned (.int .i64 n) ∧ Rd w' rb ad cap b q ∧ w.grownBy w' (some rb) := by
  refine (number_dec rb cap p ad b w h).mono fun e w' hp => ?_
  unfold numAt at hn
  cases hd : decN b p 9 0 0 with
  | short => rw [hd] at hn; cases hn
  | form => rw [hd] at hn; cases hn
  | num u k =>
    rw [hd] at hn hp
    simp only [Except.ok.injEq, Prod.mk.injEq] at hn
    obtain ⟨rfl, rfl⟩ := hn
    exact hp
theorem number_bad (rb cap p : Nat) (f : Int × Int) (ad : Option Addr) (b : List Int) (w : World) (h : Rd w rb ad cap b p) (hn : numAt b p = .error f) :
    Calls Try.prog 60 #[.pointer (some ⟨rb, 0, none⟩)] w fun e w' => GivesUp f rb w e w' := by
  refine (number_dec rb cap p ad b w h).mono fun e w' hp => ?_
  unfold numAt at hn
  cases hd : decN b p 9 0 0 with
  | short => rw [hd] at hn hp; simp only [Except.error.injEq] at hn; subst hn; exact hp
  | form => rw [hd] at hn hp; simp only [Except.error.injEq] at hn; subst hn; exact hp
  | num u k => rw [hd] at hn; cases hn

/-- Block g has room for n numbers; the first are xs. -/
structure Fill (w : World) (g n : Nat) (xs : List Int) : Prop where
  lt : g < w.heap.size
  there : ∀ j, j < n → (w.cell? ⟨g, j, none⟩).isSome = true
  free : ∀ j, j < n → w.frozen? ⟨g, j, none⟩ = false
  cell : ∀ j, j < xs.length → w.cell? ⟨g, j, none⟩ = some (.int .i64 (wd xs j))
theorem Fill.other {w w' : World} {g n x : Nat} {xs : List Int} (h : Fill w g n xs) (hg : w.grownBy w' (some x)) (hx : g ≠ x) : Fill w' g n xs := by
  have hb : w'.heap[g]? = w.heap[g]? := hg.block g h.lt (by simpa using hx)
  exact ⟨Nat.lt_of_lt_of_le h.lt hg.size, fun j hj => by rw [World.cell?_of_block (a := ⟨g, j, none⟩) hb]; exact h.there j hj, fun j hj => by rw [World.frozen?_of_block (a := ⟨g, j, none⟩) hb]; exact h.free j hj, fun j hj => by rw [World.cell?_of_block (a := ⟨g, j, none⟩) hb]; exact h.cell j hj⟩
theorem Fill.set {w : World} {g n : Nat} {xs : List Int} (h : Fill w g n xs) (x : Int) (hn : xs.length < n) : Fill (w.setCell ⟨g, xs.length, none⟩ (.int .i64 x)) g n (xs ++ [x]) := by
  refine ⟨by simpa [World.setCell] using h.lt, fun j hj => ?_, fun j hj => by simpa using h.free j hj, fun j hj => ?_⟩
  · by_cases e : j = xs.length
    · subst e; rw [World.cell?_setCell_same' _ _ _ (h.there _ hj)]; rfl
    · rw [World.cell?_setCell_other _ _ _ _ (by intro h; injection h; omega)]; exact h.there j hj
  · rw [List.length_append, List.length_singleton] at hj
    by_cases e : j = xs.length
    · subst e; rw [World.cell?_setCell_same' _ _ _ (h.there _ hn), wd_app_right (Nat.le_refl _), Nat.sub_self]; rfl
    · rw [World.cell?_setCell_other _ _ _ _ (by intro h; injection h; omega), wd_app_left (by omega)]; exact h.cell j (by omega)
theorem fill_new (w : World) (n : Nat) : Fill (w.alloc (.cells (madeCells #[.int .i64 0] n) 3)) w.heap.size n [] := by
  have hcell : ∀ j, (w.alloc (.cells (madeCells #[.int .i64 0] n) 3)).cell? ⟨w.heap.size, j, none⟩ = (madeCells #[.int .i64 0] n)[j]? := fun j => World.cell?_alloc_mark w _ 3 (0, 0) j
  refine ⟨by simp, fun j hj => ?_, fun j hj => ?_, fun j hj => by simp at hj⟩
  · rw [hcell, Array.getElem?_eq_getElem (by rw [size_madeCells]; exact hj)]; rfl
  · rw [World.frozen?_alloc_mark]; simp

theorem grown_above {w w1 : World} {row : Option Nat} {x : Nat} (h : w.grownBy w1 row) (hx : w.heap.size ≤ x) (i : Nat) (v : Value) : w.grownBy (w1.setCell ⟨x, i, none⟩ v) row :=
  ⟨h.os, h.tape, h.output, by have := h.size; simpa [World.setCell] using this, fun k hk hr => (Below.heap_setCell _ _ _ _ (by dsimp only; omega)).trans (h.block k hk hr)⟩
/-- Numbers ahead of what is read. -/
def ahead (l1 : List Int) : Except (Int × Int) (List Int × Nat) → Except (Int × Int) (List Int × Nat)
  | .error e => .error e
  | .ok (l2, r) => .ok (l1 ++ l2, r)
theorem ahead_step {b l1 : List Int} {m q q' : Nat} {x : Int} {R : Except (Int × Int) (List Int × Nat)} (h : ahead l1 (numsAt b (m + 1) q) = R) (hx : numAt b q = .ok (x, q')) : ahead (l1 ++ [x]) (numsAt b m q') = R := by
  rw [← h, numsAt, hx]
  simp only
  cases numsAt b m q' with
  | error e => rfl
  | ok lr => obtain ⟨l, r⟩ := lr; simp [ahead]
theorem ahead_bad {b l1 : List Int} {m q : Nat} {f : Int × Int} {R : Except (Int × Int) (List Int × Nat)} (h : ahead l1 (numsAt b (m + 1) q) = R) (hx : numAt b q = .error f) : R = .error f := by
  rw [← h, numsAt, hx]; rfl
/-- What list tells. -/
def ListEnd (rb : Nat) (ad : Option Addr) (cap : Nat) (b : List Int) (w : World) (R : Except (Int × Int) (List Int × Nat)) (e : Ending) (w' : World) : Prop :=
  match R with
  | .error f => GivesUp f rb w e w'
  | .ok (l, q) => ∃ g, e = .returned (sl g l.length l.length) ∧ w.heap.size ≤ g ∧ Fill w' g l.length l ∧ Rd w' rb ad cap b q ∧ w.grownBy w' (some rb)

set_option maxHeartbeats 4000000 in
theorem list_any (rb cap p : Nat) (least most : Int) (ad : Option Addr) (b : List Int) (w : World) (h : Rd w rb ad cap b p) (h0 : 0 ≤ least) (h2 : most ≤ 2000) (h1 : least ≤ 2000) (h3 : 0 ≤ most) :
    Calls Try.prog 41 #[.pointer (some ⟨rb, 0, none⟩), .int .i64 least, .int .i64 most] w fun e w' => ListEnd rb ad cap b w (listAt b p least most) e w' := by
  have c1 := h.c1
  have H : Hid (Rd w rb ad cap b p) := h
  have hp := h.le
  have hlt := h.lt
  have hm := h.many
  unfold maxLen at hm
  clear h
  cases hn : numAt b p with
  | error f =>
    have HL : Hid (listAt b p least most = .error f) := by
      have : listAt b p least most = .error f := by unfold listAt; rw [hn]
      exact this
    have Hw : Hid (∀ w0, Rd w0 rb ad cap b p → Calls Try.prog 60 #[.pointer (some ⟨rb, 0, none⟩)] w0 fun e w' => GivesUp f rb w0 e w') := fun w0 h0 => number_bad rb cap p f ad b w0 h0 hn
    clear hn
    go_enter Try.func41, Try.ntmps41
    go_wp2_with (first | (go_at_call 60; refine (Hw.out _ H.out).mono ?_; rintro e w2 ⟨rfl, hg2⟩))
    rw [HL.out]
    exact ⟨rfl, rfl, hg2⟩
  | ok nq =>
    obtain ⟨n, q⟩ := nq
    have Hw : Hid (∀ w0, Rd w0 rb ad cap b p → Calls Try.prog 60 #[.pointer (some ⟨rb, 0, none⟩)] w0 fun e w' => e = .returned (.int .i64 n) ∧ Rd w' rb ad cap b q ∧ w0.grownBy w' (some rb)) := fun w0 h0 => number_ok rb cap p q n ad b w0 h0 hn
    by_cases hc : n < least ∨ most < n
    · have HL : Hid (listAt b p least most = .error (1, p)) := by
        have : listAt b p least most = .error (1, p) := by unfold listAt; rw [hn]; simp only; rw [if_pos hc]
        exact this
      clear hn
      have hc' : n < least ∨ (¬ n < least ∧ most < n) := by omega
      clear hc
      rcases hc' with hc | ⟨hc, hc2⟩
      all_goals
        go_enter Try.func41, Try.ntmps41
        go_wp2_with (first | (go_at_call 60; refine (Hw.out _ H.out).mono ?_; rintro e w2 ⟨rfl, hr2, hg2⟩))
        rw [HL.out]
        exact ⟨rfl, rfl, hg2⟩
    · have hcl : ¬ n < least := fun h => hc (Or.inl h)
      have hcm : ¬ most < n := fun h => hc (Or.inr h)
      have HL0 : listAt b p least most = numsAt b n.toNat q := by unfold listAt; rw [hn]; simp only; rw [if_neg hc]
      obtain ⟨m, rfl⟩ : ∃ m : Nat, n = m := ⟨n.toNat, by omega⟩
      rw [Int.toNat_natCast] at HL0
      generalize hR : listAt b p least most = R at *
      have HL : Hid (numsAt b m q = R) := HL0.symm
      clear hc hn hR HL0
      obtain ⟨i0, hi, hz0, hz1, hz2⟩ := info_parts info3
      have hmk : ∀ w : World, (Instr.makeSlice 22 (.int .i64 (m : Int)) (.int .i64 (m : Int))).run Try.prog w = .ok (.slice (some ⟨w.heap.size, 0, none⟩) m m) (w.alloc (.cells (madeCells #[.int .i64 0] m) 3)) := fun w => by
        have := run_make (P := Try.prog) w 22 3 i0 (.int .i64 0) ty30 hi hz0 .i64 .i64 m m (by omega) (Int.le_refl _) (by rw [hz2]; omega) (by omega)
        simpa [hz1, Value.cells] using this
      go_enter Try.func41, Try.ntmps41
      go_wp2_with (first | (go_at_call 60; refine (Hw.out _ H.out).mono ?_; rintro e w2 ⟨rfl, hr2, hg2⟩))
      have hs2 := hg2.size
      go_loopw [33] (fun y wr => ∃ (i q1 : Nat) (l1 : List Int), y = .int .i64 i ∧ l1.length = i ∧ i ≤ m ∧ Hid (ahead l1 (numsAt b (m - i) q1) = R) ∧ Hid (Rd wr rb ad cap b q1) ∧ Fill wr w2.heap.size m l1 ∧ w.grownBy wr (some rb)) (fun y _ => m - (intOf y).toNat)
      case atStart => exact ⟨0, q, [], rfl, rfl, by omega, by (have : ahead [] (numsAt b m q) = R := (by rw [← HL.out]; cases numsAt b m q with | error e => rfl | ok lr => rfl); exact this), hr2.same ((Below.refl _ _).alloc (Nat.le_refl _) _), fill_new _ _, grown_trans hg2 (grown_below ((Below.refl _ _).alloc (Nat.le_refl _) _))⟩
      case round =>
        rename_i y wr
        obtain ⟨i, q1, l1, rfl, hl1, him, hR, hr, hf, hg⟩ := hrel
        clear hmk Hw
        by_cases hlt' : i < m
        · have hil : (i : Int) < (m : Int) := by omega
          have hR' : ahead l1 (numsAt b (m - (i + 1) + 1) q1) = R := by rw [show m - (i + 1) + 1 = m - i by omega]; exact hR.out
          cases hx : numAt b q1 with
          | error f =>
            have HD : Hid (R = .error f) := ahead_bad hR' hx
            have Hw : Hid (∀ w0, Rd w0 rb ad cap b q1 → Calls Try.prog 60 #[.pointer (some ⟨rb, 0, none⟩)] w0 fun e w' => GivesUp f rb w0 e w') := fun w0 h0 => number_bad rb cap q1 f ad b w0 h0 hx
            clear hx hR'
            go_wp2_with (first | (go_at_call 60; refine (Hw.out _ hr.out).mono ?_; rintro e w3 ⟨rfl, hg3⟩))
            rw [HD.out]
            exact ⟨rfl, rfl, grown_trans hg hg3⟩
          | ok xq =>
            obtain ⟨x, q'⟩ := xq
            have HD : Hid (ahead (l1 ++ [x]) (numsAt b (m - (i + 1)) q') = R) := ahead_step hR' hx
            have Hw : Hid (∀ w0, Rd w0 rb ad cap b q1 → Calls Try.prog 60 #[.pointer (some ⟨rb, 0, none⟩)] w0 fun e w' => e = .returned (.int .i64 x) ∧ Rd w' rb ad cap b q' ∧ w0.grownBy w' (some rb)) := fun w0 h0 => number_ok rb cap q1 q' x ad b w0 h0 hx
            clear hx hR'
            have hgi := hf.there i hlt'
            have hgf := hf.free i hlt'
            go_wp2_with (first | (go_at_call 60; refine (Hw.out _ hr.out).mono ?_; rintro e w3 ⟨rfl, hr3, hg3⟩; have hf3 := hf.other hg3 (by omega); have hcs := Option.isSome_iff_exists.1 (hf3.there i hlt'); obtain ⟨cv, hcv⟩ := hcs; have hcf := hf3.free i hlt'))
            subst hl1
            go_roundw
            case rel => exact ⟨l1.length + 1, q', l1 ++ [x], by first | rfl | simp, by simp, by omega, HD, hr3.other (grown_set _ _ _ _) (by omega), hf3.set x hlt', grown_above (grown_trans hg hg3) hs2 _ _⟩
            case measure => simp [intOf]; omega
        · have hil : ¬ (i : Int) < (m : Int) := by omega
          have hfin : Hid (R = .ok (l1, q1)) := by
            have := hR.out
            rw [show m - i = 0 by omega] at this
            have e : R = .ok (l1, q1) := by rw [← this]; simp [ahead, numsAt]
            exact e
          have hlm : Hid (m = l1.length) := (by have : m = l1.length := (by omega); exact this)
          go_wp2
          go_ret
          rw [hfin.out]
          obtain rfl := hlm.out
          exact ⟨_, rfl, hs2, hf, hr.out, hg⟩
end Go.Proofs.Ytdacgjjkgagjhac
