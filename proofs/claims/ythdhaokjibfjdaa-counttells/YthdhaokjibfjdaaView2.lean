/- What the methods of a view answer. -/
import Derived.Test.YthdhaokjibfjdaaView
namespace Go.Proofs.Ythdhaokjibfjdaa
open Go.RowKit
open Go.Maps (Keyed keyOf_int_mk)

theorem isNil_any (W : List Int) (b cap bm : Nat) (o : Int) (w : World) (hv : IsView w b cap bm W) :
    Calls Try.prog 60 #[viewV b W.length cap bm, .int .i64 o] w fun e w' => e = .returned (.bool (nilB W o)) ∧ Below w.heap.size w w' := by
  by_cases h0 : o = 0
  · subst h0
    rw [nil_zero]
    go_enter Try.func60, Try.ntmps60
    go_wp2_with (first | (go_at_call 59; refine (kind_any _ _).mono ?_; rintro e w' ⟨rfl, rfl⟩))
    go_ret
    exact ⟨rfl, (Below.refl _ _).alloc (Nat.le_refl _) _⟩
  · rw [nil_else h0]
    have hb : (kindOf o == 2) = false := by
      have : kindOf o ≠ 2 := fun e => h0 (kind_two e)
      simpa using this
    clear h0
    go_enter Try.func60, Try.ntmps60
    go_wp2_with (first | (go_at_call 59; refine (kind_any _ _).mono ?_; rintro e w' ⟨rfl, rfl⟩) | (go_at_call 42; refine (has_any W b cap bm _ _ (hv.alloc _)).mono ?_; rintro e w' ⟨rfl, hbel⟩))
    go_ret
    exact ⟨rfl, below_call hbel⟩

theorem isRef_any (W : List Int) (b cap bm : Nat) (what : Int) (w : World) (hv : IsView w b cap bm W) :
    Calls Try.prog 32 #[viewV b W.length cap bm, .int .i64 what] w fun e w' => e = .returned (.bool (fitsRef W what)) ∧ Below w.heap.size w w' := by
  unfold fitsRef
  by_cases hk : kindOf what = 1
  · have hb : (kindOf what == 1) = true := by simpa using hk
    rw [hb, Bool.true_or]
    clear hk
    go_enter Try.func32, Try.ntmps32
    go_wp2_with (first | (go_at_call 59; refine (kind_any _ _).mono ?_; rintro e w' ⟨rfl, rfl⟩))
    go_ret
    exact ⟨rfl, (Below.refl _ _).alloc (Nat.le_refl _) _⟩
  · have hb : (kindOf what == 1) = false := by simpa using hk
    rw [hb, Bool.false_or]
    clear hk
    go_enter Try.func32, Try.ntmps32
    go_wp2_with (first | (go_at_call 59; refine (kind_any _ _).mono ?_; rintro e w' ⟨rfl, rfl⟩) | (go_at_call 60; refine (isNil_any W b cap bm _ _ (hv.alloc _)).mono ?_; rintro e w' ⟨rfl, hbel⟩))
    go_ret
    exact ⟨rfl, below_call hbel⟩

theorem mayStand_any (W : List Int) (b cap bm : Nat) (form what : Int) (w : World) (hv : IsView w b cap bm W) :
    Calls Try.prog 75 #[viewV b W.length cap bm, .int .i64 form, .int .i64 what] w fun e w' => e = .returned (.bool (standB W form what)) ∧ Below w.heap.size w w' := by
  by_cases h1 : form = 1
  · subst h1
    rw [stand_bytes]
    by_cases h2 : 0 ≤ what
    · by_cases h3 : what ≤ 255
      · have e : decide (0 ≤ what ∧ what ≤ 255) = true := decide_eq_true ⟨h2, h3⟩
        rw [e]; clear e
        go_enter Try.func75, Try.ntmps75
        go_wp2
        go_ret
        exact ⟨rfl, (Below.refl _ _).alloc (Nat.le_refl _) _⟩
      · have e : decide (0 ≤ what ∧ what ≤ 255) = false := decide_eq_false (by omega)
        rw [e]; clear e
        go_enter Try.func75, Try.ntmps75
        go_wp2
        go_ret
        exact ⟨rfl, (Below.refl _ _).alloc (Nat.le_refl _) _⟩
    · have e : decide (0 ≤ what ∧ what ≤ 255) = false := decide_eq_false (by omega)
      rw [e]; clear e
      go_enter Try.func75, Try.ntmps75
      go_wp2
      go_ret
      exact ⟨rfl, (Below.refl _ _).alloc (Nat.le_refl _) _⟩
  · rw [stand_else h1]
    have b1 : (form == 1) = false := by simpa using h1
    clear h1
    go_enter Try.func75, Try.ntmps75
    go_wp2_with (first | (go_at_call 32; refine (isRef_any W b cap bm _ _ (hv.alloc _)).mono ?_; rintro e w' ⟨rfl, hbel⟩))
    go_ret
    exact ⟨rfl, below_call hbel⟩

/-- A call that answers n numbers that stand from cell off of block b on. -/
def SlotsAre (b off n : Nat) (e : Ending) : Prop := ∃ ad c, e = .returned (.slice ad n c) ∧ (0 < n → ad = some ⟨b, off, none⟩) ∧ n ≤ c ∧ c ≤ 9223372036854775807

theorem slots_any (W : List Int) (b cap bm p : Nat) (w : World) (hv : IsView w b cap bm W) (hu : unfit W 2 = none) (hl : W.length ≤ 2000) (hp : p ∈ places W 2) :
    Calls Try.prog 67 #[viewV b W.length cap bm, .int .i64 p] w fun e w' => SlotsAre b (p + 3) (slotsAt W p) e ∧ Below w.heap.size w w' := by
  obtain ⟨n, D, hown, hn, _, hat⟩ := hv.begun
  have hcap := own_cap hv.own
  unfold maxLen at hcap
  obtain ⟨hp2, hpl, hf, _⟩ := place_fit hu hp
  have hfo := fits_out hf
  have hlt := hv.lt
  have hatp := hat p hp
  have hwf : (Lit.int .i64 (p : Int)).wf = true := by go_wf
  clear hat hf
  go_enter Try.func67, Try.ntmps67
  go_wp2_with (first | (at_lookup; refine wpList_lookup_own_int _ rfl _ _ 44 rfl 3 3 .i64 key3 ty59 ty3 (zero3 _) bm n D rfl (hown.alloc _) _ _ rfl (keyOf_int_mk ty3 hwf) ?_; intro c hat hwc; have hcs : c = (slotsAt W p : Nat) := (by rw [hatp] at hat; simp at hat; exact hat.symm); subst hcs; clear hat hwc))
  · go_ret
    exact ⟨⟨_, _, rfl, by first | (intro _; rfl) | (intro h; exfalso; omega), by omega, by omega⟩, (Below.refl _ _).alloc (Nat.le_refl _) _⟩
  · go_ret
    exact ⟨⟨_, _, rfl, by first | (intro _; rfl) | (intro h; exfalso; omega), by omega, by omega⟩, (Below.refl _ _).alloc (Nat.le_refl _) _⟩

theorem fits_eq {W : List Int} {p : Nat} (h3 : p + 3 ≤ W.length) : fitsB W p = (formB (wd W (p + 2) % 4) && sizeB (wd W (p + 2) / 4) && decide (wd W (p + 2) / 4 ≤ (W.length : Int) - p - 3)) := by
  unfold fitsB formB sizeB slotsAt
  rw [Bool.eq_iff_iff]
  simp only [Bool.and_eq_true, decide_eq_true_eq]
  omega
/-- What fittingSize answers. -/
def FitAns (W : List Int) (p : Nat) (e : Ending) : Prop := ∃ n : Int, e = .returned (.tuple #[.int .i64 n, .bool (fitsB W p)]) ∧ (fitsB W p = true → n = (slotsAt W p : Nat))
theorem fit_ans {W : List Int} {p : Nat} {n : Int} {t : Bool} (h : fitsB W p = t) (hn : t = true → n = (slotsAt W p : Nat)) : FitAns W p (.returned (.tuple #[.int .i64 n, .bool t])) := by
  subst h; exact ⟨n, rfl, hn⟩
theorem fitting_any (W : List Int) (b cap bm p : Nat) (w : World) (hr : Row w b 0 W) (hl : W.length ≤ 2000) (hp : p < W.length) :
    Calls Try.prog 71 #[viewV b W.length cap bm, .int .i64 p] w fun e w' => FitAns W p e ∧ Below w.heap.size w w' := by
  have hlt := hr.lt
  by_cases h3 : p + 3 ≤ W.length
  · have hc := hr.cell (p + 2) (by omega)
    rw [Nat.zero_add] at hc
    have ha := and_three_i64 (wd W (p + 2))
    have hub := hr.ub (p + 2)
    have hlb := hr.lb (p + 2)
    have HF : Hid (fitsB W p = (formB (wd W (p + 2) % 4) && sizeB (wd W (p + 2) / 4) && decide (wd W (p + 2) / 4 ≤ (W.length : Int) - p - 3))) := fits_eq h3
    cases h1 : formB (wd W (p + 2) % 4) with
    | false =>
      go_enter Try.func71, Try.ntmps71
      go_wp2_with (first | (go_at_call 76; refine (isForm_any _ _).mono ?_; rintro e w' ⟨rfl, rfl⟩) | (go_at_call 77; refine (isSize_any _ _).mono ?_; rintro e w' ⟨rfl, rfl⟩))
      go_ret2
      have e : fitsB W p = false := by rw [HF.out, h1]; rfl
      exact ⟨fit_ans e (fun h => by cases h), (Below.refl _ _).alloc (Nat.le_refl _) _⟩
    | true =>
      cases h2 : sizeB (wd W (p + 2) / 4) with
      | false =>
        go_enter Try.func71, Try.ntmps71
        go_wp2_with (first | (go_at_call 76; refine (isForm_any _ _).mono ?_; rintro e w' ⟨rfl, rfl⟩) | (go_at_call 77; refine (isSize_any _ _).mono ?_; rintro e w' ⟨rfl, rfl⟩))
        go_ret2
        have e : fitsB W p = false := by rw [HF.out, h1, h2]; rfl
        exact ⟨fit_ans e (fun h => by cases h), (Below.refl _ _).alloc (Nat.le_refl _) _⟩
      | true =>
        go_enter Try.func71, Try.ntmps71
        go_wp2_with (first | (go_at_call 76; refine (isForm_any _ _).mono ?_; rintro e w' ⟨rfl, rfl⟩) | (go_at_call 77; refine (isSize_any _ _).mono ?_; rintro e w' ⟨rfl, rfl⟩))
        go_ret2
        have e : fitsB W p = decide (wd W (p + 2) / 4 ≤ (W.length : Int) - p - 3) := by rw [HF.out, h1, h2]; rfl
        refine ⟨fit_ans e (fun h => ?_), (Below.refl _ _).alloc (Nat.le_refl _) _⟩
        have := fits_out (e.trans h)
        unfold slotsAt
        omega
  · have hf : fitsB W p = false := fits_no (by omega)
    go_enter Try.func71, Try.ntmps71
    go_wp2
    go_ret2
    exact ⟨fit_ans hf (fun h => by cases h), (Below.refl _ _).alloc (Nat.le_refl _) _⟩

theorem front_size_any (ad : Option Addr) (n cap : Nat) (w : World) (h : n < 2 ∨ 2000 < n) (hm : n ≤ maxLen) :
    Calls Try.prog 56 #[.slice ad n cap] w fun e w' => e = .returned (.agg #[.int .i64 1, .int .i64 0]) ∧ Below w.heap.size w w' := by
  unfold maxLen at hm
  rcases h with h | h
  · go_enter Try.func56, Try.ntmps56
    go_wp2
    exact bodyPost_ret (v := .agg #[.int .i64 1, .int .i64 0]) (by simp [results, Try.results56, go_sem]) rfl ⟨rfl, (Below.refl _ _).alloc (Nat.le_refl _) _⟩
  · have h' : ¬ n < 2 := by omega
    go_enter Try.func56, Try.ntmps56
    go_wp2
    exact bodyPost_ret (v := .agg #[.int .i64 1, .int .i64 0]) (by simp [results, Try.results56, go_sem]) rfl ⟨rfl, (Below.refl _ _).alloc (Nat.le_refl _) _⟩
theorem front_else_any (W : List Int) (b off cap : Nat) (w : World) (hr : Row w b off W) (h2 : 2 ≤ W.length) (hl : W.length ≤ 2000) :
    Calls Try.prog 56 #[.slice (some ⟨b, off, none⟩) W.length cap] w fun e w' => e = .returned (.agg #[.int .i64 (frontOf W).1, .int .i64 (frontOf W).2]) ∧ Below w.heap.size w w' := by
  have hlt := hr.lt
  have c0 := hr.cell 0 (by omega)
  have c1 := hr.cell 1 (by omega)
  rw [Nat.add_zero] at c0
  by_cases h0 : wd W 0 = 0
  · by_cases h1 : wd W 1 < 1
    · rw [front_hash (by omega) h0 (by omega)]
      go_enter Try.func56, Try.ntmps56
      go_wp2
      exact bodyPost_ret (v := .agg #[.int .i64 2, .int .i64 1]) (by simp [results, Try.results56, go_sem]) rfl ⟨rfl, (Below.refl _ _).alloc (Nat.le_refl _) _⟩
    · by_cases h3 : 10001 < wd W 1
      · rw [front_hash (by omega) h0 (by omega)]
        go_enter Try.func56, Try.ntmps56
        go_wp2
        exact bodyPost_ret (v := .agg #[.int .i64 2, .int .i64 1]) (by simp [results, Try.results56, go_sem]) rfl ⟨rfl, (Below.refl _ _).alloc (Nat.le_refl _) _⟩
      · rw [front_ok (by omega) h0 (by omega)]
        go_enter Try.func56, Try.ntmps56
        go_wp2
        exact bodyPost_ret (v := .agg #[.int .i64 0, .int .i64 0]) (by simp [results, Try.results56, go_sem]) rfl ⟨rfl, (Below.refl _ _).alloc (Nat.le_refl _) _⟩
  · rw [front_zero (by omega) h0]
    have hb : (wd W 0 != 0) = true := by simpa using h0
    clear h0
    go_enter Try.func56, Try.ntmps56
    go_wp2
    exact bodyPost_ret (v := .agg #[.int .i64 2, .int .i64 0]) (by simp [results, Try.results56, go_sem]) rfl ⟨rfl, (Below.refl _ _).alloc (Nat.le_refl _) _⟩

end Go.Proofs.Ythdhaokjibfjdaa
