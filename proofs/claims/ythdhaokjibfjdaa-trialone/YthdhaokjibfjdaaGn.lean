/- Several texts in one. -/
import Derived.Test.YthdhaokjibfjdaaViewX
/- What the methods of a view answer. -/
namespace Go.Proofs.Ythdhaokjibfjdaa
open Go.RowKit
open Go.Maps (Keyed keyOf_int_mk)

theorem isNil_any (W : List Int) (b cap bm : Nat) (o : Int) (w : World) (hv : IsView w b cap bm W) :
    Calls Try.prog 60 #[viewV b W.length cap bm, .int .i64 o] w fun e w' => e = .returned (.bool (nilB W o)) ∧ Below w.heap.size w w' := by
  by_cases h0 : o = 0
  · subst h0
    rw [nil_zero]
    go_enter Try.func60, Try.ntmps60
    go_wp2_with (first | (go_at_call 59; refine (kind_any _ _).mono ?_; rintro e w' ⟨rfl, rfl⟩))
    go_ret
    exact ⟨rfl, (Below.refl _ _).alloc (Nat.le_refl _) _⟩
  · rw [nil_else h0]
    have hb : (kindOf o == 2) = false := by
      have : kindOf o ≠ 2 := fun e => h0 (kind_two e)
      simpa using this
    clear h0
    go_enter Try.func60, Try.ntmps60
    go_wp2_with (first | (go_at_call 59; refine (kind_any _ _).mono ?_; rintro e w' ⟨rfl, rfl⟩) | (go_at_call 42; refine (has_any W b cap bm _ _ (hv.alloc _)).mono ?_; rintro e w' ⟨rfl, hbel⟩))
    go_ret
    exact ⟨rfl, below_call hbel⟩

theorem isRef_any (W : List Int) (b cap bm : Nat) (what : Int) (w : World) (hv : IsView w b cap bm W) :
    Calls Try.prog 32 #[viewV b W.length cap bm, .int .i64 what] w fun e w' => e = .returned (.bool (fitsRef W what)) ∧ Below w.heap.size w w' := by
  unfold fitsRef
  by_cases hk : kindOf what = 1
  · have hb : (kindOf what == 1) = true := by simpa using hk
    rw [hb, Bool.true_or]
    clear hk
    go_enter Try.func32, Try.ntmps32
    go_wp2_with (first | (go_at_call 59; refine (kind_any _ _).mono ?_; rintro e w' ⟨rfl, rfl⟩))
    go_ret
    exact ⟨rfl, (Below.refl _ _).alloc (Nat.le_refl _) _⟩
  · have hb : (kindOf what == 1) = false := by simpa using hk
    rw [hb, Bool.false_or]
    clear hk
    go_enter Try.func32, Try.ntmps32
    go_wp2_with (first | (go_at_call 59; refine (kind_any _ _).mono ?_; rintro e w' ⟨rfl, rfl⟩) | (go_at_call 60; refine (isNil_any W b cap bm _ _ (hv.alloc _)).mono ?_; rintro e w' ⟨rfl, hbel⟩))
    go_ret
    exact ⟨rfl, below_call hbel⟩

theorem mayStand_any (W : List Int) (b cap bm : Nat) (form what : Int) (w : World) (hv : IsView w b cap bm W) :
    Calls Try.prog 75 #[viewV b W.length cap bm, .int .i64 form, .int .i64 what] w fun e w' => e = .returned (.bool (standB W form what)) ∧ Below w.heap.size w w' := by
  by_cases h1 : form = 1
  · subst h1
    rw [stand_bytes]
    by_cases h2 : 0 ≤ what
    · by_cases h3 : what ≤ 255
      · have e : decide (0 ≤ what ∧ what ≤ 255) = true := decide_eq_true ⟨h2, h3⟩
        rw [e]; clear e
        go_enter Try.func75, Try.ntmps75
        go_wp2
        go_ret
        exact ⟨rfl, (Below.refl _ _).alloc (Nat.le_refl _) _⟩
      · have e : decide (0 ≤ what ∧ what ≤ 255) = false := decide_eq_false (by omega)
        rw [e]; clear e
        go_enter Try.func75, Try.ntmps75
        go_wp2
        go_ret
        exact ⟨rfl, (Below.refl _ _).alloc (Nat.le_refl _) _⟩
    · have e : decide (0 ≤ what ∧ what ≤ 255) = false := decide_eq_false (by omega)
      rw [e]; clear e
      go_enter Try.func75, Try.ntmps75
      go_wp2
      go_ret
      exact ⟨rfl, (Below.refl _ _).alloc (Nat.le_refl _) _⟩
  · rw [stand_else h1]
    have b1 : (form == 1) = false := by simpa using h1
    clear h1
    go_enter Try.func75, Try.ntmps75
    go_wp2_with (first | (go_at_call 32; refine (isRef_any W b cap bm _ _ (hv.alloc _)).mono ?_; rintro e w' ⟨rfl, hbel⟩))
    go_ret
    exact ⟨rfl, below_call hbel⟩

/-- A call that answers n numbers that stand from cell off of block b on. -/
def SlotsAre (b off n : Nat) (e : Ending) : Prop := ∃ ad c, e = .returned (.slice ad n c) ∧ (0 < n → ad = some ⟨b, off, none⟩) ∧ n ≤ c ∧ c ≤ 9223372036854775807

theorem slots_any (W : List Int) (b cap bm p : Nat) (w : World) (hv : IsView w b cap bm W) (hu : unfit W 2 = none) (hl : W.length ≤ 2000) (hp : p ∈ places W 2) :
    Calls Try.prog 67 #[viewV b W.length cap bm, .int .i64 p] w fun e w' => SlotsAre b (p + 3) (slotsAt W p) e ∧ Below w.heap.size w w' := by
  obtain ⟨n, D, hown, hn, _, hat⟩ := hv.begun
  have hcap := own_cap hv.own
  unfold maxLen at hcap
  obtain ⟨hp2, hpl, hf, _⟩ := place_fit hu hp
  have hfo := fits_out hf
  have hlt := hv.lt
  have hatp := hat p hp
  have hwf : (Lit.int .i64 (p : Int)).wf = true := by go_wf
  clear hat hf
  go_enter Try.func67, Try.ntmps67
  go_wp2_with (first | (at_lookup; refine wpList_lookup_own_int _ rfl _ _ 44 rfl 3 3 .i64 key3 ty59 ty3 (zero3 _) bm n D rfl (hown.alloc _) _ _ rfl (keyOf_int_mk ty3 hwf) ?_; intro c hat hwc; have hcs : c = (slotsAt W p : Nat) := (by rw [hatp] at hat; simp at hat; exact hat.symm); subst hcs; clear hat hwc))
  · go_ret
    exact ⟨⟨_, _, rfl, by first | (intro _; rfl) | (intro h; exfalso; omega), by omega, by omega⟩, (Below.refl _ _).alloc (Nat.le_refl _) _⟩
  · go_ret
    exact ⟨⟨_, _, rfl, by first | (intro _; rfl) | (intro h; exfalso; omega), by omega, by omega⟩, (Below.refl _ _).alloc (Nat.le_refl _) _⟩

theorem fits_eq {W : List Int} {p : Nat} (h3 : p + 3 ≤ W.length) : fitsB W p = (formB (wd W (p + 2) % 4) && sizeB (wd W (p + 2) / 4) && decide (wd W (p + 2) / 4 ≤ (W.length : Int) - p - 3)) := by
  unfold fitsB formB sizeB slotsAt
  rw [Bool.eq_iff_iff]
  simp only [Bool.and_eq_true, decide_eq_true_eq]
  omega
/-- What fittingSize answers. -/
def FitAns (W : List Int) (p : Nat) (e : Ending) : Prop := ∃ n : Int, e = .returned (.tuple #[.int .i64 n, .bool (fitsB W p)]) ∧ (fitsB W p = true → n = (slotsAt W p : Nat))
theorem fit_ans {W : List Int} {p : Nat} {n : Int} {t : Bool} (h : fitsB W p = t) (hn : t = true → n = (slotsAt W p : Nat)) : FitAns W p (.returned (.tuple #[.int .i64 n, .bool t])) := by
  subst h; exact ⟨n, rfl, hn⟩
theorem fitting_any (W : List Int) (b cap bm p : Nat) (w : World) (hr : Row w b 0 W) (hl : W.length ≤ 2000) (hp : p < W.length) :
    Calls Try.prog 71 #[viewV b W.length cap bm, .int .i64 p] w fun e w' => FitAns W p e ∧ Below w.heap.size w w' := by
  have hlt := hr.lt
  by_cases h3 : p + 3 ≤ W.length
  · have hc := hr.cell (p + 2) (by omega)
    rw [Nat.zero_add] at hc
    have ha := and_three_i64 (wd W (p + 2))
    have hub := hr.ub (p + 2)
    have hlb := hr.lb (p + 2)
    have HF : Hid (fitsB W p = (formB (wd W (p + 2) % 4) && sizeB (wd W (p + 2) / 4) && decide (wd W (p + 2) / 4 ≤ (W.length : Int) - p - 3))) := fits_eq h3
    cases h1 : formB (wd W (p + 2) % 4) with
    | false =>
      go_enter Try.func71, Try.ntmps71
      go_wp2_with (first | (go_at_call 76; refine (isForm_any _ _).mono ?_; rintro e w' ⟨rfl, rfl⟩) | (go_at_call 77; refine (isSize_any _ _).mono ?_; rintro e w' ⟨rfl, rfl⟩))
      go_ret2
      have e : fitsB W p = false := by rw [HF.out, h1]; rfl
      exact ⟨fit_ans e (fun h => by cases h), (Below.refl _ _).alloc (Nat.le_refl _) _⟩
    | true =>
      cases h2 : sizeB (wd W (p + 2) / 4) with
      | false =>
        go_enter Try.func71, Try.ntmps71
        go_wp2_with (first | (go_at_call 76; refine (isForm_any _ _).mono ?_; rintro e w' ⟨rfl, rfl⟩) | (go_at_call 77; refine (isSize_any _ _).mono ?_; rintro e w' ⟨rfl, rfl⟩))
        go_ret2
        have e : fitsB W p = false := by rw [HF.out, h1, h2]; rfl
        exact ⟨fit_ans e (fun h => by cases h), (Below.refl _ _).alloc (Nat.le_refl _) _⟩
      | true =>
        go_enter Try.func71, Try.ntmps71
        go_wp2_with (first | (go_at_call 76; refine (isForm_any _ _).mono ?_; rintro e w' ⟨rfl, rfl⟩) | (go_at_call 77; refine (isSize_any _ _).mono ?_; rintro e w' ⟨rfl, rfl⟩))
        go_ret2
        have e : fitsB W p = decide (wd W (p + 2) / 4 ≤ (W.length : Int) - p - 3) := by rw [HF.out, h1, h2]; rfl
        refine ⟨fit_ans e (fun h => ?_), (Below.refl _ _).alloc (Nat.le_refl _) _⟩
        have := fits_out (e.trans h)
        unfold slotsAt
        omega
  · have hf : fitsB W p = false := fits_no (by omega)
    go_enter Try.func71, Try.ntmps71
    go_wp2
    go_ret2
    exact ⟨fit_ans hf (fun h => by cases h), (Below.refl _ _).alloc (Nat.le_refl _) _⟩

theorem front_size_any (ad : Option Addr) (n cap : Nat) (w : World) (h : n < 2 ∨ 2000 < n) (hm : n ≤ maxLen) :
    Calls Try.prog 56 #[.slice ad n cap] w fun e w' => e = .returned (.agg #[.int .i64 1, .int .i64 0]) ∧ Below w.heap.size w w' := by
  unfold maxLen at hm
  rcases h with h | h
  · go_enter Try.func56, Try.ntmps56
    go_wp2
    exact bodyPost_ret (v := .agg #[.int .i64 1, .int .i64 0]) (by simp [results, Try.results56, go_sem]) rfl ⟨rfl, (Below.refl _ _).alloc (Nat.le_refl _) _⟩
  · have h' : ¬ n < 2 := by omega
    go_enter Try.func56, Try.ntmps56
    go_wp2
    exact bodyPost_ret (v := .agg #[.int .i64 1, .int .i64 0]) (by simp [results, Try.results56, go_sem]) rfl ⟨rfl, (Below.refl _ _).alloc (Nat.le_refl _) _⟩
theorem front_else_any (W : List Int) (b off cap : Nat) (w : World) (hr : Row w b off W) (h2 : 2 ≤ W.length) (hl : W.length ≤ 2000) :
    Calls Try.prog 56 #[.slice (some ⟨b, off, none⟩) W.length cap] w fun e w' => e = .returned (.agg #[.int .i64 (frontOf W).1, .int .i64 (frontOf W).2]) ∧ Below w.heap.size w w' := by
  have hlt := hr.lt
  have c0 := hr.cell 0 (by omega)
  have c1 := hr.cell 1 (by omega)
  rw [Nat.add_zero] at c0
  by_cases h0 : wd W 0 = 0
  · by_cases h1 : wd W 1 < 1
    · rw [front_hash (by omega) h0 (by omega)]
      go_enter Try.func56, Try.ntmps56
      go_wp2
      exact bodyPost_ret (v := .agg #[.int .i64 2, .int .i64 1]) (by simp [results, Try.results56, go_sem]) rfl ⟨rfl, (Below.refl _ _).alloc (Nat.le_refl _) _⟩
    · by_cases h3 : 10001 < wd W 1
      · rw [front_hash (by omega) h0 (by omega)]
        go_enter Try.func56, Try.ntmps56
        go_wp2
        exact bodyPost_ret (v := .agg #[.int .i64 2, .int .i64 1]) (by simp [results, Try.results56, go_sem]) rfl ⟨rfl, (Below.refl _ _).alloc (Nat.le_refl _) _⟩
      · rw [front_ok (by omega) h0 (by omega)]
        go_enter Try.func56, Try.ntmps56
        go_wp2
        exact bodyPost_ret (v := .agg #[.int .i64 0, .int .i64 0]) (by simp [results, Try.results56, go_sem]) rfl ⟨rfl, (Below.refl _ _).alloc (Nat.le_refl _) _⟩
  · rw [front_zero (by omega) h0]
    have hb : (wd W 0 != 0) = true := by simpa using h0
    clear h0
    go_enter Try.func56, Try.ntmps56
    go_wp2
    exact bodyPost_ret (v := .agg #[.int .i64 2, .int .i64 0]) (by simp [results, Try.results56, go_sem]) rfl ⟨rfl, (Below.refl _ _).alloc (Nat.le_refl _) _⟩

end Go.Proofs.Ythdhaokjibfjdaa

/- Clone, Things: what a view hands out. -/
namespace Go.Proofs.Ythdhaokjibfjdaa
open Go.RowKit
open Go.Maps (Keyed keyOf_int_mk)

/-- Numbers as values. -/
abbrev vals (xs : List Int) : List Value := xs.map (Value.int .i64)

theorem own_shape {w : World} {B n : Nat} {v : Value} {xs : List Value} (h : w.ownsRow B 3 1 v n xs) (hv : v ≠ .slice none 0 0) : ∃ g cap, v = sl g n cap ∧ B ≤ g ∧ w.ownsRow 0 3 1 (sl g n cap) n xs := by
  obtain ⟨h1, h2⟩ := h
  rcases h2 with ⟨h2, _⟩ | ⟨g, cap, cur, rfl, hg, hh, r⟩
  · exact absurd h2 hv
  · exact ⟨g, cap, rfl, hg, h1, Or.inr ⟨g, cap, cur, rfl, Nat.zero_le _, hh, r⟩⟩

/-- A call that answers those numbers in memory of its own, from block B on. -/
def Owned (B : Nat) (xs : List Int) (e : Ending) (w : World) : Prop := ∃ g cap, e = .returned (sl g xs.length cap) ∧ B ≤ g ∧ w.ownsRow 0 3 1 (sl g xs.length cap) xs.length (vals xs)

theorem row_news {w : World} {b off : Nat} {xs : List Int} (h : Row w b off xs) : ∀ j u, (vals xs)[j]? = some u → w.cell? ((⟨b, off, none⟩ : Addr).add j) = some u := by
  intro j u hj
  have hlt : j < xs.length := by
    have := (List.getElem?_eq_some_iff.1 hj).1
    simpa using this
  have hc := h.cell j hlt
  simp [List.getElem?_map, List.getElem?_eq_getElem hlt] at hj
  subst hj
  have e : (⟨b, off, none⟩ : Addr).add j = ⟨b, off + j, none⟩ := by
    unfold Addr.add
    split
    · rename_i h0; rw [h0]; rfl
    · rfl
  rw [e, hc]
  simp [wd, List.getElem?_eq_getElem hlt]

theorem own_reads {w : World} {g cap : Nat} {xs : List Int} (h : w.ownsRow 0 3 1 (sl g xs.length cap) xs.length (vals xs)) (hw : ∀ k, (Lit.int .i64 (wd xs k)).wf = true) : Row w g 0 xs :=
  ⟨own_lt h, fun k hk => by rw [Nat.zero_add]; exact own_cell h hk, hw⟩

theorem clone_any (xs : List Int) (b off cap : Nat) (w : World) (hr : Row w b off xs) (h0 : 0 < xs.length) (hl : xs.length ≤ 2000) :
    Calls Try.prog 33 #[.slice (some ⟨b, off, none⟩) xs.length cap] w fun e w' => Owned w.heap.size xs e w' ∧ Below w.heap.size w w' := by
  obtain ⟨i0, hi, hz0, hz1, hz2⟩ := info_parts info3
  have hlt := hr.lt
  have he : (binOp .eql 22 (.slice (some ⟨b, off, none⟩) xs.length cap) (.slice none 0 0)).run Try.prog w = .ok (.bool false) w := Lib.run_eql_slice_nil w 22 3 (some ⟨b, off, none⟩) xs.length cap 0 0 ty30
  go_enter Try.func33, Try.ntmps33
  go_wp2_with (first | (at_builtin; refine wpList_append_own _ rfl _ _ 22 rfl w.heap.size 3 i0 (.int .i64 0) 1 8 ty30 hi hz0 hz1 hz2 rfl (by decide) (sl w.heap.size 0 0) 0 [] rfl (World.ownsRow_lit w #[] 0 (Nat.le_refl _) (Nat.zero_le _) rfl) ⟨b, off, none⟩ xs.length cap (vals xs) rfl (by simp) (row_news (hr.alloc _)) (ints_oneCell _ _) (by unfold maxLen; omega) (by omega) (by simp) ?_; intro v' w1 hown' hgrow hnil))
  simp only [Nat.zero_add, List.nil_append] at hown'
  obtain ⟨g, cap', rfl, hg, hown⟩ := own_shape hown' (fun e => by have := (hnil.1 e).1; cases this)
  go_ret
  exact ⟨⟨g, cap', rfl, hg, hown⟩, ((Below.refl _ _).alloc (Nat.le_refl _) _).grown hgrow (by simp) (fun k hk => by simp [Value.ownBlock] at hk; omega)⟩

theorem clone_none (ad : Option Addr) (cap : Nat) (w : World) :
    Calls Try.prog 33 #[.slice ad 0 cap] w fun e w' => (∃ ad' c', e = .returned (.slice ad' 0 c')) ∧ Below w.heap.size w w' := by
  obtain ⟨i0, hi, hz0, hz1, hz2⟩ := info_parts info3
  cases ad with
  | none =>
    have he : (binOp .eql 22 (.slice none 0 cap) (.slice none 0 0)).run Try.prog w = .ok (.bool true) w := Lib.run_eql_slice_nil w 22 3 none 0 cap 0 0 ty30
    go_enter Try.func33, Try.ntmps33
    go_wp2
    go_ret
    exact ⟨⟨_, _, rfl⟩, Below.refl _ _⟩
  | some a =>
    have he : (binOp .eql 22 (.slice (some a) 0 cap) (.slice none 0 0)).run Try.prog w = .ok (.bool false) w := Lib.run_eql_slice_nil w 22 3 (some a) 0 cap 0 0 ty30
    go_enter Try.func33, Try.ntmps33
    go_wp2_with (first | (at_builtin; refine wpList_append_own _ rfl _ _ 22 rfl w.heap.size 3 i0 (.int .i64 0) 1 8 ty30 hi hz0 hz1 hz2 rfl (by decide) (sl w.heap.size 0 0) 0 [] rfl (World.ownsRow_lit w #[] 0 (Nat.le_refl _) (Nat.zero_le _) rfl) a 0 cap [] rfl (by simp) (by simp) (by simp) (by unfold maxLen; omega) (by omega) (by simp) ?_; intro v' w1 hown' hgrow hnil))
    simp only [Nat.zero_add, List.nil_append] at hown'
    obtain ⟨g, cap', rfl, hg, hown⟩ := own_shape hown' (fun e => by have := (hnil.1 e).1; cases this)
    go_ret
    exact ⟨⟨_, _, rfl⟩, ((Below.refl _ _).alloc (Nat.le_refl _) _).grown hgrow (by simp) (fun k hk => by simp [Value.ownBlock] at hk; omega)⟩

theorem box_cells {w wr : World} {a c : Value} {t : TypeId} (hb : Below (w.alloc (.cells #[a, c] t)).heap.size (w.alloc (.cells #[a, c] t)) wr) :
    wr.cell? ⟨w.heap.size, 0, none⟩ = some a ∧ wr.cell? ⟨w.heap.size, 1, none⟩ = some c := by
  constructor
  · rw [hb.cell (p := ⟨w.heap.size, 0, none⟩) (by simp)]; simp
  · rw [hb.cell (p := ⟨w.heap.size, 1, none⟩) (by simp)]; simp

/-- References of things at those places. -/
def refs (ps : List Nat) : List Int := ps.map (fun (p : Nat) => 2 * (p : Int))
theorem refs_snoc (ps : List Nat) (p : Nat) : vals (refs (ps ++ [p])) = vals (refs ps) ++ [.int .i64 (2 * (p : Int))] := by simp [refs]
theorem refs_length (ps : List Nat) : (refs ps).length = ps.length := by simp [refs]

theorem own_mono {w : World} {B B' : Nat} {e : TypeId} {size n : Nat} {v : Value} {xs : List Value} (hB : B' ≤ B) (h : w.ownsRow B e size v n xs) : w.ownsRow B' e size v n xs := by
  obtain ⟨h1, h2⟩ := h
  refine ⟨h1, ?_⟩
  rcases h2 with h2 | ⟨g, cap', cur, hv, hg, r⟩
  · exact Or.inl h2
  · exact Or.inr ⟨g, cap', cur, hv, Nat.le_trans hB hg, r⟩

/-- A call that answers numbers that it owns, nil or not. -/
def OwnedAny (B : Nat) (xs : List Int) (e : Ending) (w : World) : Prop := ∃ ad c, e = .returned (.slice ad xs.length c) ∧ w.ownsRow B 3 1 (.slice ad xs.length c) xs.length (vals xs)
theorem owned_any {B n : Nat} {xs : List Int} {v : Value} {w : World} (hn : n = xs.length) (h : w.ownsRow B 3 1 v n (vals xs)) : OwnedAny B xs (.returned v) w := by
  subst hn
  rcases h.2 with ⟨rfl, h0⟩ | ⟨g, cap, cur, rfl, r⟩
  · exact ⟨none, 0, by rw [h0], by rw [h0]; rw [h0] at h; exact h⟩
  · exact ⟨_, _, rfl, h⟩

set_option maxHeartbeats 1000000 in
theorem things_any (W : List Int) (b cap bm : Nat) (w : World) (hv : IsView w b cap bm W) (hu : unfit W 2 = none) (hl : W.length ≤ 2000) :
    Calls Try.prog 26 #[viewV b W.length cap bm] w fun e w' => OwnedAny w.heap.size (refs (places W 2)) e w' ∧ Below w.heap.size w w' := by
  obtain ⟨i0, hi, hz0, hz1, hz2⟩ := info_parts info3
  go_enter Try.func26, Try.ntmps26
  go_wp2
  go_loopw [3, 4] (fun v i wr => ∃ (p : Nat) (pre : List Nat), i = .int .i64 p ∧ 2 ≤ p ∧ p ≤ 2100 ∧ pre.length ≤ p ∧ unfit W p = none ∧ pre ++ places W p = places W 2 ∧ wr.ownsRow (w.heap.size + 1) 3 1 v pre.length (vals (refs pre)) ∧
      Below (w.alloc (.cells #[sl b W.length cap, .map (some bm)] 46)).heap.size (w.alloc (.cells #[sl b W.length cap, .map (some bm)] 46)) wr) (fun _ i _ => 3000 - (intOf i).toNat)
  case atStart => exact ⟨2, [], rfl, by omega, by omega, by simp, hu, rfl, World.ownsRow_nil _ _ _ _, Below.refl _ _⟩
  case round =>
    rename_i v0 i0' wr
    obtain ⟨p, pre, rfl, hp2, hpl, hlen, hup, hpre, hown, hbel⟩ := hrel
    obtain ⟨bx0, bx1⟩ := box_cells hbel
    by_cases hin : p < W.length
    · obtain ⟨hf, hun⟩ := unfit_head hin hup
      have hmem : p ∈ places W 2 := by rw [← hpre, places_in hin]; simp
      have hnn := next_num (fits_out hf).2.1
      have hge : p + 3 ≤ nextAt W p := by unfold nextAt; omega
      have hn : nextAt W p ≤ W.length := by have := fits_out hf; unfold nextAt; omega
      have hsz : w.heap.size + 1 ≤ wr.heap.size := by have := hbel.size; simpa using this
      have hsl : (p : Int) + (3 + (slotsAt W p : Nat)) = (nextAt W p : Nat) := by unfold nextAt; omega
      have hs60 : slotsAt W p ≤ 60 := by have := fits_out hf; unfold slotsAt; omega
      have hwf : (Lit.int .i64 (p : Int)).wf = true := by go_wf
      have hbm := hv.begun.lt
      obtain ⟨n, D, hm0, hmn, _, hatt⟩ := (hv.alloc (.cells #[sl b W.length cap, .map (some bm)] 46)).begun
      have hatp := hatt p hmem
      clear hatt hf hup hnn
      go_wp2_with (first | (at_builtin; go_must (refine wpList_append_own _ rfl _ _ 22 rfl (w.heap.size + 1) 3 i0 (.int .i64 0) 1 8 ty30 hi hz0 hz1 hz2 rfl (by decide) _ pre.length (vals (refs pre)) rfl (hown.alloc _) ⟨wr.heap.size, 0, none⟩ 1 1 [.int .i64 (2 * (p : Int))] rfl rfl (cell_one_new _ _ _) (ints_oneCell .i64 [2 * (p : Int)]) (by unfold maxLen; omega) (by omega) (by simp; omega) ?_); intro v' w1 hown' hgrow hnil; have hb2 := (hbel.alloc (by simp; omega) _).grown hgrow (by simp; omega) (fun k hk => by have := (hown.lt k hk).1; simp; omega); obtain ⟨by0, by1⟩ := box_cells hb2; have hm1 := ownsMap_below hm0 hb2 (by simp; omega)) | (at_lookup; go_must (refine wpList_lookup_own_int _ rfl _ _ 44 rfl 3 3 .i64 key3 ty59 ty3 (zero3 _) bm n D rfl hm1 _ _ rfl (keyOf_int_mk ty3 hwf) ?_); intro c hat hwc; have hcs : c = (slotsAt W p : Nat) := (by rw [hatp] at hat; simp at hat; exact hat.symm); subst hcs; clear hat hwc))
      go_roundw
      case rel => exact ⟨nextAt W p, pre ++ [p], by first | rfl | simp, by omega, by omega, by simp; omega, hun, by rw [← hpre, places_in hin]; simp, by rw [refs_snoc]; simpa using hown', hb2⟩
      case measure => simp [intOf]; omega
    · have hfin : pre = places W 2 := by rw [← hpre, places_end hin, List.append_nil]
      go_wp2
      go_ret
      subst hfin
      exact ⟨owned_any (refs_length _).symm (own_mono (by omega) hown), below_call hbel⟩
end Go.Proofs.Ythdhaokjibfjdaa
