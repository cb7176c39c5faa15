/- package lex: the token that begins at a byte. -/
import Derived.Test.YtkmnlmoalobmjadDoorLxGap
import Derived.Test.YtkmnlmoalobmjadDoorLxName
import Derived.Test.YtkmnlmoalobmjadDoorLxNum
import Derived.Deep.RegionHeld3
import Derived.BigQuiet
namespace Go.Proofs.YtkmnlmoalobmjadDoor
open Go.RowKit

theorem one_byte {t : ByteArray} {i : Nat} (h : i < t.size) : t.extract i (i + 1) = ⟨#[(wd (nums t) i).toNat.toUInt8]⟩ := by
  have e : (t.extract i (i + 1)).data.toList = [t[i]] := by
    rw [Lib.extract_data, data_drop h, Nat.add_sub_cancel_left]
    rfl
  rw [← nums_at h, Int.toNat_natCast]
  have e2 : t[i].toNat.toUInt8 = t[i] := by simp
  rw [e2]
  cases hx : t.extract i (i + 1) with
  | mk d =>
    rw [hx] at e
    have : d = #[t[i]] := by
      apply Array.ext'
      exact e
    rw [this]
theorem contains_at (all t : ByteArray) (i : Nat) (h : i < t.size) (b : Bool) (hb : decide (0 ≤ Lib.indexByte all.data.toList (wd (nums t) i).toNat.toUInt8) = b) (w : World) :
    Calls Tryd.prog 18 #[.string all, .string (t.extract i (i + 1))] w fun e w' => e = .returned (.bool b) ∧ w' = w := by
  rw [one_byte h, ← hb]
  exact Tryd.strings_Contains_one _ _ _
theorem begins_any (all t : ByteArray) (i b1 b2 : Nat) (h : i < t.size) (hl : t.size ≤ 4000) (b : Bool) (hb : decide (0 ≤ Lib.indexByte all.data.toList (wd (nums t) i).toNat.toUInt8) = b) (w : World) (h1 : w.cell? ⟨b1, 0, none⟩ = some (.string t)) (h2 : w.cell? ⟨b2, 0, none⟩ = some (.int .i64 i)) :
    Calls Tryd.prog 17 #[.string all, .pointer (some ⟨b1, 0, none⟩), .pointer (some ⟨b2, 0, none⟩)] w fun e w' => e = .returned (.bool b) ∧ w' = w := by
  have hc := contains_at all t i h b hb
  have hi : (i : Int) + 1 ≤ (t.size : Int) := by omega
  have hw1 := wrap_id (x := (i : Int) + 1) (by omega) (by omega)
  have ht : ((i : Int) + 1).toNat = i + 1 := by omega
  clear hb
  go_enter Tryd.func17, Tryd.ntmps17
  go_wp2_with (go_at_call 18; refine (hc _).mono ?_; rintro e w' ⟨rfl, rfl⟩)
  go_ret
  exact ⟨rfl, rfl⟩

theorem asks_aln (b : Nat) : Asks 22 #[.pointer (some ⟨b, 0, none⟩)] alnB (HoldsT b ⟨#[97, 98, 99, 100, 101, 102, 103, 104, 105, 106, 107, 108, 109, 110, 111, 112, 113, 114, 115, 116, 117, 118, 119, 120, 121, 122, 65, 66, 67, 68, 69, 70, 71, 72, 73, 74, 75, 76, 77, 78, 79, 80, 81, 82, 83, 84, 85, 86, 87, 88, 89, 90, 95, 48, 49, 50, 51, 52, 53, 54, 55, 56, 57]⟩) := asks_one b fun hc => tells_aln hc
theorem asks_dig (b : Nat) : Asks 22 #[.pointer (some ⟨b, 0, none⟩)] digB (HoldsT b ⟨#[48, 49, 50, 51, 52, 53, 54, 55, 56, 57]⟩) := asks_one b fun hc => tells_dig hc

/-- The boxes of a call of piece. -/
structure PieceW (w0 : World) (B i : Nat) (t : ByteArray) (w : World) : Prop where
  text : w.cell? ⟨B, 0, none⟩ = some (.string t)
  place : w.cell? ⟨B + 1, 0, none⟩ = some (.int .i64 i)
  size : B + 1 < w.heap.size
  below : Below B w0 w
theorem PieceW.next {w0 : World} {B i : Nat} {t : ByteArray} {w w' : World} (h : PieceW w0 B i t w) (hb : Below w.heap.size w w') : PieceW w0 B i t w' := by
  have hs := h.size
  exact ⟨by rw [hb.cell (p := ⟨B, 0, none⟩) (by dsimp only; omega)]; exact h.text, by rw [hb.cell (p := ⟨B + 1, 0, none⟩) hs]; exact h.place, by have := hb.size; omega, h.below.trans (hb.mono (by omega))⟩
theorem PieceW.drew {w0 : World} {B i : Nat} {t : ByteArray} {w : World} (h : PieceW w0 B i t w) : PieceW w0 B i t w.drew := h.next (Below.refl _ _).drew

set_option maxHeartbeats 4000000 in
/-- A name, or a word. -/
theorem piece_name (t : ByteArray) (i : Nat) (h : i < t.size) (hl : t.size ≤ 4000) (w : World) (hb : letB (wd (nums t) i) = true) (k : Nat) (HK : Hid (k = stopP alnB (nums t) i)) (kd : Int) (HD : Hid (kd = if wordB (piece (nums t) i k) = true then 3 else 1)) :
    Calls Tryd.prog 7 #[.string t, .int .i64 i] w fun e w' => e = .returned (.tuple #[.int .i64 kd, .int .i64 k, .int .i64 0]) ∧ Below w.heap.size w w' := by
  have hby := wd_byte (nums_byte t) i
  have hik : i ≤ k := by rw [HK.out]; exact stop_ge _ _ _
  have hkl : k ≤ t.size := by rw [HK.out, ← nums_length]; exact stop_le (by rw [nums_length]; omega)
  have hB : ∀ b1 b2 w, w.cell? ⟨b1, 0, none⟩ = some (.string t) → w.cell? ⟨b2, 0, none⟩ = some (.int .i64 i) → Calls Tryd.prog 17 #[.string ⟨#[97, 98, 99, 100, 101, 102, 103, 104, 105, 106, 107, 108, 109, 110, 111, 112, 113, 114, 115, 116, 117, 118, 119, 120, 121, 122, 65, 66, 67, 68, 69, 70, 71, 72, 73, 74, 75, 76, 77, 78, 79, 80, 81, 82, 83, 84, 85, 86, 87, 88, 89, 90, 95]⟩, .pointer (some ⟨b1, 0, none⟩), .pointer (some ⟨b2, 0, none⟩)] w fun e w' => e = .returned (.bool true) ∧ w' = w :=
    fun b1 b2 w h1 h2 => begins_any _ t i b1 b2 h hl true ((tells_let hby).trans hb) w h1 h2
  have hP : ∀ (b : Nat) (w : World), HoldsT b ⟨#[97, 98, 99, 100, 101, 102, 103, 104, 105, 106, 107, 108, 109, 110, 111, 112, 113, 114, 115, 116, 117, 118, 119, 120, 121, 122, 65, 66, 67, 68, 69, 70, 71, 72, 73, 74, 75, 76, 77, 78, 79, 80, 81, 82, 83, 84, 85, 86, 87, 88, 89, 90, 95, 48, 49, 50, 51, 52, 53, 54, 55, 56, 57]⟩ w → Calls Tryd.prog 13 #[.string t, .int .i64 i, .func (.func 22) #[] #[.pointer (some ⟨b, 0, none⟩)]] w fun e w' => e = .returned (.int .i64 k) ∧ Below w.heap.size w w' :=
    fun b w hH => by rw [HK.out]; exact past_any _ _ alnB _ (asks_aln b) t i w hH (by omega) hl
  have hN : ∀ w, Calls Tryd.prog 19 #[.string (t.extract i k)] w fun e w' => e = .returned (.int .i64 kd) ∧ w' = w := fun w => nameKind_any _ kd w (by rw [nums_extract]; exact HD)
  clear hb HK HD
  go_enter Tryd.func7, Tryd.ntmps7
  go_wp2_with (first | (go_at_call 17; refine (hB _ _ _ (by simp) (by simp)).mono ?_; rintro e w' ⟨rfl, hw⟩; rw [hw]; clear hw w'))
  obtain ⟨w0, e0⟩ : ∃ w0, w0 = (w.alloc (.cells #[.string t] 9)).alloc (.cells #[.int .i64 i] 3) := ⟨_, rfl⟩
  have hp : PieceW w w.heap.size i t w0 := by
    rw [e0]
    exact ⟨by simp, by simp, by simp, ((Below.refl _ _).alloc (Nat.le_refl _) _).alloc (by simp) _⟩
  rw [← e0]
  clear e0
  have c1 := hp.text
  have c2 := hp.place
  go_region_held3 (fun w' => w'.cell? ⟨w.heap.size, 0, none⟩ = some (.string t) ∧ w'.cell? ⟨w.heap.size + 1, 0, none⟩ = some (.int .i64 i)) (go_keep)
    (first
      | (go_at_call 14; refine (oneOf_any _ _).mono ?_; rintro e w2 ⟨rfl, hH, hb2⟩; have hp2 := hp.drew.next hb2; have c3 := hp2.text; have c4 := hp2.place)
      | (go_at_call 13; refine (hP _ _ hH).mono ?_; rintro e w3 ⟨rfl, hb3⟩; have hp3 := hp2.next hb3; have c5 := hp3.text; have c6 := hp3.place))
  go_wp2_with (first | (go_at_call 19; refine (hN _).mono ?_; rintro e w' ⟨rfl, hw⟩; rw [hw]; clear hw w'))
  exact bodyPost_ret (v := .tuple #[.int .i64 kd, .int .i64 k, .int .i64 0]) (by simp [results, Tryd.results7, go_sem]) rfl ⟨rfl, hp3.below⟩

/-- What a byte begins, asked of whatever rows of bytes. -/
theorem begins_all (t : ByteArray) (i : Nat) (h : i < t.size) (hl : t.size ≤ 4000) : ∃ F : ByteArray → Bool, (∀ all b1 b2 w, w.cell? ⟨b1, 0, none⟩ = some (.string t) → w.cell? ⟨b2, 0, none⟩ = some (.int .i64 i) → Calls Tryd.prog 17 #[.string all, .pointer (some ⟨b1, 0, none⟩), .pointer (some ⟨b2, 0, none⟩)] w fun e w' => e = .returned (.bool (F all)) ∧ w' = w) ∧
    F ⟨#[97, 98, 99, 100, 101, 102, 103, 104, 105, 106, 107, 108, 109, 110, 111, 112, 113, 114, 115, 116, 117, 118, 119, 120, 121, 122, 65, 66, 67, 68, 69, 70, 71, 72, 73, 74, 75, 76, 77, 78, 79, 80, 81, 82, 83, 84, 85, 86, 87, 88, 89, 90, 95]⟩ = letB (wd (nums t) i) ∧ F ⟨#[48, 49, 50, 51, 52, 53, 54, 55, 56, 57]⟩ = digB (wd (nums t) i) ∧ F ⟨#[43, 45, 42, 60, 61, 33, 46, 44, 59, 58, 40, 41, 123, 125]⟩ = signsL.contains (wd (nums t) i) :=
  have hby := wd_byte (nums_byte t) i
  ⟨fun all => decide (0 ≤ Lib.indexByte all.data.toList (wd (nums t) i).toNat.toUInt8), fun all b1 b2 w h1 h2 => begins_any all t i b1 b2 h hl _ rfl w h1 h2, tells_let hby, tells_dig hby, tells_sign hby⟩

set_option maxHeartbeats 4000000 in
/-- A decimal, or what is wrong with it. -/
theorem piece_num (t : ByteArray) (i : Nat) (h : i < t.size) (hl : t.size ≤ 4000) (w : World) (he : Errs w) (hb : digB (wd (nums t) i) = true) (k : Nat) (HK : Hid (k = stopP digB (nums t) i)) (r : Int) (HR : Hid (r = if numBad (nums t) i k = true then 2 else 0)) :
    Calls Tryd.prog 7 #[.string t, .int .i64 i] w fun e w' => e = .returned (.tuple #[.int .i64 2, .int .i64 k, .int .i64 r]) ∧ Below w.heap.size w w' := by
  have hik : i < k ∧ k ≤ t.size := by rw [HK.out, ← nums_length]; exact stop_more (by rw [nums_length]; exact h) hb
  obtain ⟨F, hB, hF1, hF2, _⟩ := begins_all t i h hl
  rw [dig_not_let hb] at hF1
  rw [hb] at hF2
  have hP : ∀ (b : Nat) (w : World), HoldsT b ⟨#[48, 49, 50, 51, 52, 53, 54, 55, 56, 57]⟩ w → Calls Tryd.prog 13 #[.string t, .int .i64 i, .func (.func 22) #[] #[.pointer (some ⟨b, 0, none⟩)]] w fun e w' => e = .returned (.int .i64 k) ∧ Below w.heap.size w w' :=
    fun b w hH => by rw [HK.out]; exact past_any _ _ digB _ (asks_dig b) t i w hH (by omega) hl
  have hD : ∀ w, Errs w → Calls Tryd.prog 20 #[.string (t.extract i k), .string (t.extract k t.size)] w fun e w' => e = .returned (.int .i64 r) ∧ Below w.heap.size w w' := fun w he => by
    have hz : (t.extract i k).size = k - i := by rw [← nums_length, nums_extract, piece_length (by rw [nums_length]; omega)]
    have hz2 : (t.extract k t.size).size = t.size - k := by rw [← nums_length, nums_extract, piece_length (by rw [nums_length]; omega)]
    refine decimal_any _ _ (by omega) (by omega) (by omega) ?_ w he r ?_
    · intro j hj
      rw [nums_extract, piece_at (by omega)]
      have hu := stop_upto digB (T := nums t) (i := i) (by rw [nums_length]; omega)
      rw [← HK.out] at hu
      exact hu.2.2 _ (by omega) (by omega)
    · show r = _
      rw [HR.out]
      unfold numBad
      rw [hz, nums_extract, nums_extract, decU_piece _ (Nat.le_refl _), piece_at (by omega), Nat.add_zero, ← nums_length t, behind_is (by rw [nums_length]; omega)]
  have hk1 : (i : Int) ≤ (k : Int) := by omega
  have hk2 : (k : Int) ≤ (t.size : Int) := by omega
  clear hb HK HR
  go_enter Tryd.func7, Tryd.ntmps7
  go_wp2_with (first | (go_at_call 17; refine (hB _ _ _ _ (by simp) (by simp)).mono ?_; rintro e w' ⟨rfl, hw⟩; rw [hw]; clear hw w'))
  obtain ⟨w0, e0⟩ : ∃ w0, w0 = (w.alloc (.cells #[.string t] 9)).alloc (.cells #[.int .i64 i] 3) := ⟨_, rfl⟩
  have hp : PieceW w w.heap.size i t w0 := by
    rw [e0]
    exact ⟨by simp, by simp, by simp, ((Below.refl _ _).alloc (Nat.le_refl _) _).alloc (by simp) _⟩
  rw [← e0]
  have he0 : Errs w0 := by rw [e0]; exact he.lasts (((Below.refl _ _).alloc (Nat.le_refl _) _).alloc (by simp) _)
  clear e0 he
  have c1 := hp.text
  have c2 := hp.place
  go_region_held3 (fun w' => w'.cell? ⟨w.heap.size, 0, none⟩ = some (.string t) ∧ w'.cell? ⟨w.heap.size + 1, 0, none⟩ = some (.int .i64 i)) (go_keep)
    (first
      | (go_at_call 14; refine (oneOf_any _ _).mono ?_; rintro e w2 ⟨rfl, hH, hb2⟩; have hp2 := hp.drew.next hb2; have c3 := hp2.text; have c4 := hp2.place; have he2 := (he0.lasts (Below.refl _ _).drew).lasts hb2)
      | (go_at_call 13; refine (hP _ _ hH).mono ?_; rintro e w3 ⟨rfl, hb3⟩; have hp3 := hp2.next hb3; have c5 := hp3.text; have c6 := hp3.place; have he3 := he2.lasts hb3))
  go_wp2_with fail
  clear hp hp2 hH hb2 hb3 he0 he2 c1 c2 c3 c4
  go_region_held3 (fun w' => w'.cell? ⟨w.heap.size, 0, none⟩ = some (.string t) ∧ w'.cell? ⟨w.heap.size + 1, 0, none⟩ = some (.int .i64 i)) (go_keep)
    (first
      | (go_at_call 20; refine (hD _ (he3.lasts (Below.refl _ _).drew)).mono ?_; rintro e w4 ⟨rfl, hb4⟩; have hp4 := hp3.drew.next hb4; have c7 := hp4.text; have c8 := hp4.place))
  go_wp2_with fail
  exact bodyPost_ret (v := .tuple #[.int .i64 2, .int .i64 k, .int .i64 r]) (by simp [results, Tryd.results7, go_sem]) rfl ⟨rfl, hp4.below⟩

/-- The boxes of a call that has made nothing else. -/
theorem boxes_below (w : World) (x y : Obj) : Below w.heap.size w ((w.alloc x).alloc y) := ((Below.refl _ _).alloc (Nat.le_refl _) _).alloc (by simp) _
set_option maxHeartbeats 4000000 in
/-- A sign, or a byte that begins nothing. -/
theorem piece_sign (t : ByteArray) (i : Nat) (h : i < t.size) (hl : t.size ≤ 4000) (w : World) (h1 : letB (wd (nums t) i) = false) (h2 : digB (wd (nums t) i) = false) (a k r : Int)
    (HR : Hid ((a, k, r) = if signLen (nums t) i = 0 then (0, 0, 11) else (4, (i + signLen (nums t) i : Int), 0))) :
    Calls Tryd.prog 7 #[.string t, .int .i64 i] w fun e w' => e = .returned (.tuple #[.int .i64 a, .int .i64 k, .int .i64 r]) ∧ Below w.heap.size w w' := by
  obtain ⟨F, hB, hF1, hF2, hF3⟩ := begins_all t i h hl
  rw [h1] at hF1
  rw [h2] at hF2
  have hT := hasTwo_any t i 61
  have hii : (i : Int) ≤ (t.size : Int) := by omega
  have hw1 := wrap_id (x := (i : Int) + 1) (by omega) (by omega)
  have hw2 := wrap_id (x := (i : Int) + 2) (by omega) (by omega)
  unfold signLen at HR
  rw [nums_length] at HR
  by_cases hs : i + 1 < t.size ∧ wd (nums t) i = 61 ∧ wd (nums t) (i + 1) = 61
  · have hT1 := hT true (decide_eq_true hs)
    rw [if_pos hs, if_neg (by decide)] at HR
    have HR' := HR.out
    simp only [Prod.mk.injEq] at HR'
    obtain ⟨rfl, rfl, rfl⟩ := HR'
    clear hT hs HR hF3 h1 h2
    go_enter Tryd.func7, Tryd.ntmps7
    go_wp2_with (first | (go_at_call 17; refine (hB _ _ _ _ (by simp) (by simp)).mono ?_; rintro e w' ⟨rfl, hw⟩; rw [hw]; clear hw w') | (go_at_call 15; refine (hT1 _).mono ?_; rintro e w' ⟨rfl, hw⟩; rw [hw]; clear hw w'))
    go_region
    go_wp2_with fail
    exact bodyPost_ret (v := .tuple #[.int .i64 4, .int .i64 ((i : Int) + 2), .int .i64 0]) (by simp [results, Tryd.results7, go_sem]) rfl ⟨rfl, (boxes_below _ _ _).drew⟩
  · have hT1 := hT false (decide_eq_false hs)
    rw [if_neg hs] at HR
    cases hc : signsL.contains (wd (nums t) i) with
    | true =>
      rw [hc] at hF3 HR
      rw [if_pos rfl, if_neg (by decide)] at HR
      have HR' := HR.out
      simp only [Prod.mk.injEq] at HR'
      obtain ⟨rfl, rfl, rfl⟩ := HR'
      clear hT hs HR hc h1 h2
      go_enter Tryd.func7, Tryd.ntmps7
      go_wp2_with (first | (go_at_call 17; refine (hB _ _ _ _ (by simp) (by simp)).mono ?_; rintro e w' ⟨rfl, hw⟩; rw [hw]; clear hw w') | (go_at_call 15; refine (hT1 _).mono ?_; rintro e w' ⟨rfl, hw⟩; rw [hw]; clear hw w'))
      go_region
      go_wp2_with fail
      exact bodyPost_ret (v := .tuple #[.int .i64 4, .int .i64 ((i : Int) + 1), .int .i64 0]) (by simp [results, Tryd.results7, go_sem]) rfl ⟨rfl, (boxes_below _ _ _).drew⟩
    | false =>
      rw [hc] at hF3 HR
      rw [if_neg (c := false = true) (by decide), if_pos rfl] at HR
      have HR' := HR.out
      simp only [Prod.mk.injEq] at HR'
      obtain ⟨rfl, rfl, rfl⟩ := HR'
      clear hT hs HR hc h1 h2
      go_enter Tryd.func7, Tryd.ntmps7
      go_wp2_with (first | (go_at_call 17; refine (hB _ _ _ _ (by simp) (by simp)).mono ?_; rintro e w' ⟨rfl, hw⟩; rw [hw]; clear hw w') | (go_at_call 15; refine (hT1 _).mono ?_; rintro e w' ⟨rfl, hw⟩; rw [hw]; clear hw w'))
      exact bodyPost_ret (v := .tuple #[.int .i64 0, .int .i64 0, .int .i64 11]) (by simp [results, Tryd.results7, go_sem]) rfl ⟨rfl, boxes_below _ _ _⟩

/-- What piece answers where no blank and no note stands. -/
def PieceAns (T : List Int) (i : Nat) (e : Ending) : Prop := match comeP T i with
  | .skip _ => True
  | .tok x k => e = .returned (.tuple #[.int .i64 x.1, .int .i64 (k : Int), .int .i64 0])
  | .bad c _ => ∃ a k, e = .returned (.tuple #[.int .i64 a, .int .i64 k, .int .i64 c])
theorem piece_any (t : ByteArray) (i : Nat) (h : i < t.size) (hl : t.size ≤ 4000) (w : World) (he : Errs w) (hb : Bare (nums t) i) :
    Calls Tryd.prog 7 #[.string t, .int .i64 i] w fun e w' => PieceAns (nums t) i e ∧ Below w.heap.size w w' := by
  obtain ⟨h0, h35⟩ := hb (by rw [nums_length]; exact h)
  unfold PieceAns
  cases h1 : letB (wd (nums t) i) with
  | true =>
    rw [come_name h0 h35 h1]
    exact piece_name t i h hl w h1 _ rfl _ rfl
  | false =>
    cases h2 : digB (wd (nums t) i) with
    | true =>
      cases h3 : numBad (nums t) i (stopP digB (nums t) i) with
      | true =>
        rw [come_bad h0 h35 h2 h3]
        exact (piece_num t i h hl w he h2 _ rfl 2 (show _ = _ by rw [h3]; rfl)).mono fun e w' ⟨h4, h5⟩ => ⟨⟨_, _, h4⟩, h5⟩
      | false =>
        rw [come_num h0 h35 h2 h3]
        exact piece_num t i h hl w he h2 _ rfl 0 (show _ = _ by rw [h3]; rfl)
    | false =>
      by_cases h3 : signLen (nums t) i = 0
      · rw [come_rune h0 h35 h1 h2 h3]
        exact (piece_sign t i h hl w h1 h2 0 0 11 (show _ = _ by rw [if_pos h3])).mono fun e w' ⟨h4, h5⟩ => ⟨⟨_, _, h4⟩, h5⟩
      · rw [come_sign h0 h35 h1 h2 h3]
        exact piece_sign t i h hl w h1 h2 4 _ 0 (show _ = _ by rw [if_neg h3]; simp)
end Go.Proofs.YtkmnlmoalobmjadDoor
