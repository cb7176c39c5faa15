/- package lex: behind all blanks and notes. -/
import Derived.Test.YtkmnlmoalobmjadDoorLxPast
import Derived.Lib.IndexBytes
namespace Go.Proofs.YtkmnlmoalobmjadDoor
open Go.RowKit

theorem asks_blank (b : Nat) : Asks 22 #[.pointer (some ⟨b, 0, none⟩)] blankB (HoldsT b ⟨#[32, 10, 9]⟩) := asks_one b fun hc => tells_blank hc
theorem asks_note (b : Nat) : Asks 25 #[.pointer (some ⟨b, 0, none⟩)] noteB (HoldsT b ⟨#[10]⟩) := asks_none b fun hc => tells_line hc
/-- A text's rest begins with a byte, with two. -/
theorem data_drop {t : ByteArray} {i : Nat} (h : i < t.size) : t.data.toList.drop i = t[i] :: t.data.toList.drop (i + 1) := by
  rw [List.drop_eq_getElem_cons (by rw [Array.length_toList]; exact h)]
  rfl
theorem byte_is {t : ByteArray} {i : Nat} (h : i < t.size) (c : UInt8) : (c == t[i]) = (wd (nums t) i == (c.toNat : Int)) := by
  rw [← nums_at h]
  by_cases e : c = t[i]
  · rw [e]; simp
  · have : ¬ ((t[i].toNat : Int) = (c.toNat : Int)) := fun x => e (UInt8.toNat_inj.1 (by omega))
    rw [beq_eq_false_iff_ne.2 e, beq_eq_false_iff_ne.2 this]
theorem pre_one (t : ByteArray) (i : Nat) (c : UInt8) : Lib.hasPrefix (t.extract i t.size).data.toList [c] = (decide (i < t.size) && (wd (nums t) i == (c.toNat : Int))) := by
  rw [Lib.extract_to_end]
  unfold Lib.hasPrefix
  by_cases h : i < t.size
  · rw [data_drop h, decide_eq_true h, Bool.true_and, ← byte_is h c]
    simp [List.isPrefixOf]
  · rw [decide_eq_false h, List.drop_of_length_le (by rw [Array.length_toList]; exact Nat.le_of_not_lt h)]
    rfl
theorem pre_two (t : ByteArray) (i : Nat) (c : UInt8) : Lib.hasPrefix (t.extract i t.size).data.toList [c, c] = decide (i + 1 < t.size ∧ wd (nums t) i = (c.toNat : Int) ∧ wd (nums t) (i + 1) = (c.toNat : Int)) := by
  rw [Lib.extract_to_end]
  unfold Lib.hasPrefix
  by_cases h : i < t.size
  · rw [data_drop h]
    by_cases h1 : i + 1 < t.size
    · rw [data_drop h1]
      simp only [List.isPrefixOf, byte_is h c, byte_is h1 c, Bool.and_true]
      rw [Bool.eq_iff_iff]
      simp [h1]
    · rw [List.drop_of_length_le (by rw [Array.length_toList]; exact Nat.le_of_not_lt h1)]
      simp [List.isPrefixOf, h1]
  · rw [List.drop_of_length_le (by rw [Array.length_toList]; exact Nat.le_of_not_lt h)]
    have : ¬ (i + 1 < t.size) := by omega
    simp [List.isPrefixOf, this]

/-- What HasPrefix tells of a text's rest. -/
theorem hasOne_any (t : ByteArray) (i : Nat) (c : UInt8) (b : Bool) (h : (decide (i < t.size) && (wd (nums t) i == (c.toNat : Int))) = b) (w : World) :
    Calls Tryd.prog 15 #[.string (t.extract i t.size), .string ⟨#[c]⟩] w fun e w' => e = .returned (.bool b) ∧ w' = w := by
  subst h
  rw [← pre_one t i c]
  exact Tryd.strings_HasPrefix _ _ _
theorem hasTwo_any (t : ByteArray) (i : Nat) (c : UInt8) (b : Bool) (h : decide (i + 1 < t.size ∧ wd (nums t) i = (c.toNat : Int) ∧ wd (nums t) (i + 1) = (c.toNat : Int)) = b) (w : World) :
    Calls Tryd.prog 15 #[.string (t.extract i t.size), .string ⟨#[c, c]⟩] w fun e w' => e = .returned (.bool b) ∧ w' = w := by
  subst h
  rw [← pre_two t i c]
  exact Tryd.strings_HasPrefix _ _ _

/-- Behind all that lies between. -/
def GapAns (T : List Int) (i : Nat) (e : Ending) : Prop := ∃ k : Nat, e = .returned (.int .i64 k) ∧ Gap T i k ∧ Bare T k

set_option maxHeartbeats 2000000 in
theorem pastGap_any (t : ByteArray) (i : Nat) (w : World) (hi : i ≤ t.size) (hl : t.size ≤ 4000) :
    Calls Tryd.prog 6 #[.string t, .int .i64 i] w fun e w' => GapAns (nums t) i e ∧ Below w.heap.size w w' := by
  have HL : Hid ((nums t).length = t.size) := nums_length t
  have HG : Hid (Gap (nums t) i (stopP blankB (nums t) i)) := gap_blanks (by rw [nums_length]; exact hi)
  have HN : Hid (stopP blankB (nums t) i < (nums t).length → blankB (wd (nums t) (stopP blankB (nums t) i)) = false) := fun h => stop_not _ i (Nat.le_refl _) h
  have hk0 : stopP blankB (nums t) i ≤ t.size := by have := HG.out.2.1; rw [HL.out] at this; exact this
  go_enter Tryd.func6, Tryd.ntmps6
  go_wp2_with (first | (go_at_call 14; refine (oneOf_any _ _).mono ?_; rintro e w1 ⟨rfl, hH, hb1⟩) | (go_at_call 13; refine (past_any _ _ blankB _ (asks_blank _) t i _ hH hi hl).mono ?_; rintro e w2 ⟨rfl, hb2⟩))
  have hB2 : Below w.heap.size w w2 := hb1.trans (hb2.mono hb1.size)
  clear hH hb1 hb2
  generalize stopP blankB (nums t) i = k0 at *
  go_loopw [1] (fun s1 wr => ∃ (k : Nat), s1 = .int .i64 k ∧ k ≤ t.size ∧ Hid (Gap (nums t) i k) ∧ Hid (k < (nums t).length → blankB (wd (nums t) k) = false) ∧ Below w.heap.size w wr) (fun s1 _ => t.size - (intOf s1).toNat)
  case atStart => exact ⟨k0, rfl, hk0, HG, HN, hB2⟩
  case round =>
    clear HG HN hB2 hk0
    obtain ⟨k, rfl, hk, HG, HN, hB⟩ := hrel
    have hik : (k : Int) ≤ (t.size : Int) := by omega
    by_cases h35 : k < t.size ∧ wd (nums t) k = 35
    · have hp : ∀ w, Calls Tryd.prog 15 #[.string (t.extract k t.size), .string ⟨#[35]⟩] w fun e w' => e = .returned (.bool true) ∧ w' = w :=
        hasOne_any t k 35 true (by rw [h35.2, decide_eq_true h35.1]; rfl)
      have HX : Hid (Gap (nums t) i (stopP blankB (nums t) (stopP noteB (nums t) k))) := (HG.out.trans (gap_note (by rw [HL.out]; exact h35.1) h35.2)).trans (gap_blanks (stop_le (by rw [HL.out]; exact hk)))
      have hk1 : stopP noteB (nums t) k ≤ t.size := by rw [← HL.out]; exact stop_le (by rw [HL.out]; exact hk)
      have hk2 : stopP blankB (nums t) (stopP noteB (nums t) k) ≤ t.size := by have := HX.out.2.1; rw [HL.out] at this; exact this
      have hkm : k < stopP blankB (nums t) (stopP noteB (nums t) k) := Nat.lt_of_lt_of_le (note_more (by rw [HL.out]; exact h35.1) h35.2) (stop_ge _ _ _)
      have HY : Hid (stopP blankB (nums t) (stopP noteB (nums t) k) < (nums t).length → blankB (wd (nums t) (stopP blankB (nums t) (stopP noteB (nums t) k))) = false) := fun h => stop_not _ _ (Nat.le_refl _) h
      have hlt := h35.1
      clear h35 HG HN
      go_wp2_with (first | (go_at_call 15; refine (hp _).mono ?_; rintro e w' ⟨rfl, hw⟩; rw [hw]; clear hw w') | (go_at_call 16; refine (noneOf_any _ _).mono ?_; rintro e w1 ⟨rfl, hH, hb1⟩) | (go_at_call 13; refine (past_any _ _ noteB _ (asks_note _) t k _ hH hk hl).mono ?_; rintro e w2 ⟨rfl, hb2⟩))
      have hB2 : Below w.heap.size w w2 := hB.trans ((hb1.trans (hb2.mono hb1.size)).mono hB.size)
      clear hH hb1 hb2
      go_wp2_with (first | (go_at_call 14; refine (oneOf_any _ _).mono ?_; rintro e w3 ⟨rfl, hH, hb3⟩) | (go_at_call 13; refine (past_any _ _ blankB _ (asks_blank _) t _ _ hH hk1 hl).mono ?_; rintro e w4 ⟨rfl, hb4⟩))
      have hB4 : Below w.heap.size w w4 := hB2.trans ((hb3.trans (hb4.mono hb3.size)).mono hB2.size)
      generalize stopP blankB (nums t) (stopP noteB (nums t) k) = k2 at *
      go_roundw
      case rel => exact ⟨k2, rfl, hk2, HX, HY, hB4⟩
      case measure => simp [intOf]; omega
    · have hp : ∀ w, Calls Tryd.prog 15 #[.string (t.extract k t.size), .string ⟨#[35]⟩] w fun e w' => e = .returned (.bool false) ∧ w' = w := by
        refine hasOne_any t k 35 false ?_
        by_cases hx : k < t.size
        · have : ¬ wd (nums t) k = 35 := fun e => h35 ⟨hx, e⟩
          rw [decide_eq_true hx, Bool.true_and]
          exact beq_eq_false_iff_ne.2 this
        · rw [decide_eq_false hx]; rfl
      have HZ : Hid (Bare (nums t) k) := fun h => ⟨HN.out h, fun e => h35 ⟨by rw [← HL.out]; exact h, e⟩⟩
      clear h35 HN
      go_wp2_with (first | (go_at_call 15; refine (hp _).mono ?_; rintro e w' ⟨rfl, hw⟩; rw [hw]; clear hw w'))
      go_ret
      exact ⟨⟨k, rfl, HG.out, HZ.out⟩, hB⟩
end Go.Proofs.YtkmnlmoalobmjadDoor
