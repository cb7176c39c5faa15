/- gessoref8: letters, digits, words, signs. -/
import Derived.Test.YtkppdndbfedijadGreatDoorMl
import Derived.Deep.QuietTactic
namespace Go.Proofs.YtkppdndbfedijadGreatDoor
open Go.RowKit

set_option maxHeartbeats 2000000 in
theorem rletter_any (c : Int) (b : Bool) (w : World) (HB : Hid (letB c = b)) :
    Calls Tryz.prog 36 #[.int .u8 c] w fun e w' => e = .returned (.bool b) ∧ w' = w := by
  go_enter Tryz.func36, Tryz.ntmps36
  go_wp2
  all_goals
    go_ret
    refine ⟨?_, rfl⟩
    rw [← HB.out]
    show Ending.returned (Value.bool _) = _
    refine congrArg (fun b => Ending.returned (Value.bool b)) ?_
    rw [Bool.eq_iff_iff]
    simp only [letB, Bool.or_eq_true, decide_eq_true_eq, beq_iff_eq, true_iff]
    omega
theorem rdigit_any (c : Int) (b : Bool) (w : World) (HB : Hid (digB c = b)) :
    Calls Tryz.prog 37 #[.int .u8 c] w fun e w' => e = .returned (.bool b) ∧ w' = w := by
  go_enter Tryz.func37, Tryz.ntmps37
  go_wp2
  all_goals
    go_ret
    refine ⟨?_, rfl⟩
    rw [← HB.out]
    show Ending.returned (Value.bool _) = _
    refine congrArg (fun b => Ending.returned (Value.bool b)) ?_
    rw [Bool.eq_iff_iff]
    simp only [digB, decide_eq_true_eq, Bool.false_eq_true, false_iff]
    omega

/-- The words as they are laid. -/
def wordsA : Array Value := #[.string ⟨#[99, 108, 97, 115, 115]⟩, .string ⟨#[116, 111]⟩, .string ⟨#[115, 108, 111, 116]⟩, .string ⟨#[109, 97, 105, 110]⟩, .string ⟨#[118, 97, 114]⟩, .string ⟨#[105, 102]⟩, .string ⟨#[101, 108, 115, 101]⟩, .string ⟨#[119, 104, 105, 108, 101]⟩, .string ⟨#[114, 101, 116, 117, 114, 110]⟩, .string ⟨#[112, 114, 105, 110, 116]⟩, .string ⟨#[102, 111, 114, 107]⟩, .string ⟨#[119, 97, 105, 116]⟩, .string ⟨#[115, 105, 103, 110, 97, 108]⟩, .string ⟨#[115, 119, 97, 112]⟩, .string ⟨#[110, 101, 119]⟩, .string ⟨#[103, 97, 116, 101]⟩, .string ⟨#[110, 105, 108]⟩, .string ⟨#[115, 101, 108, 102]⟩]
def wordAt (i : Nat) : ByteArray := ⟨(wordsU.getD i []).toArray⟩
theorem words_at : ∀ i, i < 18 → wordsA[i]? = some (.string (wordAt i))
  | 0, _ => rfl
  | 1, _ => rfl
  | 2, _ => rfl
  | 3, _ => rfl
  | 4, _ => rfl
  | 5, _ => rfl
  | 6, _ => rfl
  | 7, _ => rfl
  | 8, _ => rfl
  | 9, _ => rfl
  | 10, _ => rfl
  | 11, _ => rfl
  | 12, _ => rfl
  | 13, _ => rfl
  | 14, _ => rfl
  | 15, _ => rfl
  | 16, _ => rfl
  | 17, _ => rfl
  | i + 18, h => absurd h (by omega)
theorem words_cell (w : World) {i : Nat} (h : i < 18) : (w.alloc (.cells wordsA 9)).cell? ⟨w.heap.size, i, none⟩ = some (.string (wordAt i)) := by
  rw [← words_at i h]
  exact World.cell?_alloc_at _ _ _ _ rfl
set_option maxHeartbeats 2000000 in
theorem rword_any (s : ByteArray) (b : Bool) (w : World) (HB : Hid (wordB (nums s) = b)) :
    Calls Tryz.prog 38 #[.string s] w fun e w' => e = .returned (.bool b) ∧ Below w.heap.size w w' := by
  go_enter Tryz.func38, Tryz.ntmps38
  go_wp2
  obtain ⟨w1, e1⟩ : ∃ w1, w1 = w.alloc (.cells wordsA 9) := ⟨_, rfl⟩
  have HC : Hid (∀ i, i < 18 → w1.cell? ⟨w.heap.size, i, none⟩ = some (.string (wordAt i))) := fun i hi => by rw [e1]; exact words_cell w hi
  have hB1 : Below w.heap.size w w1 := by rw [e1]; exact (Below.refl _ _).alloc (Nat.le_refl _) _
  unfold wordsA at e1
  rw [← e1]
  clear e1
  go_loopw [4] (fun s4 wr => ∃ (i : Nat), s4 = .int .i64 i ∧ i ≤ 18 ∧ Hid (∀ j, j < i → s.toList ≠ wordsU.getD j []) ∧ wr = w1) (fun s4 _ => 18 - (intOf s4).toNat)
  case atStart => exact ⟨0, rfl, by omega, fun j hj => by omega, rfl⟩
  case round =>
    obtain ⟨i, rfl, hi, HN, rfl⟩ := hrel
    by_cases hlt : i < 18
    · have hc := HC.out i hlt
      have hil : (i : Int) < 18 := by omega
      have hw1 := wrap_id (x := (i : Int) + 1) (by omega) (by omega)
      have hl18 : wordsU.length = 18 := rfl
      have hat : (wordAt i).toList = wordsU.getD i [] := by rw [ByteArray.toList_eq]; rfl
      by_cases he : s.toList = wordsU.getD i []
      · have hq : ((wordAt i).toList == s.toList) = true := by rw [hat, he]; exact beq_self_eq_true _
        have HT : Hid (b = true) := by
          show b = true
          rw [← HB.out, word_u, List.any_eq_true]
          refine ⟨wordsU.getD i [], ?_, by rw [he]; exact beq_self_eq_true _⟩
          rw [List.getD_eq_getElem?_getD, List.getElem?_eq_getElem (by omega)]
          exact List.getElem_mem _
        clear he hat HN
        generalize wordAt i = x at *
        go_wp2_with fail
        go_ret
        exact ⟨by rw [HT.out]; rfl, hB1⟩
      · have hq : ((wordAt i).toList == s.toList) = false := by rw [hat]; exact beq_eq_false_iff_ne.2 fun e => he e.symm
        have HN2 : Hid (∀ j, j < i + 1 → s.toList ≠ wordsU.getD j []) := fun j hj => by
          by_cases hji : j = i
          · rw [hji]; exact he
          · exact HN.out j (by omega)
        clear he hat HN
        generalize wordAt i = x at *
        go_wp2_with fail
        go_roundw
        case rel => exact ⟨i + 1, by first | rfl | simp, by omega, HN2, trivial⟩
        case measure => simp [intOf]; omega
    · have e : i = 18 := by omega
      subst e
      have HT : Hid (b = false) := by
        show b = false
        rw [← HB.out, word_u]
        rw [Bool.eq_false_iff]
        intro h
        obtain ⟨u, hu, e⟩ := List.any_eq_true.1 h
        obtain ⟨j, hj, rfl⟩ := List.mem_iff_getElem.1 hu
        refine HN.out j hj ?_
        rw [List.getD_eq_getElem?_getD, List.getElem?_eq_getElem hj]
        exact beq_iff_eq.1 e
      go_wp2_with fail
      go_ret
      exact ⟨by rw [HT.out]; rfl, hB1⟩

/-- The signs of one byte. -/
def signsT : ByteArray := ⟨#[43, 45, 42, 60, 61, 33, 46, 44, 59, 58, 40, 41, 123, 125]⟩
theorem signsT_at : nums signsT = signsL := by decide
set_option maxHeartbeats 2000000 in
theorem rsign_any (s : ByteArray) (h0 : 0 < s.size) (hm : s.size ≤ 4000) (n : Nat) (w : World) (HN : Hid (signLen (nums s) 0 = n)) :
    Calls Tryz.prog 39 #[.string s] w fun e w' => e = .returned (.int .i64 (n : Int)) ∧ Below w.heap.size w w' := by
  have hc0 := nums_at h0
  have hy0 := wd_byte (nums_byte s) 0
  have hs0 : (0 : Int) < (s.size : Int) := by omega
  have HL : Hid ((nums s).length = s.size) := nums_length s
  have HS : Hid (¬ (1 < s.size ∧ wd (nums s) 0 = 61 ∧ wd (nums s) 1 = 61) → n = if signsL.contains (wd (nums s) 0) = true then 1 else 0) := fun h => by
    rw [← HN.out]; unfold signLen; rw [if_neg (by rw [HL.out]; exact h)]
  have H2 : Hid ((1 < s.size ∧ wd (nums s) 0 = 61 ∧ wd (nums s) 1 = 61) → n = 2) := fun h => by
    rw [← HN.out]; unfold signLen; rw [if_pos (by rw [HL.out]; exact h)]
  have hl14 : (⟨#[43, 45, 42, 60, 61, 33, 46, 44, 59, 58, 40, 41, 123, 125]⟩ : ByteArray).size = 14 := rfl
  have HA : Hid (∀ i (h : i < 14), (((⟨#[43, 45, 42, 60, 61, 33, 46, 44, 59, 58, 40, 41, 123, 125]⟩ : ByteArray)[i]'h).toNat : Int) = signsL.getD i 0) := fun i h => by
    have := nums_at (t := signsT) (i := i) h
    rw [signsT_at] at this
    exact this
  by_cases h : 1 < s.size ∧ wd (nums s) 0 = 61 ∧ wd (nums s) 1 = 61
  · have h1 := h.1
    have hc1 := nums_at h1
    have h2 := H2.out h
    subst h2
    rw [h.2.1] at hc0
    rw [h.2.2] at hc1
    have hs1 : (1 : Int) < (s.size : Int) := by omega
    clear h HS HA hy0
    go_enter Tryz.func39, Tryz.ntmps39
    go_wp2
    go_ret
    exact ⟨rfl, Below.refl _ _⟩
  have HE : Hid (n = if signsL.contains (wd (nums s) 0) = true then 1 else 0) := HS.out h
  clear HS H2 HN
  by_cases h1 : 1 < s.size
  · have hc1 := nums_at h1
    have hs1 : (1 : Int) < (s.size : Int) := by omega
    have hy1 := wd_byte (nums_byte s) 1
    generalize wd (nums s) 1 = z at *
    generalize wd (nums s) 0 = x at *
    by_cases hx : x = 61
    · have hz : ¬ z = 61 := fun e => h ⟨h1, hx, e⟩
      clear h
      subst hx
      go_enter Tryz.func39, Tryz.ntmps39
      go_wp2
      go_loopw [4] (fun s4 wr => ∃ (i : Nat), s4 = .int .i64 i ∧ i ≤ 14 ∧ Hid (∀ j, j < i → signsL.getD j 0 ≠ (61 : Int)) ∧ Below w.heap.size w wr) (fun s4 _ => 14 - (intOf s4).toNat)
      case atStart => exact ⟨0, rfl, by omega, fun j hj => by omega, Below.refl _ _⟩
      case round =>
        obtain ⟨i, rfl, hi, HJ, hB⟩ := hrel
        by_cases hlt : i < 14
        · have ha := HA.out i hlt
          have hil : (i : Int) < 14 := by omega
          have hw1 := wrap_id (x := (i : Int) + 1) (by omega) (by omega)
          by_cases he : signsL.getD i 0 = (61 : Int)
          · have HT : Hid (n = 1) := by show n = 1; rw [HE.out, sign_found hlt he]; rfl
            rw [he] at ha
            clear he HJ
            go_wp2_with fail
            go_region
            go_wp2_with fail
            go_ret
            exact ⟨by rw [HT.out]; rfl, hB.drew⟩
          · have HJ2 : Hid (∀ j, j < i + 1 → signsL.getD j 0 ≠ (61 : Int)) := fun j hj => by
              by_cases hji : j = i
              · rw [hji]; exact he
              · exact HJ.out j (by omega)
            generalize signsL.getD i 0 = y at *
            have hxy : ¬ (61 : Int) = y := fun e => he e.symm
            clear HJ
            go_wp2_with fail
            go_region
            go_wp2_with fail
            exact ⟨⟨i + 1, by first | rfl | simp, by omega, HJ2, hB.drew⟩, by simp [intOf]; omega⟩
        · have e : i = 14 := by omega
          subst e
          have HT : Hid (n = 0) := by show n = 0; rw [HE.out, sign_none HJ.out]; rfl
          go_wp2_with fail
          go_ret
          exact ⟨by rw [HT.out]; rfl, hB⟩
    · clear h
      go_enter Tryz.func39, Tryz.ntmps39
      go_wp2
      go_loopw [4] (fun s4 wr => ∃ (i : Nat), s4 = .int .i64 i ∧ i ≤ 14 ∧ Hid (∀ j, j < i → signsL.getD j 0 ≠ x) ∧ Below w.heap.size w wr) (fun s4 _ => 14 - (intOf s4).toNat)
      case atStart => exact ⟨0, rfl, by omega, fun j hj => by omega, Below.refl _ _⟩
      case round =>
        obtain ⟨i, rfl, hi, HJ, hB⟩ := hrel
        by_cases hlt : i < 14
        · have ha := HA.out i hlt
          have hil : (i : Int) < 14 := by omega
          have hw1 := wrap_id (x := (i : Int) + 1) (by omega) (by omega)
          by_cases he : signsL.getD i 0 = x
          · have HT : Hid (n = 1) := by show n = 1; rw [HE.out, sign_found hlt he]; rfl
            rw [he] at ha
            clear he HJ
            go_wp2_with fail
            go_region
            go_wp2_with fail
            go_ret
            exact ⟨by rw [HT.out]; rfl, hB.drew⟩
          · have HJ2 : Hid (∀ j, j < i + 1 → signsL.getD j 0 ≠ x) := fun j hj => by
              by_cases hji : j = i
              · rw [hji]; exact he
              · exact HJ.out j (by omega)
            generalize signsL.getD i 0 = y at *
            have hxy : ¬ x = y := fun e => he e.symm
            clear HJ
            go_wp2_with fail
            go_region
            go_wp2_with fail
            exact ⟨⟨i + 1, by first | rfl | simp, by omega, HJ2, hB.drew⟩, by simp [intOf]; omega⟩
        · have e : i = 14 := by omega
          subst e
          have HT : Hid (n = 0) := by show n = 0; rw [HE.out, sign_none HJ.out]; rfl
          go_wp2_with fail
          go_ret
          exact ⟨by rw [HT.out]; rfl, hB⟩
  · have hs1 : (s.size : Int) ≤ 1 := by omega
    generalize wd (nums s) 0 = x at *
    clear h
    go_enter Tryz.func39, Tryz.ntmps39
    go_wp2
    go_loopw [4] (fun s4 wr => ∃ (i : Nat), s4 = .int .i64 i ∧ i ≤ 14 ∧ Hid (∀ j, j < i → signsL.getD j 0 ≠ x) ∧ Below w.heap.size w wr) (fun s4 _ => 14 - (intOf s4).toNat)
    case atStart => exact ⟨0, rfl, by omega, fun j hj => by omega, Below.refl _ _⟩
    case round =>
      obtain ⟨i, rfl, hi, HJ, hB⟩ := hrel
      by_cases hlt : i < 14
      · have ha := HA.out i hlt
        have hil : (i : Int) < 14 := by omega
        have hw1 := wrap_id (x := (i : Int) + 1) (by omega) (by omega)
        by_cases he : signsL.getD i 0 = x
        · have HT : Hid (n = 1) := by show n = 1; rw [HE.out, sign_found hlt he]; rfl
          rw [he] at ha
          clear he HJ
          go_wp2_with fail
          go_region
          go_wp2_with fail
          go_ret
          exact ⟨by rw [HT.out]; rfl, hB.drew⟩
        · have HJ2 : Hid (∀ j, j < i + 1 → signsL.getD j 0 ≠ x) := fun j hj => by
            by_cases hji : j = i
            · rw [hji]; exact he
            · exact HJ.out j (by omega)
          generalize signsL.getD i 0 = y at *
          have hxy : ¬ x = y := fun e => he e.symm
          clear HJ
          go_wp2_with fail
          go_region
          go_wp2_with fail
          exact ⟨⟨i + 1, by first | rfl | simp, by omega, HJ2, hB.drew⟩, by simp [intOf]; omega⟩
      · have e : i = 14 := by omega
        subst e
        have HT : Hid (n = 0) := by show n = 0; rw [HE.out, sign_none HJ.out]; rfl
        go_wp2_with fail
        go_ret
        exact ⟨by rw [HT.out]; rfl, hB⟩
end Go.Proofs.YtkppdndbfedijadGreatDoor
