/- What chapter 8 says of tokens, as plain functions on the bytes of a text, and what is true of them. No Go in sight. -/
import Derived.Test.YtkmnlmoalobmjadDoorHeapPlain
namespace Go.Proofs.YtkmnlmoalobmjadDoor

/-- A letter, a digit, either, a blank. -/
def letB (b : Int) : Bool := decide (97 ≤ b ∧ b ≤ 122) || decide (65 ≤ b ∧ b ≤ 90) || b == 95
def digB (b : Int) : Bool := decide (48 ≤ b ∧ b ≤ 57)
def alnB (b : Int) : Bool := letB b || digB b
def blankB (b : Int) : Bool := b == 32 || b == 10 || b == 9
/-- A byte of a note. -/
def noteB (b : Int) : Bool := b != 10
theorem let_not_dig {b : Int} (h : letB b = true) : digB b = false := by
  unfold letB at h; unfold digB
  simp only [Bool.or_eq_true, decide_eq_true_eq, beq_iff_eq] at h
  exact decide_eq_false (by omega)
theorem dig_not_let {b : Int} (h : digB b = true) : letB b = false := by
  cases hl : letB b with
  | false => rfl
  | true => rw [let_not_dig hl] at h; cases h

/-- The first place, from i on and at most m further, where p does not hold. -/
def stopAt (p : Int → Bool) (T : List Int) (i : Nat) : Nat → Nat
  | 0 => i
  | m + 1 => if p (wd T i) = true then stopAt p T (i + 1) m else i
/-- The first place, from i on, where p does not hold or the text ends. -/
def stopP (p : Int → Bool) (T : List Int) (i : Nat) : Nat := stopAt p T i (T.length - i)
theorem stop_end {p : Int → Bool} {T : List Int} {i : Nat} (h : T.length ≤ i) : stopP p T i = i := by
  unfold stopP; rw [show T.length - i = 0 by omega]; rfl
theorem stop_yes {p : Int → Bool} {T : List Int} {i : Nat} (h : i < T.length) (hp : p (wd T i) = true) : stopP p T i = stopP p T (i + 1) := by
  unfold stopP
  obtain ⟨m, hm⟩ : ∃ m, T.length - i = m + 1 := ⟨T.length - i - 1, by omega⟩
  rw [hm, show T.length - (i + 1) = m by omega]
  conv => lhs; unfold stopAt
  rw [if_pos hp]
theorem stop_no {p : Int → Bool} {T : List Int} {i : Nat} (hp : p (wd T i) = false) : stopP p T i = i := by
  unfold stopP
  cases T.length - i with
  | zero => rfl
  | succ m => unfold stopAt; rw [if_neg (by rw [hp]; decide)]
theorem stopAt_ge {p : Int → Bool} {T : List Int} : ∀ (m i : Nat), i ≤ stopAt p T i m ∧ stopAt p T i m ≤ i + m
  | 0, i => ⟨Nat.le_refl _, Nat.le_refl _⟩
  | m + 1, i => by
    unfold stopAt
    split
    · have := stopAt_ge (p := p) (T := T) m (i + 1); omega
    · omega
theorem stop_ge (p : Int → Bool) (T : List Int) (i : Nat) : i ≤ stopP p T i := (stopAt_ge _ i).1
theorem stop_le {p : Int → Bool} {T : List Int} {i : Nat} (h : i ≤ T.length) : stopP p T i ≤ T.length := by
  have := (stopAt_ge (p := p) (T := T) (T.length - i) i).2
  unfold stopP; omega
/-- The only place that is so. -/
theorem stop_is {p : Int → Bool} {T : List Int} {k : Nat} (hk : k ≤ T.length) (he : k = T.length ∨ p (wd T k) = false) : ∀ (d i : Nat), k - i ≤ d → i ≤ k → (∀ j, i ≤ j → j < k → p (wd T j) = true) → stopP p T i = k
  | 0, i, h1, h2, _ => by
    obtain rfl : i = k := by omega
    rcases he with he | he
    · exact stop_end (by omega)
    · exact stop_no he
  | d + 1, i, h1, h2, h => by
    by_cases hi : i = k
    · subst hi
      rcases he with he | he
      · exact stop_end (by omega)
      · exact stop_no he
    · rw [stop_yes (by omega) (h i (Nat.le_refl _) (by omega))]
      exact stop_is hk he d (i + 1) (by omega) (by omega) fun j h3 h4 => h j (by omega) h4
theorem stop_eq {p : Int → Bool} {T : List Int} {i k : Nat} (hk : k ≤ T.length) (hi : i ≤ k) (h : ∀ j, i ≤ j → j < k → p (wd T j) = true) (he : k = T.length ∨ p (wd T k) = false) : stopP p T i = k := stop_is hk he _ i (Nat.le_refl _) hi h
/-- What lies from i up to k. -/
def piece (T : List Int) (i k : Nat) : List Int := (T.drop i).take (k - i)
theorem piece_length {T : List Int} {i k : Nat} (h : k ≤ T.length) : (piece T i k).length = k - i := by
  unfold piece; rw [List.length_take, List.length_drop]; omega
theorem piece_at {T : List Int} {i k j : Nat} (h : j < k - i) : wd (piece T i k) j = wd T (i + j) := by
  unfold piece wd; rw [List.getD_eq_getElem?_getD, List.getD_eq_getElem?_getD, List.getElem?_take, if_pos h, List.getElem?_drop]

/-- The words. -/
def wordsL : List (List Int) := [[99, 108, 97, 115, 115], [116, 111], [115, 108, 111, 116], [109, 97, 105, 110], [118, 97, 114], [105, 102], [101, 108, 115, 101], [119, 104, 105, 108, 101], [114, 101, 116, 117, 114, 110], [112, 114, 105, 110, 116], [102, 111, 114, 107], [119, 97, 105, 116], [115, 105, 103, 110, 97, 108], [115, 119, 97, 112], [110, 101, 119], [103, 97, 116, 101], [110, 105, 108], [115, 101, 108, 102]]
def wordB (s : List Int) : Bool := wordsL.contains s
/-- The value of m digits from i on. -/
def decU (T : List Int) (i : Nat) : Nat → Int
  | 0 => 0
  | m + 1 => 10 * decU T i m + (wd T (i + m) - 48)
/-- The same, as long as it is at most Most. -/
def decC (T : List Int) (i : Nat) : Nat → Int
  | 0 => 0
  | m + 1 => if decC T i m ≤ 1073741823 then 10 * decC T i m + (wd T (i + m) - 48) else decC T i m
/-- Digits from i on, m of them. -/
def digs (T : List Int) (i m : Nat) : Prop := ∀ j, j < m → digB (wd T (i + j)) = true
theorem digs_of {T : List Int} {i m : Nat} (h : digs T i (m + 1)) : digs T i m ∧ 48 ≤ wd T (i + m) ∧ wd T (i + m) ≤ 57 := by
  have := h m (by omega)
  unfold digB at this
  exact ⟨fun j hj => h j (by omega), of_decide_eq_true this⟩
theorem decU_pos {T : List Int} {i : Nat} : ∀ m, digs T i m → 0 ≤ decU T i m
  | 0, _ => Int.le_refl _
  | m + 1, h => by
    obtain ⟨h1, h2, h3⟩ := digs_of h
    have := decU_pos m h1
    unfold decU; omega
theorem decU_mono {T : List Int} {i : Nat} {m : Nat} (h : digs T i (m + 1)) : decU T i m ≤ decU T i (m + 1) := by
  obtain ⟨h1, h2, h3⟩ := digs_of h
  have := decU_pos m h1
  have e : decU T i (m + 1) = 10 * decU T i m + (wd T (i + m) - 48) := rfl
  omega
theorem decC_is {T : List Int} {i : Nat} : ∀ m, digs T i m → (decU T i m ≤ 1073741823 → decC T i m = decU T i m) ∧ (1073741823 < decU T i m → 1073741823 < decC T i m) ∧ 0 ≤ decC T i m ∧ decC T i m ≤ 10737418239
  | 0, _ => ⟨fun _ => rfl, fun h => by unfold decU at h; omega, by unfold decC; omega, by unfold decC; omega⟩
  | m + 1, h => by
    obtain ⟨h1, h2, h3⟩ := digs_of h
    obtain ⟨c1, c2, c3, c4⟩ := decC_is m h1
    have hp := decU_pos m h1
    have hm := decU_mono h
    have eU : decU T i (m + 1) = 10 * decU T i m + (wd T (i + m) - 48) := rfl
    by_cases hc : decC T i m ≤ 1073741823
    · have hu : decU T i m ≤ 1073741823 := by
        by_cases hx : decU T i m ≤ 1073741823
        · exact hx
        · have := c2 (by omega); omega
      have e := c1 hu
      have eC : decC T i (m + 1) = 10 * decC T i m + (wd T (i + m) - 48) := by
        conv => lhs; unfold decC
        rw [if_pos hc]
      rw [eC, e, eU]
      exact ⟨fun _ => rfl, fun h => h, by omega, by omega⟩
    · have eC : decC T i (m + 1) = decC T i m := by
        conv => lhs; unfold decC
        rw [if_neg hc]
      rw [eC]
      refine ⟨fun hx => ?_, fun _ => by omega, c3, c4⟩
      have := c1 (by omega)
      omega
/-- What stands against digits from i up to k. -/
def numBad (T : List Int) (i k : Nat) : Bool := decide (1073741823 < decU T i (k - i)) || (decide (1 < k - i) && wd T i == 48) || (decide (k < T.length) && letB (wd T k))
/-- The signs of one byte. -/
def signsL : List Int := [43, 45, 42, 60, 61, 33, 46, 44, 59, 58, 40, 41, 123, 125]
/-- How long the sign is that begins at i. -/
def signLen (T : List Int) (i : Nat) : Nat := if i + 1 < T.length ∧ wd T i = 61 ∧ wd T (i + 1) = 61 then 2 else if signsL.contains (wd T i) = true then 1 else 0

/-- A token: its kind, its text, its first byte. -/
abbrev Tok := Int × List Int × Nat
/-- What comes at i: nothing, up to k; a token, up to k; a fault. -/
inductive Come8
  | skip (k : Nat)
  | tok (t : Tok) (k : Nat)
  | bad (code : Int) (at' : Nat)
def comeP (T : List Int) (i : Nat) : Come8 :=
  if blankB (wd T i) = true then .skip (i + 1)
  else if wd T i = 35 then .skip (stopP noteB T i)
  else if letB (wd T i) = true then .tok (if wordB (piece T i (stopP alnB T i)) = true then 3 else 1, piece T i (stopP alnB T i), i) (stopP alnB T i)
  else if digB (wd T i) = true then (if numBad T i (stopP digB T i) = true then .bad 2 i else .tok (2, piece T i (stopP digB T i), i) (stopP digB T i))
  else if signLen T i = 0 then .bad 11 i
  else .tok (4, piece T i (i + signLen T i), i) (i + signLen T i)
def Come8.fits (T : List Int) (i : Nat) : Come8 → Prop
  | .skip k => i < k ∧ k ≤ T.length
  | .tok _ k => i < k ∧ k ≤ T.length
  | .bad _ a => a = i
theorem stop_more {p : Int → Bool} {T : List Int} {i : Nat} (h : i < T.length) (hp : p (wd T i) = true) : i < stopP p T i ∧ stopP p T i ≤ T.length := by
  rw [stop_yes h hp]
  have := stop_ge p T (i + 1)
  have := stop_le (p := p) (T := T) (i := i + 1) (by omega)
  omega
theorem come_fits {T : List Int} {i : Nat} (h : i < T.length) : (comeP T i).fits T i := by
  unfold comeP
  split
  · exact ⟨by omega, by omega⟩
  · split
    · rename_i h1
      exact stop_more h (by unfold noteB; rw [h1]; decide)
    · split
      · rename_i h1
        exact stop_more h (by unfold alnB; rw [h1]; rfl)
      · split
        · rename_i h1
          split
          · exact rfl
          · exact stop_more h h1
        · split
          · exact rfl
          · rename_i h1
            refine ⟨by omega, ?_⟩
            unfold signLen
            split
            · omega
            · split <;> omega
/-- All that comes from i on, m of them at most. -/
def scanN (T : List Int) : Nat → Nat → Except (Int × Int) (List Tok)
  | 0, _ => .ok []
  | m + 1, i => if i < T.length then (match comeP T i with
      | .skip k => scanN T m k
      | .tok t k => (scanN T m k).map (t :: ·)
      | .bad c a => .error (c, (a : Int))) else .ok []
theorem scan_fuel {T : List Int} : ∀ (m m' i : Nat), T.length - i ≤ m → T.length - i ≤ m' → scanN T m i = scanN T m' i
  | 0, 0, _, _, _ => rfl
  | 0, m' + 1, i, h, _ => by unfold scanN; rw [if_neg (by omega)]
  | m + 1, 0, i, _, h => by unfold scanN; rw [if_neg (by omega)]
  | m + 1, m' + 1, i, h, h' => by
    unfold scanN
    by_cases hi : i < T.length
    · rw [if_pos hi, if_pos hi]
      have hf := come_fits hi
      cases hc : comeP T i with
      | skip k => rw [hc] at hf; obtain ⟨f1, f2⟩ := hf; exact scan_fuel m m' k (by omega) (by omega)
      | tok t k => rw [hc] at hf; obtain ⟨f1, f2⟩ := hf; simp only; rw [scan_fuel m m' k (by omega) (by omega)]
      | bad c a => rfl
    · rw [if_neg hi, if_neg hi]
/-- All that comes from i on. -/
def scanFrom (T : List Int) (i : Nat) : Except (Int × Int) (List Tok) := scanN T (T.length - i) i
theorem scan_end {T : List Int} {i : Nat} (h : T.length ≤ i) : scanFrom T i = .ok [] := by
  unfold scanFrom; rw [show T.length - i = 0 by omega]; rfl
theorem scan_come {T : List Int} {i : Nat} (h : i < T.length) : scanFrom T i = (match comeP T i with
      | .skip k => scanFrom T k
      | .tok t k => (scanFrom T k).map (t :: ·)
      | .bad c a => .error (c, (a : Int))) := by
  unfold scanFrom
  obtain ⟨m, hm⟩ : ∃ m, T.length - i = m + 1 := ⟨T.length - i - 1, by omega⟩
  rw [hm]
  conv => lhs; unfold scanN
  rw [if_pos h]
  have hf := come_fits h
  cases hc : comeP T i with
  | skip k => rw [hc] at hf; obtain ⟨f1, f2⟩ := hf; exact scan_fuel _ _ k (by omega) (by omega)
  | tok t k => rw [hc] at hf; obtain ⟨f1, f2⟩ := hf; simp only; rw [scan_fuel m (T.length - k) k (by omega) (by omega)]
  | bad c a => rfl
/-- What Scan tells: the tokens, or a code and a byte. -/
def scanP (T : List Int) : Except (Int × Int) (List Tok) := if 4000 < T.length then .error (1, 0) else scanFrom T 0

/-- Tokens so far, and what comes from i on, make what comes from the first byte on. -/
def Sofar (T : List Int) (acc : List Tok) (i : Nat) : Prop := i ≤ T.length ∧ scanFrom T 0 = (scanFrom T i).map (acc ++ ·)
theorem map_id {r : Except (Int × Int) (List Tok)} : r.map (([] : List Tok) ++ ·) = r := by cases r <;> rfl
theorem sofar_first (T : List Int) : Sofar T [] 0 := ⟨Nat.zero_le _, map_id.symm⟩
theorem Sofar.done {T : List Int} {acc : List Tok} {i : Nat} (h : Sofar T acc i) (hi : ¬ i < T.length) : scanFrom T 0 = .ok acc := by
  rw [h.2, scan_end (by omega)]
  show Except.ok (acc ++ []) = _
  rw [List.append_nil]
theorem Sofar.skip {T : List Int} {acc : List Tok} {i k : Nat} (h : Sofar T acc i) (hi : i < T.length) (hc : comeP T i = .skip k) : Sofar T acc k := by
  have hf := come_fits hi
  rw [hc] at hf
  refine ⟨hf.2, ?_⟩
  rw [h.2, scan_come hi, hc]
theorem Sofar.tok {T : List Int} {acc : List Tok} {i k : Nat} {t : Tok} (h : Sofar T acc i) (hi : i < T.length) (hc : comeP T i = .tok t k) : Sofar T (acc ++ [t]) k := by
  have hf := come_fits hi
  rw [hc] at hf
  refine ⟨hf.2, ?_⟩
  rw [h.2, scan_come hi, hc]
  simp only
  cases scanFrom T k with
  | error e => rfl
  | ok l =>
    show Except.ok (acc ++ (t :: l)) = Except.ok ((acc ++ [t]) ++ l)
    rw [List.append_assoc]; rfl
theorem Sofar.bad {T : List Int} {acc : List Tok} {i a : Nat} {c : Int} (h : Sofar T acc i) (hi : i < T.length) (hc : comeP T i = .bad c a) : scanFrom T 0 = .error (c, (i : Int)) := by
  have hf := come_fits hi
  rw [hc] at hf
  have e : a = i := hf
  rw [h.2, scan_come hi, hc, e]
  rfl

/-! What comes, case by case. -/
theorem come_blank {T : List Int} {i : Nat} (h : blankB (wd T i) = true) : comeP T i = .skip (i + 1) := by unfold comeP; rw [if_pos h]
theorem come_note {T : List Int} {i : Nat} (h0 : blankB (wd T i) = false) (h : wd T i = 35) : comeP T i = .skip (stopP noteB T i) := by
  unfold comeP; rw [if_neg (by rw [h0]; decide), if_pos h]
theorem come_name {T : List Int} {i : Nat} (h0 : blankB (wd T i) = false) (h1 : wd T i ≠ 35) (h : letB (wd T i) = true) : comeP T i = .tok (if wordB (piece T i (stopP alnB T i)) = true then 3 else 1, piece T i (stopP alnB T i), i) (stopP alnB T i) := by
  unfold comeP; rw [if_neg (by rw [h0]; decide), if_neg h1, if_pos h]
theorem come_bad {T : List Int} {i : Nat} (h0 : blankB (wd T i) = false) (h1 : wd T i ≠ 35) (h : digB (wd T i) = true) (hb : numBad T i (stopP digB T i) = true) : comeP T i = .bad 2 i := by
  unfold comeP; rw [if_neg (by rw [h0]; decide), if_neg h1, if_neg (by rw [dig_not_let h]; decide), if_pos h, if_pos hb]
theorem come_num {T : List Int} {i : Nat} (h0 : blankB (wd T i) = false) (h1 : wd T i ≠ 35) (h : digB (wd T i) = true) (hb : numBad T i (stopP digB T i) = false) : comeP T i = .tok (2, piece T i (stopP digB T i), i) (stopP digB T i) := by
  unfold comeP; rw [if_neg (by rw [h0]; decide), if_neg h1, if_neg (by rw [dig_not_let h]; decide), if_pos h, if_neg (by rw [hb]; decide)]
theorem come_rune {T : List Int} {i : Nat} (h0 : blankB (wd T i) = false) (h1 : wd T i ≠ 35) (h2 : letB (wd T i) = false) (h3 : digB (wd T i) = false) (h : signLen T i = 0) : comeP T i = .bad 11 i := by
  unfold comeP; rw [if_neg (by rw [h0]; decide), if_neg h1, if_neg (by rw [h2]; decide), if_neg (by rw [h3]; decide), if_pos h]
theorem come_sign {T : List Int} {i : Nat} (h0 : blankB (wd T i) = false) (h1 : wd T i ≠ 35) (h2 : letB (wd T i) = false) (h3 : digB (wd T i) = false) (h : signLen T i ≠ 0) : comeP T i = .tok (4, piece T i (i + signLen T i), i) (i + signLen T i) := by
  unfold comeP; rw [if_neg (by rw [h0]; decide), if_neg h1, if_neg (by rw [h2]; decide), if_neg (by rw [h3]; decide), if_neg h]
end Go.Proofs.YtkmnlmoalobmjadDoor
