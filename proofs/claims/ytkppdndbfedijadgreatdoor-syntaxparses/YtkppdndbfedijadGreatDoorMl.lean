/- Several texts in one. -/
import Derived.Test.YtkppdndbfedijadGreatDoorMa
import Derived.Test.YtkppdndbfedijadGreatDoorMz
import Derived.Lib.AtoiAllCases
import Derived.Lib.Bytealg
import Derived.Lib.Strings
import Derived.Shelf.Small.Utf8
import Derived.Shelf.Small.Strs
import Derived.Shelf.Strconv.Atoi
import Derived.Shelf.Strconv.AtoiErrFast
import Derived.Shelf.Strconv.ParseIntEmpty
import Derived.Shelf.Strconv.AtoiFail
import Derived.Shelf.LaysM
import Derived.Shelf.Strconv.Clone
import Derived.Shelf.Strconv.SyntaxError
import Derived.Shelf.LaysC
import Derived.Shelf.Strconv.ToError
import Derived.Shelf.Strconv.Lower
import Derived.Shelf.Strconv.ParseUint10
import Derived.Shelf.Strconv.ParseUint10Empty
import Derived.Shelf.Strconv.ParseUint10Any
import Derived.Shelf.Strconv.ParseInt10
import Derived.Shelf.Strconv.AtoiLong
import Derived.Shelf.Strconv.AtoiInnerAll
import Derived.Shelf.Strconv.RangeError
import Derived.Shelf.Strconv.ToErrorRange
import Derived.Shelf.Strconv.AtoiAll
import Derived.Shelf.Strconv.ErrVarAll
import Derived.Shelf.Strings.Search1
import Derived.Shelf.Strings.Search2
import Derived.Shelf.Strings.Search3
import Derived.Shelf.Strings.Shaped
import Derived.Shelf.Strings.Prefix
import Derived.Shelf.Strings.Runes
import Derived.Shelf.Strings.AsciiSet
import Derived.Shelf.Unicode.DecodeSlow
import Derived.Test.YtkppdndbfedijadGreatDoorProg
import Derived.Lib.IndexBytes
import Derived.Lib.AtoiAllMem
/- Chapter 8, plain: what lies between tokens, taken as a whole. No Go in sight. -/
namespace Go.Proofs.YtkppdndbfedijadGreatDoor

/-- From i on the same comes as from k on: just blanks and notes lie between. -/
def Gap (T : List Int) (i k : Nat) : Prop := i ≤ k ∧ k ≤ T.length ∧ scanFrom T i = scanFrom T k
theorem gap_first {T : List Int} {i : Nat} (h : i ≤ T.length) : Gap T i i := ⟨Nat.le_refl _, h, rfl⟩
theorem Gap.trans {T : List Int} {i k m : Nat} (h : Gap T i k) (h' : Gap T k m) : Gap T i m :=
  ⟨Nat.le_trans h.1 h'.1, h'.2.1, h.2.2.trans h'.2.2⟩
theorem gap_upto {T : List Int} : ∀ (d i k : Nat), k - i ≤ d → Upto blankB T i k → Gap T i k
  | 0, i, k, h, hu => by
    obtain rfl : i = k := by have := hu.1; omega
    exact gap_first hu.2.1
  | d + 1, i, k, h, hu => by
    by_cases hi : i = k
    · subst hi; exact gap_first hu.2.1
    · have h1 := hu.1
      have h2 := hu.2.1
      have hb : blankB (wd T i) = true := hu.2.2 i (Nat.le_refl _) (by omega)
      obtain ⟨g1, g2, g3⟩ := gap_upto d (i + 1) k (by omega) ⟨by omega, h2, fun j h3 h4 => hu.2.2 j (by omega) h4⟩
      refine ⟨h1, h2, ?_⟩
      rw [scan_come (by omega), come_blank hb]
      exact g3
theorem stop_upto (p : Int → Bool) {T : List Int} {i : Nat} (h : i ≤ T.length) : Upto p T i (stopP p T i) := by
  refine ⟨stop_ge p T i, stop_le h, ?_⟩
  have key : ∀ (d i : Nat), T.length - i ≤ d → ∀ j, i ≤ j → j < stopP p T i → p (wd T j) = true := by
    intro d
    induction d with
    | zero =>
      intro i hd j h1 h2
      rw [stop_end (by omega)] at h2
      omega
    | succ d ih =>
      intro i hd j h1 h2
      by_cases hi : i < T.length
      · cases hp : p (wd T i) with
        | false => rw [stop_no hp] at h2; omega
        | true =>
          by_cases hj : j = i
          · rw [hj]; exact hp
          · rw [stop_yes hi hp] at h2
            exact ih (i + 1) (by omega) j (by omega) h2
      · rw [stop_end (by omega)] at h2; omega
  exact key _ i (Nat.le_refl _)
theorem stop_not {p : Int → Bool} {T : List Int} : ∀ (d i : Nat), T.length - i ≤ d → stopP p T i < T.length → p (wd T (stopP p T i)) = false
  | 0, i, hd, h => by have := stop_ge p T i; omega
  | d + 1, i, hd, h => by
    by_cases hi : i < T.length
    · cases hp : p (wd T i) with
      | false => rw [stop_no hp]; exact hp
      | true =>
        rw [stop_yes hi hp] at h ⊢
        exact stop_not d (i + 1) (by omega) h
    · have := stop_ge p T i; omega
theorem gap_blanks {T : List Int} {i : Nat} (h : i ≤ T.length) : Gap T i (stopP blankB T i) := gap_upto _ i _ (Nat.le_refl _) (stop_upto _ h)
theorem gap_note {T : List Int} {i : Nat} (h : i < T.length) (h35 : wd T i = 35) : Gap T i (stopP noteB T i) := by
  refine ⟨stop_ge _ _ _, stop_le (by omega), ?_⟩
  rw [scan_come h, come_note (by rw [h35]; decide) h35]
theorem note_more {T : List Int} {i : Nat} (h : i < T.length) (h35 : wd T i = 35) : i < stopP noteB T i := by
  rw [stop_yes h (by rw [h35]; decide)]
  have := stop_ge noteB T (i + 1)
  omega
/-- A place where a token begins, or the end. -/
def Bare (T : List Int) (k : Nat) : Prop := k < T.length → blankB (wd T k) = false ∧ wd T k ≠ 35
theorem Sofar.gap {T : List Int} {acc : List Tok} {i k : Nat} (h : Sofar T acc i) (hg : Gap T i k) : Sofar T acc k := ⟨hg.2.1, by rw [h.2, hg.2.2]⟩
/-- Something stands ahead of which letters go on. -/
theorem behind_is {T : List Int} {k : Nat} (h : k ≤ T.length) : decide (0 < stopP letB (piece T k T.length) 0) = (decide (k < T.length) && letB (wd T k)) := by
  have hl := piece_length (T := T) (i := k) (Nat.le_refl T.length)
  by_cases hk : k < T.length
  · have e : wd (piece T k T.length) 0 = wd T k := by rw [piece_at (by omega), Nat.add_zero]
    rw [decide_eq_true hk, Bool.true_and]
    cases hb : letB (wd T k) with
    | false => rw [stop_no (by rw [e]; exact hb)]; rfl
    | true =>
      rw [stop_yes (by omega) (by rw [e]; exact hb)]
      have := stop_ge letB (piece T k T.length) (0 + 1)
      exact decide_eq_true (by omega)
  · rw [stop_end (by omega), decide_eq_false hk]; rfl
theorem decU_piece {T : List Int} {i k : Nat} : ∀ m, m ≤ k - i → decU (piece T i k) 0 m = decU T i m
  | 0, _ => rfl
  | m + 1, h => by
    unfold decU
    rw [decU_piece m (by omega), Nat.zero_add, piece_at (by omega)]
end Go.Proofs.YtkppdndbfedijadGreatDoor

/- Chapter 8, plain: what the library's Atoi tells of digits; which bytes a text has. No seat's numbers in it. -/
namespace Go.Proofs.YtkppdndbfedijadGreatDoor

/-- The value of digits, behind what has come. -/
def decN (acc : Nat) : List UInt8 → Nat
  | [] => acc
  | c :: r => decN (acc * 10 + (c.toNat - 48)) r
theorem decN_ge : ∀ (l : List UInt8) (acc : Nat), acc ≤ decN acc l
  | [], acc => Nat.le_refl _
  | c :: r, acc => by
    unfold decN
    have := decN_ge r (acc * 10 + (c.toNat - 48))
    omega
theorem decN_snoc : ∀ (l : List UInt8) (acc : Nat) (c : UInt8), decN acc (l ++ [c]) = 10 * decN acc l + (c.toNat - 48)
  | [], acc, c => by show decN (acc * 10 + (c.toNat - 48)) [] = _; unfold decN; omega
  | d :: r, acc, c => by show decN (acc * 10 + (d.toNat - 48)) (r ++ [c]) = _; rw [decN_snoc r]; rfl
theorem parse_digs : ∀ (l : List UInt8) (acc : Nat), acc < 18446744073709551616 → (∀ c ∈ l, 48 ≤ c.toNat ∧ c.toNat ≤ 57) → (Lib.parseUint10 acc l = .ok (decN acc l) ∧ decN acc l < 18446744073709551616) ∨ (Lib.parseUint10 acc l = .range ∧ 18446744073709551616 ≤ decN acc l)
  | [], acc, ha, _ => Or.inl ⟨rfl, ha⟩
  | c :: r, acc, ha, h => by
    have hc := h c (List.mem_cons_self ..)
    unfold Lib.parseUint10 decN
    have hge := decN_ge r (acc * 10 + (c.toNat - 48))
    rw [if_pos hc]
    split
    · exact Or.inr ⟨rfl, by omega⟩
    · split
      · exact Or.inr ⟨rfl, by omega⟩
      · exact parse_digs r _ (by omega) fun x hx => h x (List.mem_cons_of_mem _ hx)
theorem decN_take (s : List UInt8) (hd : ∀ c ∈ s, 48 ≤ c.toNat ∧ c.toNat ≤ 57) : ∀ m, m ≤ s.length → ((decN 0 (s.take m) : Nat) : Int) = decU (s.map fun x => (x.toNat : Int)) 0 m
  | 0, _ => rfl
  | m + 1, h => by
    have ih := decN_take s hd m (by omega)
    have hm : m < s.length := by omega
    have hc := hd _ (List.getElem_mem hm)
    rw [List.take_add_one, List.getElem?_eq_getElem hm]
    show ((decN 0 (s.take m ++ [s[m]]) : Nat) : Int) = _
    rw [decN_snoc]
    unfold decU
    have e : wd (s.map fun x => (x.toNat : Int)) (0 + m) = (s[m].toNat : Int) := by
      unfold wd
      rw [Nat.zero_add, List.getD_eq_getElem?_getD, List.getElem?_map, List.getElem?_eq_getElem hm]; rfl
    rw [e, ← ih]
    omega
/-- Atoi of digits: their value, or out of range. -/
theorem atoi_digs {s : ByteArray} (h0 : 0 < s.size) (hd : ∀ j, j < s.size → digB (wd (nums s) j) = true) : (decU (nums s) 0 s.size ≤ 9223372036854775807 ∧ Lib.atoiAll s.data.toList = .ok (decU (nums s) 0 s.size)) ∨ (9223372036854775807 < decU (nums s) 0 s.size ∧ Lib.atoiAll s.data.toList = .range) := by
  have hl : s.data.toList.length = s.size := by rw [Array.length_toList]; rfl
  have hd' : ∀ c ∈ s.data.toList, 48 ≤ c.toNat ∧ c.toNat ≤ 57 := fun c hc => by
    obtain ⟨j, hj, rfl⟩ := List.mem_iff_getElem.1 hc
    have := hd j (by omega)
    unfold digB at this
    have e : wd (nums s) j = (s.data.toList[j].toNat : Int) := by
      unfold wd nums
      rw [List.getD_eq_getElem?_getD, List.getElem?_map, List.getElem?_eq_getElem hj]; rfl
    rw [e] at this
    have := of_decide_eq_true this
    omega
  have hv := decN_take _ hd' s.data.toList.length (Nat.le_refl _)
  rw [List.take_length, hl] at hv
  have hv : ((decN 0 s.data.toList : Nat) : Int) = decU (nums s) 0 s.size := hv
  rw [← hv]
  cases hs : s.data.toList with
  | nil => rw [hs] at hl; simp at hl; omega
  | cons c r =>
    have hc := hd' c (by rw [hs]; exact List.mem_cons_self ..)
    rw [Lib.atoiAll_plain c r (by omega) (by omega)]
    unfold Lib.parseMag
    rw [if_neg (by simp)]
    rcases parse_digs (c :: r) 0 (by omega) (by rw [← hs]; exact hd') with ⟨h1, h2⟩ | ⟨h1, h2⟩
    · rw [h1]
      unfold Lib.signless
      by_cases hb : 9223372036854775808 ≤ decN 0 (c :: r)
      · right; simp only; rw [if_pos hb]; exact ⟨by omega, rfl⟩
      · left; simp only; rw [if_neg hb]; exact ⟨by omega, rfl⟩
    · right; rw [h1]; exact ⟨by omega, rfl⟩
/-- A byte of a text, or none. -/
theorem index_mem (l : List UInt8) (c : UInt8) : (0 ≤ Lib.indexByte l c) ↔ c ∈ l := by
  induction l with
  | nil => simp [Lib.indexByte]
  | cons b l ih =>
    have hge := Lib.indexByte_ge l c
    unfold Lib.indexByte
    by_cases hb : b = c
    · subst hb; simp
    · rw [if_neg (by simpa using hb)]
      by_cases h1 : Lib.indexByte l c = -1
      · rw [if_pos (by simpa using h1)]
        have : ¬ c ∈ l := fun h => by have := ih.2 h; omega
        simp [this, Ne.symm hb]
      · rw [if_neg (by simpa using h1)]
        have : c ∈ l := ih.1 (by omega)
        simp [this]
        omega
end Go.Proofs.YtkppdndbfedijadGreatDoor

/- Chapter 8, plain: rows of bytes that package lex asks, and which bytes they tell. No seat's numbers in it. -/
namespace Go.Proofs.YtkppdndbfedijadGreatDoor

def lettersB : List UInt8 := [97, 98, 99, 100, 101, 102, 103, 104, 105, 106, 107, 108, 109, 110, 111, 112, 113, 114, 115, 116, 117, 118, 119, 120, 121, 122, 65, 66, 67, 68, 69, 70, 71, 72, 73, 74, 75, 76, 77, 78, 79, 80, 81, 82, 83, 84, 85, 86, 87, 88, 89, 90, 95]
def digitsB : List UInt8 := [48, 49, 50, 51, 52, 53, 54, 55, 56, 57]
def alnumB : List UInt8 := lettersB ++ digitsB
def blanksB : List UInt8 := [32, 10, 9]
def lineB : List UInt8 := [10]
def signsB : List UInt8 := [43, 45, 42, 60, 61, 33, 46, 44, 59, 58, 40, 41, 123, 125]
theorem all_bytes {p : Nat → Bool} (h : (List.range 256).all p = true) {c : Int} (hc : 0 ≤ c ∧ c ≤ 255) : p c.toNat = true :=
  List.all_eq_true.1 h _ (List.mem_range.2 (by omega))
/-- A row of bytes tells what p tells. -/
theorem told_by {l : List UInt8} {p : Int → Bool} (h : ((List.range 256).all fun n => decide (n.toUInt8 ∈ l) == p (n : Int)) = true) {c : Int} (hc : 0 ≤ c ∧ c ≤ 255) : decide (0 ≤ Lib.indexByte l c.toNat.toUInt8) = p c := by
  have h1 := all_bytes h hc
  simp only [beq_iff_eq] at h1
  rw [show ((c.toNat : Nat) : Int) = c by omega] at h1
  rw [← h1]
  exact decide_eq_decide.2 (index_mem _ _)
set_option maxRecDepth 100000 in
theorem tells_let {c : Int} (hc : 0 ≤ c ∧ c ≤ 255) : decide (0 ≤ Lib.indexByte lettersB c.toNat.toUInt8) = letB c := told_by (by decide +kernel) hc
set_option maxRecDepth 100000 in
theorem tells_dig {c : Int} (hc : 0 ≤ c ∧ c ≤ 255) : decide (0 ≤ Lib.indexByte digitsB c.toNat.toUInt8) = digB c := told_by (by decide +kernel) hc
set_option maxRecDepth 100000 in
theorem tells_aln {c : Int} (hc : 0 ≤ c ∧ c ≤ 255) : decide (0 ≤ Lib.indexByte alnumB c.toNat.toUInt8) = alnB c := told_by (by decide +kernel) hc
set_option maxRecDepth 100000 in
theorem tells_blank {c : Int} (hc : 0 ≤ c ∧ c ≤ 255) : decide (0 ≤ Lib.indexByte blanksB c.toNat.toUInt8) = blankB c := told_by (by decide +kernel) hc
set_option maxRecDepth 100000 in
theorem tells_sign {c : Int} (hc : 0 ≤ c ∧ c ≤ 255) : decide (0 ≤ Lib.indexByte signsB c.toNat.toUInt8) = signsL.contains c := told_by (p := fun c => signsL.contains c) (by decide +kernel) hc
set_option maxRecDepth 100000 in
theorem tells_line {c : Int} (hc : 0 ≤ c ∧ c ≤ 255) : decide (Lib.indexByte lineB c.toNat.toUInt8 < 0) = noteB c := by
  have h := told_by (l := lineB) (p := fun c => !noteB c) (by decide +kernel) hc
  by_cases hx : 0 ≤ Lib.indexByte lineB c.toNat.toUInt8
  · rw [decide_eq_true hx] at h
    rw [decide_eq_false (by omega)]
    cases hn : noteB c with
    | false => rfl
    | true => rw [hn] at h; cases h
  · rw [decide_eq_false hx] at h
    rw [decide_eq_true (by omega)]
    cases hn : noteB c with
    | true => rfl
    | false => rw [hn] at h; cases h
end Go.Proofs.YtkppdndbfedijadGreatDoor

/- Contracts of the library that this program meets, laid at it. -/
namespace Go.Proofs
open Go.Shelf
def Tryz.lays137_ren : Go.Shelf.Ren := ⟨fun | 137 => 94 | 217 => 131 | 266 => 164 | n => n, fun | 9 => 9 | 5 => 5 | 3 => 3 | n => n, fun | n => n⟩
theorem Tryz.lays137 : Go.Proofs.Lays.n137 Tryz.prog Tryz.lays137_ren := {
  mixed := by kernel_rfl
  f137 := Tryz.func94.trans (congrArg some (by kernel_rfl))
  f217 := Tryz.func131.trans (congrArg some (by kernel_rfl))
  f266 := Tryz.func164.trans (congrArg some (by kernel_rfl))
  t3 := Tryz.underlying3
  a3 := Tryz.isAgg3
  z3 := Tryz.sizeOf3
  v3 := Tryz.zeroValue3
  t5 := Tryz.underlying5
  a5 := Tryz.isAgg5
  z5 := Tryz.sizeOf5
  v5 := Tryz.zeroValue5
  t9 := Tryz.underlying9
  a9 := Tryz.isAgg9
  z9 := Tryz.sizeOf9
  v9 := Tryz.zeroValue9 }
open Go.RowKit in
theorem Tryz.strings_IndexByte (s : ByteArray) (c : Int) (w : World) :
    Calls Tryz.prog 94 #[.string s, .int .u8 c] w fun e w' => e = .returned (.int .i64 (Lib.indexByte s.data.toList c.toNat.toUInt8)) ∧ w' = w := Any.strings_IndexByte Tryz.lays137 s c w
def Tryz.laysM316_ren : Go.Shelf.Ren := ⟨fun | 316 => 63 | n => n, fun | 9 => 9 | 3 => 3 | 4 => 4 | 37 => 80 | 0 => 0 | 127 => 112 | 5 => 5 | n => n, fun | n => n⟩
theorem Tryz.laysM316 : Go.Proofs.LaysM.n316 Tryz.prog Tryz.laysM316_ren := {
  mixed := by kernel_rfl
  f316 := Tryz.func63.trans (congrArg some (by kernel_rfl))
  t0 := Tryz.underlying0
  a0 := Tryz.isAgg0
  z0 := Tryz.sizeOf0
  v0 := Tryz.zeroValue0
  t3 := Tryz.underlying3
  a3 := Tryz.isAgg3
  z3 := Tryz.sizeOf3
  v3 := Tryz.zeroValue3
  t4 := Tryz.underlying4
  a4 := Tryz.isAgg4
  z4 := Tryz.sizeOf4
  v4 := Tryz.zeroValue4
  t9 := Tryz.underlying9
  a9 := Tryz.isAgg9
  z9 := Tryz.sizeOf9
  v9 := Tryz.zeroValue9
  t37 := Tryz.underlying80
  a37 := Tryz.isAgg80
  z37 := Tryz.sizeOf80
  v37 := Tryz.zeroValue80
  t127 := Tryz.underlying112
  a127 := Tryz.isAgg112
  z127 := Tryz.sizeOf112
  v127 := Tryz.zeroValue112
  t5 := Tryz.underlying5
  a5 := Tryz.isAgg5
  z5 := Tryz.sizeOf5
  v5 := Tryz.zeroValue5
  i0 := by kernel_rfl
  i3 := by kernel_rfl
  i4 := by kernel_rfl
  i5 := by kernel_rfl
  i9 := by kernel_rfl
  i37 := by kernel_rfl
  i127 := by kernel_rfl }
open Go.RowKit in
theorem Tryz.stringslite_Clone (s : ByteArray) (w : World) (hlim : s.size ≤ 281474976710656) :
    Calls Tryz.prog 63 #[.string s] w fun e w' => e = .returned (.string s) ∧ Below w.heap.size w w' := Any.stringslite_Clone Tryz.laysM316 s w hlim
def Tryz.laysC172_ren : Go.Shelf.Ren := ⟨fun | 172 => 98 | 244 => 133 | 245 => 134 | 247 => 168 | 279 => 169 | 280 => 170 | 281 => 171 | 282 => 172 | 287 => 184 | 316 => 63 | 171 => 153 | 205 => 185 | 321 => 193 | 322 => 194 | 243 => 177 | 246 => 189 | 283 => 197 | 284 => 198 | 285 => 199 | 286 => 200 | 129 => 205 | 317 => 204 | 318 => 206 | 319 => 207 | 320 => 208 | 337 => 211 | 338 => 212 | n => n, fun | 9 => 9 | 3 => 3 | 75 => 85 | 76 => 86 | 4 => 4 | 5 => 5 | 167 => 156 | 37 => 80 | 0 => 0 | 85 => 157 | 2 => 2 | 168 => 159 | 53 => 170 | 175 => 171 | 46 => 155 | 210 => 174 | 127 => 112 | 145 => 182 | 143 => 180 | 21 => 21 | 171 => 183 | 173 => 186 | 212 => 194 | 51 => 167 | 20 => 20 | 213 => 195 | 232 => 198 | 233 => 199 | 80 => 88 | n => n, fun | 15 => 1 | 16 => 2 | 17 => 5 | 18 => 6 | 19 => 7 | n => n⟩
theorem Tryz.laysC172 : Go.Proofs.LaysC.n172 Tryz.prog Tryz.laysC172_ren := {
  mixed := by kernel_rfl
  f129 := Tryz.func205.trans (congrArg some (by kernel_rfl))
  f171 := Tryz.func153.trans (congrArg some (by kernel_rfl))
  f172 := Tryz.func98.trans (congrArg some (by kernel_rfl))
  f205 := Tryz.func185.trans (congrArg some (by kernel_rfl))
  f243 := Tryz.func177.trans (congrArg some (by kernel_rfl))
  f244 := Tryz.func133.trans (congrArg some (by kernel_rfl))
  f245 := Tryz.func134.trans (congrArg some (by kernel_rfl))
  f246 := Tryz.func189.trans (congrArg some (by kernel_rfl))
  f247 := Tryz.func168.trans (congrArg some (by kernel_rfl))
  f279 := Tryz.func169.trans (congrArg some (by kernel_rfl))
  f280 := Tryz.func170.trans (congrArg some (by kernel_rfl))
  f281 := Tryz.func171.trans (congrArg some (by kernel_rfl))
  f282 := Tryz.func172.trans (congrArg some (by kernel_rfl))
  f283 := Tryz.func197.trans (congrArg some (by kernel_rfl))
  f284 := Tryz.func198.trans (congrArg some (by kernel_rfl))
  f285 := Tryz.func199.trans (congrArg some (by kernel_rfl))
  f286 := Tryz.func200.trans (congrArg some (by kernel_rfl))
  f287 := Tryz.func184.trans (congrArg some (by kernel_rfl))
  f316 := Tryz.func63.trans (congrArg some (by kernel_rfl))
  f317 := Tryz.func204.trans (congrArg some (by kernel_rfl))
  f318 := Tryz.func206.trans (congrArg some (by kernel_rfl))
  f319 := Tryz.func207.trans (congrArg some (by kernel_rfl))
  f320 := Tryz.func208.trans (congrArg some (by kernel_rfl))
  f321 := Tryz.func193.trans (congrArg some (by kernel_rfl))
  f322 := Tryz.func194.trans (congrArg some (by kernel_rfl))
  f337 := Tryz.func211.trans (congrArg some (by kernel_rfl))
  f338 := Tryz.func212.trans (congrArg some (by kernel_rfl))
  t0 := Tryz.underlying0
  a0 := Tryz.isAgg0
  z0 := Tryz.sizeOf0
  v0 := Tryz.zeroValue0
  t2 := Tryz.underlying2
  a2 := Tryz.isAgg2
  z2 := Tryz.sizeOf2
  v2 := Tryz.zeroValue2
  t3 := Tryz.underlying3
  a3 := Tryz.isAgg3
  z3 := Tryz.sizeOf3
  v3 := Tryz.zeroValue3
  t4 := Tryz.underlying4
  a4 := Tryz.isAgg4
  z4 := Tryz.sizeOf4
  v4 := Tryz.zeroValue4
  t5 := Tryz.underlying5
  a5 := Tryz.isAgg5
  z5 := Tryz.sizeOf5
  v5 := Tryz.zeroValue5
  t9 := Tryz.underlying9
  a9 := Tryz.isAgg9
  z9 := Tryz.sizeOf9
  v9 := Tryz.zeroValue9
  t20 := Tryz.underlying20
  a20 := Tryz.isAgg20
  z20 := Tryz.sizeOf20
  v20 := Tryz.zeroValue20
  t21 := Tryz.underlying21
  a21 := Tryz.isAgg21
  z21 := Tryz.sizeOf21
  v21 := Tryz.zeroValue21
  t37 := Tryz.underlying80
  a37 := Tryz.isAgg80
  z37 := Tryz.sizeOf80
  v37 := Tryz.zeroValue80
  t46 := Tryz.underlying155
  a46 := Tryz.isAgg155
  z46 := Tryz.sizeOf155
  v46 := Tryz.zeroValue155
  t51 := Tryz.underlying167
  a51 := Tryz.isAgg167
  z51 := Tryz.sizeOf167
  v51 := Tryz.zeroValue167
  t53 := Tryz.underlying170
  a53 := Tryz.isAgg170
  z53 := Tryz.sizeOf170
  v53 := Tryz.zeroValue170
  t75 := Tryz.underlying85
  a75 := Tryz.isAgg85
  z75 := Tryz.sizeOf85
  v75 := Tryz.zeroValue85
  t76 := Tryz.underlying86
  a76 := Tryz.isAgg86
  z76 := Tryz.sizeOf86
  v76 := Tryz.zeroValue86
  t85 := Tryz.underlying157
  a85 := Tryz.isAgg157
  z85 := Tryz.sizeOf157
  v85 := Tryz.zeroValue157
  t127 := Tryz.underlying112
  a127 := Tryz.isAgg112
  z127 := Tryz.sizeOf112
  v127 := Tryz.zeroValue112
  t143 := Tryz.underlying180
  a143 := Tryz.isAgg180
  z143 := Tryz.sizeOf180
  v143 := Tryz.zeroValue180
  t145 := Tryz.underlying182
  a145 := Tryz.isAgg182
  z145 := Tryz.sizeOf182
  v145 := Tryz.zeroValue182
  t167 := Tryz.underlying156
  a167 := Tryz.isAgg156
  z167 := Tryz.sizeOf156
  v167 := Tryz.zeroValue156
  t168 := Tryz.underlying159
  a168 := Tryz.isAgg159
  z168 := Tryz.sizeOf159
  v168 := Tryz.zeroValue159
  t171 := Tryz.underlying183
  a171 := Tryz.isAgg183
  z171 := Tryz.sizeOf183
  v171 := Tryz.zeroValue183
  t173 := Tryz.underlying186
  a173 := Tryz.isAgg186
  z173 := Tryz.sizeOf186
  v173 := Tryz.zeroValue186
  t175 := Tryz.underlying171
  a175 := Tryz.isAgg171
  z175 := Tryz.sizeOf171
  v175 := Tryz.zeroValue171
  t210 := Tryz.underlying174
  a210 := Tryz.isAgg174
  z210 := Tryz.sizeOf174
  v210 := Tryz.zeroValue174
  t212 := Tryz.underlying194
  a212 := Tryz.isAgg194
  z212 := Tryz.sizeOf194
  v212 := Tryz.zeroValue194
  t213 := Tryz.underlying195
  a213 := Tryz.isAgg195
  z213 := Tryz.sizeOf195
  t232 := Tryz.underlying198
  a232 := Tryz.isAgg198
  z232 := Tryz.sizeOf198
  v232 := Tryz.zeroValue198
  t233 := Tryz.underlying199
  a233 := Tryz.isAgg199
  z233 := Tryz.sizeOf199
  v233 := Tryz.zeroValue199
  g15 := by kernel_rfl
  g16 := by kernel_rfl
  g17 := by kernel_rfl
  g18 := by kernel_rfl
  g19 := by kernel_rfl
  t80 := Tryz.underlying88
  a80 := Tryz.isAgg88
  z80 := Tryz.sizeOf88
  v80 := Tryz.zeroValue88
  i0 := by kernel_rfl
  i2 := by kernel_rfl
  i3 := by kernel_rfl
  i4 := by kernel_rfl
  i5 := by kernel_rfl
  i9 := by kernel_rfl
  i20 := by kernel_rfl
  i21 := by kernel_rfl
  i37 := by kernel_rfl
  i46 := by kernel_rfl
  i51 := by kernel_rfl
  i53 := by kernel_rfl
  i75 := by kernel_rfl
  i76 := by kernel_rfl
  i80 := by kernel_rfl
  i85 := by kernel_rfl
  i127 := by kernel_rfl
  i143 := by kernel_rfl
  i145 := by kernel_rfl
  i167 := by kernel_rfl
  i168 := by kernel_rfl
  i171 := by kernel_rfl
  i173 := by kernel_rfl
  i175 := by kernel_rfl
  i210 := by kernel_rfl
  i212 := by kernel_rfl
  i232 := by kernel_rfl
  i233 := by kernel_rfl
  m15 := by kernel_rfl
  m16 := by kernel_rfl
  m17 := by kernel_rfl
  m18 := by kernel_rfl
  m19 := by kernel_rfl
  c0 := by kernel_rfl
  c2 := by kernel_rfl
  c3 := by kernel_rfl
  c4 := by kernel_rfl
  c5 := by kernel_rfl
  c9 := by kernel_rfl
  c20 := by kernel_rfl
  c21 := by kernel_rfl
  c37 := by kernel_rfl
  c46 := by kernel_rfl
  c51 := by kernel_rfl
  c53 := by kernel_rfl
  c75 := by kernel_rfl
  c76 := by kernel_rfl
  c80 := by kernel_rfl
  c85 := by kernel_rfl
  c127 := by kernel_rfl
  c143 := by kernel_rfl
  c145 := by kernel_rfl
  c167 := by kernel_rfl
  c168 := by kernel_rfl
  c171 := by kernel_rfl
  c173 := by kernel_rfl
  c175 := by kernel_rfl
  c210 := by kernel_rfl
  c212 := by kernel_rfl
  c213 := by kernel_rfl
  c232 := by kernel_rfl
  c233 := by kernel_rfl }
open Go.RowKit in
theorem Tryz.strconv_Atoi_ok (s : ByteArray) (hmax : s.size ≤ 9223372036854775806) (v : Int) (h : Lib.atoiAll s.data.toList = .ok v) (w : World) :
    Calls Tryz.prog 98 #[.string s] w fun e w' => e = .returned (.tuple #[.int .i64 v, .nilIface]) ∧ (w' = w ∨ ∃ t, w' = Lib.bytesWorld w 5 t) := Any.strconv_Atoi_ok Tryz.laysC172 s hmax v h w
open Go.RowKit in
theorem Tryz.strconv_Atoi_range (s : ByteArray) (hlim : s.size ≤ 281474976710656) (h : Lib.atoiAll s.data.toList = .range) (ev : Value) (w : World) (hv : w.cell? ⟨2, 0, none⟩ = some ev) (hev : ev = .nilIface ∨ ∃ te pe, ev = .iface te pe) :
    Calls Tryz.prog 98 #[.string s] w fun e w' => ∃ N, e = .returned (.tuple #[.int .i64 (Lib.atoiSat s.data.toList), .iface 159 (.pointer (some ⟨N, 0, none⟩))]) ∧ w.heap.size ≤ N ∧ w'.heap[N]? = some (.cells #[.string ⟨#[65, 116, 111, 105]⟩, .string s, ev] 174 (0, 0)) ∧ Below w.heap.size w w' := Any.strconv_Atoi_range Tryz.laysC172 s hlim h ev w hv hev
def Tryz.lays144_ren : Go.Shelf.Ren := ⟨fun | 144 => 60 | 143 => 97 | 219 => 132 | 217 => 131 | 225 => 165 | 224 => 166 | 267 => 167 | 266 => 164 | 314 => 183 | n => n, fun | 9 => 9 | 4 => 4 | 3 => 3 | 5 => 5 | 46 => 155 | 146 => 168 | 51 => 167 | n => n, fun | 1 => 0 | n => n⟩
theorem Tryz.lays144 : Go.Proofs.Lays.n144 Tryz.prog Tryz.lays144_ren := {
  mixed := by kernel_rfl
  f143 := Tryz.func97.trans (congrArg some (by kernel_rfl))
  f144 := Tryz.func60.trans (congrArg some (by kernel_rfl))
  f217 := Tryz.func131.trans (congrArg some (by kernel_rfl))
  f219 := Tryz.func132.trans (congrArg some (by kernel_rfl))
  f224 := Tryz.func166.trans (congrArg some (by kernel_rfl))
  f225 := Tryz.func165.trans (congrArg some (by kernel_rfl))
  f266 := Tryz.func164.trans (congrArg some (by kernel_rfl))
  f267 := Tryz.func167.trans (congrArg some (by kernel_rfl))
  f314 := Tryz.func183.trans (congrArg some (by kernel_rfl))
  t3 := Tryz.underlying3
  a3 := Tryz.isAgg3
  z3 := Tryz.sizeOf3
  v3 := Tryz.zeroValue3
  t4 := Tryz.underlying4
  a4 := Tryz.isAgg4
  z4 := Tryz.sizeOf4
  v4 := Tryz.zeroValue4
  t5 := Tryz.underlying5
  a5 := Tryz.isAgg5
  z5 := Tryz.sizeOf5
  v5 := Tryz.zeroValue5
  t9 := Tryz.underlying9
  a9 := Tryz.isAgg9
  z9 := Tryz.sizeOf9
  v9 := Tryz.zeroValue9
  t46 := Tryz.underlying155
  a46 := Tryz.isAgg155
  z46 := Tryz.sizeOf155
  v46 := Tryz.zeroValue155
  t51 := Tryz.underlying167
  a51 := Tryz.isAgg167
  z51 := Tryz.sizeOf167
  v51 := Tryz.zeroValue167
  t146 := Tryz.underlying168
  a146 := Tryz.isAgg168
  z146 := Tryz.sizeOf168
  v146 := Tryz.zeroValue168
  g1 := by kernel_rfl }
open Go.RowKit Go.Lib in
theorem Tryz.strings_Contains_one (s : ByteArray) (c : UInt8) (w : World) :
    Calls Tryz.prog 60 #[.string s, .string ⟨#[c]⟩] w fun e w' => e = .returned (.bool (decide (0 ≤ Lib.indexByte s.data.toList c))) ∧ w' = w := Any.strings_Contains_one Tryz.lays144 s c w
def Tryz.lays99_ren : Go.Shelf.Ren := ⟨fun | 99 => 57 | 206 => 95 | n => n, fun | 9 => 9 | 4 => 4 | 3 => 3 | n => n, fun | n => n⟩
theorem Tryz.lays99 : Go.Proofs.Lays.n99 Tryz.prog Tryz.lays99_ren := {
  mixed := by kernel_rfl
  f99 := Tryz.func57.trans (congrArg some (by kernel_rfl))
  f206 := Tryz.func95.trans (congrArg some (by kernel_rfl))
  t3 := Tryz.underlying3
  a3 := Tryz.isAgg3
  z3 := Tryz.sizeOf3
  v3 := Tryz.zeroValue3
  t4 := Tryz.underlying4
  a4 := Tryz.isAgg4
  z4 := Tryz.sizeOf4
  v4 := Tryz.zeroValue4
  t9 := Tryz.underlying9
  a9 := Tryz.isAgg9
  z9 := Tryz.sizeOf9
  v9 := Tryz.zeroValue9 }
open Go.RowKit Go.Lib in
theorem Tryz.strings_HasPrefix (s p : ByteArray) (w : World) :
    Calls Tryz.prog 57 #[.string s, .string p] w fun e w' => e = .returned (.bool (Lib.hasPrefix s.data.toList p.data.toList)) ∧ w' = w := Any.strings_HasPrefix Tryz.lays99 s p w
end Go.Proofs

/- package lex: who tells bytes from others, and the first place whose byte does not go on. -/
namespace Go.Proofs.YtkppdndbfedijadGreatDoor
open Go.RowKit

/-- A function of one byte that is called by its value, with what it has captured: what it answers, as long as a world is of a kind that lasts. -/
structure Asks (K : Nat) (cs : Array Value) (p : Int → Bool) (I : World → Prop) : Prop where
  enters : ∀ (args : Array Value) (w : World), Sem.run Tryz.prog (callFunc K args) w = .ok (.enter K args) w
  lasts : ∀ w w', I w → Below w.heap.size w w' → I w'
  says : ∀ c w, I w → 0 ≤ c ∧ c ≤ 255 → Calls Tryz.prog K (#[.int .u8 c] ++ cs) w fun e w' => e = .returned (.bool (p c)) ∧ Below w.heap.size w w'

/-- The cell of block b holds that text. -/
def HoldsT (b : Nat) (t : ByteArray) (w : World) : Prop := b < w.heap.size ∧ w.cell? ⟨b, 0, none⟩ = some (.string t)
theorem HoldsT.lasts {b : Nat} {t : ByteArray} (w w' : World) (h : HoldsT b t w) (hb : Below w.heap.size w w') : HoldsT b t w' :=
  ⟨by have := hb.size; have := h.1; omega, by rw [hb.cell (p := ⟨b, 0, none⟩) h.1]; exact h.2⟩

theorem oneOf1_any (all : ByteArray) (c : Int) (b : Nat) (w : World) (hc : w.cell? ⟨b, 0, none⟩ = some (.string all)) :
    Calls Tryz.prog 93 #[.int .u8 c, .pointer (some ⟨b, 0, none⟩)] w fun e w' => e = .returned (.bool (decide (0 ≤ Lib.indexByte all.data.toList c.toNat.toUInt8))) ∧ w' = w := by
  go_enter Tryz.func93, Tryz.ntmps93
  go_wp2_with (go_at_call 94; refine (Tryz.strings_IndexByte _ _ _).mono ?_; rintro e w' ⟨rfl, rfl⟩)
  go_ret
  exact ⟨by simp, rfl⟩
theorem noneOf1_any (all : ByteArray) (c : Int) (b : Nat) (w : World) (hc : w.cell? ⟨b, 0, none⟩ = some (.string all)) :
    Calls Tryz.prog 96 #[.int .u8 c, .pointer (some ⟨b, 0, none⟩)] w fun e w' => e = .returned (.bool (decide (Lib.indexByte all.data.toList c.toNat.toUInt8 < 0))) ∧ w' = w := by
  go_enter Tryz.func96, Tryz.ntmps96
  go_wp2_with (go_at_call 94; refine (Tryz.strings_IndexByte _ _ _).mono ?_; rintro e w' ⟨rfl, rfl⟩)
  go_ret
  exact ⟨by simp, rfl⟩
theorem asks_one {all : ByteArray} {p : Int → Bool} (b : Nat) (h : ∀ {c : Int}, 0 ≤ c ∧ c ≤ 255 → decide (0 ≤ Lib.indexByte all.data.toList c.toNat.toUInt8) = p c) : Asks 93 #[.pointer (some ⟨b, 0, none⟩)] p (HoldsT b all) :=
  ⟨fun _ _ => by kernel_rfl, HoldsT.lasts, fun c w hI hc => (oneOf1_any all c b w hI.2).mono fun e w' ⟨h1, h2⟩ => ⟨by rw [h1, h hc], by rw [h2]; exact Below.refl _ _⟩⟩
theorem asks_none {all : ByteArray} {p : Int → Bool} (b : Nat) (h : ∀ {c : Int}, 0 ≤ c ∧ c ≤ 255 → decide (Lib.indexByte all.data.toList c.toNat.toUInt8 < 0) = p c) : Asks 96 #[.pointer (some ⟨b, 0, none⟩)] p (HoldsT b all) :=
  ⟨fun _ _ => by kernel_rfl, HoldsT.lasts, fun c w hI hc => (noneOf1_any all c b w hI.2).mono fun e w' ⟨h1, h2⟩ => ⟨by rw [h1, h hc], by rw [h2]; exact Below.refl _ _⟩⟩

/-- What oneOf and noneOf answer: a function with the text in a box of its own. -/
theorem oneOf_any (all : ByteArray) (w : World) :
    Calls Tryz.prog 56 #[.string all] w fun e w' => e = .returned (.func (.func 93) #[] #[.pointer (some ⟨w.heap.size, 0, none⟩)]) ∧ HoldsT w.heap.size all w' ∧ Below w.heap.size w w' := by
  go_enter Tryz.func56, Tryz.ntmps56
  go_wp2
  go_ret
  exact ⟨rfl, ⟨by simp, by simp⟩, (Below.refl _ _).alloc (Nat.le_refl _) _⟩
theorem noneOf_any (all : ByteArray) (w : World) :
    Calls Tryz.prog 58 #[.string all] w fun e w' => e = .returned (.func (.func 96) #[] #[.pointer (some ⟨w.heap.size, 0, none⟩)]) ∧ HoldsT w.heap.size all w' ∧ Below w.heap.size w w' := by
  go_enter Tryz.func58, Tryz.ntmps58
  go_wp2
  go_ret
  exact ⟨rfl, ⟨by simp, by simp⟩, (Below.refl _ _).alloc (Nat.le_refl _) _⟩

set_option maxHeartbeats 2000000 in
/-- The first place from i on whose byte does not go on. -/
theorem past_any (K : Nat) (cs : Array Value) (p : Int → Bool) (I : World → Prop) (A : Asks K cs p I) (t : ByteArray) (i : Nat) (w : World) (hI : I w) (hi : i ≤ t.size) (hl : t.size ≤ 4000) :
    Calls Tryz.prog 55 #[.string t, .int .i64 i, .func (.func K) #[] cs] w fun e w' => e = .returned (.int .i64 (stopP p (nums t) i : Nat)) ∧ Below w.heap.size w w' := by
  have HL : Hid ((nums t).length = t.size) := nums_length t
  have hent := A.enters
  have HU : Hid (Upto p (nums t) i i) := upto_first (by rw [nums_length]; exact hi)
  go_enter Tryz.func55, Tryz.ntmps55
  go_wp2
  go_loopw [1] (fun s1 wr => ∃ (k : Nat), s1 = .int .i64 k ∧ k ≤ t.size ∧ Hid (Upto p (nums t) i k) ∧ Below w.heap.size w wr) (fun s1 _ => t.size - (intOf s1).toNat)
  case atStart => exact ⟨i, rfl, hi, HU, Below.refl _ _⟩
  case round =>
    clear HU
    obtain ⟨k, rfl, hk, HU, hB⟩ := hrel
    have hIr := A.lasts _ _ hI hB
    by_cases hlt : k < t.size
    · have hil : (k : Int) < (t.size : Int) := by omega
      have hcc := nums_at hlt
      have hby := wd_byte (nums_byte t) k
      have hw1 := wrap_id (x := (k : Int) + 1) (by omega) (by omega)
      have HX : Hid (p (wd (nums t) k) = true → Upto p (nums t) i (k + 1)) := fun h => HU.out.step (by rw [HL.out]; exact hlt) h
      have HY : Hid (p (wd (nums t) k) = false → stopP p (nums t) i = k) := fun h => HU.out.stop (Or.inr h)
      generalize wd (nums t) k = x at *
      cases hp : p x with
      | true =>
        have HZ : Hid (Upto p (nums t) i (k + 1)) := HX.out hp
        have hs := A.says x _ hIr hby
        rw [hp] at hs
        clear HX HY hp
        go_wp2_with (first | (refine hs.mono ?_; rintro e w2 ⟨rfl, hb2⟩))
        have hBn : Below w.heap.size w w2 := hB.trans (hb2.mono hB.size)
        go_roundw
        case rel => exact ⟨k + 1, by first | rfl | simp, by omega, HZ, hBn⟩
        case measure => simp [intOf]; omega
      | false =>
        have HZ : Hid (stopP p (nums t) i = k) := HY.out hp
        have hs := A.says x _ hIr hby
        rw [hp] at hs
        clear HX HY hp
        go_wp2_with (first | (refine hs.mono ?_; rintro e w2 ⟨rfl, hb2⟩))
        go_ret
        exact ⟨by rw [HZ.out]; rfl, hB.trans (hb2.mono hB.size)⟩
    · have HZ : Hid (stopP p (nums t) i = k) := HU.out.stop (Or.inl (by rw [HL.out]; exact hlt))
      have e : k = t.size := by omega
      subst e
      go_wp2_with fail
      go_ret
      exact ⟨by rw [HZ.out]; rfl, hB⟩
end Go.Proofs.YtkppdndbfedijadGreatDoor

/- package lex: behind all blanks and notes. -/
namespace Go.Proofs.YtkppdndbfedijadGreatDoor
open Go.RowKit

theorem asks_blank (b : Nat) : Asks 93 #[.pointer (some ⟨b, 0, none⟩)] blankB (HoldsT b ⟨#[32, 10, 9]⟩) := asks_one b fun hc => tells_blank hc
theorem asks_note (b : Nat) : Asks 96 #[.pointer (some ⟨b, 0, none⟩)] noteB (HoldsT b ⟨#[10]⟩) := asks_none b fun hc => tells_line hc
/-- A text's rest begins with a byte, with two. -/
theorem data_drop {t : ByteArray} {i : Nat} (h : i < t.size) : t.data.toList.drop i = t[i] :: t.data.toList.drop (i + 1) := by
  rw [List.drop_eq_getElem_cons (by rw [Array.length_toList]; exact h)]
  rfl
theorem byte_is {t : ByteArray} {i : Nat} (h : i < t.size) (c : UInt8) : (c == t[i]) = (wd (nums t) i == (c.toNat : Int)) := by
  rw [← nums_at h]
  by_cases e : c = t[i]
  · rw [e]; simp
  · have : ¬ ((t[i].toNat : Int) = (c.toNat : Int)) := fun x => e (UInt8.toNat_inj.1 (by omega))
    rw [beq_eq_false_iff_ne.2 e, beq_eq_false_iff_ne.2 this]
theorem pre_one (t : ByteArray) (i : Nat) (c : UInt8) : Lib.hasPrefix (t.extract i t.size).data.toList [c] = (decide (i < t.size) && (wd (nums t) i == (c.toNat : Int))) := by
  rw [Lib.extract_to_end]
  unfold Lib.hasPrefix
  by_cases h : i < t.size
  · rw [data_drop h, decide_eq_true h, Bool.true_and, ← byte_is h c]
    simp [List.isPrefixOf]
  · rw [decide_eq_false h, List.drop_of_length_le (by rw [Array.length_toList]; exact Nat.le_of_not_lt h)]
    rfl
theorem pre_two (t : ByteArray) (i : Nat) (c : UInt8) : Lib.hasPrefix (t.extract i t.size).data.toList [c, c] = decide (i + 1 < t.size ∧ wd (nums t) i = (c.toNat : Int) ∧ wd (nums t) (i + 1) = (c.toNat : Int)) := by
  rw [Lib.extract_to_end]
  unfold Lib.hasPrefix
  by_cases h : i < t.size
  · rw [data_drop h]
    by_cases h1 : i + 1 < t.size
    · rw [data_drop h1]
      simp only [List.isPrefixOf, byte_is h c, byte_is h1 c, Bool.and_true]
      rw [Bool.eq_iff_iff]
      simp [h1]
    · rw [List.drop_of_length_le (by rw [Array.length_toList]; exact Nat.le_of_not_lt h1)]
      simp [List.isPrefixOf, h1]
  · rw [List.drop_of_length_le (by rw [Array.length_toList]; exact Nat.le_of_not_lt h)]
    have : ¬ (i + 1 < t.size) := by omega
    simp [List.isPrefixOf, this]

/-- What HasPrefix tells of a text's rest. -/
theorem hasOne_any (t : ByteArray) (i : Nat) (c : UInt8) (b : Bool) (h : (decide (i < t.size) && (wd (nums t) i == (c.toNat : Int))) = b) (w : World) :
    Calls Tryz.prog 57 #[.string (t.extract i t.size), .string ⟨#[c]⟩] w fun e w' => e = .returned (.bool b) ∧ w' = w := by
  subst h
  rw [← pre_one t i c]
  exact Tryz.strings_HasPrefix _ _ _
theorem hasTwo_any (t : ByteArray) (i : Nat) (c : UInt8) (b : Bool) (h : decide (i + 1 < t.size ∧ wd (nums t) i = (c.toNat : Int) ∧ wd (nums t) (i + 1) = (c.toNat : Int)) = b) (w : World) :
    Calls Tryz.prog 57 #[.string (t.extract i t.size), .string ⟨#[c, c]⟩] w fun e w' => e = .returned (.bool b) ∧ w' = w := by
  subst h
  rw [← pre_two t i c]
  exact Tryz.strings_HasPrefix _ _ _

/-- Behind all that lies between. -/
def GapAns (T : List Int) (i : Nat) (e : Ending) : Prop := ∃ k : Nat, e = .returned (.int .i64 k) ∧ Gap T i k ∧ Bare T k

set_option maxHeartbeats 2000000 in
theorem pastGap_any (t : ByteArray) (i : Nat) (w : World) (hi : i ≤ t.size) (hl : t.size ≤ 4000) :
    Calls Tryz.prog 30 #[.string t, .int .i64 i] w fun e w' => GapAns (nums t) i e ∧ Below w.heap.size w w' := by
  have HL : Hid ((nums t).length = t.size) := nums_length t
  have HG : Hid (Gap (nums t) i (stopP blankB (nums t) i)) := gap_blanks (by rw [nums_length]; exact hi)
  have HN : Hid (stopP blankB (nums t) i < (nums t).length → blankB (wd (nums t) (stopP blankB (nums t) i)) = false) := fun h => stop_not _ i (Nat.le_refl _) h
  have hk0 : stopP blankB (nums t) i ≤ t.size := by have := HG.out.2.1; rw [HL.out] at this; exact this
  go_enter Tryz.func30, Tryz.ntmps30
  go_wp2_with (first | (go_at_call 56; refine (oneOf_any _ _).mono ?_; rintro e w1 ⟨rfl, hH, hb1⟩) | (go_at_call 55; refine (past_any _ _ blankB _ (asks_blank _) t i _ hH hi hl).mono ?_; rintro e w2 ⟨rfl, hb2⟩))
  have hB2 : Below w.heap.size w w2 := hb1.trans (hb2.mono hb1.size)
  clear hH hb1 hb2
  generalize stopP blankB (nums t) i = k0 at *
  go_loopw [1] (fun s1 wr => ∃ (k : Nat), s1 = .int .i64 k ∧ k ≤ t.size ∧ Hid (Gap (nums t) i k) ∧ Hid (k < (nums t).length → blankB (wd (nums t) k) = false) ∧ Below w.heap.size w wr) (fun s1 _ => t.size - (intOf s1).toNat)
  case atStart => exact ⟨k0, rfl, hk0, HG, HN, hB2⟩
  case round =>
    clear HG HN hB2 hk0
    obtain ⟨k, rfl, hk, HG, HN, hB⟩ := hrel
    have hik : (k : Int) ≤ (t.size : Int) := by omega
    by_cases h35 : k < t.size ∧ wd (nums t) k = 35
    · have hp : ∀ w, Calls Tryz.prog 57 #[.string (t.extract k t.size), .string ⟨#[35]⟩] w fun e w' => e = .returned (.bool true) ∧ w' = w :=
        hasOne_any t k 35 true (by rw [h35.2, decide_eq_true h35.1]; rfl)
      have HX : Hid (Gap (nums t) i (stopP blankB (nums t) (stopP noteB (nums t) k))) := (HG.out.trans (gap_note (by rw [HL.out]; exact h35.1) h35.2)).trans (gap_blanks (stop_le (by rw [HL.out]; exact hk)))
      have hk1 : stopP noteB (nums t) k ≤ t.size := by rw [← HL.out]; exact stop_le (by rw [HL.out]; exact hk)
      have hk2 : stopP blankB (nums t) (stopP noteB (nums t) k) ≤ t.size := by have := HX.out.2.1; rw [HL.out] at this; exact this
      have hkm : k < stopP blankB (nums t) (stopP noteB (nums t) k) := Nat.lt_of_lt_of_le (note_more (by rw [HL.out]; exact h35.1) h35.2) (stop_ge _ _ _)
      have HY : Hid (stopP blankB (nums t) (stopP noteB (nums t) k) < (nums t).length → blankB (wd (nums t) (stopP blankB (nums t) (stopP noteB (nums t) k))) = false) := fun h => stop_not _ _ (Nat.le_refl _) h
      have hlt := h35.1
      clear h35 HG HN
      go_wp2_with (first | (go_at_call 57; refine (hp _).mono ?_; rintro e w' ⟨rfl, hw⟩; rw [hw]; clear hw w') | (go_at_call 58; refine (noneOf_any _ _).mono ?_; rintro e w1 ⟨rfl, hH, hb1⟩) | (go_at_call 55; refine (past_any _ _ noteB _ (asks_note _) t k _ hH hk hl).mono ?_; rintro e w2 ⟨rfl, hb2⟩))
      have hB2 : Below w.heap.size w w2 := hB.trans ((hb1.trans (hb2.mono hb1.size)).mono hB.size)
      clear hH hb1 hb2
      go_wp2_with (first | (go_at_call 56; refine (oneOf_any _ _).mono ?_; rintro e w3 ⟨rfl, hH, hb3⟩) | (go_at_call 55; refine (past_any _ _ blankB _ (asks_blank _) t _ _ hH hk1 hl).mono ?_; rintro e w4 ⟨rfl, hb4⟩))
      have hB4 : Below w.heap.size w w4 := hB2.trans ((hb3.trans (hb4.mono hb3.size)).mono hB2.size)
      generalize stopP blankB (nums t) (stopP noteB (nums t) k) = k2 at *
      go_roundw
      case rel => exact ⟨k2, rfl, hk2, HX, HY, hB4⟩
      case measure => simp [intOf]; omega
    · have hp : ∀ w, Calls Tryz.prog 57 #[.string (t.extract k t.size), .string ⟨#[35]⟩] w fun e w' => e = .returned (.bool false) ∧ w' = w := by
        refine hasOne_any t k 35 false ?_
        by_cases hx : k < t.size
        · have : ¬ wd (nums t) k = 35 := fun e => h35 ⟨hx, e⟩
          rw [decide_eq_true hx, Bool.true_and]
          exact beq_eq_false_iff_ne.2 this
        · rw [decide_eq_false hx]; rfl
      have HZ : Hid (Bare (nums t) k) := fun h => ⟨HN.out h, fun e => h35 ⟨by rw [← HL.out]; exact h, e⟩⟩
      clear h35 HN
      go_wp2_with (first | (go_at_call 57; refine (hp _).mono ?_; rintro e w' ⟨rfl, hw⟩; rw [hw]; clear hw w'))
      go_ret
      exact ⟨⟨k, rfl, HG.out, HZ.out⟩, hB⟩
end Go.Proofs.YtkppdndbfedijadGreatDoor

/- package lex: which kind of token a name is. -/
namespace Go.Proofs.YtkppdndbfedijadGreatDoor
open Go.RowKit

/-- The words, as bytes. -/
def wordsU : List (List UInt8) := [[99, 108, 97, 115, 115], [116, 111], [115, 108, 111, 116], [109, 97, 105, 110], [118, 97, 114], [105, 102], [101, 108, 115, 101], [119, 104, 105, 108, 101], [114, 101, 116, 117, 114, 110], [112, 114, 105, 110, 116], [102, 111, 114, 107], [119, 97, 105, 116], [115, 105, 103, 110, 97, 108], [115, 119, 97, 112], [110, 101, 119], [103, 97, 116, 101], [110, 105, 108], [115, 101, 108, 102]]
theorem words_map : wordsL = wordsU.map fun u => u.map fun x => (x.toNat : Int) := by decide
theorem toNat_inj : ∀ {u v : List UInt8}, (u.map fun x => (x.toNat : Int)) = (v.map fun x => (x.toNat : Int)) → u = v
  | [], [], _ => rfl
  | a :: u, b :: v, h => by
    simp only [List.map_cons, List.cons.injEq] at h
    rw [toNat_inj h.2, UInt8.toNat_inj.1 (show a.toNat = b.toNat by omega)]
theorem word_u (s : ByteArray) : wordB (nums s) = wordsU.any fun u => s.toList == u := by
  rw [Bool.eq_iff_iff, List.any_eq_true]
  unfold wordB
  rw [List.contains_iff_mem, words_map, List.mem_map]
  constructor
  · rintro ⟨u, hu, e⟩
    refine ⟨u, hu, ?_⟩
    rw [ByteArray.toList_eq, beq_iff_eq]
    exact (toNat_inj e).symm
  · rintro ⟨u, hu, e⟩
    rw [ByteArray.toList_eq, beq_iff_eq] at e
    exact ⟨u, hu, by rw [← e]; rfl⟩

set_option maxHeartbeats 4000000 in
theorem nameKind_any (s : ByteArray) (k : Int) (w : World) (HK : Hid (k = if wordB (nums s) = true then 3 else 1)) :
    Calls Tryz.prog 61 #[.string s] w fun e w' => e = .returned (.int .i64 k) ∧ w' = w := by
  go_enter Tryz.func61, Tryz.ntmps61
  go_wp2
  all_goals first
    | (exfalso; simp_all; done)
    | (go_ret; refine ⟨?_, rfl⟩; rw [HK.out, word_u]; simp [wordsU, *]; done)
end Go.Proofs.YtkppdndbfedijadGreatDoor

/- package lex: what is wrong with a decimal. -/
namespace Go.Proofs.YtkppdndbfedijadGreatDoor
open Go.RowKit

/-- The library's variable holds an error. -/
def Errs (w : World) : Prop := 2 < w.heap.size ∧ ∃ te pe, w.cell? ⟨2, 0, none⟩ = some (.iface te pe)
theorem Errs.lasts {w w' : World} (h : Errs w) (hb : Below w.heap.size w w') : Errs w' := by
  obtain ⟨h1, te, pe, h2⟩ := h
  exact ⟨by have := hb.size; omega, te, pe, by rw [hb.cell (p := ⟨2, 0, none⟩) h1]; exact h2⟩
/-- Atoi of digits: their value, or an error where there are too many. -/
def AtoiAns (V : Int) (w : World) (e : Ending) (w' : World) : Prop :=
  Below w.heap.size w w' ∧ ((V ≤ 9223372036854775807 ∧ e = .returned (.tuple #[.int .i64 V, .nilIface])) ∨ (9223372036854775807 < V ∧ ∃ N, e = .returned (.tuple #[.int .i64 9223372036854775807, .iface 159 (.pointer (some ⟨N, 0, none⟩))])))
theorem atoi_any (s : ByteArray) (h0 : 0 < s.size) (hs : s.size ≤ 4000) (hd : ∀ j, j < s.size → digB (wd (nums s) j) = true) (w : World) (he : Errs w) :
    Calls Tryz.prog 98 #[.string s] w fun e w' => AtoiAns (decU (nums s) 0 s.size) w e w' := by
  rcases atoi_digs h0 hd with ⟨h1, h2⟩ | ⟨h1, h2⟩
  · refine (Tryz.strconv_Atoi_ok s (by omega) _ h2 w).mono ?_
    rintro e w' ⟨rfl, hw⟩
    refine ⟨?_, Or.inl ⟨h1, rfl⟩⟩
    rcases hw with rfl | ⟨t, rfl⟩
    · exact Below.refl _ _
    · exact Lib.bytesWorld_below _ _ _
  · obtain ⟨_, te, pe, hc⟩ := he
    refine (Tryz.strconv_Atoi_range s (by omega) h2 _ w hc (Or.inr ⟨te, pe, rfl⟩)).mono ?_
    rintro e w' ⟨N, rfl, _, _, hb⟩
    refine ⟨hb, Or.inr ⟨h1, N, ?_⟩⟩
    have : Lib.atoiSat s.data.toList = 9223372036854775807 := by
      cases hs' : s.data.toList with
      | nil =>
        have : s.data.toList.length = s.size := by rw [Array.length_toList]; rfl
        rw [hs'] at this; simp at this; omega
      | cons c r =>
        refine Lib.atoiSat_other c r ?_
        have h3 := hd 0 h0
        have e : wd (nums s) 0 = (c.toNat : Int) := by unfold nums; rw [hs']; rfl
        rw [e] at h3
        unfold digB at h3
        have := of_decide_eq_true h3
        omega
    rw [this]

theorem asks_let (b : Nat) : Asks 93 #[.pointer (some ⟨b, 0, none⟩)] letB (HoldsT b ⟨#[97, 98, 99, 100, 101, 102, 103, 104, 105, 106, 107, 108, 109, 110, 111, 112, 113, 114, 115, 116, 117, 118, 119, 120, 121, 122, 65, 66, 67, 68, 69, 70, 71, 72, 73, 74, 75, 76, 77, 78, 79, 80, 81, 82, 83, 84, 85, 86, 87, 88, 89, 90, 95]⟩) := asks_one b fun hc => tells_let hc
set_option maxHeartbeats 4000000 in
theorem decimal_any (s u : ByteArray) (h0 : 0 < s.size) (hs : s.size ≤ 4000) (hu : u.size ≤ 4000) (hd : ∀ j, j < s.size → digB (wd (nums s) j) = true) (w : World) (he : Errs w) (r : Int)
    (HR : Hid (r = if (decide (1073741823 < decU (nums s) 0 s.size) || (decide (1 < s.size) && wd (nums s) 0 == 48) || decide (0 < stopP letB (nums u) 0)) = true then 2 else 0)) :
    Calls Tryz.prog 62 #[.string s, .string u] w fun e w' => e = .returned (.int .i64 r) ∧ Below w.heap.size w w' := by
  have hA := atoi_any s h0 hs hd w he
  have hi0 : (0 : Int) < (s.size : Int) := by omega
  have hcc := nums_at h0
  have hby := wd_byte (nums_byte s) 0
  have hn : stopP letB (nums u) 0 ≤ u.size := by rw [← nums_length]; exact stop_le (Nat.zero_le _)
  generalize wd (nums s) 0 = x at *
  have hV : Hid (0 ≤ decU (nums s) 0 s.size) := decU_pos _ fun j hj => by rw [Nat.zero_add]; exact hd j hj
  generalize decU (nums s) 0 s.size = V at *
  have hP : ∀ (b : Nat) (w : World), HoldsT b ⟨#[97, 98, 99, 100, 101, 102, 103, 104, 105, 106, 107, 108, 109, 110, 111, 112, 113, 114, 115, 116, 117, 118, 119, 120, 121, 122, 65, 66, 67, 68, 69, 70, 71, 72, 73, 74, 75, 76, 77, 78, 79, 80, 81, 82, 83, 84, 85, 86, 87, 88, 89, 90, 95]⟩ w → Calls Tryz.prog 55 #[.string u, .int .i64 0, .func (.func 93) #[] #[.pointer (some ⟨b, 0, none⟩)]] w fun e w' => e = .returned (.int .i64 (stopP letB (nums u) 0 : Nat)) ∧ Below w.heap.size w w' :=
    fun b w hH => past_any _ _ letB _ (asks_let b) u 0 w hH (Nat.zero_le _) hu
  generalize stopP letB (nums u) 0 = n at *
  have H2 : Hid ((1073741823 < V ∨ (1 < s.size ∧ x = 48) ∨ 0 < n) → r = 2) := fun h => by
    rw [HR.out, if_pos]
    simp only [Bool.or_eq_true, Bool.and_eq_true, decide_eq_true_eq, beq_iff_eq]
    omega
  have H0 : Hid (¬ (1073741823 < V ∨ (1 < s.size ∧ x = 48) ∨ 0 < n) → r = 0) := fun h => by
    rw [HR.out, if_neg]
    simp only [Bool.or_eq_true, Bool.and_eq_true, decide_eq_true_eq, beq_iff_eq]
    omega
  clear hd HR
  by_cases hV1 : V ≤ 9223372036854775807
  · have hA1 : Calls Tryz.prog 98 #[.string s] w fun e w' => e = .returned (.tuple #[.int .i64 V, .nilIface]) ∧ Below w.heap.size w w' := hA.mono fun e w' ⟨hb, hE⟩ => by
      rcases hE with ⟨_, h⟩ | ⟨h, _⟩
      · exact ⟨h, hb⟩
      · omega
    clear hA
    have hv0 := hV.out
    go_enter Tryz.func62, Tryz.ntmps62
    go_wp2_with (first | (go_at_call 98; refine hA1.mono ?_; rintro e w1 ⟨rfl, hb1⟩) | (go_at_call 56; refine (oneOf_any _ _).mono ?_; rintro e w2 ⟨rfl, hH, hb2⟩) | (go_at_call 55; refine (hP _ _ hH).mono ?_; rintro e w3 ⟨rfl, hb3⟩))
    all_goals
      go_ret
      refine ⟨?_, hb1.trans ((hb2.trans (hb3.mono hb2.size)).mono hb1.size)⟩
      try simp only [beq_iff_eq, beq_eq_false_iff_ne, ne_eq] at *
      first
        | (rw [H2.out (by omega)]; rfl)
        | (rw [H0.out (by omega)]; rfl)
  · have hA1 : Calls Tryz.prog 98 #[.string s] w fun e w' => ∃ N, e = .returned (.tuple #[.int .i64 9223372036854775807, .iface 159 (.pointer (some ⟨N, 0, none⟩))]) ∧ Below w.heap.size w w' := hA.mono fun e w' ⟨hb, hE⟩ => by
      rcases hE with ⟨h, _⟩ | ⟨_, N, h⟩
      · omega
      · exact ⟨N, h, hb⟩
    clear hA
    go_enter Tryz.func62, Tryz.ntmps62
    go_wp2_with (first | (go_at_call 98; refine hA1.mono ?_; rintro e w1 ⟨N, rfl, hb1⟩) | (go_at_call 56; refine (oneOf_any _ _).mono ?_; rintro e w2 ⟨rfl, hH, hb2⟩) | (go_at_call 55; refine (hP _ _ hH).mono ?_; rintro e w3 ⟨rfl, hb3⟩))
    all_goals
      go_ret
      refine ⟨?_, hb1.trans ((hb2.trans (hb3.mono hb2.size)).mono hb1.size)⟩
      first
        | (rw [H2.out (by omega)]; rfl)
        | (rw [H0.out (by omega)]; rfl)
end Go.Proofs.YtkppdndbfedijadGreatDoor
