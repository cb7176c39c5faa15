/- What chapter 6 says of images, as plain functions on lists of numbers: numbers as bytes, lists of them, heaps and roots; what is written is read, what is read is written. No Go in sight. -/
import Derived.Test.YtdacgjjkgagjhacHeapPlain
namespace Go.Proofs.Ytdacgjjkgagjhac

/-! Numbers as bytes. -/
/-- 2n, or -2n - 1 if n is below 0. -/
def zig (n : Int) : Nat := if n < 0 then (-2 * n - 1).toNat else (2 * n).toNat
/-- Back. -/
def unzig (u : Nat) : Int := if u % 2 = 1 then -((u / 2 : Nat) : Int) - 1 else ((u / 2 : Nat) : Int)
theorem unzig_zig (n : Int) : unzig (zig n) = n := by
  unfold unzig zig
  by_cases h : n < 0
  · rw [if_pos h, if_pos (by omega)]; omega
  · rw [if_neg h, if_neg (by omega)]; omega
theorem zig_unzig (u : Nat) : zig (unzig u) = u := by
  unfold unzig zig
  by_cases h : u % 2 = 1
  · rw [if_pos h, if_pos (by omega)]; omega
  · rw [if_neg h, if_neg (by omega)]; omega
/-- In groups of seven bits. -/
def enc (u : Nat) : List Int := if h : u < 128 then [(u : Int)] else ((u % 128 + 128 : Nat) : Int) :: enc (u / 128)
  termination_by u
  decreasing_by omega
theorem enc_low {u : Nat} (h : u < 128) : enc u = [(u : Int)] := by rw [enc, dif_pos h]
theorem enc_high {u : Nat} (h : ¬ u < 128) : enc u = ((u % 128 + 128 : Nat) : Int) :: enc (u / 128) := by rw [enc, dif_neg h]
theorem enc_pos (u : Nat) : 0 < (enc u).length := by
  by_cases h : u < 128
  · rw [enc_low h]; simp
  · rw [enc_high h]; simp
theorem enc_bytes (u : Nat) : ∀ c ∈ enc u, 0 ≤ c ∧ c ≤ 255 := by
  induction u using Nat.strongRecOn with
  | ind u ih =>
    by_cases h : u < 128
    · rw [enc_low h]; intro c hc; rw [List.mem_singleton] at hc; omega
    · rw [enc_high h]; intro c hc
      rcases List.mem_cons.1 hc with rfl | hc
      · omega
      · exact ih (u / 128) (by omega) c hc
theorem enc_short : ∀ (f u : Nat), u < 128 ^ f → 0 < f → (enc u).length ≤ f
  | 0, _, _, h => by omega
  | f + 1, u, h, _ => by
    by_cases hu : u < 128
    · rw [enc_low hu]; simp
    · rw [enc_high hu]
      have h1 : u / 128 < 128 ^ f := by rw [Nat.div_lt_iff_lt_mul (by omega), ← Nat.pow_succ]; exact h
      have h0 : 0 < f := by
        by_cases h0 : f = 0
        · subst h0; simp at h1; omega
        · omega
      have := enc_short f (u / 128) h1 h0
      simp; omega
/-- What bytes from a place on are as a number. -/
inductive Dec
  | short
  | form
  | num (u k : Nat)
/-- Fuel; how many bytes were read; what they say. -/
def decN (b : List Int) (p : Nat) : Nat → Nat → Nat → Dec
  | 0, k, _ => if b.length ≤ p + k then .short else .form
  | f + 1, k, u => if b.length ≤ p + k then .short else
      if wd b (p + k) = 0 ∧ 0 < k then .form else
      if wd b (p + k) < 128 then .num (u + (wd b (p + k)).toNat * 128 ^ k) (k + 1)
      else decN b p f (k + 1) (u + (wd b (p + k)).toNat % 128 * 128 ^ k)
theorem dec_end {b : List Int} {p f k u : Nat} (h : b.length ≤ p + k) : decN b p f k u = .short := by
  cases f <;> (unfold decN; rw [if_pos h])
theorem dec_ten {b : List Int} {p k u : Nat} (h : ¬ b.length ≤ p + k) : decN b p 0 k u = .form := by unfold decN; rw [if_neg h]
theorem dec_zero {b : List Int} {p f k u : Nat} (h : ¬ b.length ≤ p + k) (h0 : wd b (p + k) = 0 ∧ 0 < k) : decN b p (f + 1) k u = .form := by
  unfold decN; rw [if_neg h, if_pos h0]
theorem dec_last {b : List Int} {p f k u : Nat} (h : ¬ b.length ≤ p + k) (h0 : ¬ (wd b (p + k) = 0 ∧ 0 < k)) (h1 : wd b (p + k) < 128) : decN b p (f + 1) k u = .num (u + (wd b (p + k)).toNat * 128 ^ k) (k + 1) := by
  conv => lhs; unfold decN
  rw [if_neg h, if_neg h0, if_pos h1]
theorem dec_more {b : List Int} {p f k u : Nat} (h : ¬ b.length ≤ p + k) (h0 : ¬ (wd b (p + k) = 0 ∧ 0 < k)) (h1 : ¬ wd b (p + k) < 128) : decN b p (f + 1) k u = decN b p f (k + 1) (u + (wd b (p + k)).toNat % 128 * 128 ^ k) := by
  conv => lhs; unfold decN
  rw [if_neg h, if_neg h0, if_neg h1]
theorem wd_at {pre post : List Int} {c : Int} {n : Nat} (h : pre.length = n) : wd (pre ++ c :: post) n = c := by
  unfold wd; rw [List.getD_eq_getElem?_getD, List.getElem?_append_right (by omega)]; simp [h]
theorem group (u m : Nat) : u % 128 * m + u / 128 * (m * 128) = u * m := by
  have h := Nat.mod_add_div u 128
  calc u % 128 * m + u / 128 * (m * 128) = (u % 128 + 128 * (u / 128)) * m := by rw [Nat.add_mul, Nat.mul_comm m 128, ← Nat.mul_assoc, Nat.mul_comm (u / 128) 128]
    _ = u * m := by rw [h]
/-- What is written is read. -/
theorem dec_enc {p : Nat} {post : List Int} : ∀ (f u k acc : Nat) (pre : List Int), u < 128 ^ f → 0 < f → pre.length = p + k → (0 < k → 0 < u) → decN (pre ++ enc u ++ post) p f k acc = .num (acc + u * 128 ^ k) (k + (enc u).length)
  | 0, _, _, _, _, _, h, _, _ => by omega
  | f + 1, u, k, acc, pre, hu, _, hp, h0 => by
    by_cases hlow : u < 128
    · rw [enc_low hlow, List.append_assoc]
      have hw : wd (pre ++ ([(u : Int)] ++ post)) (p + k) = (u : Int) := wd_at hp
      rw [dec_last (by simp; omega) (by rw [hw]; rintro ⟨e, hk⟩; have := h0 hk; omega) (by rw [hw]; omega), hw]
      rfl
    · rw [enc_high hlow, List.append_assoc]
      have hw : wd (pre ++ (((u % 128 + 128 : Nat) : Int) :: enc (u / 128) ++ post)) (p + k) = ((u % 128 + 128 : Nat) : Int) := wd_at hp
      have h1 : u / 128 < 128 ^ f := by rw [Nat.div_lt_iff_lt_mul (by omega), ← Nat.pow_succ]; exact hu
      have hf : 0 < f := by
        by_cases h0 : f = 0
        · subst h0; simp at h1; omega
        · omega
      have ih := dec_enc (p := p) (post := post) f (u / 128) (k + 1) (acc + u % 128 * 128 ^ k) (pre ++ [((u % 128 + 128 : Nat) : Int)]) h1 hf (by simp; omega) (fun _ => by omega)
      rw [dec_more (by simp; omega) (fun h => by rw [hw] at h; omega) (fun h => by rw [hw] at h; omega), hw]
      have e1 : ((u % 128 + 128 : Nat) : Int).toNat % 128 = u % 128 := by rw [Int.toNat_natCast]; omega
      rw [e1]
      have e2 : pre ++ (((u % 128 + 128 : Nat) : Int) :: enc (u / 128) ++ post) = pre ++ [((u % 128 + 128 : Nat) : Int)] ++ enc (u / 128) ++ post := by simp
      rw [e2, ih, Nat.add_assoc, Nat.pow_succ, group]
      congr 1
      simp; omega
/-- What is read is written. -/
theorem enc_dec {b : List Int} (hb : ∀ c ∈ b, 0 ≤ c ∧ c ≤ 255) {p : Nat} : ∀ (f k acc v n : Nat), decN b p f k acc = .num v n → ∃ u, v = acc + u * 128 ^ k ∧ n = k + (enc u).length ∧ u < 128 ^ f ∧ (b.drop (p + k)).take (enc u).length = enc u ∧ p + n ≤ b.length ∧ (0 < k → 0 < u)
  | 0, k, acc, v, n, h => by
    unfold decN at h
    split at h <;> cases h
  | f + 1, k, acc, v, n, h => by
    by_cases hl : b.length ≤ p + k
    · rw [dec_end hl] at h; cases h
    have hlt : p + k < b.length := by omega
    have hmem : wd b (p + k) ∈ b := by unfold wd; rw [List.getD_eq_getElem?_getD, List.getElem?_eq_getElem hlt]; exact List.getElem_mem hlt
    have hd : b.drop (p + k) = wd b (p + k) :: b.drop (p + (k + 1)) := by
      rw [List.drop_eq_getElem_cons hlt]; congr 1
      unfold wd; rw [List.getD_eq_getElem?_getD, List.getElem?_eq_getElem hlt]; rfl
    obtain ⟨c0, c1⟩ := hb _ hmem
    by_cases h0 : wd b (p + k) = 0 ∧ 0 < k
    · rw [dec_zero hl h0] at h; cases h
    by_cases h1 : wd b (p + k) < 128
    · rw [dec_last hl h0 h1] at h
      injection h with e1 e2
      refine ⟨(wd b (p + k)).toNat, e1.symm, ?_, ?_, ?_, ?_, fun hk => ?_⟩
      · rw [enc_low (by omega)]; simp; omega
      · have : (128 : Nat) ≤ 128 ^ (f + 1) := by rw [Nat.pow_succ]; exact Nat.le_mul_of_pos_left _ (Nat.pos_of_ne_zero (by simp))
        omega
      · rw [enc_low (by omega), hd]; simp; omega
      · omega
      · have : wd b (p + k) ≠ 0 := fun e => h0 ⟨e, hk⟩
        omega
    · rw [dec_more hl h0 h1] at h
      obtain ⟨u, e1, e2, e3, e4, e5, e6⟩ := enc_dec hb f (k + 1) _ v n h
      have hu := e6 (by omega)
      have hc : (wd b (p + k)).toNat % 128 + 128 = (wd b (p + k)).toNat := by omega
      have hm : ((wd b (p + k)).toNat % 128 + 128 * u) % 128 = (wd b (p + k)).toNat % 128 := by omega
      have hq : ((wd b (p + k)).toNat % 128 + 128 * u) / 128 = u := by omega
      have henc : enc ((wd b (p + k)).toNat % 128 + 128 * u) = wd b (p + k) :: enc u := by
        rw [enc_high (by omega), hm, hq, hc]
        congr 1; omega
      refine ⟨(wd b (p + k)).toNat % 128 + 128 * u, ?_, ?_, ?_, ?_, e5, fun _ => by omega⟩
      · rw [e1, Nat.add_assoc, Nat.pow_succ, Nat.add_mul, Nat.mul_comm (128 ^ k) 128, ← Nat.mul_assoc, Nat.mul_comm u 128]
      · rw [e2, henc]; simp; omega
      · have h5 : u + 1 ≤ 128 ^ f := e3
        have h6 := Nat.mul_le_mul_left 128 h5
        rw [Nat.pow_succ, Nat.mul_comm (128 ^ f)]
        omega
      · rw [henc, hd]
        simp only [List.length_cons, List.take_succ_cons]
        rw [e4]

/-! Images. -/
def numB (n : Int) : List Int := enc (zig n)
def listB (l : List Int) : List Int := numB l.length ++ l.flatMap numB
/-- The bytes of a heap and roots. -/
def imageB (W R : List Int) : List Int := 71 :: 69 :: (listB W ++ listB R)
/-- What is at a place: a number and the byte behind it, or a fault. -/
def numAt (b : List Int) (p : Nat) : Except (Int × Int) (Int × Nat) :=
  match decN b p 9 0 0 with
  | .short => .error (8, (b.length : Int))
  | .form => .error (2, (p : Int))
  | .num u k => .ok (unzig u, p + k)
/-- So many numbers. -/
def numsAt (b : List Int) : Nat → Nat → Except (Int × Int) (List Int × Nat)
  | 0, p => .ok ([], p)
  | n + 1, p => match numAt b p with
    | .error e => .error e
    | .ok (x, q) => match numsAt b n q with
      | .error e => .error e
      | .ok (l, r) => .ok (x :: l, r)
/-- A list: how many, then those. -/
def listAt (b : List Int) (p : Nat) (least most : Int) : Except (Int × Int) (List Int × Nat) :=
  match numAt b p with
  | .error e => .error e
  | .ok (n, q) => if n < least ∨ most < n then .error (1, (p : Int)) else numsAt b n.toNat q
/-- Numbers that nine bytes can say. -/
def fitN (n : Int) : Prop := zig n < 128 ^ 9
theorem numAt_enc {pre post : List Int} {n : Int} (h : fitN n) : numAt (pre ++ numB n ++ post) pre.length = .ok (n, pre.length + (numB n).length) := by
  unfold numAt numB
  rw [dec_enc (p := pre.length) 9 (zig n) 0 0 pre h (by omega) rfl (fun h => by omega)]
  simp [unzig_zig]
theorem numAt_out {b : List Int} (hb : ∀ c ∈ b, 0 ≤ c ∧ c ≤ 255) {p q : Nat} {n : Int} (h : numAt b p = .ok (n, q)) : (b.drop p).take (q - p) = numB n ∧ p ≤ q ∧ q ≤ b.length ∧ fitN n := by
  unfold numAt at h
  cases hd : decN b p 9 0 0 with
  | short => rw [hd] at h; cases h
  | form => rw [hd] at h; cases h
  | num v k =>
    rw [hd] at h
    obtain ⟨u, e1, e2, e3, e4, e5, _⟩ := enc_dec hb 9 0 0 v k hd
    simp only [Except.ok.injEq, Prod.mk.injEq] at h
    obtain ⟨rfl, rfl⟩ := h
    have hv : v = u := by rw [e1]; simp
    subst hv
    unfold numB fitN
    rw [zig_unzig]
    rw [Nat.add_zero] at e4
    rw [Nat.zero_add] at e2
    refine ⟨?_, by omega, e5, e3⟩
    rw [show p + k - p = (enc v).length by omega]; exact e4
theorem numsAt_enc : ∀ (l pre post : List Int), (∀ x ∈ l, fitN x) → numsAt (pre ++ l.flatMap numB ++ post) l.length pre.length = .ok (l, pre.length + (l.flatMap numB).length)
  | [], pre, post, _ => by simp [numsAt]
  | x :: l, pre, post, h => by
    have h1 := numAt_enc (pre := pre) (post := l.flatMap numB ++ post) (h x (List.mem_cons_self ..))
    have h2 := numsAt_enc l (pre ++ numB x) post fun y hy => h y (List.mem_cons_of_mem _ hy)
    have e : pre ++ (x :: l).flatMap numB ++ post = pre ++ numB x ++ (l.flatMap numB ++ post) := by simp
    rw [List.length_cons, numsAt, e, h1]
    simp only
    rw [show pre ++ numB x ++ (l.flatMap numB ++ post) = pre ++ numB x ++ l.flatMap numB ++ post by simp, ← List.length_append, h2]
    simp; omega
theorem numsAt_out {b : List Int} (hb : ∀ c ∈ b, 0 ≤ c ∧ c ≤ 255) : ∀ (n p : Nat) (l : List Int) (q : Nat), p ≤ b.length → numsAt b n p = .ok (l, q) → l.length = n ∧ (b.drop p).take (q - p) = l.flatMap numB ∧ p ≤ q ∧ q ≤ b.length ∧ ∀ x ∈ l, fitN x
  | 0, p, l, q, hp, h => by
    simp only [numsAt, Except.ok.injEq, Prod.mk.injEq] at h
    obtain ⟨rfl, rfl⟩ := h
    simp; exact hp
  | n + 1, p, l, q, hp, h => by
    rw [numsAt] at h
    cases h1 : numAt b p with
    | error e => rw [h1] at h; cases h
    | ok xq =>
      obtain ⟨x, r⟩ := xq
      rw [h1] at h
      simp only at h
      obtain ⟨a1, a2, a3, a4⟩ := numAt_out hb h1
      cases h2 : numsAt b n r with
      | error e => rw [h2] at h; cases h
      | ok lr =>
        obtain ⟨l', r'⟩ := lr
        rw [h2] at h
        simp only [Except.ok.injEq, Prod.mk.injEq] at h
        obtain ⟨rfl, rfl⟩ := h
        obtain ⟨b1, b2, b3, b4, b5⟩ := numsAt_out hb n r l' r' a3 h2
        refine ⟨by simp [b1], ?_, by omega, b4, fun y hy => ?_⟩
        · rw [List.flatMap_cons, ← a1, ← b2]
          have : b.drop r = (b.drop p).drop (r - p) := by rw [List.drop_drop]; congr 1; omega
          rw [this, show r' - p = (r - p) + (r' - r) by omega, List.take_add]
        · rcases List.mem_cons.1 hy with rfl | hy
          · exact a4
          · exact b5 y hy
theorem listAt_enc {pre post l : List Int} {least most : Int} (h : ∀ x ∈ l, fitN x) (hn : fitN l.length) (h1 : least ≤ l.length) (h2 : (l.length : Int) ≤ most) : listAt (pre ++ listB l ++ post) pre.length least most = .ok (l, pre.length + (listB l).length) := by
  have e1 := numAt_enc (pre := pre) (post := l.flatMap numB ++ post) hn
  have e2 := numsAt_enc l (pre ++ numB l.length) post h
  unfold listAt listB
  rw [show pre ++ (numB l.length ++ l.flatMap numB) ++ post = pre ++ numB l.length ++ (l.flatMap numB ++ post) by simp, e1]
  simp only
  rw [if_neg (by omega), Int.toNat_natCast, ← List.length_append, show pre ++ numB l.length ++ (l.flatMap numB ++ post) = pre ++ numB l.length ++ l.flatMap numB ++ post by simp, e2]
  simp; omega
theorem listAt_out {b : List Int} (hb : ∀ c ∈ b, 0 ≤ c ∧ c ≤ 255) {p q : Nat} {least most : Int} {l : List Int} (h0 : 0 ≤ least) (h : listAt b p least most = .ok (l, q)) : (b.drop p).take (q - p) = listB l ∧ p ≤ q ∧ q ≤ b.length ∧ (∀ x ∈ l, fitN x) ∧ least ≤ l.length ∧ (l.length : Int) ≤ most := by
  unfold listAt at h
  cases h1 : numAt b p with
  | error e => rw [h1] at h; cases h
  | ok nq =>
    obtain ⟨n, r⟩ := nq
    rw [h1] at h
    simp only at h
    by_cases hc : n < least ∨ most < n
    · rw [if_pos hc] at h; cases h
    · rw [if_neg hc] at h
      obtain ⟨a1, a2, a3, a4⟩ := numAt_out hb h1
      obtain ⟨b1, b2, b3, b4, b5⟩ := numsAt_out hb n.toNat r l q a3 h
      have hn : (l.length : Int) = n := by omega
      refine ⟨?_, by omega, b4, b5, by omega, by omega⟩
      unfold listB
      rw [hn, ← a1, ← b2]
      have : b.drop r = (b.drop p).drop (r - p) := by rw [List.drop_drop]; congr 1; omega
      rw [this, show q - p = (r - p) + (q - r) by omega, List.take_add]
/-- The least and the greatest that can stand in a word of a heap that may be, or be a root. -/
def Mild (x : Int) : Prop := -2147483647 ≤ x ∧ x ≤ 2147483647
theorem Mild.fit {x : Int} (h : Mild x) : fitN x := by
  unfold fitN zig
  obtain ⟨h1, h2⟩ := h
  have : (128 : Nat) ^ 9 = 9223372036854775808 := by decide
  rw [this]
  split <;> omega
theorem numB_short {x : Int} (h : Mild x) : (numB x).length ≤ 9 := enc_short 9 _ h.fit (by omega)
theorem listB_short {l : List Int} (h : ∀ x ∈ l, Mild x) (hn : Mild l.length) : (listB l).length ≤ 9 + 9 * l.length := by
  have : ∀ l : List Int, (∀ x ∈ l, Mild x) → (l.flatMap numB).length ≤ 9 * l.length := by
    intro l
    induction l with
    | nil => intro _; simp
    | cons x l ih =>
      intro h
      have h1 := numB_short (h x (List.mem_cons_self ..))
      have h2 := ih fun y hy => h y (List.mem_cons_of_mem _ hy)
      rw [List.flatMap_cons, List.length_append, List.length_cons]; omega
  have h1 := this l h
  have h2 := numB_short hn
  unfold listB
  rw [List.length_append]; omega
end Go.Proofs.Ytdacgjjkgagjhac
