/- Several texts in one. -/
import Derived.Test.YtkppdndbfedijadGreatDoorMa
/- Chapter 9, plain: what is printed of an expression that was read is read as it was. -/
namespace Go.Proofs.YtkppdndbfedijadGreatDoor

/-- From the i-th token on those tokens stand, at whatever bytes. -/
def Toks (S : Src9) (i : Nat) (l : List Tok) : Prop := i + l.length ≤ S.L.length ∧ ∀ j, j < l.length → (S.at (i + j)).1 = (l.getD j (0, [], 0)).1 ∧ (S.at (i + j)).2.1 = (l.getD j (0, [], 0)).2.1
theorem toks_app {S : Src9} {i : Nat} {a b : List Tok} (h : Toks S i (a ++ b)) : Toks S i a ∧ Toks S (i + a.length) b := by
  obtain ⟨h1, h2⟩ := h
  rw [List.length_append] at h1
  refine ⟨⟨by omega, fun j hj => ?_⟩, ⟨by omega, fun j hj => ?_⟩⟩
  · have := h2 j (by rw [List.length_append]; omega)
    rwa [List.getD_eq_getElem?_getD, List.getElem?_append_left hj, ← List.getD_eq_getElem?_getD] at this
  · have := h2 (a.length + j) (by rw [List.length_append]; omega)
    rw [List.getD_eq_getElem?_getD, List.getElem?_append_right (by omega), Nat.add_sub_cancel_left, ← List.getD_eq_getElem?_getD, ← Nat.add_assoc] at this
    exact this
theorem toks_one {S : Src9} {i : Nat} {t : Tok} (h : Toks S i [t]) : i < S.L.length ∧ (S.at i).1 = t.1 ∧ (S.at i).2.1 = t.2.1 := by
  obtain ⟨h1, h2⟩ := h
  have := h2 0 (by simp)
  simp at this h1
  exact ⟨by omega, this⟩
theorem putT_one (x : List Int) : (putT x).length = 1 := rfl
/-- The word or sign x is next. -/
theorem put_next {S : Src9} {s : PS} {x : List Int} (h : Toks S s.tok (putT x)) : s.tok < S.L.length ∧ ((S.at s.tok).1 = 3 ∨ (S.at s.tok).1 = 4) ∧ (S.at s.tok).2.1 = x := by
  obtain ⟨h1, h2, h3⟩ := toks_one h
  refine ⟨h1, ?_, h3⟩
  simp only at h2
  rw [h2]
  split
  · exact Or.inl rfl
  · exact Or.inr rfl
theorem put_sees {S : Src9} {s : PS} {x : List Int} (h : Toks S s.tok (putT x)) (y : List Int) : seesB S y s = (x == y) := by
  obtain ⟨h1, h2, h3⟩ := put_next h
  unfold seesB
  rw [h3, decide_eq_true h1]
  rcases h2 with h2 | h2 <;> rw [h2] <;> simp
theorem put_is {S : Src9} {s : PS} {x : List Int} (h : Toks S s.tok (putT x)) : isB S 1 s = false ∧ isB S 2 s = false := by
  obtain ⟨h1, h2, h3⟩ := put_next h
  unfold isB
  rcases h2 with h2 | h2 <;> rw [h2] <;> simp
/-- A token of another kind is next. -/
theorem kind_sees {S : Src9} {s : PS} {k : Int} {x : List Int} (h : Toks S s.tok [(k, x, 0)]) (hk : k = 1 ∨ k = 2) (y : List Int) : seesB S y s = false := by
  obtain ⟨h1, h2, h3⟩ := toks_one h
  unfold seesB
  simp only at h2
  rw [h2]
  rcases hk with rfl | rfl <;> simp
theorem kind_is {S : Src9} {s : PS} {k : Int} {x : List Int} (h : Toks S s.tok [(k, x, 0)]) (j : Int) : isB S j s = (k == j) ∧ (S.at s.tok).2.1 = x ∧ s.tok < S.L.length := by
  obtain ⟨h1, h2, h3⟩ := toks_one h
  unfold isB
  simp only at h2 h3
  rw [h2, decide_eq_true h1]
  exact ⟨by simp, h3, h1⟩
/-- Where one is behind those tokens, the node made of them. -/
def PS.past (s : PS) (l : List Tok) (m : Nat) : PS := ⟨s.tok + l.length, s.deep, s.many + (m : Int)⟩
theorem past_app (s : PS) (a b : List Tok) (m k : Nat) : (s.past a m).past b k = s.past (a ++ b) (m + k) := by
  unfold PS.past
  simp only [List.length_append, PS.mk.injEq]
  exact ⟨by omega, trivial, by push_cast; omega⟩
theorem step_past (s : PS) (x : List Int) : s.step = s.past (putT x) 0 := by
  unfold PS.step PS.past
  simp [putT]
theorem node_past (s : PS) (l : List Tok) (m : Nat) : (s.past l m).node = s.past l (m + 1) := by
  unfold PS.node PS.past
  simp only [PS.mk.injEq, true_and]
  push_cast; omega
theorem past_none (s : PS) : s.past [] 0 = s := by unfold PS.past; simp
/-- What can't go on at that level. -/
def Stop (k : Nat) (S : Src9) (s : PS) : Prop := (k ≤ 4 → seesB S sDot s = false) ∧ (k ≤ 2 → seesB S sTimes s = false) ∧ (k ≤ 1 → seesB S sPlus s = false ∧ seesB S sMinus s = false) ∧ (k ≤ 0 → seesB S sLess s = false ∧ seesB S sSame s = false)
theorem Stop.mono {k k' : Nat} {S : Src9} {s : PS} (h : Stop k S s) (hk : k ≤ k') : Stop k' S s := ⟨fun x => h.1 (by omega), fun x => h.2.1 (by omega), fun x => h.2.2.1 (by omega), fun x => h.2.2.2 (by omega)⟩
theorem stop_put {S : Src9} {s : PS} {x : List Int} {k : Nat} (h : Toks S s.tok (putT x)) (h1 : k ≤ 4 → x ≠ sDot) (h2 : k ≤ 2 → x ≠ sTimes) (h3 : k ≤ 1 → x ≠ sPlus ∧ x ≠ sMinus) (h4 : k ≤ 0 → x ≠ sLess ∧ x ≠ sSame) : Stop k S s :=
  ⟨fun hk => by rw [put_sees h]; exact beq_eq_false_iff_ne.2 (h1 hk), fun hk => by rw [put_sees h]; exact beq_eq_false_iff_ne.2 (h2 hk), fun hk => ⟨by rw [put_sees h]; exact beq_eq_false_iff_ne.2 (h3 hk).1, by rw [put_sees h]; exact beq_eq_false_iff_ne.2 (h3 hk).2⟩, fun hk => ⟨by rw [put_sees h]; exact beq_eq_false_iff_ne.2 (h4 hk).1, by rw [put_sees h]; exact beq_eq_false_iff_ne.2 (h4 hk).2⟩⟩
/-- What reads at that level. -/
def levelC (k : Nat) (S : Src9) (s : PS) : Got Nd := match k with
  | 0 => exprC S s
  | 1 => sumC S s
  | 2 => termC S s
  | 3 => unaryC S s
  | 4 => callC S s
  | _ => primC S s
/-- What goes on at that level. -/
def loopC (k : Nat) (S : Src9) (n : Nd) (s : PS) : Got Nd := match k with
  | 1 => sumLC S n s
  | 2 => termLC S n s
  | _ => callLC S n s
/-- The tokens l are read as n at that level, where it is no deeper than d. -/
def ReadsAt (k : Nat) (d : Int) (n : Nd) (l : List Tok) : Prop := ∀ (S : Src9) (s : PS), s.deep ≤ d → Toks S s.tok l → Stop k S (s.past l (sizeN n)) → levelC k S s = .ok (n, s.past l (sizeN n))
/-- The same, and one goes on behind them. -/
def GoesAt (k : Nat) (d : Int) (n : Nd) (l : List Tok) : Prop := ∀ (S : Src9) (s : PS), s.deep ≤ d → Toks S s.tok l → Stop (k + 1) S (s.past l (sizeN n)) → levelC k S s = loopC k S n (s.past l (sizeN n))
theorem reads_deep {k : Nat} {d d' : Int} {n : Nd} {l : List Tok} (h : ReadsAt k d n l) (hd : d' ≤ d) : ReadsAt k d' n l := fun S s hs => h S s (by omega)
theorem goes_deep {k : Nat} {d d' : Int} {n : Nd} {l : List Tok} (h : GoesAt k d n l) (hd : d' ≤ d) : GoesAt k d' n l := fun S s hs => h S s (by omega)
/-- It begins with no - and no !. -/
def Plain9 (l : List Tok) : Prop := ∀ (S : Src9) (s : PS), Toks S s.tok l → seesB S sMinus s = false ∧ seesB S sNot s = false
theorem goes_reads1 {d : Int} {n : Nd} {l : List Tok} (h : GoesAt 1 d n l) : ReadsAt 1 d n l := fun S s hs ht hp => by
  rw [h S s hs ht (hp.mono (by omega))]
  show sumLC S n _ = _
  rw [sumL_eq, if_neg (by rw [(hp.2.2.1 (by omega)).1]; decide), if_neg (by rw [(hp.2.2.1 (by omega)).2]; decide)]
theorem goes_reads2 {d : Int} {n : Nd} {l : List Tok} (h : GoesAt 2 d n l) : ReadsAt 2 d n l := fun S s hs ht hp => by
  rw [h S s hs ht (hp.mono (by omega))]
  show termLC S n _ = _
  rw [termL_eq, if_neg (by rw [hp.2.1 (by omega)]; decide)]
theorem goes_reads4 {d : Int} {n : Nd} {l : List Tok} (h : GoesAt 4 d n l) : ReadsAt 4 d n l := fun S s hs ht hp => by
  rw [h S s hs ht (hp.mono (by omega))]
  show callLC S n _ = _
  rw [callL_eq, if_neg (by rw [hp.1 (by omega)]; decide)]
theorem reads_goes4 {d : Int} {n : Nd} {l : List Tok} (h : ReadsAt 5 d n l) : GoesAt 4 d n l := fun S s hs ht hp => by
  show callC S s = _
  have e : primC S s = .ok (n, s.past l (sizeN n)) := h S s hs ht hp
  rw [call_eq, e]; rfl
theorem reads_goes2 {d : Int} {n : Nd} {l : List Tok} (h : ReadsAt 3 d n l) : GoesAt 2 d n l := fun S s hs ht hp => by
  show termC S s = _
  have e : unaryC S s = .ok (n, s.past l (sizeN n)) := h S s hs ht hp
  rw [term_eq, e]; rfl
theorem reads_goes1 {d : Int} {n : Nd} {l : List Tok} (h : ReadsAt 2 d n l) : GoesAt 1 d n l := fun S s hs ht hp => by
  show sumC S s = _
  have e : termC S s = .ok (n, s.past l (sizeN n)) := h S s hs ht hp
  rw [sum_eq, e]; rfl
theorem reads_4_3 {d : Int} {n : Nd} {l : List Tok} (h : ReadsAt 4 d n l) (hp : Plain9 l) : ReadsAt 3 d n l := fun S s hs ht hst => by
  show unaryC S s = _
  obtain ⟨p1, p2⟩ := hp S s ht
  rw [unary_eq, if_neg (by rw [p1]; decide), if_neg (by rw [p2]; decide)]
  exact h S s hs ht (hst.mono (by omega))
theorem reads_1_0 {d : Int} {n : Nd} {l : List Tok} (h : ReadsAt 1 d n l) : ReadsAt 0 d n l := fun S s hs ht hp => by
  show exprC S s = _
  have e : sumC S s = .ok (n, s.past l (sizeN n)) := h S s hs ht (hp.mono (by omega))
  rw [expr_eq, e]
  show (if _ then _ else _) = _
  rw [if_neg (by rw [(hp.2.2.2 (by omega)).1]; decide), if_neg (by rw [(hp.2.2.2 (by omega)).2]; decide)]
/-- What is so of the tokens of a node that holds so tightly. -/
structure Own9 (d : Int) (n : Nd) (t : Nat) (l : List Tok) : Prop where
  r5 : 5 ≤ t → ReadsAt 5 d n l
  g4 : 4 ≤ t → GoesAt 4 d n l ∧ Plain9 l
  r3 : 3 ≤ t → ReadsAt 3 d n l
  g2 : 2 ≤ t → GoesAt 2 d n l
  g1 : 1 ≤ t → GoesAt 1 d n l
  r0 : ReadsAt 0 d n l
theorem own_5 {d : Int} {n : Nd} {l : List Tok} (h : ReadsAt 5 d n l) (hp : Plain9 l) : Own9 d n 5 l :=
  have g4 := reads_goes4 h
  have r3 := reads_4_3 (goes_reads4 g4) hp
  have g2 := reads_goes2 r3
  have g1 := reads_goes1 (goes_reads2 g2)
  ⟨fun _ => h, fun _ => ⟨g4, hp⟩, fun _ => r3, fun _ => g2, fun _ => g1, reads_1_0 (goes_reads1 g1)⟩
theorem own_4 {d : Int} {n : Nd} {l : List Tok} (g4 : GoesAt 4 d n l) (hp : Plain9 l) : Own9 d n 4 l :=
  have r3 := reads_4_3 (goes_reads4 g4) hp
  have g2 := reads_goes2 r3
  have g1 := reads_goes1 (goes_reads2 g2)
  ⟨fun h => (by omega), fun _ => ⟨g4, hp⟩, fun _ => r3, fun _ => g2, fun _ => g1, reads_1_0 (goes_reads1 g1)⟩
theorem own_3 {d : Int} {n : Nd} {l : List Tok} (r3 : ReadsAt 3 d n l) : Own9 d n 3 l :=
  have g2 := reads_goes2 r3
  have g1 := reads_goes1 (goes_reads2 g2)
  ⟨fun h => (by omega), fun h => (by omega), fun _ => r3, fun _ => g2, fun _ => g1, reads_1_0 (goes_reads1 g1)⟩
theorem own_2 {d : Int} {n : Nd} {l : List Tok} (g2 : GoesAt 2 d n l) : Own9 d n 2 l :=
  have g1 := reads_goes1 (goes_reads2 g2)
  ⟨fun h => (by omega), fun h => (by omega), fun h => (by omega), fun _ => g2, fun _ => g1, reads_1_0 (goes_reads1 g1)⟩
theorem own_1 {d : Int} {n : Nd} {l : List Tok} (g1 : GoesAt 1 d n l) : Own9 d n 1 l :=
  ⟨fun h => (by omega), fun h => (by omega), fun h => (by omega), fun h => (by omega), fun _ => g1, reads_1_0 (goes_reads1 g1)⟩
theorem own_0 {d : Int} {n : Nd} {l : List Tok} (r0 : ReadsAt 0 d n l) : Own9 d n 0 l :=
  ⟨fun h => (by omega), fun h => (by omega), fun h => (by omega), fun h => (by omega), fun h => (by omega), r0⟩
theorem Own9.deep {d d' : Int} {n : Nd} {t : Nat} {l : List Tok} (h : Own9 d n t l) (hd : d' ≤ d) : Own9 d' n t l :=
  ⟨fun x => reads_deep (h.r5 x) hd, fun x => ⟨goes_deep (h.g4 x).1 hd, (h.g4 x).2⟩, fun x => reads_deep (h.r3 x) hd, fun x => goes_deep (h.g2 x) hd, fun x => goes_deep (h.g1 x) hd, reads_deep h.r0 hd⟩
/-- A node can be printed and read no deeper than d. -/
def Nat9 (d : Int) (n : Nd) : Prop := ∃ l, (∀ F, 2 * sizeN n ≤ F → exprW (F + 1) 0 n = some l) ∧ Own9 d n (tightP n.kind) l
/-- So it is, printed at a level; perhaps in parentheses. -/
def May9 (k : Nat) (d : Int) (n : Nd) : Prop := (k ≤ tightP n.kind ∧ Nat9 d n) ∨ (d + 1 ≤ 20 ∧ Nat9 (d + 1) n)
theorem Nat9.deep {d d' : Int} {n : Nd} (h : Nat9 d n) (hd : d' ≤ d) : Nat9 d' n := let ⟨l, h1, h2⟩ := h; ⟨l, h1, h2.deep hd⟩
theorem size_pos (n : Nd) : 1 ≤ sizeN n := by cases n; unfold sizeN; omega
theorem exprW_plain {F k : Nat} {n : Nd} (h : k ≤ tightP n.kind) : exprW (F + 1) k n = exprW (F + 1) 0 n := by
  cases n with
  | mk kind x num ks =>
    have h' : k ≤ tightP kind := h
    clear h
    conv => lhs; unfold exprW; rw [if_neg (show ¬ tightP kind < k by omega)]
    conv => rhs; unfold exprW; rw [if_neg (show ¬ tightP kind < 0 by omega)]
theorem exprW_in {F k : Nat} {n : Nd} (h : tightP n.kind < k) : exprW (F + 1) k n = cat2 (some (putT sOpen)) (cat2 (exprW F 0 n) (some (putT sShut))) := by
  cases n with
  | mk kind x num ks =>
    have h' : tightP kind < k := h
    conv => lhs; unfold exprW
    rw [if_pos h']
/-- In parentheses. -/
theorem own_in {d : Int} {n : Nd} {l : List Tok} (hd : d + 1 ≤ 20) (h : ReadsAt 0 (d + 1) n l) : ReadsAt 5 d n (putT sOpen ++ (l ++ putT sShut)) ∧ Plain9 (putT sOpen ++ (l ++ putT sShut)) := by
  refine ⟨fun S s hs ht _ => ?_, fun S s ht => ?_⟩
  · obtain ⟨t1, t2⟩ := toks_app ht
    obtain ⟨t3, t4⟩ := toks_app t2
    show primC S s = _
    obtain ⟨i1, i2⟩ := put_is t1
    have q := put_sees t1
    rw [prim_eq, if_neg (by rw [i2]; decide), if_neg (by rw [i1]; decide), if_neg (by rw [q]; decide), if_neg (by rw [q]; decide), if_neg (by rw [q]; decide), if_neg (by rw [q]; decide)]
    have w1 : wantP S sOpen s = .ok ((), ⟨s.tok + 1, s.deep + 1, s.many⟩) := by
      unfold wantP
      rw [if_pos (by rw [q]; decide), if_pos (Or.inl rfl), if_neg (by omega)]
    rw [w1]
    show (exprC S ⟨s.tok + 1, s.deep + 1, s.many⟩).then _ = _
    have t4' : Toks S (PS.past ⟨s.tok + 1, s.deep + 1, s.many⟩ l (sizeN n)).tok (putT sShut) := by
      show Toks S (s.tok + 1 + l.length) _
      have e : s.tok + (putT sOpen).length + l.length = s.tok + 1 + l.length := rfl
      rw [← e]; exact t4
    have e1 : exprC S ⟨s.tok + 1, s.deep + 1, s.many⟩ = .ok (n, PS.past ⟨s.tok + 1, s.deep + 1, s.many⟩ l (sizeN n)) :=
      h S ⟨s.tok + 1, s.deep + 1, s.many⟩ (by show s.deep + 1 ≤ d + 1; omega) t3 (stop_put t4' (fun _ => by decide) (fun _ => by decide) (fun _ => ⟨by decide, by decide⟩) (fun _ => ⟨by decide, by decide⟩))
    rw [e1]
    show (wantP S sShut _).then _ = _
    have w2 : wantP S sShut (PS.past ⟨s.tok + 1, s.deep + 1, s.many⟩ l (sizeN n)) = .ok ((), ⟨s.tok + 1 + l.length + 1, s.deep, s.many + (sizeN n : Int)⟩) := by
      unfold wantP
      rw [if_pos (by rw [put_sees t4']; decide), if_neg (by decide), if_pos (Or.inl rfl)]
      show Except.ok ((), PS.mk (s.tok + 1 + l.length + 1) (s.deep + 1 - 1) _) = _
      rw [show s.deep + 1 - 1 = s.deep by omega]
      rfl
    rw [w2]
    show Except.ok (n, _) = Except.ok (n, _)
    congr 2
    unfold PS.past
    simp only [List.length_append, putT_one, PS.mk.injEq, and_true]
    omega
  · obtain ⟨t1, _⟩ := toks_app ht
    exact ⟨by rw [put_sees t1]; decide, by rw [put_sees t1]; decide⟩
/-- What is printed at a level is read at it. -/
theorem may_prints {k : Nat} {d : Int} {n : Nd} (h : May9 k d n) (hk : k ≤ 5) : ∃ l t, (∀ F, 2 * sizeN n + 1 ≤ F → exprW (F + 1) k n = some l) ∧ k ≤ t ∧ Own9 d n t l := by
  by_cases ht : k ≤ tightP n.kind
  · have hn : Nat9 d n := by
      rcases h with ⟨_, h⟩ | ⟨_, h⟩
      · exact h
      · exact h.deep (by omega)
    obtain ⟨l, h1, h2⟩ := hn
    exact ⟨l, _, fun F hF => by rw [exprW_plain ht]; exact h1 F (by omega), ht, h2⟩
  · rcases h with ⟨h, _⟩ | ⟨hd, h⟩
    · exact absurd h ht
    · obtain ⟨l, h1, h2⟩ := h
      obtain ⟨r5, hp⟩ := own_in hd h2.r0
      refine ⟨_, 5, fun F hF => ?_, hk, own_5 r5 hp⟩
      obtain ⟨G, rfl⟩ : ∃ G, F = G + 1 := ⟨F - 1, by omega⟩
      rw [exprW_in (by omega), h1 G (by omega)]
      rfl
end Go.Proofs.YtkppdndbfedijadGreatDoor

/- Chapter 9, plain: what an expression is made of, printed and read. -/
namespace Go.Proofs.YtkppdndbfedijadGreatDoor

/-! Decimals. -/
theorem decU_app {x y : List Int} : ∀ m, m ≤ x.length → decU (x ++ y) 0 m = decU x 0 m
  | 0, _ => rfl
  | m + 1, h => by
    unfold decU
    rw [decU_app m (by omega)]
    have : wd (x ++ y) (0 + m) = wd x (0 + m) := by
      unfold wd
      rw [List.getD_eq_getElem?_getD, List.getD_eq_getElem?_getD, List.getElem?_append_left (by omega)]
    rw [this]
theorem numP_snoc (x : List Int) (b : Int) : numP (x ++ [b]) = 10 * numP x + (b - 48) := by
  unfold numP
  rw [List.length_append]
  show 10 * decU (x ++ [b]) 0 x.length + (wd (x ++ [b]) (0 + x.length) - 48) = _
  rw [decU_app _ (Nat.le_refl _)]
  have : wd (x ++ [b]) (0 + x.length) = b := by
    unfold wd
    rw [List.getD_eq_getElem?_getD, List.getElem?_append_right (by omega)]
    simp
  rw [this]
theorem digits_num : ∀ (m n : Nat), n < 10 ^ m → 0 < m → numP (digitsN m n) = (n : Int)
  | 0, n, _, h => by omega
  | m + 1, n, h, _ => by
    unfold digitsN
    split
    · rename_i h9
      have hm : 0 < m := by
        cases m with
        | zero => omega
        | succ m => omega
      rw [numP_snoc, digits_num m (n / 10) (by rw [Nat.pow_succ] at h; omega) hm]
      omega
    · show 10 * (0 : Int) + ((48 + (n : Int)) - 48) = _
      omega
theorem decimal_num {n : Int} (h0 : 0 ≤ n) (h1 : n ≤ 1073741823) : numP (decimalP n) = n := by
  unfold decimalP
  rw [digits_num 20 n.toNat (by have : n.toNat ≤ 1073741823 := by omega
                                exact Nat.lt_of_le_of_lt this (by decide)) (by decide)]
  omega
/-! Two with a sign between. -/
theorem sees_self {S : Src9} {s : PS} {x : List Int} (h : Toks S s.tok (putT x)) : seesB S x s = true := by rw [put_sees h]; exact beq_self_eq_true _
theorem size_two (k : Int) (x : List Int) (m : Int) (a b : Nd) : sizeN (.mk k x m [a, b]) = 1 + (sizeN a + sizeN b) := rfl
theorem size_one (k : Int) (x : List Int) (m : Int) (a : Nd) : sizeN (.mk k x m [a]) = 1 + sizeN a := rfl
theorem size_none (k : Int) (x : List Int) (m : Int) : sizeN (.mk k x m []) = 1 := rfl
/-- The tokens of two and what is between, where one is behind each. -/
theorem two_toks {S : Src9} {s : PS} {la lb : List Tok} {x : List Int} (a b : Nat) (h : Toks S s.tok (la ++ (putT x ++ lb))) :
    Toks S s.tok la ∧ Toks S (s.past la a).tok (putT x) ∧ Toks S (s.past la a).step.tok lb ∧ (((s.past la a).step).past lb b).node = s.past (la ++ (putT x ++ lb)) (1 + (a + b)) := by
  obtain ⟨h1, h2⟩ := toks_app h
  obtain ⟨h3, h4⟩ := toks_app h2
  refine ⟨h1, h3, h4, ?_⟩
  unfold PS.past PS.step PS.node
  simp only [List.length_append, putT_one, PS.mk.injEq, true_and]
  exact ⟨by omega, by push_cast; omega⟩
theorem past_deep (s : PS) (l : List Tok) (m : Nat) : (s.past l m).deep = s.deep := rfl
theorem step_deep (s : PS) : s.step.deep = s.deep := rfl
theorem stop_node {k : Nat} {S : Src9} {s : PS} (h : Stop k S s.node) : Stop k S s := h
/-- < and == -/
theorem nat_cmp {d : Int} {a b : Nd} {k : Int} {x : List Int} (hk : (k = 18 ∧ x = sLess) ∨ (k = 19 ∧ x = sSame)) (ha : May9 1 d a) (hb : May9 1 d b) : Nat9 d (.mk k [] 0 [a, b]) := by
  obtain ⟨la, ta, wa, hta, oa⟩ := may_prints ha (by omega)
  obtain ⟨lb, tb, wb, htb, ob⟩ := may_prints hb (by omega)
  refine ⟨la ++ (putT x ++ lb), fun F hF => ?_, ?_⟩
  · rw [size_two] at hF
    obtain ⟨G, rfl⟩ : ∃ G, F = G + 1 := ⟨F - 1, by omega⟩
    have e1 := wa G (by omega)
    have e2 := wb G (by omega)
    rcases hk with ⟨rfl, rfl⟩ | ⟨rfl, rfl⟩
    · conv => lhs; unfold exprW
      rw [if_neg (by decide), if_pos rfl]
      show cat2 (exprW (G + 1) 1 a) (cat2 _ (exprW (G + 1) 1 b)) = _
      rw [e1, e2]; rfl
    · conv => lhs; unfold exprW
      rw [if_neg (by decide), if_neg (by decide), if_pos rfl]
      show cat2 (exprW (G + 1) 1 a) (cat2 _ (exprW (G + 1) 1 b)) = _
      rw [e1, e2]; rfl
  · have ht : tightP (Nd.mk k [] 0 [a, b]).kind = 0 := by rcases hk with ⟨rfl, rfl⟩ | ⟨rfl, rfl⟩ <;> rfl
    rw [ht]
    refine own_0 fun S s hs htk hst => ?_
    obtain ⟨t1, t2, t3, e⟩ := two_toks (sizeN a) (sizeN b) htk
    rw [size_two] at hst ⊢
    rw [← e] at hst ⊢
    show exprC S s = _
    have r1 : sumC S s = .ok (a, s.past la (sizeN a)) := goes_reads1 (oa.g1 hta) S s hs t1 (by rcases hk with ⟨_, rfl⟩ | ⟨_, rfl⟩ <;> exact stop_put t2 (fun _ => by decide) (fun _ => by decide) (fun _ => ⟨by decide, by decide⟩) (fun h => absurd h (by decide)))
    have r2 : sumC S (s.past la (sizeN a)).step = .ok (b, (s.past la (sizeN a)).step.past lb (sizeN b)) := goes_reads1 (ob.g1 htb) S (s.past la (sizeN a)).step hs t3 ((stop_node hst).mono (by omega))
    rw [expr_eq, r1]
    show (if _ then _ else _) = _
    rcases hk with ⟨rfl, rfl⟩ | ⟨rfl, rfl⟩
    · rw [if_pos (sees_self t2), r2]; rfl
    · rw [if_neg (by rw [put_sees t2]; decide), if_pos (sees_self t2), r2]; rfl
/-- + and - -/
theorem nat_add {d : Int} {a b : Nd} {k : Int} {x : List Int} (hk : (k = 20 ∧ x = sPlus) ∨ (k = 21 ∧ x = sMinus)) (ha : May9 1 d a) (hb : May9 2 d b) : Nat9 d (.mk k [] 0 [a, b]) := by
  obtain ⟨la, ta, wa, hta, oa⟩ := may_prints ha (by omega)
  obtain ⟨lb, tb, wb, htb, ob⟩ := may_prints hb (by omega)
  refine ⟨la ++ (putT x ++ lb), fun F hF => ?_, ?_⟩
  · rw [size_two] at hF
    obtain ⟨G, rfl⟩ : ∃ G, F = G + 1 := ⟨F - 1, by omega⟩
    have e1 := wa G (by omega)
    have e2 := wb G (by omega)
    rcases hk with ⟨rfl, rfl⟩ | ⟨rfl, rfl⟩
    · conv => lhs; unfold exprW
      rw [if_neg (by decide), if_neg (by decide), if_neg (by decide), if_pos rfl]
      show cat2 (exprW (G + 1) 1 a) (cat2 _ (exprW (G + 1) 2 b)) = _
      rw [e1, e2]; rfl
    · conv => lhs; unfold exprW
      rw [if_neg (by decide), if_neg (by decide), if_neg (by decide), if_neg (by decide), if_pos rfl]
      show cat2 (exprW (G + 1) 1 a) (cat2 _ (exprW (G + 1) 2 b)) = _
      rw [e1, e2]; rfl
  · have ht : tightP (Nd.mk k [] 0 [a, b]).kind = 1 := by rcases hk with ⟨rfl, rfl⟩ | ⟨rfl, rfl⟩ <;> rfl
    rw [ht]
    refine own_1 fun S s hs htk hst => ?_
    obtain ⟨t1, t2, t3, e⟩ := two_toks (sizeN a) (sizeN b) htk
    rw [size_two] at hst ⊢
    rw [← e] at hst ⊢
    show sumC S s = sumLC S _ _
    have r1 : sumC S s = sumLC S a (s.past la (sizeN a)) := oa.g1 hta S s hs t1 (by rcases hk with ⟨_, rfl⟩ | ⟨_, rfl⟩ <;> exact stop_put t2 (fun _ => by decide) (fun _ => by decide) (fun h => absurd h (by decide)) (fun h => absurd h (by decide)))
    have r2 : termC S (s.past la (sizeN a)).step = .ok (b, (s.past la (sizeN a)).step.past lb (sizeN b)) := goes_reads2 (ob.g2 htb) S (s.past la (sizeN a)).step hs t3 (stop_node hst)
    rw [r1, sumL_eq]
    rcases hk with ⟨rfl, rfl⟩ | ⟨rfl, rfl⟩
    · rw [if_pos (sees_self t2), r2]; rfl
    · rw [if_neg (by rw [put_sees t2]; decide), if_pos (sees_self t2), r2]; rfl
/-- * -/
theorem nat_mul {d : Int} {a b : Nd} (ha : May9 2 d a) (hb : May9 3 d b) : Nat9 d (.mk 22 [] 0 [a, b]) := by
  obtain ⟨la, ta, wa, hta, oa⟩ := may_prints ha (by omega)
  obtain ⟨lb, tb, wb, htb, ob⟩ := may_prints hb (by omega)
  refine ⟨la ++ (putT sTimes ++ lb), fun F hF => ?_, ?_⟩
  · rw [size_two] at hF
    obtain ⟨G, rfl⟩ : ∃ G, F = G + 1 := ⟨F - 1, by omega⟩
    have e1 := wa G (by omega)
    have e2 := wb G (by omega)
    conv => lhs; unfold exprW
    rw [if_neg (by decide), if_neg (by decide), if_neg (by decide), if_neg (by decide), if_neg (by decide), if_pos rfl]
    show cat2 (exprW (G + 1) 2 a) (cat2 _ (exprW (G + 1) 3 b)) = _
    rw [e1, e2]; rfl
  · show Own9 d _ 2 _
    refine own_2 fun S s hs htk hst => ?_
    obtain ⟨t1, t2, t3, e⟩ := two_toks (sizeN a) (sizeN b) htk
    rw [size_two] at hst ⊢
    rw [← e] at hst ⊢
    show termC S s = termLC S _ _
    have r1 : termC S s = termLC S a (s.past la (sizeN a)) := oa.g2 hta S s hs t1 (stop_put t2 (fun _ => by decide) (fun h => absurd h (by decide)) (fun h => absurd h (by decide)) (fun h => absurd h (by decide)))
    have r2 : unaryC S (s.past la (sizeN a)).step = .ok (b, (s.past la (sizeN a)).step.past lb (sizeN b)) := ob.r3 htb S (s.past la (sizeN a)).step hs t3 (stop_node hst)
    rw [r1, termL_eq, if_pos (sees_self t2), r2]; rfl
/-- A sign ahead of one. -/
theorem nat_un {d : Int} {a : Nd} {k : Int} {x : List Int} (hk : (k = 23 ∧ x = sMinus) ∨ (k = 24 ∧ x = sNot)) (ha : May9 3 d a) : Nat9 d (.mk k [] 0 [a]) := by
  obtain ⟨la, ta, wa, hta, oa⟩ := may_prints ha (by omega)
  refine ⟨putT x ++ la, fun F hF => ?_, ?_⟩
  · rw [size_one] at hF
    obtain ⟨G, rfl⟩ : ∃ G, F = G + 1 := ⟨F - 1, by omega⟩
    have e1 := wa G (by omega)
    rcases hk with ⟨rfl, rfl⟩ | ⟨rfl, rfl⟩
    · conv => lhs; unfold exprW
      rw [if_neg (by decide), if_neg (by decide), if_neg (by decide), if_neg (by decide), if_neg (by decide), if_neg (by decide), if_pos rfl]
      show cat2 _ (exprW (G + 1) 3 a) = _
      rw [e1]; rfl
    · conv => lhs; unfold exprW
      rw [if_neg (by decide), if_neg (by decide), if_neg (by decide), if_neg (by decide), if_neg (by decide), if_neg (by decide), if_neg (by decide), if_pos rfl]
      show cat2 _ (exprW (G + 1) 3 a) = _
      rw [e1]; rfl
  · have ht : tightP (Nd.mk k [] 0 [a]).kind = 3 := by rcases hk with ⟨rfl, rfl⟩ | ⟨rfl, rfl⟩ <;> rfl
    rw [ht]
    refine own_3 fun S s hs htk hst => ?_
    obtain ⟨t1, t2⟩ := toks_app htk
    have e : (s.step.past la (sizeN a)).node = s.past (putT x ++ la) (1 + sizeN a) := by
      unfold PS.past PS.step PS.node
      simp only [List.length_append, putT_one, PS.mk.injEq, true_and]
      exact ⟨by omega, by push_cast; omega⟩
    rw [size_one] at hst ⊢
    rw [← e] at hst ⊢
    show unaryC S s = _
    have r2 : unaryC S s.step = .ok (a, s.step.past la (sizeN a)) := oa.r3 hta S s.step hs t2 (stop_node hst)
    rw [unary_eq]
    rcases hk with ⟨rfl, rfl⟩ | ⟨rfl, rfl⟩
    · rw [if_pos (sees_self t1), r2]; rfl
    · rw [if_neg (by rw [put_sees t1]; decide), if_pos (sees_self t1), r2]; rfl
/-! What stands alone. -/
theorem past_one (s : PS) (t : Tok) : s.step.node = s.past [t] 1 := rfl
theorem nat_num {d m : Int} (h0 : 0 ≤ m) (h1 : m ≤ 1073741823) : Nat9 d (.mk 26 [] m []) := by
  refine ⟨[(2, decimalP m, 0)], fun F hF => ?_, ?_⟩
  · conv => lhs; unfold exprW
    rw [if_neg (by decide), if_neg (by decide), if_neg (by decide), if_neg (by decide), if_neg (by decide), if_neg (by decide), if_neg (by decide), if_neg (by decide), if_neg (by decide), if_pos rfl]
    unfold numT
    rw [if_pos ⟨h0, h1⟩]
  · refine own_5 (fun S s hs ht _ => ?_) (fun S s ht => ⟨kind_sees ht (Or.inr rfl) _, kind_sees ht (Or.inr rfl) _⟩)
    show primC S s = _
    obtain ⟨k1, k2, _⟩ := kind_is ht 2
    rw [prim_eq, if_pos (by rw [k1]; rfl), k2, decimal_num h0 h1]
    rfl
theorem nat_name {d : Int} {x : List Int} (h : nameB x = true) : Nat9 d (.mk 31 x 0 []) := by
  refine ⟨[(1, x, 0)], fun F hF => ?_, ?_⟩
  · conv => lhs; unfold exprW
    rw [if_neg (by decide), if_neg (by decide), if_neg (by decide), if_neg (by decide), if_neg (by decide), if_neg (by decide), if_neg (by decide), if_neg (by decide), if_neg (by decide), if_neg (by decide), if_neg (by decide), if_neg (by decide), if_neg (by decide), if_neg (by decide), if_pos rfl]
    unfold nameT
    rw [if_pos h]
  · refine own_5 (fun S s hs ht _ => ?_) (fun S s ht => ⟨kind_sees ht (Or.inl rfl) _, kind_sees ht (Or.inl rfl) _⟩)
    show primC S s = _
    obtain ⟨k1, k2, _⟩ := kind_is ht 1
    rw [prim_eq, if_neg (by rw [(kind_is ht 2).1]; decide), if_pos (by rw [k1]; rfl)]
    unfold nameP
    rw [if_pos (by rw [k1]; rfl), k2]
    rfl
theorem nat_word {d : Int} {k : Int} {x : List Int} (hk : (k = 27 ∧ x = wNil) ∨ (k = 28 ∧ x = wSelf) ∨ (k = 29 ∧ x = wGate)) : Nat9 d (.mk k [] 0 []) := by
  refine ⟨putT x, fun F hF => ?_, ?_⟩
  · rcases hk with ⟨rfl, rfl⟩ | ⟨rfl, rfl⟩ | ⟨rfl, rfl⟩
    · conv => lhs; unfold exprW
      rw [if_neg (by decide), if_neg (by decide), if_neg (by decide), if_neg (by decide), if_neg (by decide), if_neg (by decide), if_neg (by decide), if_neg (by decide), if_neg (by decide), if_neg (by decide), if_pos rfl]
    · conv => lhs; unfold exprW
      rw [if_neg (by decide), if_neg (by decide), if_neg (by decide), if_neg (by decide), if_neg (by decide), if_neg (by decide), if_neg (by decide), if_neg (by decide), if_neg (by decide), if_neg (by decide), if_neg (by decide), if_pos rfl]
    · conv => lhs; unfold exprW
      rw [if_neg (by decide), if_neg (by decide), if_neg (by decide), if_neg (by decide), if_neg (by decide), if_neg (by decide), if_neg (by decide), if_neg (by decide), if_neg (by decide), if_neg (by decide), if_neg (by decide), if_neg (by decide), if_pos rfl]
  · have ht : tightP (Nd.mk k [] 0 []).kind = 5 := by rcases hk with ⟨rfl, rfl⟩ | ⟨rfl, rfl⟩ | ⟨rfl, rfl⟩ <;> rfl
    rw [ht]
    refine own_5 (fun S s hs ht _ => ?_) (fun S s ht => ?_)
    · show primC S s = _
      obtain ⟨i1, i2⟩ := put_is ht
      rw [prim_eq, if_neg (by rw [i2]; decide), if_neg (by rw [i1]; decide)]
      rcases hk with ⟨rfl, rfl⟩ | ⟨rfl, rfl⟩ | ⟨rfl, rfl⟩
      · rw [if_pos (sees_self ht)]; rfl
      · rw [if_neg (by rw [put_sees ht]; decide), if_pos (sees_self ht)]; rfl
      · rw [if_neg (by rw [put_sees ht]; decide), if_neg (by rw [put_sees ht]; decide), if_pos (sees_self ht)]; rfl
    · rw [put_sees ht, put_sees ht]
      rcases hk with ⟨rfl, rfl⟩ | ⟨rfl, rfl⟩ | ⟨rfl, rfl⟩ <;> exact ⟨by decide, by decide⟩
theorem nat_new {d : Int} {x : List Int} (h : nameB x = true) : Nat9 d (.mk 30 x 0 []) := by
  refine ⟨putT wNew ++ [(1, x, 0)], fun F hF => ?_, ?_⟩
  · conv => lhs; unfold exprW
    rw [if_neg (by decide), if_neg (by decide), if_neg (by decide), if_neg (by decide), if_neg (by decide), if_neg (by decide), if_neg (by decide), if_neg (by decide), if_neg (by decide), if_neg (by decide), if_neg (by decide), if_neg (by decide), if_neg (by decide), if_pos rfl]
    unfold nameT
    rw [if_pos h]
    rfl
  · refine own_5 (fun S s hs ht _ => ?_) (fun S s ht => ?_)
    · show primC S s = _
      obtain ⟨t1, t2⟩ := toks_app ht
      obtain ⟨i1, i2⟩ := put_is t1
      obtain ⟨k1, k2, _⟩ := kind_is (s := s.step) t2 1
      rw [prim_eq, if_neg (by rw [i2]; decide), if_neg (by rw [i1]; decide), if_neg (by rw [put_sees t1]; decide), if_neg (by rw [put_sees t1]; decide), if_neg (by rw [put_sees t1]; decide), if_pos (sees_self t1)]
      unfold nameP
      rw [if_pos (by rw [k1]; rfl), k2]
      rfl
    · obtain ⟨t1, t2⟩ := toks_app ht
      exact ⟨by rw [put_sees t1]; decide, by rw [put_sees t1]; decide⟩
end Go.Proofs.YtkppdndbfedijadGreatDoor

/- Chapter 9, plain: calls, printed and read. -/
namespace Go.Proofs.YtkppdndbfedijadGreatDoor

theorem sees_what {S : Src9} {s : PS} {x : List Int} (h : seesB S x s = true) : (∀ y, seesB S y s = (x == y)) ∧ isB S 1 s = false ∧ isB S 2 s = false := by
  unfold seesB at h
  simp only [Bool.and_eq_true, Bool.or_eq_true, beq_iff_eq, decide_eq_true_eq] at h
  obtain ⟨h1, h2, h3⟩ := h
  refine ⟨fun y => ?_, ?_, ?_⟩
  · unfold seesB
    rw [h2, decide_eq_true h1]
    rcases h3 with h3 | h3 <;> rw [h3] <;> simp
  · unfold isB
    rcases h3 with h3 | h3 <;> rw [h3] <;> simp
  · unfold isB
    rcases h3 with h3 | h3 <;> rw [h3] <;> simp
/-- No expression begins so. -/
theorem expr_not {S : Src9} {s : PS} {x : List Int} (h : seesB S x s = true) (hx : x ≠ sMinus ∧ x ≠ sNot ∧ x ≠ wNil ∧ x ≠ wSelf ∧ x ≠ wGate ∧ x ≠ wNew ∧ x ≠ sOpen) : exprC S s = failP S 12 s := by
  obtain ⟨h1, h2, h3⟩ := sees_what h
  have n : ∀ y, x ≠ y → ¬ seesB S y s = true := fun y hy => by rw [h1, beq_eq_false_iff_ne.2 hy]; decide
  obtain ⟨x1, x2, x3, x4, x5, x6, x7⟩ := hx
  have e : primC S s = failP S 12 s := by
    rw [prim_eq, if_neg (by rw [h3]; decide), if_neg (by rw [h2]; decide), if_neg (n _ x3), if_neg (n _ x4), if_neg (n _ x5), if_neg (n _ x6)]
    unfold wantP
    rw [if_neg (n _ x7)]
    rfl
  have e2 : callC S s = failP S 12 s := by rw [call_eq, e]; rfl
  have e3 : unaryC S s = failP S 12 s := by rw [unary_eq, if_neg (n _ x1), if_neg (n _ x2), e2]
  have e4 : termC S s = failP S 12 s := by rw [term_eq, e3]; rfl
  have e5 : sumC S s = failP S 12 s := by rw [sum_eq, e4]; rfl
  rw [expr_eq, e5]; rfl
theorem not_sees {S : Src9} {s : PS} {x : List Int} {n : Nd} {s1 : PS} (he : exprC S s = .ok (n, s1)) (hx : x ≠ sMinus ∧ x ≠ sNot ∧ x ≠ wNil ∧ x ≠ wSelf ∧ x ≠ wGate ∧ x ≠ wNew ∧ x ≠ sOpen) : seesB S x s = false := by
  cases h : seesB S x s with
  | false => rfl
  | true => rw [expr_not h hx] at he; cases he
/-! What is wanted. -/
theorem want_put {S : Src9} {s : PS} {x : List Int} (h : Toks S s.tok (putT x)) (h1 : ¬ (x = sOpen ∨ x = sBegin)) (h2 : ¬ (x = sShut ∨ x = sEnd)) : wantP S x s = .ok ((), s.step) := by
  unfold wantP
  rw [if_pos (sees_self h), if_neg h1, if_neg h2]
def PS.down (s : PS) : PS := ⟨s.tok + 1, s.deep + 1, s.many⟩
def PS.up (s : PS) : PS := ⟨s.tok + 1, s.deep - 1, s.many⟩
theorem want_down {S : Src9} {s : PS} {x : List Int} (h : Toks S s.tok (putT x)) (h1 : x = sOpen ∨ x = sBegin) (hd : s.deep + 1 ≤ 20) : wantP S x s = .ok ((), s.down) := by
  unfold wantP
  rw [if_pos (sees_self h), if_pos h1, if_neg (by omega)]
  rfl
theorem want_up {S : Src9} {s : PS} {x : List Int} (h : Toks S s.tok (putT x)) (h1 : x = sShut ∨ x = sEnd) : wantP S x s = .ok ((), s.up) := by
  unfold wantP
  rw [if_pos (sees_self h), if_neg (by rcases h1 with rfl | rfl <;> decide), if_pos h1]
  rfl
theorem name_kind {S : Src9} {s : PS} {x : List Int} (h : Toks S s.tok [(1, x, 0)]) : nameP S s = .ok (x, s.step) := by
  obtain ⟨k1, k2, _⟩ := kind_is h 1
  unfold nameP
  rw [if_pos (by rw [k1]; rfl), k2]
/-! What stands between ( and ). -/
theorem sizeL_cons (a : Nd) (ks : List Nd) : sizeL (a :: ks) = sizeN a + sizeL ks := rfl
theorem args_prints {e : Int} : ∀ (ks : List Nd) (b : Nd), (∀ c ∈ b :: ks, Nat9 e c) → ∃ l, (∀ F, 2 * sizeL (b :: ks) ≤ F → commas ((b :: ks).map (exprW (F + 1) 0)) = some l) ∧ (∀ (S : Src9) (s : PS), s.deep ≤ e → Toks S s.tok l → Toks S (s.past l (sizeL (b :: ks))).tok (putT sShut) → argsC S s = .ok (b :: ks, s.past l (sizeL (b :: ks))) ∧ seesB S sShut s = false)
  | [], b, h => by
    obtain ⟨l, w, o⟩ := h b (List.mem_cons_self ..)
    refine ⟨l, fun F hF => ?_, fun S s hs ht hc => ?_⟩
    · show exprW (F + 1) 0 b = _
      rw [sizeL_cons] at hF
      exact w F (by omega)
    · have es : sizeL [b] = sizeN b := by rw [sizeL_cons]; rfl
      rw [es] at hc ⊢
      have r : exprC S s = .ok (b, s.past l (sizeN b)) := o.r0 S s hs ht (stop_put hc (fun _ => by decide) (fun _ => by decide) (fun _ => ⟨by decide, by decide⟩) (fun _ => ⟨by decide, by decide⟩))
      refine ⟨?_, not_sees r (by decide)⟩
      rw [args_eq, r]
      show (if _ then _ else _) = _
      rw [if_neg (by rw [put_sees hc]; decide)]
  | c :: ks, b, h => by
    obtain ⟨l, w, o⟩ := h b (List.mem_cons_self ..)
    obtain ⟨l2, w2, o2⟩ := args_prints ks c fun x hx => h x (List.mem_cons_of_mem _ hx)
    refine ⟨l ++ (putT sComma ++ l2), fun F hF => ?_, fun S s hs ht hc => ?_⟩
    · show cat2 (exprW (F + 1) 0 b) (cat2 (some (putT sComma)) (commas ((c :: ks).map (exprW (F + 1) 0)))) = _
      rw [sizeL_cons] at hF
      rw [w F (by omega), w2 F (by omega)]
      rfl
    · rw [sizeL_cons] at hc ⊢
      obtain ⟨t1, t2⟩ := toks_app ht
      obtain ⟨t3, t4⟩ := toks_app t2
      have hc' : Toks S (s.past l (sizeN b)).tok (putT sComma) := t3
      have r : exprC S s = .ok (b, s.past l (sizeN b)) := o.r0 S s hs t1 (stop_put hc' (fun _ => by decide) (fun _ => by decide) (fun _ => ⟨by decide, by decide⟩) (fun _ => ⟨by decide, by decide⟩))
      have e : (s.past l (sizeN b)).step.past l2 (sizeL (c :: ks)) = s.past (l ++ (putT sComma ++ l2)) (sizeN b + sizeL (c :: ks)) := by rw [step_past _ sComma, past_app, past_app, Nat.zero_add]
      rw [← e] at hc
      obtain ⟨r2, _⟩ := o2 S (s.past l (sizeN b)).step hs t4 hc
      refine ⟨?_, not_sees r (by decide)⟩
      rw [args_eq, r]
      show (if _ then _ else _) = _
      rw [if_pos (sees_self hc'), r2, e]
      rfl
/-- The same, and there may be none. -/
theorem args_may {e : Int} (ks : List Nd) (h : ∀ c ∈ ks, Nat9 e c) : ∃ l, (∀ F, 2 * sizeL ks ≤ F → commas (ks.map (exprW (F + 1) 0)) = some l) ∧ (∀ (S : Src9) (s : PS), s.deep ≤ e → Toks S s.tok l → Toks S (s.past l (sizeL ks)).tok (putT sShut) → (if seesB S sShut s = true then Except.ok ([], s) else argsC S s) = .ok (ks, s.past l (sizeL ks))) := by
  cases ks with
  | nil =>
    refine ⟨[], fun F _ => rfl, fun S s _ _ hc => ?_⟩
    rw [show s.past [] (sizeL []) = s from past_none s] at hc ⊢
    rw [if_pos (sees_self hc)]
  | cons b ks =>
    obtain ⟨l, w, o⟩ := args_prints ks b h
    refine ⟨l, w, fun S s hs ht hc => ?_⟩
    obtain ⟨o1, o2⟩ := o S s hs ht hc
    rw [if_neg (by rw [o2]; decide), o1]
/-- A call. -/
theorem nat_call {d : Int} {a : Nd} {x : List Int} {ks : List Nd} (hx : nameB x = true) (hd : d + 1 ≤ 20) (ha : May9 4 d a) (hk : ∀ c ∈ ks, Nat9 (d + 1) c) : Nat9 d (.mk 25 x 0 (a :: ks)) := by
  obtain ⟨la, ta, wa, hta, oa⟩ := may_prints ha (by omega)
  obtain ⟨lk, wk, ok⟩ := args_may ks hk
  obtain ⟨ga, pa⟩ := oa.g4 hta
  have hsz : sizeN (.mk 25 x 0 (a :: ks)) = 1 + (sizeN a + sizeL ks) := rfl
  refine ⟨la ++ (putT sDot ++ ([(1, x, 0)] ++ (putT sOpen ++ (lk ++ putT sShut)))), fun F hF => ?_, ?_⟩
  · rw [hsz] at hF
    obtain ⟨G, rfl⟩ : ∃ G, F = G + 1 := ⟨F - 1, by omega⟩
    have e1 := wa G (by omega)
    have e2 := wk G (by omega)
    conv => lhs; unfold exprW
    rw [if_neg (by decide), if_neg (by decide), if_neg (by decide), if_neg (by decide), if_neg (by decide), if_neg (by decide), if_neg (by decide), if_neg (by decide), if_pos rfl]
    show cat2 (exprW (G + 1) 4 a) (cat2 _ (cat2 (nameT x) (cat2 _ (cat2 (commas (ks.map (exprW (G + 1) 0))) _)))) = _
    rw [e1, e2]
    unfold nameT
    rw [if_pos hx]
    rfl
  · show Own9 d _ 4 _
    refine own_4 (fun S s hs htk hst => ?_) fun S s ht => pa S s (toks_app ht).1
    obtain ⟨t1, t'⟩ := toks_app htk
    obtain ⟨t2, t'⟩ := toks_app t'
    obtain ⟨t3, t'⟩ := toks_app t'
    obtain ⟨t4, t'⟩ := toks_app t'
    obtain ⟨t5, t6⟩ := toks_app t'
    show callC S s = callLC S _ _
    have r1 : callC S s = callLC S a (s.past la (sizeN a)) := ga S s hs t1 ⟨fun h => absurd h (by decide), fun h => absurd h (by decide), fun h => absurd h (by decide), fun h => absurd h (by decide)⟩
    have t2' : Toks S (s.past la (sizeN a)).tok (putT sDot) := t2
    have t3' : Toks S (s.past la (sizeN a)).step.tok [(1, x, 0)] := t3
    have t4' : Toks S (s.past la (sizeN a)).step.step.tok (putT sOpen) := t4
    have t5' : Toks S (s.past la (sizeN a)).step.step.down.tok lk := t5
    have t6' : Toks S ((s.past la (sizeN a)).step.step.down.past lk (sizeL ks)).tok (putT sShut) := t6
    have hdeep : (s.past la (sizeN a)).step.step.deep = s.deep := rfl
    rw [r1, callL_eq, if_pos (sees_self t2'), name_kind t3']
    show ((wantP S sOpen (s.past la (sizeN a)).step.step).then _) = _
    rw [want_down t4' (Or.inl rfl) (by rw [hdeep]; omega)]
    show Got.then (if seesB S sShut (s.past la (sizeN a)).step.step.down = true then Except.ok ([], _) else argsC S _) _ = _
    rw [ok S _ (show s.deep + 1 ≤ d + 1 by omega) t5' t6']
    show ((wantP S sShut ((s.past la (sizeN a)).step.step.down.past lk (sizeL ks))).then _) = _
    rw [want_up t6' (Or.inl rfl)]
    show callLC S (.mk 25 x 0 (a :: ks)) _ = _
    congr 1
    rw [hsz]
    unfold PS.up PS.down PS.past PS.step PS.node
    simp only [List.length_append, putT_one, List.length_singleton, PS.mk.injEq]
    exact ⟨by omega, by omega, by push_cast; omega⟩
end Go.Proofs.YtkppdndbfedijadGreatDoor

/- Chapter 9, plain: an expression that was read can be printed and read as deep as it was. -/
namespace Go.Proofs.YtkppdndbfedijadGreatDoor

/-- Names are names and no words, decimals are within what may be. -/
def Src9.good (S : Src9) : Prop := ∀ i, i < S.L.length → ((S.at i).1 = 1 → nameB (S.at i).2.1 = true) ∧ ((S.at i).1 = 2 → 0 ≤ numP (S.at i).2.1 ∧ numP (S.at i).2.1 ≤ 1073741823)
theorem thenB_ok {α β : Type} {g : Got α} {F : α → PS → Got β} {b : β} {s' : PS} (h : g.then F = .ok (b, s')) : ∃ a s1, g = .ok (a, s1) ∧ F a s1 = .ok (b, s') := by
  cases g with
  | error e => exact absurd h (by intro h; cases h)
  | ok p => obtain ⟨a, s1⟩ := p; exact ⟨a, s1, rfl, h⟩
theorem is_kind {S : Src9} {k : Int} {s : PS} (h : isB S k s = true) : s.tok < S.L.length ∧ (S.at s.tok).1 = k := by
  unfold isB at h
  simp only [Bool.and_eq_true, beq_iff_eq, decide_eq_true_eq] at h
  exact h
theorem name_ok {S : Src9} (hS : S.good) {s s1 : PS} {x : List Int} (h : nameP S s = .ok (x, s1)) : nameB x = true ∧ s1 = s.step := by
  unfold nameP at h
  split at h
  · rename_i hi
    obtain ⟨h1, h2⟩ := is_kind hi
    cases h
    exact ⟨(hS _ h1).1 h2, rfl⟩
  · cases h
theorem want_ok {S : Src9} {s s1 : PS} {x : List Int} {u : Unit} (h : wantP S x s = .ok (u, s1)) : ((x = sOpen ∨ x = sBegin) → s1 = s.down ∧ s.deep + 1 ≤ 20) ∧ ((x = sShut ∨ x = sEnd) → s1 = s.up) ∧ (¬ (x = sOpen ∨ x = sBegin) → ¬ (x = sShut ∨ x = sEnd) → s1 = s.step) := by
  unfold wantP at h
  split at h
  · split at h
    · rename_i ho
      split at h
      · cases h
      · cases h
        exact ⟨fun _ => ⟨rfl, by omega⟩, fun hc => absurd hc (by rcases ho with rfl | rfl <;> decide), fun hn => absurd ho hn⟩
    · rename_i ho
      split at h
      · rename_i hc
        cases h
        exact ⟨fun h => absurd h ho, fun _ => rfl, fun _ hn => absurd hc hn⟩
      · rename_i hc
        cases h
        exact ⟨fun h => absurd h ho, fun h => absurd h hc, fun _ _ => rfl⟩
  · cases h
theorem may_nat {k : Nat} {d : Int} {n : Nd} (h : Nat9 d n) (hk : k ≤ tightP n.kind) : May9 k d n := Or.inl ⟨hk, h⟩
theorem May9.less {k k' : Nat} {d : Int} {n : Nd} (h : May9 k d n) (hk : k' ≤ k) : May9 k' d n := by
  rcases h with ⟨h1, h2⟩ | h
  · exact Or.inl ⟨by omega, h2⟩
  · exact Or.inr h
theorem May9.nat {k : Nat} {d : Int} {n : Nd} (h : May9 k d n) : Nat9 d n := by
  rcases h with ⟨_, h⟩ | ⟨_, h⟩
  · exact h
  · exact h.deep (by omega)
/-- n was read from s to s'. -/
def Rd9 (k : Nat) (s : PS) (n : Nd) (s' : PS) : Prop := s'.deep = s.deep ∧ s'.many = s.many + (sizeN n : Int) ∧ May9 k s.deep n
/-- From n on m was read from s to s'. -/
def Lp (k : Nat) (s : PS) (n : Nd) (m : Nd) (s' : PS) : Prop := s'.deep = s.deep ∧ s'.many + (sizeN n : Int) = s.many + (sizeN m : Int) ∧ May9 k s.deep m
theorem Rd9.less {k k' : Nat} {s s' : PS} {n : Nd} (h : Rd9 k s n s') (hk : k' ≤ k) : Rd9 k' s n s' := ⟨h.1, h.2.1, h.2.2.less hk⟩
theorem Lp.rd {k : Nat} {s s1 s' : PS} {n m : Nd} (h1 : s1.deep = s.deep) (h2 : s1.many = s.many + (sizeN n : Int)) (h : Lp k s1 n m s') : Rd9 k s m s' := by
  obtain ⟨a, b, c⟩ := h
  rw [h1] at a c
  exact ⟨a, by omega, c⟩
theorem node_rd {k : Nat} {s s1 s' : PS} {kind num : Int} {x : List Int} {ks : List Nd} {n : Nd} (h : nodeP kind x num ks s1 = .ok (n, s')) (h1 : s1.deep = s.deep) (h2 : s1.many = s.many + (sizeL ks : Int)) (h3 : Nat9 s.deep (.mk kind x num ks)) (hk : k ≤ tightP kind) : Rd9 k s n s' := by
  cases h
  refine ⟨h1, ?_, may_nat h3 hk⟩
  have e : sizeN (.mk kind x num ks) = 1 + sizeL ks := by conv => lhs; unfold sizeN
  rw [e]
  show s1.many + 1 = _
  push_cast; omega
/-- What was read with that much. -/
structure Kept (S : Src9) (f : Nat) : Prop where
  expr : ∀ s n s', exprF S f s = .ok (n, s') → Rd9 0 s n s'
  sum : ∀ s n s', sumF S f s = .ok (n, s') → Rd9 1 s n s'
  sumL : ∀ n s m s', May9 1 s.deep n → sumL S f n s = .ok (m, s') → Lp 1 s n m s'
  term : ∀ s n s', termF S f s = .ok (n, s') → Rd9 2 s n s'
  termL : ∀ n s m s', May9 2 s.deep n → termL S f n s = .ok (m, s') → Lp 2 s n m s'
  unary : ∀ s n s', unaryF S f s = .ok (n, s') → Rd9 3 s n s'
  call : ∀ s n s', callF S f s = .ok (n, s') → Rd9 4 s n s'
  callL : ∀ n s m s', May9 4 s.deep n → callL S f n s = .ok (m, s') → Lp 4 s n m s'
  args : ∀ s ks s', argsF S f s = .ok (ks, s') → s'.deep = s.deep ∧ s'.many = s.many + (sizeL ks : Int) ∧ ∀ c ∈ ks, Nat9 s.deep c
  prim : ∀ s n s', primF S f s = .ok (n, s') → Rd9 5 s n s'
theorem no_out {α : Type} {p : α × PS} {P : Prop} (h : (outP : Got α) = .ok p) : P := by cases h
theorem kept {S : Src9} (hS : S.good) : ∀ f, Kept S f
  | 0 => by
    constructor
    · intro s n s' h; rw [exprF] at h; exact no_out h
    · intro s n s' h; rw [sumF] at h; exact no_out h
    · intro n s m s' _ h; rw [sumL] at h; exact no_out h
    · intro s n s' h; rw [termF] at h; exact no_out h
    · intro n s m s' _ h; rw [termL] at h; exact no_out h
    · intro s n s' h; rw [unaryF] at h; exact no_out h
    · intro s n s' h; rw [callF] at h; exact no_out h
    · intro n s m s' _ h; rw [callL] at h; exact no_out h
    · intro s n s' h; rw [argsF] at h; exact no_out h
    · intro s n s' h; rw [primF] at h; exact no_out h
  | f + 1 => by
    have I := kept hS f
    constructor
    · intro s n s' h
      rw [exprF] at h
      obtain ⟨a, s1, ha, h⟩ := thenB_ok h
      obtain ⟨d1, m1, k1⟩ := I.sum _ _ _ ha
      split at h
      · obtain ⟨b, s2, hb, h⟩ := thenB_ok h
        obtain ⟨d2, m2, k2⟩ := I.sum _ _ _ hb
        have e1 : s1.step.deep = s.deep := d1
        have e2 : s1.step.many = s1.many := rfl
        rw [e1] at d2 k2
        exact node_rd h d2 (by simp only [sizeL]; push_cast; omega) (nat_cmp (Or.inl ⟨rfl, rfl⟩) k1 k2) (by decide)
      · split at h
        · obtain ⟨b, s2, hb, h⟩ := thenB_ok h
          obtain ⟨d2, m2, k2⟩ := I.sum _ _ _ hb
          have e1 : s1.step.deep = s.deep := d1
          have e2 : s1.step.many = s1.many := rfl
          rw [e1] at d2 k2
          exact node_rd h d2 (by simp only [sizeL]; push_cast; omega) (nat_cmp (Or.inr ⟨rfl, rfl⟩) k1 k2) (by decide)
        · cases h
          exact ⟨d1, m1, k1.less (by omega)⟩
    · intro s n s' h
      rw [sumF] at h
      obtain ⟨a, s1, ha, h⟩ := thenB_ok h
      obtain ⟨d1, m1, k1⟩ := I.term _ _ _ ha
      exact Lp.rd d1 m1 (I.sumL _ _ _ _ (by rw [d1]; exact k1.less (by omega)) h)
    · intro n s m s' hn h
      rw [sumL] at h
      split at h
      · obtain ⟨b, s2, hb, h⟩ := thenB_ok h
        obtain ⟨d2, m2, k2⟩ := I.term _ _ _ hb
        have e1 : s.step.deep = s.deep := rfl
        have e2 : s.step.many = s.many := rfl
        rw [e1] at d2 k2
        obtain ⟨c, s3, hc, h⟩ := thenB_ok h
        obtain ⟨d3, m3, k3⟩ := node_rd (k := 1) (s := ⟨s.tok, s.deep, s.many - (sizeN n : Int)⟩) hc d2 (by simp only [sizeL]; push_cast; omega) (nat_add (Or.inl ⟨rfl, rfl⟩) hn k2) (by decide)
        obtain ⟨d4, m4, k4⟩ := I.sumL _ _ _ _ (by rw [d3]; exact k3) h
        simp only at d3 m3
        rw [d3] at d4 k4
        exact ⟨d4, by omega, k4⟩
      · split at h
        · obtain ⟨b, s2, hb, h⟩ := thenB_ok h
          obtain ⟨d2, m2, k2⟩ := I.term _ _ _ hb
          have e1 : s.step.deep = s.deep := rfl
          have e2 : s.step.many = s.many := rfl
          rw [e1] at d2 k2
          obtain ⟨c, s3, hc, h⟩ := thenB_ok h
          obtain ⟨d3, m3, k3⟩ := node_rd (k := 1) (s := ⟨s.tok, s.deep, s.many - (sizeN n : Int)⟩) hc d2 (by simp only [sizeL]; push_cast; omega) (nat_add (Or.inr ⟨rfl, rfl⟩) hn k2) (by decide)
          obtain ⟨d4, m4, k4⟩ := I.sumL _ _ _ _ (by rw [d3]; exact k3) h
          simp only at d3 m3
          rw [d3] at d4 k4
          exact ⟨d4, by omega, k4⟩
        · cases h
          exact ⟨rfl, rfl, hn⟩
    · intro s n s' h
      rw [termF] at h
      obtain ⟨a, s1, ha, h⟩ := thenB_ok h
      obtain ⟨d1, m1, k1⟩ := I.unary _ _ _ ha
      exact Lp.rd d1 m1 (I.termL _ _ _ _ (by rw [d1]; exact k1.less (by omega)) h)
    · intro n s m s' hn h
      rw [termL] at h
      split at h
      · obtain ⟨b, s2, hb, h⟩ := thenB_ok h
        obtain ⟨d2, m2, k2⟩ := I.unary _ _ _ hb
        have e1 : s.step.deep = s.deep := rfl
        have e2 : s.step.many = s.many := rfl
        rw [e1] at d2 k2
        obtain ⟨c, s3, hc, h⟩ := thenB_ok h
        obtain ⟨d3, m3, k3⟩ := node_rd (k := 2) (s := ⟨s.tok, s.deep, s.many - (sizeN n : Int)⟩) hc d2 (by simp only [sizeL]; push_cast; omega) (nat_mul hn k2) (by decide)
        obtain ⟨d4, m4, k4⟩ := I.termL _ _ _ _ (by rw [d3]; exact k3) h
        simp only at d3 m3
        rw [d3] at d4 k4
        exact ⟨d4, by omega, k4⟩
      · cases h
        exact ⟨rfl, rfl, hn⟩
    · intro s n s' h
      rw [unaryF] at h
      split at h
      · obtain ⟨b, s2, hb, h⟩ := thenB_ok h
        obtain ⟨d2, m2, k2⟩ := I.unary _ _ _ hb
        have e2 : s.step.many = s.many := rfl
        exact node_rd (s := s) h d2 (by simp only [sizeL]; push_cast; omega) (nat_un (Or.inl ⟨rfl, rfl⟩) k2) (by decide)
      · split at h
        · obtain ⟨b, s2, hb, h⟩ := thenB_ok h
          obtain ⟨d2, m2, k2⟩ := I.unary _ _ _ hb
          have e2 : s.step.many = s.many := rfl
          exact node_rd (s := s) h d2 (by simp only [sizeL]; push_cast; omega) (nat_un (Or.inr ⟨rfl, rfl⟩) k2) (by decide)
        · exact (I.call _ _ _ h).less (by omega)
    · intro s n s' h
      rw [callF] at h
      obtain ⟨a, s1, ha, h⟩ := thenB_ok h
      obtain ⟨d1, m1, k1⟩ := I.prim _ _ _ ha
      exact Lp.rd d1 m1 (I.callL _ _ _ _ (by rw [d1]; exact k1.less (by omega)) h)
    · intro n s m s' hn h
      rw [callL] at h
      split at h
      · obtain ⟨x, s1, hx, h⟩ := thenB_ok h
        obtain ⟨nx, rfl⟩ := name_ok hS hx
        obtain ⟨u, s2, hu, h⟩ := thenB_ok h
        obtain ⟨rfl, hd⟩ := (want_ok hu).1 (Or.inl rfl)
        obtain ⟨ks, s3, hk, h⟩ := thenB_ok h
        obtain ⟨v, s4, hv, h⟩ := thenB_ok h
        obtain rfl := (want_ok hv).2.1 (Or.inl rfl)
        have q : s3.deep = s.deep + 1 ∧ s3.many = s.many + (sizeL ks : Int) ∧ ∀ c ∈ ks, Nat9 (s.deep + 1) c := by
          split at hk
          · cases hk
            exact ⟨rfl, by show s.many = s.many + 0; omega, fun c hc => by cases hc⟩
          · exact I.args _ _ _ hk
        obtain ⟨q1, q2, q3⟩ := q
        obtain ⟨c, s5, hc, h⟩ := thenB_ok h
        obtain ⟨d3, m3, k3⟩ := node_rd (k := 4) (s := ⟨s.tok, s.deep, s.many - (sizeN n : Int)⟩) hc (by show s3.deep - 1 = s.deep; omega) (by show s3.many = _; simp only [sizeL]; push_cast; omega) (nat_call nx hd hn q3) (by decide)
        have d3' : s5.deep = s.deep := d3
        obtain ⟨d4, m4, k4⟩ := I.callL _ _ _ _ (by rw [d3]; exact k3) h
        simp only at m3
        rw [d3'] at d4 k4
        exact ⟨d4, by omega, k4⟩
      · cases h
        exact ⟨rfl, rfl, hn⟩
    · intro s ks s' h
      rw [argsF] at h
      obtain ⟨a, s1, ha, h⟩ := thenB_ok h
      obtain ⟨d1, m1, k1⟩ := I.expr _ _ _ ha
      split at h
      · obtain ⟨b, s2, hb, h⟩ := thenB_ok h
        obtain ⟨d2, m2, k2⟩ := I.args _ _ _ hb
        have e1 : s1.step.deep = s.deep := d1
        have e2 : s1.step.many = s1.many := rfl
        rw [e1] at d2 k2
        cases h
        refine ⟨d2, by rw [sizeL_cons]; push_cast; omega, fun c hc => ?_⟩
        rcases List.mem_cons.1 hc with rfl | hc
        · exact k1.nat
        · exact k2 c hc
      · cases h
        refine ⟨d1, by rw [sizeL_cons]; simp only [sizeL]; push_cast; omega, fun c hc => ?_⟩
        rcases List.mem_cons.1 hc with rfl | hc
        · exact k1.nat
        · cases hc
    · intro s n s' h
      rw [primF] at h
      split at h
      · rename_i hi
        obtain ⟨h1, h2⟩ := is_kind hi
        obtain ⟨h3, h4⟩ := (hS _ h1).2 h2
        exact node_rd (s := s) h rfl (by show s.many = s.many + 0; omega) (nat_num h3 h4) (by decide)
      · split at h
        · obtain ⟨x, s1, hx, h⟩ := thenB_ok h
          obtain ⟨nx, rfl⟩ := name_ok hS hx
          exact node_rd (s := s) h rfl (by show s.many = s.many + 0; omega) (nat_name nx) (by decide)
        · split at h
          · exact node_rd (s := s) h rfl (by show s.many = s.many + 0; omega) (nat_word (Or.inl ⟨rfl, rfl⟩)) (by decide)
          · split at h
            · exact node_rd (s := s) h rfl (by show s.many = s.many + 0; omega) (nat_word (Or.inr (Or.inl ⟨rfl, rfl⟩))) (by decide)
            · split at h
              · exact node_rd (s := s) h rfl (by show s.many = s.many + 0; omega) (nat_word (Or.inr (Or.inr ⟨rfl, rfl⟩))) (by decide)
              · split at h
                · obtain ⟨x, s1, hx, h⟩ := thenB_ok h
                  obtain ⟨nx, rfl⟩ := name_ok hS hx
                  exact node_rd (s := s) h rfl (by show s.many = s.many + 0; omega) (nat_new nx) (by decide)
                · obtain ⟨u, s1, hu, h⟩ := thenB_ok h
                  obtain ⟨rfl, hd⟩ := (want_ok hu).1 (Or.inl rfl)
                  obtain ⟨a, s2, ha, h⟩ := thenB_ok h
                  obtain ⟨d2, m2, k2⟩ := I.expr _ _ _ ha
                  obtain ⟨v, s3, hv, h⟩ := thenB_ok h
                  obtain rfl := (want_ok hv).2.1 (Or.inl rfl)
                  cases h
                  have e1 : s.down.deep = s.deep + 1 := rfl
                  have e2 : s.down.many = s.many := rfl
                  rw [e1] at d2 k2
                  refine ⟨by show s2.deep - 1 = s.deep; omega, by show s2.many = _; omega, Or.inr ⟨hd, k2.nat⟩⟩
theorem expr_kept {S : Src9} (hS : S.good) {s s' : PS} {n : Nd} (h : exprC S s = .ok (n, s')) : s'.deep = s.deep ∧ s'.many = s.many + (sizeN n : Int) ∧ Nat9 s.deep n := by
  obtain ⟨a, b, c⟩ := (kept hS _).expr _ _ _ h
  exact ⟨a, b, c.nat⟩
end Go.Proofs.YtkppdndbfedijadGreatDoor
