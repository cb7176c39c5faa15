/- Several texts in one. -/
import Derived.Test.YtkppdndbfedijadGreatDoorMb
import Derived.Test.YtkppdndbfedijadGreatDoorMa
/- Chapter 9, plain: statements and blocks, printed and read. -/
namespace Go.Proofs.YtkppdndbfedijadGreatDoor

/-- The tokens la are read as the expression a, where ; or ) or , comes behind. -/
def RX (d : Int) (a : Nd) (la : List Tok) : Prop := ∀ (S : Src9) (s : PS) (x : List Int), s.deep ≤ d → Toks S s.tok la → Toks S (s.past la (sizeN a)).tok (putT x) → (x = sSemi ∨ x = sShut ∨ x = sComma) → exprC S s = .ok (a, s.past la (sizeN a))
theorem expr_use {d : Int} {a : Nd} (h : Nat9 d a) : ∃ la, (∀ F, 2 * sizeN a + 1 ≤ F → exprW F 0 a = some la) ∧ RX d a la := by
  obtain ⟨la, w, o⟩ := h
  refine ⟨la, fun F hF => ?_, fun S s x hs ht hx he => ?_⟩
  · obtain ⟨G, rfl⟩ : ∃ G, F = G + 1 := ⟨F - 1, by omega⟩
    exact w G (by omega)
  · refine o.r0 S s hs ht ?_
    rcases he with rfl | rfl | rfl <;> exact stop_put hx (fun _ => by decide) (fun _ => by decide) (fun _ => ⟨by decide, by decide⟩) (fun _ => ⟨by decide, by decide⟩)
theorem got_is {α : Type} {n : α} {st s : PS} {l : List Tok} {k : Nat} (h1 : st.tok = s.tok + l.length) (h2 : st.deep = s.deep) (h3 : st.many = s.many + (k : Int)) : (Except.ok (n, st) : Got α) = .ok (n, s.past l k) := by
  obtain ⟨a, b, c⟩ := st
  simp only at h1 h2 h3
  subst h1 h2 h3
  rfl
/-- NAME = expr ; -/
theorem with_reads {d : Int} {a : Nd} {la : List Tok} (h : RX d a la) {S : Src9} {s : PS} (kind : Int) {x : List Int} (hs : s.deep ≤ d) (ht : Toks S s.tok ([(1, x, 0)] ++ (putT sSet ++ (la ++ putT sSemi)))) : withC S kind s = .ok (.mk kind x 0 [a], s.past ([(1, x, 0)] ++ (putT sSet ++ (la ++ putT sSemi))) (1 + sizeN a)) := by
  obtain ⟨t1, t'⟩ := toks_app ht
  obtain ⟨t2, t'⟩ := toks_app t'
  obtain ⟨t3, t4⟩ := toks_app t'
  unfold withC
  rw [name_kind t1]
  show (wantP S sSet s.step).then _ = _
  rw [want_put (s := s.step) t2 (by decide) (by decide)]
  show (exprC S s.step.step).then _ = _
  rw [h S s.step.step sSemi hs t3 t4 (Or.inl rfl)]
  show (wantP S sSemi (s.step.step.past la (sizeN a))).then _ = _
  rw [want_put (s := s.step.step.past la (sizeN a)) t4 (by decide) (by decide)]
  refine got_is (st := (s.step.step.past la (sizeN a)).step.node) ?_ rfl ?_
  · show s.tok + 1 + 1 + la.length + 1 = _
    simp only [List.length_append, putT_one, List.length_singleton]; omega
  · show s.many + (sizeN a : Int) + 1 = _
    push_cast; omega
/-- ( expr ) -/
theorem cond_reads {d : Int} {a : Nd} {la : List Tok} (h : RX (d + 1) a la) (hd : d + 1 ≤ 20) {S : Src9} {s : PS} (hs : s.deep ≤ d) (ht : Toks S s.tok (putT sOpen ++ (la ++ putT sShut))) : condC S s = .ok (a, s.past (putT sOpen ++ (la ++ putT sShut)) (sizeN a)) := by
  obtain ⟨t1, t'⟩ := toks_app ht
  obtain ⟨t2, t3⟩ := toks_app t'
  unfold condC
  rw [want_down t1 (Or.inl rfl) (by omega)]
  show (exprC S s.down).then _ = _
  rw [h S s.down sShut (show s.deep + 1 ≤ d + 1 by omega) t2 t3 (Or.inr (Or.inl rfl))]
  show (wantP S sShut (s.down.past la (sizeN a))).then _ = _
  rw [want_up (s := s.down.past la (sizeN a)) t3 (Or.inl rfl)]
  refine got_is (st := (s.down.past la (sizeN a)).up) ?_ ?_ rfl
  · show s.tok + 1 + la.length + 1 = _
    simp only [List.length_append, putT_one]; omega
  · show s.deep + 1 - 1 = s.deep
    omega
theorem one_cond (S : Src9) (kind : Int) (s : PS) : oneC S kind s = (condC S s).then fun k s => (wantP S sSemi s).then fun _ s => nodeP kind [] 0 [k] s := by
  unfold oneC condC
  cases wantP S sOpen s with
  | error e => rfl
  | ok p =>
    obtain ⟨u, s1⟩ := p
    show (exprC S s1).then _ = ((exprC S s1).then _).then _
    cases exprC S s1 with
    | error e => rfl
    | ok p =>
      obtain ⟨k, s2⟩ := p
      show (wantP S sShut s2).then _ = ((wantP S sShut s2).then _).then _
      cases wantP S sShut s2 with
      | error e => rfl
      | ok p => rfl
/-- ( expr ) ; -/
theorem one_reads {d : Int} {a : Nd} {la : List Tok} (h : RX (d + 1) a la) (hd : d + 1 ≤ 20) {S : Src9} {s : PS} (kind : Int) (hs : s.deep ≤ d) (ht : Toks S s.tok ((putT sOpen ++ (la ++ putT sShut)) ++ putT sSemi)) : oneC S kind s = .ok (.mk kind [] 0 [a], s.past ((putT sOpen ++ (la ++ putT sShut)) ++ putT sSemi) (1 + sizeN a)) := by
  obtain ⟨t1, t2⟩ := toks_app ht
  rw [one_cond, cond_reads h hd hs t1]
  show (wantP S sSemi (s.past (putT sOpen ++ (la ++ putT sShut)) (sizeN a))).then _ = _
  rw [want_put (s := s.past (putT sOpen ++ (la ++ putT sShut)) (sizeN a)) t2 (by decide) (by decide)]
  refine got_is (st := (s.past (putT sOpen ++ (la ++ putT sShut)) (sizeN a)).step.node) ?_ rfl ?_
  · show s.tok + (putT sOpen ++ (la ++ putT sShut)).length + 1 = _
    simp only [List.length_append, putT_one]; omega
  · show s.many + (sizeN a : Int) + 1 = _
    push_cast; omega
/-- ( expr , expr ) ; -/
theorem two_reads {d : Int} {a b : Nd} {la lb : List Tok} (h : RX (d + 1) a la) (h' : RX (d + 1) b lb) (hd : d + 1 ≤ 20) {S : Src9} {s : PS} (kind : Int) (hs : s.deep ≤ d) (ht : Toks S s.tok (putT sOpen ++ (la ++ (putT sComma ++ (lb ++ (putT sShut ++ putT sSemi)))))) : twoC S kind s = .ok (.mk kind [] 0 [a, b], s.past (putT sOpen ++ (la ++ (putT sComma ++ (lb ++ (putT sShut ++ putT sSemi))))) (1 + (sizeN a + sizeN b))) := by
  obtain ⟨t1, t'⟩ := toks_app ht
  obtain ⟨t2, t'⟩ := toks_app t'
  obtain ⟨t3, t'⟩ := toks_app t'
  obtain ⟨t4, t'⟩ := toks_app t'
  obtain ⟨t5, t6⟩ := toks_app t'
  unfold twoC
  rw [want_down t1 (Or.inl rfl) (by omega)]
  show (exprC S s.down).then _ = _
  rw [h S s.down sComma (show s.deep + 1 ≤ d + 1 by omega) t2 t3 (Or.inr (Or.inr rfl))]
  show (wantP S sComma (s.down.past la (sizeN a))).then _ = _
  rw [want_put (s := s.down.past la (sizeN a)) t3 (by decide) (by decide)]
  show (exprC S (s.down.past la (sizeN a)).step).then _ = _
  rw [h' S (s.down.past la (sizeN a)).step sShut (show s.deep + 1 ≤ d + 1 by omega) t4 t5 (Or.inr (Or.inl rfl))]
  show (wantP S sShut ((s.down.past la (sizeN a)).step.past lb (sizeN b))).then _ = _
  rw [want_up (s := (s.down.past la (sizeN a)).step.past lb (sizeN b)) t5 (Or.inl rfl)]
  show (wantP S sSemi ((s.down.past la (sizeN a)).step.past lb (sizeN b)).up).then _ = _
  rw [want_put (s := ((s.down.past la (sizeN a)).step.past lb (sizeN b)).up) t6 (by decide) (by decide)]
  refine got_is (st := ((s.down.past la (sizeN a)).step.past lb (sizeN b)).up.step.node) ?_ ?_ ?_
  · show s.tok + 1 + la.length + 1 + lb.length + 1 + 1 = _
    simp only [List.length_append, putT_one]; omega
  · show s.deep + 1 - 1 = s.deep
    omega
  · show s.many + (sizeN a : Int) + (sizeN b : Int) + 1 = _
    push_cast; omega
/-! Statements. -/
def ReadsSt (d : Int) (n : Nd) (l : List Tok) : Prop := ∀ (S : Src9) (s : PS), s.deep ≤ d → Toks S s.tok l → seesB S wElse (s.past l (sizeN n)) = false → stmtC S s = .ok (n, s.past l (sizeN n))
def ReadsB (d : Int) (n : Nd) (l : List Tok) : Prop := ∀ (S : Src9) (s : PS), s.deep ≤ d → Toks S s.tok l → blockC S s = .ok (n, s.past l (sizeN n))
def NatS (d : Int) (n : Nd) : Prop := ∃ l, (∀ F, 2 * sizeN n ≤ F → stmtW F n = some l) ∧ ReadsSt d n l
def NatB (d : Int) (n : Nd) : Prop := ∃ l, (∀ F, 2 * sizeN n ≤ F → blockW F n = some l) ∧ ReadsB d n l
/-- No statement begins so. -/
theorem stmt_not {S : Src9} {s : PS} {x : List Int} {n : Nd} {s1 : PS} (he : stmtC S s = .ok (n, s1)) (h1 : x = sEnd ∨ x = wElse) : seesB S x s = false := by
  cases h : seesB S x s with
  | false => rfl
  | true =>
    obtain ⟨q, i1, i2⟩ := sees_what h
    rw [stmt_eq] at he
    have hs : ¬ setB S s = true := by unfold setB; rw [i1, Bool.false_and]; decide
    have hx : exprC S s = failP S 12 s := expr_not h (by rcases h1 with rfl | rfl <;> decide)
    have nn : ∀ y, x ≠ y → ¬ seesB S y s = true := fun y hy => by rw [q, beq_eq_false_iff_ne.2 hy]; decide
    rw [if_neg (nn _ (by rcases h1 with rfl | rfl <;> decide)), if_neg (nn _ (by rcases h1 with rfl | rfl <;> decide)), if_neg (nn _ (by rcases h1 with rfl | rfl <;> decide)), if_neg (nn _ (by rcases h1 with rfl | rfl <;> decide)), if_neg (nn _ (by rcases h1 with rfl | rfl <;> decide)), if_neg (nn _ (by rcases h1 with rfl | rfl <;> decide)), if_neg (nn _ (by rcases h1 with rfl | rfl <;> decide)), if_neg (nn _ (by rcases h1 with rfl | rfl <;> decide)), if_neg (nn _ (by rcases h1 with rfl | rfl <;> decide)), if_neg hs, hx] at he
    cases he
/-- One behind the other, up to }. -/
theorem stmts_prints {e : Int} : ∀ (ks : List Nd), (∀ c ∈ ks, NatS e c) → ∃ l, (∀ F, 2 * sizeL ks ≤ F → catL (ks.map (stmtW F)) = some l) ∧ (∀ (S : Src9) (s : PS), s.deep ≤ e → Toks S s.tok l → Toks S (s.past l (sizeL ks)).tok (putT sEnd) → stmtsC S s = .ok (ks, s.past l (sizeL ks)) ∧ seesB S wElse s = false)
  | [], _ => by
    refine ⟨[], fun F _ => rfl, fun S s hs ht hc => ?_⟩
    rw [show s.past [] (sizeL []) = s from past_none s] at hc ⊢
    refine ⟨?_, by rw [put_sees hc]; decide⟩
    rw [stmts_eq S s (by have := ht.1; simp at this; omega), if_pos (sees_self hc)]
  | c :: ks, h => by
    obtain ⟨l, w, o⟩ := h c (List.mem_cons_self ..)
    obtain ⟨l2, w2, o2⟩ := stmts_prints ks fun x hx => h x (List.mem_cons_of_mem _ hx)
    refine ⟨l ++ l2, fun F hF => ?_, fun S s hs ht hc => ?_⟩
    · show cat2 (stmtW F c) (catL (ks.map (stmtW F))) = _
      rw [sizeL_cons] at hF
      rw [w F (by omega), w2 F (by omega)]
      rfl
    · rw [sizeL_cons] at hc ⊢
      obtain ⟨t1, t2⟩ := toks_app ht
      rw [← past_app] at hc ⊢
      obtain ⟨r2, el⟩ := o2 S (s.past l (sizeN c)) hs t2 hc
      have r1 := o S s hs t1 el
      refine ⟨?_, stmt_not r1 (Or.inr rfl)⟩
      rw [stmts_eq S s (by have := ht.1; omega), if_neg (by rw [stmt_not r1 (Or.inl rfl)]; decide), r1]
      show (stmtsC S (s.past l (sizeN c))).then _ = _
      rw [r2]
      rfl
/-- A block. -/
theorem nat_block {d : Int} {ks : List Nd} (hd : d + 1 ≤ 20) (h : ∀ c ∈ ks, NatS (d + 1) c) : NatB d (.mk 6 [] 0 ks) := by
  obtain ⟨l, w, o⟩ := stmts_prints ks h
  have hsz : sizeN (.mk 6 [] 0 ks) = 1 + sizeL ks := by conv => lhs; unfold sizeN
  refine ⟨putT sBegin ++ (l ++ putT sEnd), fun F hF => ?_, fun S s hs ht => ?_⟩
  · rw [hsz] at hF
    obtain ⟨G, rfl⟩ : ∃ G, F = G + 1 := ⟨F - 1, by omega⟩
    rw [blockW, if_pos rfl, w G (by omega)]
    rfl
  · obtain ⟨t1, t'⟩ := toks_app ht
    obtain ⟨t2, t3⟩ := toks_app t'
    rw [block_eq, want_down t1 (Or.inr rfl) (by omega)]
    show (stmtsC S s.down).then _ = _
    obtain ⟨r, _⟩ := o S s.down (show s.deep + 1 ≤ d + 1 by omega) t2 t3
    rw [r]
    show (wantP S sEnd (s.down.past l (sizeL ks))).then _ = _
    rw [want_up (s := s.down.past l (sizeL ks)) t3 (Or.inr rfl), hsz]
    refine got_is (st := (s.down.past l (sizeL ks)).up.node) ?_ ?_ ?_
    · show s.tok + 1 + l.length + 1 = _
      simp only [List.length_append, putT_one]; omega
    · show s.deep + 1 - 1 = s.deep
      omega
    · show s.many + (sizeL ks : Int) + 1 = _
      push_cast; omega
end Go.Proofs.YtkppdndbfedijadGreatDoor

/- Chapter 9, plain: every statement, printed and read; what was read. -/
namespace Go.Proofs.YtkppdndbfedijadGreatDoor

theorem name_t {x : List Int} (h : nameB x = true) : nameT x = some [(1, x, 0)] := by unfold nameT; rw [if_pos h]
theorem size_three (k : Int) (x : List Int) (m : Int) (a b c : Nd) : sizeN (.mk k x m [a, b, c]) = 1 + (sizeN a + (sizeN b + sizeN c)) := rfl
/-- var NAME = expr ; -/
theorem stm_var {d : Int} {a : Nd} {x : List Int} (hx : nameB x = true) (ha : Nat9 d a) : NatS d (.mk 7 x 0 [a]) := by
  obtain ⟨la, w, r⟩ := expr_use ha
  refine ⟨putT wVar ++ ([(1, x, 0)] ++ (putT sSet ++ (la ++ putT sSemi))), fun F hF => ?_, fun S s hs ht _ => ?_⟩
  · rw [size_one] at hF
    obtain ⟨G, rfl⟩ : ∃ G, F = G + 1 := ⟨F - 1, by omega⟩
    rw [stmtW]
    show (if (7 : Int) = 7 then _ else _) = _
    rw [if_pos rfl, name_t hx, w G (by omega)]
    simp [semiW, cat2]
  · obtain ⟨t1, t2⟩ := toks_app ht
    rw [stmt_eq, if_pos (sees_self t1), with_reads r (s := s.step) 7 hs t2, size_one]
    refine got_is ?_ rfl rfl
    show s.tok + 1 + _ = _
    rw [List.length_append (as := putT wVar), putT_one]; omega
/-- NAME = expr ; -/
theorem stm_set {d : Int} {a : Nd} {x : List Int} (hx : nameB x = true) (ha : Nat9 d a) : NatS d (.mk 8 x 0 [a]) := by
  obtain ⟨la, w, r⟩ := expr_use ha
  refine ⟨[(1, x, 0)] ++ (putT sSet ++ (la ++ putT sSemi)), fun F hF => ?_, fun S s hs ht _ => ?_⟩
  · rw [size_one] at hF
    obtain ⟨G, rfl⟩ : ∃ G, F = G + 1 := ⟨F - 1, by omega⟩
    rw [stmtW]
    show (if (8 : Int) = 7 then _ else _) = _
    rw [if_neg (by decide), if_pos rfl, name_t hx, w G (by omega)]
    simp [semiW, cat2]
  · obtain ⟨t1, t'⟩ := toks_app ht
    obtain ⟨t2, _⟩ := toks_app t'
    have n : ∀ y, ¬ seesB S y s = true := fun y => by rw [kind_sees t1 (Or.inl rfl)]; decide
    have hb : setB S s = true := by
      obtain ⟨k1, _, _⟩ := kind_is t1 1
      obtain ⟨p1, _, p3⟩ := put_next (s := s.step) t2
      have p1' : s.tok + 1 < S.L.length := p1
      have p3' : (S.at (s.tok + 1)).2.1 = sSet := p3
      unfold setB
      rw [k1, p3', decide_eq_true p1']
      rfl
    rw [stmt_eq, if_neg (n _), if_neg (n _), if_neg (n _), if_neg (n _), if_neg (n _), if_neg (n _), if_neg (n _), if_neg (n _), if_neg (n _), if_pos hb, with_reads r 8 hs ht]
    rfl
/-- return expr ; -/
theorem stm_return {d : Int} {a : Nd} (ha : Nat9 d a) : NatS d (.mk 11 [] 0 [a]) := by
  obtain ⟨la, w, r⟩ := expr_use ha
  refine ⟨putT wReturn ++ (la ++ putT sSemi), fun F hF => ?_, fun S s hs ht _ => ?_⟩
  · rw [size_one] at hF
    obtain ⟨G, rfl⟩ : ∃ G, F = G + 1 := ⟨F - 1, by omega⟩
    rw [stmtW]
    show (if (11 : Int) = 7 then _ else _) = _
    rw [if_neg (by decide), if_neg (by decide), if_neg (by decide), if_neg (by decide), if_pos rfl, w G (by omega)]
    simp [semiW, cat2]
  · obtain ⟨t1, t'⟩ := toks_app ht
    obtain ⟨t2, t3⟩ := toks_app t'
    rw [stmt_eq, if_neg (by rw [put_sees t1]; decide), if_neg (by rw [put_sees t1]; decide), if_neg (by rw [put_sees t1]; decide), if_pos (sees_self t1), r S s.step sSemi hs t2 t3 (Or.inl rfl)]
    show (wantP S sSemi (s.step.past la (sizeN a))).then _ = _
    rw [want_put (s := s.step.past la (sizeN a)) t3 (by decide) (by decide), size_one]
    refine got_is (st := (s.step.past la (sizeN a)).step.node) ?_ rfl ?_
    · show s.tok + 1 + la.length + 1 = _
      simp only [List.length_append, putT_one]; omega
    · show s.many + (sizeN a : Int) + 1 = _
      push_cast; omega
/-- Where a set begins no expression with ; behind it is. -/
theorem no_set {S : Src9} {s s1 : PS} {a : Nd} (he : exprC S s = .ok (a, s1)) (ht : Toks S s1.tok (putT sSemi)) : ¬ setB S s = true := by
  intro hb
  unfold setB at hb
  simp only [Bool.and_eq_true, beq_iff_eq, decide_eq_true_eq] at hb
  obtain ⟨h1, h2, h3⟩ := hb
  obtain ⟨i1, i2⟩ := is_kind h1
  have n : ∀ y, ¬ seesB S y s = true := fun y h => by
    have := (sees_what h).2.1
    rw [h1] at this; cases this
  have n2 : isB S 2 s = false := by
    unfold isB; rw [i2]; simp
  have q : ∀ y, sSet ≠ y → ¬ seesB S y s.step.node = true := fun y hy h => by
    unfold seesB at h
    simp only [Bool.and_eq_true, beq_iff_eq] at h
    have h3' : (S.at s.step.node.tok).2.1 = sSet := h3
    exact hy (h3'.symm.trans h.2.1)
  have e0 : primC S s = .ok (.mk 31 (S.at s.tok).2.1 0 [], s.step.node) := by
    rw [prim_eq, if_neg (by rw [n2]; decide), if_pos h1]
    unfold nameP
    rw [if_pos h1]
    rfl
  have e1 : callC S s = .ok (.mk 31 (S.at s.tok).2.1 0 [], s.step.node) := by
    rw [call_eq, e0]
    show callLC S _ s.step.node = _
    rw [callL_eq, if_neg (q _ (by decide))]
  have e2 : unaryC S s = .ok (.mk 31 (S.at s.tok).2.1 0 [], s.step.node) := by rw [unary_eq, if_neg (n _), if_neg (n _), e1]
  have e3 : termC S s = .ok (.mk 31 (S.at s.tok).2.1 0 [], s.step.node) := by
    rw [term_eq, e2]
    show termLC S _ s.step.node = _
    rw [termL_eq, if_neg (q _ (by decide))]
  have e4 : sumC S s = .ok (.mk 31 (S.at s.tok).2.1 0 [], s.step.node) := by
    rw [sum_eq, e3]
    show sumLC S _ s.step.node = _
    rw [sumL_eq, if_neg (q _ (by decide)), if_neg (q _ (by decide))]
  have e5 : exprC S s = .ok (.mk 31 (S.at s.tok).2.1 0 [], s.step.node) := by
    rw [expr_eq, e4]
    show (if _ then _ else _) = _
    rw [if_neg (q _ (by decide)), if_neg (q _ (by decide))]
  rw [e5] at he
  cases he
  have := (put_next ht).2.2
  have h3' : (S.at s.step.node.tok).2.1 = sSet := h3
  rw [h3'] at this
  exact absurd this (by decide)
/-- expr ; -/
theorem stm_expr {d : Int} {a : Nd} (ha : Nat9 d a) : NatS d (.mk 17 [] 0 [a]) := by
  obtain ⟨la, w, r⟩ := expr_use ha
  refine ⟨la ++ putT sSemi, fun F hF => ?_, fun S s hs ht _ => ?_⟩
  · rw [size_one] at hF
    obtain ⟨G, rfl⟩ : ∃ G, F = G + 1 := ⟨F - 1, by omega⟩
    rw [stmtW]
    show (if (17 : Int) = 7 then _ else _) = _
    rw [if_neg (by decide), if_neg (by decide), if_neg (by decide), if_neg (by decide), if_neg (by decide), if_neg (by decide), if_neg (by decide), if_neg (by decide), if_neg (by decide), if_neg (by decide), if_pos rfl, w G (by omega)]
    rfl
  · obtain ⟨t2, t3⟩ := toks_app ht
    have e := r S s sSemi hs t2 t3 (Or.inl rfl)
    have n : ∀ y, (y ≠ sMinus ∧ y ≠ sNot ∧ y ≠ wNil ∧ y ≠ wSelf ∧ y ≠ wGate ∧ y ≠ wNew ∧ y ≠ sOpen) → ¬ seesB S y s = true := fun y hy => by rw [not_sees e hy]; decide
    rw [stmt_eq, if_neg (n _ (by decide)), if_neg (n _ (by decide)), if_neg (n _ (by decide)), if_neg (n _ (by decide)), if_neg (n _ (by decide)), if_neg (n _ (by decide)), if_neg (n _ (by decide)), if_neg (n _ (by decide)), if_neg (n _ (by decide)), if_neg (no_set e t3), e]
    show (wantP S sSemi (s.past la (sizeN a))).then _ = _
    rw [want_put (s := s.past la (sizeN a)) t3 (by decide) (by decide), size_one]
    refine got_is (st := (s.past la (sizeN a)).step.node) ?_ rfl ?_
    · show s.tok + la.length + 1 = _
      simp only [List.length_append, putT_one]; omega
    · show s.many + (sizeN a : Int) + 1 = _
      push_cast; omega
/-- print, wait, signal ( expr ) ; -/
theorem stm_one {d : Int} {a : Nd} {k : Int} {x : List Int} (hk : (k = 12 ∧ x = wPrint) ∨ (k = 14 ∧ x = wWait) ∨ (k = 15 ∧ x = wSignal)) (hd : d + 1 ≤ 20) (ha : Nat9 (d + 1) a) : NatS d (.mk k [] 0 [a]) := by
  obtain ⟨la, w, r⟩ := expr_use ha
  refine ⟨putT x ++ ((putT sOpen ++ (la ++ putT sShut)) ++ putT sSemi), fun F hF => ?_, fun S s hs ht _ => ?_⟩
  · rw [size_one] at hF
    obtain ⟨G, rfl⟩ : ∃ G, F = G + 1 := ⟨F - 1, by omega⟩
    have e := w G (by omega)
    rw [stmtW]
    rcases hk with ⟨rfl, rfl⟩ | ⟨rfl, rfl⟩ | ⟨rfl, rfl⟩
    · show (if (12 : Int) = 7 then _ else _) = _
      rw [if_neg (by decide), if_neg (by decide), if_neg (by decide), if_neg (by decide), if_neg (by decide), if_pos rfl]
      simp [semiW, cat2, someW, e]
    · show (if (14 : Int) = 7 then _ else _) = _
      rw [if_neg (by decide), if_neg (by decide), if_neg (by decide), if_neg (by decide), if_neg (by decide), if_neg (by decide), if_neg (by decide), if_pos rfl]
      simp [semiW, cat2, someW, e]
    · show (if (15 : Int) = 7 then _ else _) = _
      rw [if_neg (by decide), if_neg (by decide), if_neg (by decide), if_neg (by decide), if_neg (by decide), if_neg (by decide), if_neg (by decide), if_neg (by decide), if_pos rfl]
      simp [semiW, cat2, someW, e]
  · obtain ⟨t1, t2⟩ := toks_app ht
    have g := one_reads r hd (s := s.step) k hs t2
    have fin : (Except.ok (Nd.mk k [] 0 [a], s.step.past ((putT sOpen ++ (la ++ putT sShut)) ++ putT sSemi) (1 + sizeN a)) : Got Nd) = .ok (.mk k [] 0 [a], s.past (putT x ++ ((putT sOpen ++ (la ++ putT sShut)) ++ putT sSemi)) (sizeN (.mk k [] 0 [a]))) := by
      rw [size_one]
      refine got_is ?_ rfl rfl
      show s.tok + 1 + _ = _
      rw [List.length_append (as := putT x), putT_one]; omega
    rw [← fin, ← g, stmt_eq]
    rcases hk with ⟨rfl, rfl⟩ | ⟨rfl, rfl⟩ | ⟨rfl, rfl⟩
    · rw [if_neg (by rw [put_sees t1]; decide), if_neg (by rw [put_sees t1]; decide), if_neg (by rw [put_sees t1]; decide), if_neg (by rw [put_sees t1]; decide), if_pos (sees_self t1)]
    · rw [if_neg (by rw [put_sees t1]; decide), if_neg (by rw [put_sees t1]; decide), if_neg (by rw [put_sees t1]; decide), if_neg (by rw [put_sees t1]; decide), if_neg (by rw [put_sees t1]; decide), if_neg (by rw [put_sees t1]; decide), if_pos (sees_self t1)]
    · rw [if_neg (by rw [put_sees t1]; decide), if_neg (by rw [put_sees t1]; decide), if_neg (by rw [put_sees t1]; decide), if_neg (by rw [put_sees t1]; decide), if_neg (by rw [put_sees t1]; decide), if_neg (by rw [put_sees t1]; decide), if_neg (by rw [put_sees t1]; decide), if_pos (sees_self t1)]
/-- swap ( expr , expr ) ; -/
theorem stm_two {d : Int} {a b : Nd} (hd : d + 1 ≤ 20) (ha : Nat9 (d + 1) a) (hb : Nat9 (d + 1) b) : NatS d (.mk 16 [] 0 [a, b]) := by
  obtain ⟨la, w, r⟩ := expr_use ha
  obtain ⟨lb, w2, r2⟩ := expr_use hb
  refine ⟨putT wSwap ++ (putT sOpen ++ (la ++ (putT sComma ++ (lb ++ (putT sShut ++ putT sSemi))))), fun F hF => ?_, fun S s hs ht _ => ?_⟩
  · rw [size_two] at hF
    obtain ⟨G, rfl⟩ : ∃ G, F = G + 1 := ⟨F - 1, by omega⟩
    have e := w G (by omega)
    have e2 := w2 G (by omega)
    rw [stmtW]
    show (if (16 : Int) = 7 then _ else _) = _
    rw [if_neg (by decide), if_neg (by decide), if_neg (by decide), if_neg (by decide), if_neg (by decide), if_neg (by decide), if_neg (by decide), if_neg (by decide), if_neg (by decide), if_pos rfl]
    simp [semiW, cat2, e, e2]
  · obtain ⟨t1, t2⟩ := toks_app ht
    have g := two_reads r r2 hd (s := s.step) 16 hs t2
    rw [stmt_eq, if_neg (by rw [put_sees t1]; decide), if_neg (by rw [put_sees t1]; decide), if_neg (by rw [put_sees t1]; decide), if_neg (by rw [put_sees t1]; decide), if_neg (by rw [put_sees t1]; decide), if_neg (by rw [put_sees t1]; decide), if_neg (by rw [put_sees t1]; decide), if_neg (by rw [put_sees t1]; decide), if_pos (sees_self t1), g, size_two]
    refine got_is ?_ rfl rfl
    show s.tok + 1 + _ = _
    rw [List.length_append (as := putT wSwap), putT_one]; omega
/-- fork block -/
theorem stm_fork {d : Int} {b : Nd} (hb : NatB d b) : NatS d (.mk 13 [] 0 [b]) := by
  obtain ⟨lb, w, r⟩ := hb
  refine ⟨putT wFork ++ lb, fun F hF => ?_, fun S s hs ht _ => ?_⟩
  · rw [size_one] at hF
    obtain ⟨G, rfl⟩ : ∃ G, F = G + 1 := ⟨F - 1, by omega⟩
    rw [stmtW]
    show (if (13 : Int) = 7 then _ else _) = _
    rw [if_neg (by decide), if_neg (by decide), if_neg (by decide), if_neg (by decide), if_neg (by decide), if_neg (by decide), if_pos rfl, w G (by omega)]
    rfl
  · obtain ⟨t1, t2⟩ := toks_app ht
    rw [stmt_eq, if_neg (by rw [put_sees t1]; decide), if_neg (by rw [put_sees t1]; decide), if_neg (by rw [put_sees t1]; decide), if_neg (by rw [put_sees t1]; decide), if_neg (by rw [put_sees t1]; decide), if_pos (sees_self t1), r S s.step hs t2, size_one]
    refine got_is (st := (s.step.past lb (sizeN b)).node) ?_ rfl ?_
    · show s.tok + 1 + lb.length = _
      rw [List.length_append, putT_one]; omega
    · show s.many + (sizeN b : Int) + 1 = _
      push_cast; omega
/-- while ( expr ) block -/
theorem stm_while {d : Int} {a b : Nd} (hd : d + 1 ≤ 20) (ha : Nat9 (d + 1) a) (hb : NatB d b) : NatS d (.mk 10 [] 0 [a, b]) := by
  obtain ⟨la, w, r⟩ := expr_use ha
  obtain ⟨lb, w2, r2⟩ := hb
  refine ⟨putT wWhile ++ ((putT sOpen ++ (la ++ putT sShut)) ++ lb), fun F hF => ?_, fun S s hs ht _ => ?_⟩
  · rw [size_two] at hF
    obtain ⟨G, rfl⟩ : ∃ G, F = G + 1 := ⟨F - 1, by omega⟩
    have e := w G (by omega)
    have e2 := w2 G (by omega)
    rw [stmtW]
    show (if (10 : Int) = 7 then _ else _) = _
    rw [if_neg (by decide), if_neg (by decide), if_neg (by decide), if_pos rfl]
    simp [cat2, someW, e, e2]
  · obtain ⟨t1, t'⟩ := toks_app ht
    obtain ⟨t2, t3⟩ := toks_app t'
    rw [stmt_eq, if_neg (by rw [put_sees t1]; decide), if_neg (by rw [put_sees t1]; decide), if_pos (sees_self t1), cond_reads r hd (s := s.step) hs t2]
    show (blockC S (s.step.past (putT sOpen ++ (la ++ putT sShut)) (sizeN a))).then _ = _
    rw [r2 S (s.step.past (putT sOpen ++ (la ++ putT sShut)) (sizeN a)) hs t3, size_two]
    refine got_is (st := ((s.step.past (putT sOpen ++ (la ++ putT sShut)) (sizeN a)).past lb (sizeN b)).node) ?_ rfl ?_
    · show s.tok + 1 + (putT sOpen ++ (la ++ putT sShut)).length + lb.length = _
      rw [List.length_append (as := putT wWhile), List.length_append (bs := lb), putT_one]; omega
    · show s.many + (sizeN a : Int) + (sizeN b : Int) + 1 = _
      push_cast; omega
/-- if ( expr ) block -/
theorem stm_if {d : Int} {a b : Nd} (hd : d + 1 ≤ 20) (ha : Nat9 (d + 1) a) (hb : NatB d b) : NatS d (.mk 9 [] 0 [a, b]) := by
  obtain ⟨la, w, r⟩ := expr_use ha
  obtain ⟨lb, w2, r2⟩ := hb
  refine ⟨putT wIf ++ ((putT sOpen ++ (la ++ putT sShut)) ++ lb), fun F hF => ?_, fun S s hs ht hel => ?_⟩
  · rw [size_two] at hF
    obtain ⟨G, rfl⟩ : ∃ G, F = G + 1 := ⟨F - 1, by omega⟩
    have e := w G (by omega)
    have e2 := w2 G (by omega)
    rw [stmtW]
    show (if (9 : Int) = 7 then _ else _) = _
    rw [if_neg (by decide), if_neg (by decide), if_pos rfl]
    simp [cat2, someW, e, e2]
  · obtain ⟨t1, t'⟩ := toks_app ht
    obtain ⟨t2, t3⟩ := toks_app t'
    have fin : ((s.step.past (putT sOpen ++ (la ++ putT sShut)) (sizeN a)).past lb (sizeN b)).node = s.past (putT wIf ++ ((putT sOpen ++ (la ++ putT sShut)) ++ lb)) (1 + (sizeN a + sizeN b)) := by
      rw [step_past _ wIf, past_app, past_app, node_past]
      simp only [List.append_assoc]
      congr 1
      omega
    rw [size_two] at hel ⊢
    rw [← fin] at hel ⊢
    rw [stmt_eq, if_neg (by rw [put_sees t1]; decide), if_pos (sees_self t1), cond_reads r hd (s := s.step) hs t2]
    show (blockC S (s.step.past (putT sOpen ++ (la ++ putT sShut)) (sizeN a))).then _ = _
    rw [r2 S (s.step.past (putT sOpen ++ (la ++ putT sShut)) (sizeN a)) hs t3]
    show (if seesB S wElse ((s.step.past (putT sOpen ++ (la ++ putT sShut)) (sizeN a)).past lb (sizeN b)) = true then _ else _) = _
    have hel' : seesB S wElse ((s.step.past (putT sOpen ++ (la ++ putT sShut)) (sizeN a)).past lb (sizeN b)) = false := hel
    rw [if_neg (by rw [hel']; decide)]
    rfl
/-- if ( expr ) block else block -/
theorem stm_else {d : Int} {a b c : Nd} (hd : d + 1 ≤ 20) (ha : Nat9 (d + 1) a) (hb : NatB d b) (hc : NatB d c) : NatS d (.mk 9 [] 0 [a, b, c]) := by
  obtain ⟨la, w, r⟩ := expr_use ha
  obtain ⟨lb, w2, r2⟩ := hb
  obtain ⟨lc, w3, r3⟩ := hc
  refine ⟨putT wIf ++ ((putT sOpen ++ (la ++ putT sShut)) ++ (lb ++ (putT wElse ++ lc))), fun F hF => ?_, fun S s hs ht _ => ?_⟩
  · rw [size_three] at hF
    obtain ⟨G, rfl⟩ : ∃ G, F = G + 1 := ⟨F - 1, by omega⟩
    have e := w G (by omega)
    have e2 := w2 G (by omega)
    have e3 := w3 G (by omega)
    rw [stmtW]
    show (if (9 : Int) = 7 then _ else _) = _
    rw [if_neg (by decide), if_neg (by decide), if_pos rfl]
    simp [cat2, someW, e, e2, e3]
  · obtain ⟨t1, t'⟩ := toks_app ht
    obtain ⟨t2, t'⟩ := toks_app t'
    obtain ⟨t3, t'⟩ := toks_app t'
    obtain ⟨t4, t5⟩ := toks_app t'
    have fin : (((s.step.past (putT sOpen ++ (la ++ putT sShut)) (sizeN a)).past lb (sizeN b)).step.past lc (sizeN c)).node = s.past (putT wIf ++ ((putT sOpen ++ (la ++ putT sShut)) ++ (lb ++ (putT wElse ++ lc)))) (1 + (sizeN a + (sizeN b + sizeN c))) := by
      rw [step_past s wIf, step_past _ wElse, past_app, past_app, past_app, past_app, node_past]
      simp only [List.append_assoc]
      congr 1
      omega
    rw [size_three, ← fin, stmt_eq, if_neg (by rw [put_sees t1]; decide), if_pos (sees_self t1), cond_reads r hd (s := s.step) hs t2]
    show (blockC S (s.step.past (putT sOpen ++ (la ++ putT sShut)) (sizeN a))).then _ = _
    rw [r2 S (s.step.past (putT sOpen ++ (la ++ putT sShut)) (sizeN a)) hs t3]
    have t4' : Toks S ((s.step.past (putT sOpen ++ (la ++ putT sShut)) (sizeN a)).past lb (sizeN b)).tok (putT wElse) := t4
    show (if seesB S wElse ((s.step.past (putT sOpen ++ (la ++ putT sShut)) (sizeN a)).past lb (sizeN b)) = true then _ else _) = _
    rw [if_pos (sees_self t4'), r3 S ((s.step.past (putT sOpen ++ (la ++ putT sShut)) (sizeN a)).past lb (sizeN b)).step hs t5]
    rfl
end Go.Proofs.YtkppdndbfedijadGreatDoor

/- Chapter 9, plain: statements and blocks that were read can be printed and read as deep as they were. -/
namespace Go.Proofs.YtkppdndbfedijadGreatDoor

/-- n was read from s to s', and P is so of it. -/
def RdP (P : Int → Nd → Prop) (s : PS) (n : Nd) (s' : PS) : Prop := s'.deep = s.deep ∧ s'.many = s.many + (sizeN n : Int) ∧ P s.deep n
theorem node_rdp {P : Int → Nd → Prop} {s s1 s' : PS} {kind num : Int} {x : List Int} {ks : List Nd} {n : Nd} (h : nodeP kind x num ks s1 = .ok (n, s')) (h1 : s1.deep = s.deep) (h2 : s1.many = s.many + (sizeL ks : Int)) (h3 : P s.deep (.mk kind x num ks)) : RdP P s n s' := by
  cases h
  refine ⟨h1, ?_, h3⟩
  have e : sizeN (.mk kind x num ks) = 1 + sizeL ks := by conv => lhs; unfold sizeN
  rw [e]
  show s1.many + 1 = _
  push_cast; omega
theorem sizeL_one (a : Nd) : sizeL [a] = sizeN a := by rw [sizeL_cons]; rfl
theorem sizeL_two (a b : Nd) : sizeL [a, b] = sizeN a + sizeN b := by rw [sizeL_cons, sizeL_one]
theorem sizeL_three (a b c : Nd) : sizeL [a, b, c] = sizeN a + (sizeN b + sizeN c) := by rw [sizeL_cons, sizeL_two]
theorem expr_kf {S : Src9} (hS : S.good) {f : Nat} {s s' : PS} {n : Nd} (h : exprF S f s = .ok (n, s')) : s'.deep = s.deep ∧ s'.many = s.many + (sizeN n : Int) ∧ Nat9 s.deep n := by
  obtain ⟨a, b, c⟩ := (kept hS f).expr _ _ _ h
  exact ⟨a, b, c.nat⟩
theorem with_kf {S : Src9} (hS : S.good) {f : Nat} {kind : Int} {s s' : PS} {n : Nd} (h : withF S f kind s = .ok (n, s')) (hk : kind = 7 ∨ kind = 8) : RdP NatS s n s' := by
  unfold withF at h
  obtain ⟨x, s1, hx, h⟩ := thenB_ok h
  obtain ⟨nx, rfl⟩ := name_ok hS hx
  obtain ⟨u, s2, hu, h⟩ := thenB_ok h
  obtain rfl := (want_ok hu).2.2 (by decide) (by decide)
  obtain ⟨a, s3, ha, h⟩ := thenB_ok h
  obtain ⟨d1, m1, k1⟩ := expr_kf hS ha
  obtain ⟨v, s4, hv, h⟩ := thenB_ok h
  obtain rfl := (want_ok hv).2.2 (by decide) (by decide)
  refine node_rdp h d1 (by rw [sizeL_one]; exact m1) ?_
  rcases hk with rfl | rfl
  · exact stm_var nx k1
  · exact stm_set nx k1
theorem cond_kf {S : Src9} (hS : S.good) {f : Nat} {s s' : PS} {n : Nd} (h : condF S f s = .ok (n, s')) : s'.deep = s.deep ∧ s'.many = s.many + (sizeN n : Int) ∧ s.deep + 1 ≤ 20 ∧ Nat9 (s.deep + 1) n := by
  unfold condF at h
  obtain ⟨u, s1, hu, h⟩ := thenB_ok h
  obtain ⟨rfl, hd⟩ := (want_ok hu).1 (Or.inl rfl)
  obtain ⟨a, s2, ha, h⟩ := thenB_ok h
  obtain ⟨d1, m1, k1⟩ := expr_kf hS ha
  obtain ⟨v, s3, hv, h⟩ := thenB_ok h
  obtain rfl := (want_ok hv).2.1 (Or.inl rfl)
  cases h
  have e1 : s.down.deep = s.deep + 1 := rfl
  exact ⟨by show s2.deep - 1 = s.deep; omega, m1, hd, k1⟩
theorem one_kf {S : Src9} (hS : S.good) {f : Nat} {kind : Int} {s s' : PS} {n : Nd} (h : oneF S f kind s = .ok (n, s')) {x : List Int} (hk : (kind = 12 ∧ x = wPrint) ∨ (kind = 14 ∧ x = wWait) ∨ (kind = 15 ∧ x = wSignal)) : RdP NatS s n s' := by
  unfold oneF at h
  obtain ⟨u, s1, hu, h⟩ := thenB_ok h
  obtain ⟨rfl, hd⟩ := (want_ok hu).1 (Or.inl rfl)
  obtain ⟨a, s2, ha, h⟩ := thenB_ok h
  obtain ⟨d1, m1, k1⟩ := expr_kf hS ha
  obtain ⟨v, s3, hv, h⟩ := thenB_ok h
  obtain rfl := (want_ok hv).2.1 (Or.inl rfl)
  obtain ⟨t, s4, ht, h⟩ := thenB_ok h
  obtain rfl := (want_ok ht).2.2 (by decide) (by decide)
  have e1 : s.down.deep = s.deep + 1 := rfl
  exact node_rdp h (by show s2.deep - 1 = s.deep; omega) (by rw [sizeL_one]; exact m1) (stm_one hk hd k1)
theorem two_kf {S : Src9} (hS : S.good) {f : Nat} {s s' : PS} {n : Nd} (h : twoF S f 16 s = .ok (n, s')) : RdP NatS s n s' := by
  unfold twoF at h
  obtain ⟨u, s1, hu, h⟩ := thenB_ok h
  obtain ⟨rfl, hd⟩ := (want_ok hu).1 (Or.inl rfl)
  obtain ⟨a, s2, ha, h⟩ := thenB_ok h
  obtain ⟨d1, m1, k1⟩ := expr_kf hS ha
  obtain ⟨w, s3, hw, h⟩ := thenB_ok h
  obtain rfl := (want_ok hw).2.2 (by decide) (by decide)
  obtain ⟨b, s4, hb, h⟩ := thenB_ok h
  obtain ⟨d2, m2, k2⟩ := expr_kf hS hb
  obtain ⟨v, s5, hv, h⟩ := thenB_ok h
  obtain rfl := (want_ok hv).2.1 (Or.inl rfl)
  obtain ⟨t, s6, ht, h⟩ := thenB_ok h
  obtain rfl := (want_ok ht).2.2 (by decide) (by decide)
  have e1 : s.down.deep = s.deep + 1 := rfl
  have e2 : s2.step.deep = s2.deep := rfl
  have e3 : s2.step.many = s2.many := rfl
  have e4 : s.down.many = s.many := rfl
  rw [e2, d1, e1] at k2
  exact node_rdp h (by show s4.deep - 1 = s.deep; omega) (by rw [sizeL_two]; show s4.many = _; push_cast; omega) (stm_two hd k1 k2)
structure Kept2 (S : Src9) (f : Nat) : Prop where
  block : ∀ s n s', blockF S f s = .ok (n, s') → RdP NatB s n s'
  stmts : ∀ s ks s', stmtsF S f s = .ok (ks, s') → s'.deep = s.deep ∧ s'.many = s.many + (sizeL ks : Int) ∧ ∀ c ∈ ks, NatS s.deep c
  stmt : ∀ s n s', stmtF S f s = .ok (n, s') → RdP NatS s n s'
theorem kept2 {S : Src9} (hS : S.good) : ∀ f, Kept2 S f
  | 0 => by
    constructor
    · intro s n s' h; rw [blockF] at h; exact no_out h
    · intro s n s' h; rw [stmtsF] at h; exact no_out h
    · intro s n s' h; rw [stmtF] at h; exact no_out h
  | f + 1 => by
    have I := kept2 hS f
    constructor
    · intro s n s' h
      rw [blockF] at h
      obtain ⟨u, s1, hu, h⟩ := thenB_ok h
      obtain ⟨rfl, hd⟩ := (want_ok hu).1 (Or.inr rfl)
      obtain ⟨ks, s2, hk, h⟩ := thenB_ok h
      obtain ⟨d1, m1, k1⟩ := I.stmts _ _ _ hk
      obtain ⟨v, s3, hv, h⟩ := thenB_ok h
      obtain rfl := (want_ok hv).2.1 (Or.inr rfl)
      have e1 : s.down.deep = s.deep + 1 := rfl
      exact node_rdp h (by show s2.deep - 1 = s.deep; omega) m1 (nat_block hd k1)
    · intro s ks s' h
      rw [stmtsF] at h
      split at h
      · cases h
        exact ⟨rfl, by show s.many = s.many + 0; omega, fun c hc => by cases hc⟩
      · obtain ⟨k, s1, hk, h⟩ := thenB_ok h
        obtain ⟨d1, m1, k1⟩ := I.stmt _ _ _ hk
        obtain ⟨ls, s2, hl, h⟩ := thenB_ok h
        obtain ⟨d2, m2, k2⟩ := I.stmts _ _ _ hl
        cases h
        rw [d1] at d2 k2
        refine ⟨d2, by rw [sizeL_cons]; push_cast; omega, fun c hc => ?_⟩
        rcases List.mem_cons.1 hc with rfl | hc
        · exact k1
        · exact k2 c hc
    · intro s n s' h
      rw [stmtF] at h
      have e2 : s.step.many = s.many := rfl
      split at h
      · exact with_kf (s := s.step) hS h (Or.inl rfl)
      split at h
      · obtain ⟨a, s1, ha, h⟩ := thenB_ok h
        obtain ⟨d1, m1, hd, k1⟩ := cond_kf hS ha
        have d1' : s1.deep = s.deep := d1
        obtain ⟨b, s2, hb, h⟩ := thenB_ok h
        obtain ⟨d2, m2, k2⟩ := I.block _ _ _ hb
        rw [d1'] at d2 k2
        split at h
        · obtain ⟨c, s3, hc, h⟩ := thenB_ok h
          obtain ⟨d3, m3, k3⟩ := I.block _ _ _ hc
          have d2' : s2.step.deep = s.deep := d2
          have e3 : s2.step.many = s2.many := rfl
          rw [d2'] at d3 k3
          exact node_rdp h d3 (by rw [sizeL_three]; push_cast; omega) (stm_else hd k1 k2 k3)
        · exact node_rdp h d2 (by rw [sizeL_two]; push_cast; omega) (stm_if hd k1 k2)
      split at h
      · obtain ⟨a, s1, ha, h⟩ := thenB_ok h
        obtain ⟨d1, m1, hd, k1⟩ := cond_kf hS ha
        have d1' : s1.deep = s.deep := d1
        obtain ⟨b, s2, hb, h⟩ := thenB_ok h
        obtain ⟨d2, m2, k2⟩ := I.block _ _ _ hb
        rw [d1'] at d2 k2
        exact node_rdp h d2 (by rw [sizeL_two]; push_cast; omega) (stm_while hd k1 k2)
      split at h
      · obtain ⟨a, s1, ha, h⟩ := thenB_ok h
        obtain ⟨d1, m1, k1⟩ := expr_kf hS ha
        obtain ⟨v, s2, hv, h⟩ := thenB_ok h
        obtain rfl := (want_ok hv).2.2 (by decide) (by decide)
        exact node_rdp (s := s) h d1 (by rw [sizeL_one]; exact m1) (stm_return k1)
      split at h
      · exact one_kf (s := s.step) hS h (Or.inl ⟨rfl, rfl⟩)
      split at h
      · obtain ⟨b, s2, hb, h⟩ := thenB_ok h
        obtain ⟨d2, m2, k2⟩ := I.block _ _ _ hb
        exact node_rdp (s := s) h d2 (by rw [sizeL_one]; exact m2) (stm_fork k2)
      split at h
      · exact one_kf (s := s.step) hS h (Or.inr (Or.inl ⟨rfl, rfl⟩))
      split at h
      · exact one_kf (s := s.step) hS h (Or.inr (Or.inr ⟨rfl, rfl⟩))
      split at h
      · exact two_kf (s := s.step) hS h
      split at h
      · exact with_kf (s := s) hS h (Or.inr rfl)
      · obtain ⟨a, s1, ha, h⟩ := thenB_ok h
        obtain ⟨d1, m1, k1⟩ := expr_kf hS ha
        obtain ⟨v, s2, hv, h⟩ := thenB_ok h
        obtain rfl := (want_ok hv).2.2 (by decide) (by decide)
        exact node_rdp (s := s) h d1 (by rw [sizeL_one]; exact m1) (stm_expr k1)
end Go.Proofs.YtkppdndbfedijadGreatDoor

/- Chapter 9, plain: methods, slots, classes and programs, printed and read. -/
namespace Go.Proofs.YtkppdndbfedijadGreatDoor

theorem cat2_assoc (a b c : Option (List Tok)) : cat2 (cat2 a b) c = cat2 a (cat2 b c) := by
  cases a <;> cases b <;> cases c <;> simp [cat2]
theorem catL_app : ∀ (a b : List (Option (List Tok))), catL (a ++ b) = cat2 (catL a) (catL b)
  | [], b => by
    show catL b = cat2 (some []) (catL b)
    cases catL b <;> rfl
  | x :: a, b => by
    show cat2 x (catL (a ++ b)) = cat2 (cat2 x (catL a)) (catL b)
    rw [catL_app a b, cat2_assoc]
theorem sizeL_app : ∀ (a b : List Nd), sizeL (a ++ b) = sizeL a + sizeL b
  | [], b => by show sizeL b = 0 + sizeL b; omega
  | x :: a, b => by show sizeN x + sizeL (a ++ b) = sizeN x + sizeL a + sizeL b; rw [sizeL_app a b]; omega
theorem size_mk (k : Int) (x : List Int) (m : Int) (ks : List Nd) : sizeN (.mk k x m ks) = 1 + sizeL ks := by conv => lhs; unfold sizeN
theorem left_past {S : Src9} {s : PS} {l : List Tok} (m : Nat) (h : Toks S s.tok l) : S.left (s.past l m) + l.length ≤ S.left s := by
  have := h.1
  unfold Src9.left PS.past
  simp only
  omega
/-- Names of arguments. -/
def ArgN (c : Nd) : Prop := ∃ x, nameB x = true ∧ c = .mk 5 x 0 []
theorem argns_prints : ∀ (ks : List Nd) (b : Nd), (∀ c ∈ b :: ks, ArgN c) → ∃ l, commas ((b :: ks).map fun a => nameT a.text) = some l ∧ (∀ (S : Src9) (s : PS) (f : Nat), 12 * S.left s + 1 ≤ f → Toks S s.tok l → Toks S (s.past l (sizeL (b :: ks))).tok (putT sShut) → argnsF S f s = .ok (b :: ks, s.past l (sizeL (b :: ks))) ∧ seesB S sShut s = false)
  | [], b, h => by
    obtain ⟨x, hx, rfl⟩ := h b (List.mem_cons_self ..)
    refine ⟨[(1, x, 0)], name_t hx, fun S s f hf ht hc => ?_⟩
    obtain ⟨g, rfl⟩ : ∃ g, f = g + 1 := ⟨f - 1, by omega⟩
    refine ⟨?_, kind_sees ht (Or.inl rfl) _⟩
    rw [argnsF, name_kind ht]
    show (if seesB S sComma s.step.node = true then _ else _) = _
    have hc' : Toks S s.step.node.tok (putT sShut) := hc
    rw [if_neg (by rw [put_sees hc']; decide)]
    rfl
  | c :: ks, b, h => by
    obtain ⟨x, hx, rfl⟩ := h b (List.mem_cons_self ..)
    obtain ⟨l2, w2, o2⟩ := argns_prints ks c fun y hy => h y (List.mem_cons_of_mem _ hy)
    refine ⟨[(1, x, 0)] ++ (putT sComma ++ l2), ?_, fun S s f hf ht hc => ?_⟩
    · show cat2 (nameT x) (cat2 (some (putT sComma)) (commas ((c :: ks).map fun a => nameT a.text))) = _
      rw [name_t hx, w2]; rfl
    · obtain ⟨g, rfl⟩ : ∃ g, f = g + 1 := ⟨f - 1, by omega⟩
      obtain ⟨t1, t'⟩ := toks_app ht
      obtain ⟨t2, t3⟩ := toks_app t'
      refine ⟨?_, kind_sees t1 (Or.inl rfl) _⟩
      have t2' : Toks S s.step.node.tok (putT sComma) := t2
      have t3' : Toks S s.step.node.step.tok l2 := t3
      have e : s.step.node.step.past l2 (sizeL (c :: ks)) = s.past ([(1, x, 0)] ++ (putT sComma ++ l2)) (sizeL (.mk 5 x 0 [] :: c :: ks)) := by
        rw [sizeL_cons (.mk 5 x 0 []) (c :: ks), size_none]
        unfold PS.past PS.step PS.node
        simp only [List.length_append, putT_one, List.length_singleton, PS.mk.injEq, true_and]
        exact ⟨by omega, by push_cast; omega⟩
      rw [← e] at hc ⊢
      have hl : S.left s.step.node.step + 2 ≤ S.left s := by
        have := (put_next (s := s.step.node) t2').1
        have h1 : s.step.node.tok = s.tok + 1 := rfl
        have h2 : s.step.node.step.tok = s.tok + 2 := rfl
        unfold Src9.left
        omega
      obtain ⟨r, _⟩ := o2 S s.step.node.step g (by omega) t3' hc
      rw [argnsF, name_kind t1]
      show (if seesB S sComma s.step.node = true then _ else _) = _
      rw [if_pos (sees_self t2'), r]
      rfl
theorem argns_may (ks : List Nd) (h : ∀ c ∈ ks, ArgN c) : ∃ l, commas (ks.map fun a => nameT a.text) = some l ∧ (∀ (S : Src9) (s : PS) (f : Nat), 12 * S.left s + 1 ≤ f → Toks S s.tok l → Toks S (s.past l (sizeL ks)).tok (putT sShut) → (if seesB S sShut s = true then Except.ok ([], s) else argnsF S f s) = .ok (ks, s.past l (sizeL ks))) := by
  cases ks with
  | nil =>
    refine ⟨[], rfl, fun S s f _ _ hc => ?_⟩
    rw [show s.past [] (sizeL []) = s from past_none s] at hc ⊢
    rw [if_pos (sees_self hc)]
  | cons b ks =>
    obtain ⟨l, w, o⟩ := argns_prints ks b h
    refine ⟨l, w, fun S s f hf ht hc => ?_⟩
    obtain ⟨o1, o2⟩ := o S s f hf ht hc
    rw [if_neg (by rw [o2]; decide), o1]
/-- A method. -/
def NatM (d : Int) (n : Nd) : Prop := n.kind = 4 ∧ ∃ l, (∀ F, 2 * sizeN n ≤ F → memberW F n = some (putT wTo ++ l)) ∧ ∀ (S : Src9) (s : PS) (f : Nat), 12 * S.left s + 10 ≤ f → s.deep ≤ d → Toks S s.tok l → methodF S f s = .ok (n, s.past l (sizeN n))
theorem nat_method {d : Int} {x : List Int} {ks : List Nd} {b : Nd} (hx : nameB x = true) (hd : d + 1 ≤ 20) (hk : ∀ c ∈ ks, ArgN c) (hb : NatB d b) : NatM d (.mk 4 x (ks.length : Int) (ks ++ [b])) := by
  obtain ⟨la, wa, ra⟩ := argns_may ks hk
  obtain ⟨lb, wb, rb⟩ := hb
  have hsz : sizeN (.mk 4 x (ks.length : Int) (ks ++ [b])) = 1 + (sizeL ks + sizeN b) := by rw [size_mk, sizeL_app, sizeL_one]
  refine ⟨rfl, [(1, x, 0)] ++ (putT sOpen ++ (la ++ (putT sShut ++ lb))), fun F hF => ?_, fun S s f hf hs ht => ?_⟩
  · rw [hsz] at hF
    have e := wb F (by omega)
    unfold memberW
    rw [if_neg (by show ¬ (4 : Int) = 3; decide), if_pos (show (Nd.mk 4 x (ks.length : Int) (ks ++ [b])).kind = 4 from rfl)]
    show (match (ks ++ [b]).getLast? with | some b => _ | none => _) = _
    rw [List.getLast?_concat]
    show cat2 (some (putT wTo)) (cat2 (nameT x) (cat2 (some (putT sOpen)) (cat2 (argsW (ks ++ [b])) (cat2 (some (putT sShut)) (blockW F b))))) = _
    unfold argsW
    rw [List.dropLast_concat, wa, name_t hx, e]
    rfl
  · obtain ⟨t1, t'⟩ := toks_app ht
    obtain ⟨t2, t'⟩ := toks_app t'
    obtain ⟨t3, t'⟩ := toks_app t'
    obtain ⟨t4, t5⟩ := toks_app t'
    have t2' : Toks S s.step.tok (putT sOpen) := t2
    have t3' : Toks S s.step.down.tok la := t3
    have t4' : Toks S (s.step.down.past la (sizeL ks)).tok (putT sShut) := t4
    have t5' : Toks S (s.step.down.past la (sizeL ks)).up.tok lb := t5
    have l1 := left_less (S := S) (s := s) (s' := s.step.down) (by show s.tok ≤ s.tok + 1 + 1; omega)
    have l2 := left_less (S := S) (s := s) (s' := (s.step.down.past la (sizeL ks)).up) (by show s.tok ≤ s.tok + 1 + 1 + la.length + 1; omega)
    unfold methodF
    rw [name_kind t1]
    show (wantP S sOpen s.step).then _ = _
    rw [want_down t2' (Or.inl rfl) (by show s.deep + 1 ≤ 20; omega)]
    show Got.then (if seesB S sShut s.step.down = true then Except.ok ([], _) else argnsF S f _) _ = _
    rw [ra S s.step.down f (by omega) t3' t4']
    show (wantP S sShut (s.step.down.past la (sizeL ks))).then _ = _
    rw [want_up t4' (Or.inl rfl)]
    show (blockF S f (s.step.down.past la (sizeL ks)).up).then _ = _
    rw [block_c (by omega), rb S _ (show s.deep + 1 - 1 ≤ d by omega) t5', hsz]
    refine got_is (st := ((s.step.down.past la (sizeL ks)).up.past lb (sizeN b)).node) ?_ ?_ ?_
    · show s.tok + 1 + 1 + la.length + 1 + lb.length = _
      simp only [List.length_append, putT_one, List.length_singleton]; omega
    · show s.deep + 1 - 1 = s.deep
      omega
    · show s.many + (sizeL ks : Int) + (sizeN b : Int) + 1 = _
      push_cast; omega
/-- Slots. -/
def SlotN (c : Nd) : Prop := ∃ x, nameB x = true ∧ c = .mk 3 x 0 []
theorem slots_prints : ∀ (ks : List Nd), (∀ c ∈ ks, SlotN c) → ∃ l, (∀ F, catL (ks.map (memberW F)) = some l) ∧ (∀ (S : Src9) (s : PS) (f : Nat), 12 * S.left s + 1 ≤ f → Toks S s.tok l → seesB S wSlot (s.past l (sizeL ks)) = false → slotsF S f s = .ok (ks, s.past l (sizeL ks)))
  | [], _ => by
    refine ⟨[], fun F => rfl, fun S s f hf ht hc => ?_⟩
    obtain ⟨g, rfl⟩ : ∃ g, f = g + 1 := ⟨f - 1, by omega⟩
    rw [show s.past [] (sizeL []) = s from past_none s] at hc ⊢
    rw [slotsF, if_neg (by rw [hc]; decide)]
  | c :: ks, h => by
    obtain ⟨x, hx, rfl⟩ := h c (List.mem_cons_self ..)
    obtain ⟨l2, w2, o2⟩ := slots_prints ks fun y hy => h y (List.mem_cons_of_mem _ hy)
    refine ⟨putT wSlot ++ ([(1, x, 0)] ++ (putT sSemi ++ l2)), fun F => ?_, fun S s f hf ht hc => ?_⟩
    · show cat2 (memberW F (.mk 3 x 0 [])) (catL (ks.map (memberW F))) = _
      rw [w2 F]
      unfold memberW
      rw [if_pos (show (Nd.mk 3 x 0 []).kind = 3 from rfl)]
      show cat2 (semiW (cat2 (some (putT wSlot)) (nameT x))) _ = _
      rw [name_t hx]
      simp [semiW, cat2]
    · obtain ⟨g, rfl⟩ : ∃ g, f = g + 1 := ⟨f - 1, by omega⟩
      obtain ⟨t1, t'⟩ := toks_app ht
      obtain ⟨t2, t'⟩ := toks_app t'
      obtain ⟨t3, t4⟩ := toks_app t'
      have t2' : Toks S s.step.tok [(1, x, 0)] := t2
      have t3' : Toks S s.step.step.tok (putT sSemi) := t3
      have t4' : Toks S s.step.step.step.node.tok l2 := t4
      have e : s.step.step.step.node.past l2 (sizeL ks) = s.past (putT wSlot ++ ([(1, x, 0)] ++ (putT sSemi ++ l2))) (sizeL (.mk 3 x 0 [] :: ks)) := by
        rw [sizeL_cons, size_none]
        unfold PS.past PS.step PS.node
        simp only [List.length_append, putT_one, List.length_singleton, PS.mk.injEq, true_and]
        exact ⟨by omega, by push_cast; omega⟩
      rw [← e] at hc ⊢
      have hl := left_step (S := S) (s := s) (s' := s.step.step.step.node) (put_next t1).1 (by show s.tok + 1 ≤ s.tok + 1 + 1 + 1; omega)
      rw [slotsF, if_pos (sees_self t1), name_kind t2']
      show (wantP S sSemi s.step.step).then _ = _
      rw [want_put t3' (by decide) (by decide)]
      show (slotsF S g s.step.step.step.node).then _ = _
      rw [o2 S _ g (by omega) t4' hc]
      rfl
theorem methods_prints {d : Int} : ∀ (ks : List Nd), (∀ c ∈ ks, NatM d c) → ∃ l, (∀ F, 2 * sizeL ks ≤ F → catL (ks.map (memberW F)) = some l) ∧ (∀ (S : Src9) (s : PS) (f : Nat), 12 * S.left s + 1 ≤ f → s.deep ≤ d → Toks S s.tok l → Toks S (s.past l (sizeL ks)).tok (putT sEnd) → methodsF S f s = .ok (ks, s.past l (sizeL ks)) ∧ seesB S wSlot s = false)
  | [], _ => by
    refine ⟨[], fun F _ => rfl, fun S s f hf _ ht hc => ?_⟩
    obtain ⟨g, rfl⟩ : ∃ g, f = g + 1 := ⟨f - 1, by omega⟩
    rw [show s.past [] (sizeL []) = s from past_none s] at hc ⊢
    refine ⟨?_, by rw [put_sees hc]; decide⟩
    rw [methodsF, if_neg (by rw [put_sees hc]; decide)]
  | c :: ks, h => by
    obtain ⟨_, l, w, o⟩ := h c (List.mem_cons_self ..)
    obtain ⟨l2, w2, o2⟩ := methods_prints ks fun y hy => h y (List.mem_cons_of_mem _ hy)
    refine ⟨putT wTo ++ (l ++ l2), fun F hF => ?_, fun S s f hf hs ht hc => ?_⟩
    · show cat2 (memberW F c) (catL (ks.map (memberW F))) = _
      rw [sizeL_cons] at hF
      rw [w F (by omega), w2 F (by omega)]
      simp [cat2]
    · obtain ⟨g, rfl⟩ : ∃ g, f = g + 1 := ⟨f - 1, by omega⟩
      obtain ⟨t1, t'⟩ := toks_app ht
      obtain ⟨t2, t3⟩ := toks_app t'
      have t2' : Toks S s.step.tok l := t2
      have t3' : Toks S (s.step.past l (sizeN c)).tok l2 := t3
      have e : (s.step.past l (sizeN c)).past l2 (sizeL ks) = s.past (putT wTo ++ (l ++ l2)) (sizeL (c :: ks)) := by
        rw [sizeL_cons, step_past s wTo, past_app, past_app, Nat.zero_add]
      rw [← e] at hc ⊢
      have hl := left_step (S := S) (s := s) (s' := s.step) (put_next t1).1 (Nat.le_refl _)
      have hl2 := left_step (S := S) (s := s) (s' := s.step.past l (sizeN c)) (put_next t1).1 (by show s.tok + 1 ≤ s.tok + 1 + l.length; omega)
      obtain ⟨r2, _⟩ := o2 S (s.step.past l (sizeN c)) g (by omega) hs t3' hc
      refine ⟨?_, by rw [put_sees t1]; decide⟩
      rw [methodsF, if_pos (sees_self t1), o S s.step g (by omega) hs t2']
      show (methodsF S g (s.step.past l (sizeN c))).then _ = _
      rw [r2]
      rfl
/-- What stands in a class, in { and }. -/
theorem body_prints {d : Int} {ks ms : List Nd} (hd : d + 1 ≤ 20) (hk : ∀ c ∈ ks, SlotN c) (hm : ∀ c ∈ ms, NatM (d + 1) c) : ∃ l, (∀ F, 2 * sizeL ms ≤ F → classW.bodyW F (ks ++ ms) = some (putT sBegin ++ (l ++ putT sEnd))) ∧ ∀ (S : Src9) (s : PS) (f : Nat) (x : List Int) (up : List Nd), 12 * S.left s + 1 ≤ f → s.deep ≤ d → Toks S s.tok (putT sBegin ++ (l ++ putT sEnd)) →
    ((wantP S sBegin s).then fun _ s => (slotsF S f s).then fun ks s => (methodsF S f s).then fun ms s => (wantP S sEnd s).then fun _ s => nodeP 2 x 0 (up ++ ks ++ ms) s) = .ok (.mk 2 x 0 (up ++ ks ++ ms), s.past (putT sBegin ++ (l ++ putT sEnd)) (1 + (sizeL ks + sizeL ms))) := by
  obtain ⟨la, wa, ra⟩ := slots_prints ks hk
  obtain ⟨lb, wb, rb⟩ := methods_prints ms hm
  refine ⟨la ++ lb, fun F hF => ?_, fun S s f x up hf hs ht => ?_⟩
  · unfold classW.bodyW
    rw [List.map_append, catL_app, wa F, wb F hF]
    rfl
  · obtain ⟨t1, t'⟩ := toks_app ht
    obtain ⟨t', t4⟩ := toks_app t'
    obtain ⟨t2, t3⟩ := toks_app t'
    have t2' : Toks S s.down.tok la := t2
    have t3' : Toks S (s.down.past la (sizeL ks)).tok lb := t3
    have t4' : Toks S ((s.down.past la (sizeL ks)).past lb (sizeL ms)).tok (putT sEnd) := by
      rw [past_app]; exact t4
    have l1 := left_less (S := S) (s := s) (s' := s.down) (by show s.tok ≤ s.tok + 1; omega)
    have l2 := left_less (S := S) (s := s) (s' := s.down.past la (sizeL ks)) (by show s.tok ≤ s.tok + 1 + la.length; omega)
    obtain ⟨r2, ns⟩ := rb S (s.down.past la (sizeL ks)) f (by omega) (show s.deep + 1 ≤ d + 1 by omega) t3' t4'
    rw [want_down t1 (Or.inr rfl) (by omega)]
    show (slotsF S f s.down).then _ = _
    rw [ra S s.down f (by omega) t2' ns]
    show (methodsF S f (s.down.past la (sizeL ks))).then _ = _
    rw [r2]
    show (wantP S sEnd ((s.down.past la (sizeL ks)).past lb (sizeL ms))).then _ = _
    rw [want_up t4' (Or.inr rfl)]
    refine got_is (st := ((s.down.past la (sizeL ks)).past lb (sizeL ms)).up.node) ?_ ?_ ?_
    · show s.tok + 1 + la.length + lb.length + 1 = _
      simp only [List.length_append, putT_one]; omega
    · show s.deep + 1 - 1 = s.deep
      omega
    · show s.many + (sizeL ks : Int) + (sizeL ms : Int) + 1 = _
      push_cast; omega
/-- A class. -/
def NatC (d : Int) (n : Nd) : Prop := ∃ l, (∀ F, 2 * sizeN n ≤ F → classW F n = some (putT wClass ++ l)) ∧ ∀ (S : Src9) (s : PS) (f : Nat), 12 * S.left s + 1 ≤ f → s.deep ≤ d → Toks S s.tok l → classF S f s = .ok (n, s.past l (sizeN n))
theorem nat_class {d : Int} {x : List Int} {up ks ms : List Nd} (hx : nameB x = true) (hd : d + 1 ≤ 20) (hu : up = [] ∨ ∃ y, nameB y = true ∧ up = [.mk 31 y 0 []]) (hk : ∀ c ∈ ks, SlotN c) (hm : ∀ c ∈ ms, NatM (d + 1) c) : NatC d (.mk 2 x 0 (up ++ ks ++ ms)) := by
  obtain ⟨l, w, r⟩ := body_prints hd hk hm
  have hsz : sizeN (.mk 2 x 0 (up ++ ks ++ ms)) = 1 + (sizeL up + sizeL ks + sizeL ms) := by rw [size_mk, sizeL_app, sizeL_app]
  rcases hu with rfl | ⟨y, hy, rfl⟩
  · refine ⟨[(1, x, 0)] ++ (putT sBegin ++ (l ++ putT sEnd)), fun F hF => ?_, fun S s f hf hs ht => ?_⟩
    · rw [hsz] at hF
      have e := w F (by omega)
      unfold classW
      show cat2 (some (putT wClass)) (cat2 (nameT x) (match ks ++ ms with | u :: ks => _ | [] => _)) = _
      have e2 : (match ks ++ ms with | u :: ks => if u.kind = 31 then cat2 (some (putT sColon)) (cat2 (nameT u.text) (classW.bodyW F ks)) else classW.bodyW F (u :: ks) | [] => classW.bodyW F []) = classW.bodyW F (ks ++ ms) := by
        cases hl : ks ++ ms with
        | nil => rfl
        | cons u us =>
          have hk31 : ¬ u.kind = 31 := by
            have hmem : u ∈ ks ++ ms := by rw [hl]; exact List.mem_cons_self ..
            rcases List.mem_append.1 hmem with h | h
            · obtain ⟨z, _, rfl⟩ := hk u h
              show ¬ (3 : Int) = 31
              decide
            · rw [(hm u h).1]; decide
          show (if u.kind = 31 then _ else _) = _
          rw [if_neg hk31]
      rw [e2, e, name_t hx]
      rfl
    · obtain ⟨t1, t2⟩ := toks_app ht
      have t2' : Toks S s.step.tok (putT sBegin ++ (l ++ putT sEnd)) := t2
      have l1 := left_less (S := S) (s := s) (s' := s.step) (by show s.tok ≤ s.tok + 1; omega)
      unfold classF
      rw [name_kind t1]
      show Got.then (if seesB S sColon s.step = true then _ else Except.ok ([], s.step)) _ = _
      rw [if_neg (by rw [put_sees (toks_app t2').1]; decide)]
      show Got.then (wantP S sBegin s.step) _ = _
      rw [r S s.step f x [] (by omega) hs t2', hsz]
      refine got_is ?_ rfl ?_
      · show s.tok + 1 + _ = _
        simp only [List.length_append, putT_one, List.length_singleton]; omega
      · show s.many + ((1 + (sizeL ks + sizeL ms) : Nat) : Int) = s.many + ((1 + (0 + sizeL ks + sizeL ms) : Nat) : Int)
        push_cast; omega
  · refine ⟨[(1, x, 0)] ++ (putT sColon ++ ([(1, y, 0)] ++ (putT sBegin ++ (l ++ putT sEnd)))), fun F hF => ?_, fun S s f hf hs ht => ?_⟩
    · rw [hsz] at hF
      have e := w F (by omega)
      unfold classW
      show cat2 (some (putT wClass)) (cat2 (nameT x) (if (31 : Int) = 31 then cat2 (some (putT sColon)) (cat2 (nameT y) (classW.bodyW F (ks ++ ms))) else _)) = _
      rw [if_pos rfl, e, name_t hx, name_t hy]
      rfl
    · obtain ⟨t1, t'⟩ := toks_app ht
      obtain ⟨t2, t'⟩ := toks_app t'
      obtain ⟨t3, t4⟩ := toks_app t'
      have t2' : Toks S s.step.tok (putT sColon) := t2
      have t3' : Toks S s.step.step.tok [(1, y, 0)] := t3
      have t4' : Toks S s.step.step.step.node.tok (putT sBegin ++ (l ++ putT sEnd)) := t4
      have l1 := left_less (S := S) (s := s) (s' := s.step.step.step.node) (by show s.tok ≤ s.tok + 1 + 1 + 1; omega)
      unfold classF
      rw [name_kind t1]
      show Got.then (if seesB S sColon s.step = true then Got.then (nameP S s.step.step) _ else _) _ = _
      rw [if_pos (sees_self t2'), name_kind t3']
      show Got.then (wantP S sBegin s.step.step.step.node) _ = _
      rw [r S s.step.step.step.node f x [.mk 31 y 0 []] (by omega) hs t4', hsz]
      refine got_is ?_ rfl ?_
      · show s.tok + 1 + 1 + 1 + _ = _
        simp only [List.length_append, putT_one, List.length_singleton]; omega
      · rw [sizeL_one, size_none]
        show s.many + 1 + ((1 + (sizeL ks + sizeL ms) : Nat) : Int) = _
        push_cast; omega
theorem classes_prints {d : Int} : ∀ (ks : List Nd), (∀ c ∈ ks, NatC d c) → ∃ l, (∀ F, 2 * sizeL ks ≤ F → catL (ks.map (classW F)) = some l) ∧ (∀ (S : Src9) (s : PS) (f : Nat), 12 * S.left s + 1 ≤ f → s.deep ≤ d → Toks S s.tok l → Toks S (s.past l (sizeL ks)).tok (putT wMain) → classesF S f s = .ok (ks, s.past l (sizeL ks)))
  | [], _ => by
    refine ⟨[], fun F _ => rfl, fun S s f hf _ ht hc => ?_⟩
    obtain ⟨g, rfl⟩ : ∃ g, f = g + 1 := ⟨f - 1, by omega⟩
    rw [show s.past [] (sizeL []) = s from past_none s] at hc ⊢
    rw [classesF, if_neg (by rw [put_sees hc]; decide)]
  | c :: ks, h => by
    obtain ⟨l, w, o⟩ := h c (List.mem_cons_self ..)
    obtain ⟨l2, w2, o2⟩ := classes_prints ks fun y hy => h y (List.mem_cons_of_mem _ hy)
    refine ⟨putT wClass ++ (l ++ l2), fun F hF => ?_, fun S s f hf hs ht hc => ?_⟩
    · show cat2 (classW F c) (catL (ks.map (classW F))) = _
      rw [sizeL_cons] at hF
      rw [w F (by omega), w2 F (by omega)]
      simp [cat2]
    · obtain ⟨g, rfl⟩ : ∃ g, f = g + 1 := ⟨f - 1, by omega⟩
      obtain ⟨t1, t'⟩ := toks_app ht
      obtain ⟨t2, t3⟩ := toks_app t'
      have t2' : Toks S s.step.tok l := t2
      have t3' : Toks S (s.step.past l (sizeN c)).tok l2 := t3
      have e : (s.step.past l (sizeN c)).past l2 (sizeL ks) = s.past (putT wClass ++ (l ++ l2)) (sizeL (c :: ks)) := by
        rw [sizeL_cons, step_past s wClass, past_app, past_app, Nat.zero_add]
      rw [← e] at hc ⊢
      have hl := left_step (S := S) (s := s) (s' := s.step) (put_next t1).1 (Nat.le_refl _)
      have hl2 := left_step (S := S) (s := s) (s' := s.step.past l (sizeN c)) (put_next t1).1 (by show s.tok + 1 ≤ s.tok + 1 + l.length; omega)
      rw [classesF, if_pos (sees_self t1), o S s.step g (by omega) hs t2']
      show (classesF S g (s.step.past l (sizeN c))).then _ = _
      rw [o2 S (s.step.past l (sizeN c)) g (by omega) hs t3' hc]
      rfl
/-- A program. -/
def NatP (n : Nd) : Prop := ∃ l, (∀ F, 2 * sizeN n ≤ F → progW F n = some l) ∧ ∀ (S : Src9), Toks S 0 l → progF S (fuel9 S) ⟨0, 0, 0⟩ = .ok (n, PS.past ⟨0, 0, 0⟩ l (sizeN n))
theorem nat_prog {ks : List Nd} {b : Nd} (hk : ∀ c ∈ ks, NatC 0 c) (hb : NatB 0 b) : NatP (.mk 1 [] 0 (ks ++ [b])) := by
  obtain ⟨la, wa, ra⟩ := classes_prints ks hk
  obtain ⟨lb, wb, rb⟩ := hb
  have hsz : sizeN (.mk 1 [] 0 (ks ++ [b])) = 1 + (sizeL ks + sizeN b) := by rw [size_mk, sizeL_app, sizeL_one]
  refine ⟨la ++ (putT wMain ++ lb), fun F hF => ?_, fun S ht => ?_⟩
  · rw [hsz] at hF
    unfold progW
    show (match (ks ++ [b]).getLast? with | some b => _ | none => _) = _
    rw [List.getLast?_concat]
    show (if (1 : Int) = 1 then cat2 (catL ((ks ++ [b]).dropLast.map (classW F))) (cat2 (some (putT wMain)) (blockW F b)) else _) = _
    rw [if_pos rfl, List.dropLast_concat, wa F (by omega), wb F (by omega)]
    rfl
  · obtain ⟨t1, t'⟩ := toks_app ht
    obtain ⟨t2, t3⟩ := toks_app t'
    have t2' : Toks S (PS.past ⟨0, 0, 0⟩ la (sizeL ks)).tok (putT wMain) := t2
    have t3' : Toks S (PS.past ⟨0, 0, 0⟩ la (sizeL ks)).step.tok lb := t3
    have hl : ∀ s, S.left s ≤ S.L.length := fun s => by unfold Src9.left; omega
    have h1 := hl ⟨0, 0, 0⟩
    have h2 := hl (PS.past ⟨0, 0, 0⟩ la (sizeL ks)).step
    unfold progF
    rw [ra S ⟨0, 0, 0⟩ (fuel9 S) (by unfold fuel9; omega) (Int.le_refl _) t1 t2']
    show (wantP S wMain (PS.past ⟨0, 0, 0⟩ la (sizeL ks))).then _ = _
    rw [want_put t2' (by decide) (by decide)]
    show (blockF S (fuel9 S) (PS.past ⟨0, 0, 0⟩ la (sizeL ks)).step).then _ = _
    rw [block_c (by unfold fuel9; omega), rb S _ (Int.le_refl _) t3', hsz]
    refine got_is (st := ((PS.past ⟨0, 0, 0⟩ la (sizeL ks)).step.past lb (sizeN b)).node) ?_ rfl ?_
    · show 0 + la.length + 1 + lb.length = _
      simp only [List.length_append, putT_one]; omega
    · show (0 : Int) + (sizeL ks : Int) + (sizeN b : Int) + 1 = _
      push_cast; omega
end Go.Proofs.YtkppdndbfedijadGreatDoor

/- Chapter 9, plain: a program that was read can be printed, and what is printed is read as that program. -/
namespace Go.Proofs.YtkppdndbfedijadGreatDoor

theorem argns_kf {S : Src9} (hS : S.good) : ∀ (f : Nat) (s : PS) (ks : List Nd) (s' : PS), argnsF S f s = .ok (ks, s') → s'.deep = s.deep ∧ s'.many = s.many + (sizeL ks : Int) ∧ ∀ c ∈ ks, ArgN c
  | 0, s, ks, s', h => by rw [argnsF] at h; exact no_out h
  | f + 1, s, ks, s', h => by
    rw [argnsF] at h
    obtain ⟨x, s1, hx, h⟩ := thenB_ok h
    obtain ⟨nx, rfl⟩ := name_ok hS hx
    obtain ⟨k, s2, hk, h⟩ := thenB_ok h
    cases hk
    split at h
    · obtain ⟨ls, s3, hl, h⟩ := thenB_ok h
      obtain ⟨d1, m1, k1⟩ := argns_kf hS f _ _ _ hl
      cases h
      have e1 : s.step.node.step.deep = s.deep := rfl
      have e2 : s.step.node.step.many = s.many + 1 := rfl
      rw [e1] at d1
      refine ⟨d1, by rw [sizeL_cons, size_none]; push_cast; omega, fun c hc => ?_⟩
      rcases List.mem_cons.1 hc with rfl | hc
      · exact ⟨x, nx, rfl⟩
      · exact k1 c hc
    · cases h
      refine ⟨rfl, rfl, fun c hc => ?_⟩
      rcases List.mem_cons.1 hc with rfl | hc
      · exact ⟨x, nx, rfl⟩
      · cases hc
theorem method_kf {S : Src9} (hS : S.good) {f : Nat} {s s' : PS} {n : Nd} (h : methodF S f s = .ok (n, s')) : RdP NatM s n s' := by
  unfold methodF at h
  obtain ⟨x, s1, hx, h⟩ := thenB_ok h
  obtain ⟨nx, rfl⟩ := name_ok hS hx
  obtain ⟨u, s2, hu, h⟩ := thenB_ok h
  obtain ⟨rfl, hd⟩ := (want_ok hu).1 (Or.inl rfl)
  obtain ⟨ks, s3, hk, h⟩ := thenB_ok h
  have q : s3.deep = s.deep + 1 ∧ s3.many = s.many + (sizeL ks : Int) ∧ ∀ c ∈ ks, ArgN c := by
    split at hk
    · cases hk
      exact ⟨rfl, by show s.many = s.many + 0; omega, fun c hc => by cases hc⟩
    · exact argns_kf hS _ _ _ _ hk
  obtain ⟨q1, q2, q3⟩ := q
  obtain ⟨v, s4, hv, h⟩ := thenB_ok h
  obtain rfl := (want_ok hv).2.1 (Or.inl rfl)
  obtain ⟨b, s5, hb, h⟩ := thenB_ok h
  obtain ⟨d1, m1, k1⟩ := (kept2 hS f).block _ _ _ hb
  have e1 : s3.up.deep = s.deep := by show s3.deep - 1 = s.deep; omega
  have e2 : s3.up.many = s3.many := rfl
  rw [e1] at d1 k1
  exact node_rdp h d1 (by rw [sizeL_app, sizeL_one]; push_cast; omega) (nat_method nx hd q3 k1)
theorem slots_kf {S : Src9} (hS : S.good) : ∀ (f : Nat) (s : PS) (ks : List Nd) (s' : PS), slotsF S f s = .ok (ks, s') → s'.deep = s.deep ∧ s'.many = s.many + (sizeL ks : Int) ∧ ∀ c ∈ ks, SlotN c
  | 0, s, ks, s', h => by rw [slotsF] at h; exact no_out h
  | f + 1, s, ks, s', h => by
    rw [slotsF] at h
    split at h
    · obtain ⟨x, s1, hx, h⟩ := thenB_ok h
      obtain ⟨nx, rfl⟩ := name_ok hS hx
      obtain ⟨u, s2, hu, h⟩ := thenB_ok h
      obtain rfl := (want_ok hu).2.2 (by decide) (by decide)
      obtain ⟨k, s3, hk, h⟩ := thenB_ok h
      cases hk
      obtain ⟨ls, s4, hl, h⟩ := thenB_ok h
      obtain ⟨d1, m1, k1⟩ := slots_kf hS f _ _ _ hl
      cases h
      have e1 : s.step.step.step.node.deep = s.deep := rfl
      have e2 : s.step.step.step.node.many = s.many + 1 := rfl
      rw [e1] at d1
      refine ⟨d1, by rw [sizeL_cons, size_none]; push_cast; omega, fun c hc => ?_⟩
      rcases List.mem_cons.1 hc with rfl | hc
      · exact ⟨x, nx, rfl⟩
      · exact k1 c hc
    · cases h
      exact ⟨rfl, by show s.many = s.many + 0; omega, fun c hc => by cases hc⟩
theorem methods_kf {S : Src9} (hS : S.good) : ∀ (f : Nat) (s : PS) (ks : List Nd) (s' : PS), methodsF S f s = .ok (ks, s') → s'.deep = s.deep ∧ s'.many = s.many + (sizeL ks : Int) ∧ ∀ c ∈ ks, NatM s.deep c
  | 0, s, ks, s', h => by rw [methodsF] at h; exact no_out h
  | f + 1, s, ks, s', h => by
    rw [methodsF] at h
    split at h
    · obtain ⟨k, s1, hk, h⟩ := thenB_ok h
      obtain ⟨d1, m1, k1⟩ := method_kf hS hk
      have e1 : s.step.deep = s.deep := rfl
      have e2 : s.step.many = s.many := rfl
      rw [e1] at d1 k1
      obtain ⟨ls, s2, hl, h⟩ := thenB_ok h
      obtain ⟨d2, m2, k2⟩ := methods_kf hS f _ _ _ hl
      rw [d1] at d2 k2
      cases h
      refine ⟨d2, by rw [sizeL_cons]; push_cast; omega, fun c hc => ?_⟩
      rcases List.mem_cons.1 hc with rfl | hc
      · exact k1
      · exact k2 c hc
    · cases h
      exact ⟨rfl, by show s.many = s.many + 0; omega, fun c hc => by cases hc⟩
theorem class_kf {S : Src9} (hS : S.good) {f : Nat} {s s' : PS} {n : Nd} (h : classF S f s = .ok (n, s')) : RdP NatC s n s' := by
  unfold classF at h
  obtain ⟨x, s1, hx, h⟩ := thenB_ok h
  obtain ⟨nx, rfl⟩ := name_ok hS hx
  obtain ⟨up, s2, hu, h⟩ := thenB_ok h
  have q : s2.deep = s.deep ∧ s2.many = s.many + (sizeL up : Int) ∧ (up = [] ∨ ∃ y, nameB y = true ∧ up = [.mk 31 y 0 []]) := by
    split at hu
    · obtain ⟨y, s3, hy, hu⟩ := thenB_ok hu
      obtain ⟨ny, rfl⟩ := name_ok hS hy
      obtain ⟨k, s4, hk, hu⟩ := thenB_ok hu
      cases hk
      cases hu
      exact ⟨rfl, rfl, Or.inr ⟨y, ny, rfl⟩⟩
    · cases hu
      exact ⟨rfl, by show s.many = s.many + 0; omega, Or.inl rfl⟩
  obtain ⟨q1, q2, q3⟩ := q
  obtain ⟨v, s3, hv, h⟩ := thenB_ok h
  obtain ⟨rfl, hd⟩ := (want_ok hv).1 (Or.inr rfl)
  obtain ⟨ks, s4, hk, h⟩ := thenB_ok h
  obtain ⟨d1, m1, k1⟩ := slots_kf hS _ _ _ _ hk
  obtain ⟨ms, s5, hm, h⟩ := thenB_ok h
  obtain ⟨d2, m2, k2⟩ := methods_kf hS _ _ _ _ hm
  obtain ⟨w, s6, hw, h⟩ := thenB_ok h
  obtain rfl := (want_ok hw).2.1 (Or.inr rfl)
  have e1 : s2.down.deep = s.deep + 1 := by show s2.deep + 1 = _; omega
  have e2 : s2.down.many = s2.many := rfl
  rw [d1, e1] at k2
  exact node_rdp h (by show s5.deep - 1 = s.deep; omega) (by show s5.many = _; rw [sizeL_app, sizeL_app]; push_cast; omega) (nat_class nx (by omega) q3 k1 k2)
theorem classes_kf {S : Src9} (hS : S.good) : ∀ (f : Nat) (s : PS) (ks : List Nd) (s' : PS), classesF S f s = .ok (ks, s') → s'.deep = s.deep ∧ s'.many = s.many + (sizeL ks : Int) ∧ ∀ c ∈ ks, NatC s.deep c
  | 0, s, ks, s', h => by rw [classesF] at h; exact no_out h
  | f + 1, s, ks, s', h => by
    rw [classesF] at h
    split at h
    · obtain ⟨k, s1, hk, h⟩ := thenB_ok h
      obtain ⟨d1, m1, k1⟩ := class_kf hS hk
      have e1 : s.step.deep = s.deep := rfl
      have e2 : s.step.many = s.many := rfl
      rw [e1] at d1 k1
      obtain ⟨ls, s2, hl, h⟩ := thenB_ok h
      obtain ⟨d2, m2, k2⟩ := classes_kf hS f _ _ _ hl
      rw [d1] at d2 k2
      cases h
      refine ⟨d2, by rw [sizeL_cons]; push_cast; omega, fun c hc => ?_⟩
      rcases List.mem_cons.1 hc with rfl | hc
      · exact k1
      · exact k2 c hc
    · cases h
      exact ⟨rfl, by show s.many = s.many + 0; omega, fun c hc => by cases hc⟩
theorem prog_kf {S : Src9} (hS : S.good) {f : Nat} {s' : PS} {n : Nd} (h : progF S f ⟨0, 0, 0⟩ = .ok (n, s')) : s'.many = (sizeN n : Int) ∧ NatP n := by
  unfold progF at h
  obtain ⟨ks, s1, hk, h⟩ := thenB_ok h
  obtain ⟨d1, m1, k1⟩ := classes_kf hS _ _ _ _ hk
  obtain ⟨u, s2, hu, h⟩ := thenB_ok h
  obtain rfl := (want_ok hu).2.2 (by decide) (by decide)
  obtain ⟨b, s3, hb, h⟩ := thenB_ok h
  obtain ⟨d2, m2, k2⟩ := (kept2 hS f).block _ _ _ hb
  have e1 : s1.step.deep = 0 := d1
  have e2 : s1.step.many = s1.many := rfl
  rw [e1] at k2
  cases h
  refine ⟨?_, nat_prog k1 k2⟩
  rw [size_mk, sizeL_app, sizeL_one]
  show s3.many + 1 = _
  simp only at m1
  push_cast; omega
/-- What is all there is. -/
theorem whole_kf {S : Src9} (hS : S.good) {f : Nat} {n : Nd} (h : wholeF S f = .ok n) : sizeN n ≤ 600 ∧ NatP n := by
  unfold wholeF at h
  split at h
  · cases h
  · rename_i m s hp
    obtain ⟨h1, h2⟩ := prog_kf hS hp
    split at h
    · cases h
    · split at h
      · cases h
      · cases h
        exact ⟨by omega, h2⟩
/-- The tokens of a program, at whatever bytes, are read as the program. -/
theorem nat_whole {n : Nd} (h : NatP n) (hn : sizeN n ≤ 600) : ∃ l, (∀ F, 2 * sizeN n ≤ F → progW F n = some l) ∧ ∀ (S : Src9), Toks S 0 l → S.L.length = l.length → wholeF S (fuel9 S) = .ok n := by
  obtain ⟨l, w, r⟩ := h
  refine ⟨l, w, fun S ht hl => ?_⟩
  unfold wholeF
  rw [r S ht]
  show (if 0 + l.length < S.L.length then _ else if 600 < (0 : Int) + (sizeN n : Int) then _ else _) = _
  rw [if_neg (by omega), if_neg (by omega)]
mutual
theorem same_refl : ∀ n : Nd, sameN n n = true
  | .mk k t m ks => by
    unfold sameN
    rw [sameL_refl ks]
    simp
theorem sameL_refl : ∀ ks : List Nd, sameL ks ks = true
  | [] => by unfold sameL; rfl
  | n :: ns => by unfold sameL; rw [same_refl n, sameL_refl ns]; rfl
end
mutual
theorem same_eq : ∀ n m : Nd, sameN n m = true → n = m
  | .mk k t i ks, .mk k' t' i' ks', h => by
    unfold sameN at h
    simp only [Bool.and_eq_true, beq_iff_eq] at h
    obtain ⟨rfl, rfl, rfl, h⟩ := h
    rw [sameL_eq ks ks' h]
theorem sameL_eq : ∀ ks ms : List Nd, sameL ks ms = true → ks = ms
  | [], [], _ => rfl
  | [], _ :: _, h => by unfold sameL at h; cases h
  | _ :: _, [], h => by unfold sameL at h; cases h
  | n :: ns, m :: ms, h => by
    unfold sameL at h
    simp only [Bool.and_eq_true] at h
    rw [same_eq n m h.1, sameL_eq ns ms h.2]
end
theorem toks_self (l : List Tok) (fin : Nat) : Toks ⟨l, fin⟩ 0 l := ⟨by show 0 + l.length ≤ l.length; omega, fun j _ => by rw [Nat.zero_add]; exact ⟨rfl, rfl⟩⟩
/-- The text of tokens. -/
def textT (l : List Tok) : List Int := joinP (l.map fun t => t.2.1) ++ [10]
/-- A program that was read is printed. -/
theorem whole_print {S : Src9} (hS : S.good) {f : Nat} {n : Nd} (h : wholeF S f = .ok n) : ∃ l, printP n = .ok (textT l) ∧ progW (2 * sizeN n + 2) n = some l ∧ ∀ (S : Src9), Toks S 0 l → S.L.length = l.length → wholeF S (fuel9 S) = .ok n := by
  obtain ⟨h1, h2⟩ := whole_kf hS h
  obtain ⟨l, w, r⟩ := nat_whole h2 h1
  have e := w (2 * sizeN n + 2) (by omega)
  refine ⟨l, ?_, e, r⟩
  unfold printP
  rw [if_neg (by omega), e]
  show (match wholeF ⟨l, 0⟩ (fuel9 ⟨l, 0⟩) with | .error _ => _ | .ok m => _) = _
  rw [r ⟨l, 0⟩ (toks_self l 0) rfl]
  show (if sameN n n = true then _ else _) = _
  rw [if_pos (same_refl n)]
  rfl
/-- What was printed. -/
theorem print_is {n : Nd} {t : List Int} (h : printP n = .ok t) : ∃ l, progW (2 * sizeN n + 2) n = some l ∧ t = textT l ∧ wholeF ⟨l, 0⟩ (fuel9 ⟨l, 0⟩) = .ok n := by
  unfold printP at h
  split at h
  · cases h
  · split at h
    · cases h
    · rename_i l hl
      split at h
      · cases h
      · rename_i m hm
        split at h
        · rename_i hs
          cases h
          refine ⟨l, hl, rfl, ?_⟩
          rw [hm, same_eq _ _ hs]
        · cases h
end Go.Proofs.YtkppdndbfedijadGreatDoor

/- Chapters 8 and 9, plain: what is scanned is good to be read; what is printed is good to be scanned. -/
namespace Go.Proofs.YtkppdndbfedijadGreatDoor

theorem stopAt_all {p : Int → Bool} {T : List Int} : ∀ (m i j : Nat), i ≤ j → j < stopAt p T i m → p (wd T j) = true
  | 0, i, j, h1, h2 => by unfold stopAt at h2; omega
  | m + 1, i, j, h1, h2 => by
    unfold stopAt at h2
    split at h2
    · rename_i hp
      by_cases hj : j = i
      · rw [hj]; exact hp
      · exact stopAt_all m (i + 1) j (by omega) h2
    · omega
theorem stop_all {p : Int → Bool} {T : List Int} {i j : Nat} (h1 : i ≤ j) (h2 : j < stopP p T i) : p (wd T j) = true := stopAt_all _ i j h1 h2
theorem all_wd {p : Int → Bool} {x : List Int} (h : ∀ j, j < x.length → p (wd x j) = true) : x.all p = true := by
  rw [List.all_eq_true]
  intro b hb
  obtain ⟨j, hj, rfl⟩ := List.mem_iff_getElem.1 hb
  have := h j hj
  unfold wd at this
  rwa [List.getD_eq_getElem?_getD, List.getElem?_eq_getElem hj] at this
theorem wd_all {p : Int → Bool} {x : List Int} (h : x.all p = true) {j : Nat} (hj : j < x.length) : p (wd x j) = true := by
  rw [List.all_eq_true] at h
  unfold wd
  rw [List.getD_eq_getElem?_getD, List.getElem?_eq_getElem hj]
  exact h _ (List.getElem_mem hj)
theorem decU_pieceG {T : List Int} {i k : Nat} : ∀ m, m ≤ k - i → decU (piece T i k) 0 m = decU T i m
  | 0, _ => rfl
  | m + 1, h => by
    unfold decU
    rw [decU_pieceG m (by omega), Nat.zero_add, piece_at (by omega)]
/-- A token that can be read. -/
def TokFit (t : Tok) : Prop := (t.1 = 1 → nameB t.2.1 = true) ∧ (t.1 = 2 → 0 ≤ numP t.2.1 ∧ numP t.2.1 ≤ 1073741823)
theorem come_fit {T : List Int} {i k : Nat} {t : Tok} (hi : i < T.length) (h : comeP T i = .tok t k) : TokFit t := by
  unfold comeP at h
  split at h
  · cases h
  · split at h
    · cases h
    · split at h
      · rename_i hl
        cases h
        obtain ⟨s1, s2⟩ := stop_more (p := alnB) hi (by unfold alnB; rw [hl]; rfl)
        refine ⟨fun hk => ?_, fun hk => ?_⟩
        · simp only at hk ⊢
          have hw : wordB (piece T i (stopP alnB T i)) = false := by
            cases hw : wordB (piece T i (stopP alnB T i)) with
            | false => rfl
            | true => rw [if_pos hw] at hk; exact absurd hk (by decide)
          have hlen := piece_length (T := T) (i := i) s2
          have h0 : wd (piece T i (stopP alnB T i)) 0 = wd T i := by rw [piece_at (by omega), Nat.add_zero]
          have ha : (piece T i (stopP alnB T i)).all alnB = true := all_wd fun j hj => by
            rw [piece_at (by omega)]
            exact stop_all (p := alnB) (T := T) (i := i) (by omega) (by omega)
          have hne : (piece T i (stopP alnB T i)).isEmpty = false := by
            cases hp : piece T i (stopP alnB T i) with
            | nil => rw [hp] at hlen; simp at hlen; omega
            | cons a l => rfl
          unfold nameB
          rw [hne, h0, hl, ha, hw]
          rfl
        · simp only at hk
          split at hk <;> exact absurd hk (by decide)
      · split at h
        · rename_i hd
          split at h
          · cases h
          · rename_i hb
            cases h
            refine ⟨fun hk => absurd hk (show ¬ (2 : Int) = 1 by decide), fun _ => ?_⟩
            obtain ⟨s1, s2⟩ := stop_more (p := digB) hi hd
            have hlen := piece_length (T := T) (i := i) s2
            have e : numP (piece T i (stopP digB T i)) = decU T i (stopP digB T i - i) := by
              unfold numP
              rw [hlen, decU_pieceG _ (Nat.le_refl _)]
            simp only
            rw [e]
            have hdg : digs T i (stopP digB T i - i) := fun j hj => stop_all (p := digB) (T := T) (i := i) (by omega) (by omega)
            refine ⟨decU_pos _ hdg, ?_⟩
            unfold numBad at hb
            simp only [Bool.or_eq_true, decide_eq_true_eq, not_or] at hb
            omega
        · split at h
          · cases h
          · cases h
            exact ⟨fun hk => absurd hk (show ¬ (4 : Int) = 1 by decide), fun hk => absurd hk (show ¬ (4 : Int) = 2 by decide)⟩
theorem scanN_fit {T : List Int} : ∀ (m i : Nat) (l : List Tok), scanN T m i = .ok l → ∀ t ∈ l, TokFit t
  | 0, i, l, h => by
    unfold scanN at h
    cases h
    intro t ht; cases ht
  | m + 1, i, l, h => by
    unfold scanN at h
    split at h
    · rename_i hi
      cases hc : comeP T i with
      | skip k => rw [hc] at h; exact scanN_fit m k l h
      | tok t k =>
        rw [hc] at h
        simp only at h
        cases hs : scanN T m k with
        | error e => rw [hs] at h; cases h
        | ok l' =>
          rw [hs] at h
          cases h
          intro u hu
          rcases List.mem_cons.1 hu with rfl | hu
          · exact come_fit hi hc
          · exact scanN_fit m k l' hs u hu
      | bad c a => rw [hc] at h; cases h
    · cases h
      intro t ht; cases ht
theorem good_of {l : List Tok} {fin : Nat} (h : ∀ t ∈ l, TokFit t) : Src9.good ⟨l, fin⟩ := fun i hi => by
  have hi' : i < l.length := hi
  have e : Src9.at ⟨l, fin⟩ i = l[i] := by
    unfold Src9.at
    rw [List.getD_eq_getElem?_getD, List.getElem?_eq_getElem hi']
    rfl
  rw [e]
  exact h _ (List.getElem_mem hi')
theorem scan_good {T : List Int} {l : List Tok} (h : scanP T = .ok l) : Src9.good ⟨l, T.length⟩ := by
  unfold scanP at h
  split at h
  · cases h
  · exact good_of (scanN_fit _ _ _ h)
/-! What is printed. -/
/-- A sign. -/
def signB (x : List Int) : Bool := x == [61, 61] || (x.length == 1 && signsL.contains (wd x 0))
def TokOk (t : Tok) : Prop := (t.1 = 1 ∧ nameB t.2.1 = true) ∨ (t.1 = 2 ∧ ∃ m : Int, 0 ≤ m ∧ m ≤ 1073741823 ∧ t.2.1 = decimalP m) ∨ (t.1 = 3 ∧ wordB t.2.1 = true) ∨ (t.1 = 4 ∧ signB t.2.1 = true)
theorem ok_fit {t : Tok} (h : TokOk t) : TokFit t := by
  rcases h with ⟨h1, h2⟩ | ⟨h1, m, h2, h3, h4⟩ | ⟨h1, h2⟩ | ⟨h1, h2⟩
  · exact ⟨fun _ => h2, fun h => by rw [h1] at h; exact absurd h (by decide)⟩
  · exact ⟨fun h => by rw [h1] at h; exact absurd h (by decide), fun _ => by rw [h4, decimal_num h2 h3]; exact ⟨h2, h3⟩⟩
  · exact ⟨fun h => by rw [h1] at h; exact absurd h (by decide), fun h => by rw [h1] at h; exact absurd h (by decide)⟩
  · exact ⟨fun h => by rw [h1] at h; exact absurd h (by decide), fun h => by rw [h1] at h; exact absurd h (by decide)⟩
def AllOk (o : Option (List Tok)) : Prop := ∀ l, o = some l → ∀ t ∈ l, TokOk t
theorem ok_none : AllOk none := fun l h => by cases h
theorem ok_nil : AllOk (some []) := fun l h => by cases h; intro t ht; cases ht
theorem ok_put {x : List Int} (h : (wordB x || signB x) = true) : AllOk (some (putT x)) := fun l hl => by
  cases hl
  intro t ht
  unfold putT at ht
  rw [List.mem_singleton] at ht
  subst ht
  by_cases hw : wordB x = true
  · exact Or.inr (Or.inr (Or.inl ⟨if_pos hw, hw⟩))
  · refine Or.inr (Or.inr (Or.inr ⟨if_neg hw, ?_⟩))
    rw [Bool.or_eq_true] at h
    rcases h with h | h
    · exact absurd h hw
    · exact h
theorem ok_cat {a b : Option (List Tok)} (ha : AllOk a) (hb : AllOk b) : AllOk (cat2 a b) := fun l hl => by
  cases a with
  | none => cases hl
  | some x =>
    cases b with
    | none => cases hl
    | some y =>
      cases hl
      intro t ht
      rcases List.mem_append.1 ht with h | h
      · exact ha x rfl t h
      · exact hb y rfl t h
theorem ok_name (x : List Int) : AllOk (nameT x) := by
  unfold nameT
  split
  · rename_i h
    intro l hl
    cases hl
    intro t ht
    rw [List.mem_singleton] at ht
    subst ht
    exact Or.inl ⟨rfl, h⟩
  · exact ok_none
theorem ok_num (m : Int) : AllOk (numT m) := by
  unfold numT
  split
  · rename_i h
    intro l hl
    cases hl
    intro t ht
    rw [List.mem_singleton] at ht
    subst ht
    exact Or.inr (Or.inl ⟨rfl, m, h.1, h.2, rfl⟩)
  · exact ok_none
theorem ok_commas : ∀ (as : List (Option (List Tok))), (∀ a ∈ as, AllOk a) → AllOk (commas as)
  | [], _ => ok_nil
  | [a], h => h a (List.mem_cons_self ..)
  | a :: b :: as, h => ok_cat (h a (List.mem_cons_self ..)) (ok_cat (ok_put (by decide)) (ok_commas (b :: as) fun c hc => h c (List.mem_cons_of_mem _ hc)))
theorem ok_catL : ∀ (as : List (Option (List Tok))), (∀ a ∈ as, AllOk a) → AllOk (catL as)
  | [], _ => ok_nil
  | a :: as, h => ok_cat (h a (List.mem_cons_self ..)) (ok_catL as fun c hc => h c (List.mem_cons_of_mem _ hc))
theorem ok_map {α : Type} {g : α → Option (List Tok)} (h : ∀ a, AllOk (g a)) (as : List α) : ∀ a ∈ as.map g, AllOk a := fun a ha => by
  obtain ⟨b, _, rfl⟩ := List.mem_map.1 ha
  exact h b
theorem ok_between {g : Nat → Nd → Option (List Tok)} (h : ∀ k n, AllOk (g k n)) (ks : List Nd) {x : List Int} (hx : (wordB x || signB x) = true) (l r : Nat) : AllOk (exprW.betweenW g ks x l r) := by
  unfold exprW.betweenW
  split
  · exact ok_cat (h _ _) (ok_cat (ok_put hx) (h _ _))
  · exact ok_none
theorem ok_ite {c : Prop} [Decidable c] {a b : Option (List Tok)} (ha : AllOk a) (hb : AllOk b) : AllOk (if c then a else b) := by
  by_cases h : c
  · rw [if_pos h]; exact ha
  · rw [if_neg h]; exact hb
theorem ok_expr : ∀ (f k : Nat) (n : Nd), AllOk (exprW f k n)
  | 0, k, n => by unfold exprW; exact ok_none
  | f + 1, k, .mk kind x num ks => by
    have I := ok_expr f
    unfold exprW
    refine ok_ite (ok_cat (ok_put (by decide)) (ok_cat (I _ _) (ok_put (by decide)))) (ok_ite (ok_between I ks (by decide) _ _) (ok_ite (ok_between I ks (by decide) _ _) (ok_ite (ok_between I ks (by decide) _ _) (ok_ite (ok_between I ks (by decide) _ _) (ok_ite (ok_between I ks (by decide) _ _) (ok_ite ?_ (ok_ite ?_ (ok_ite ?_ (ok_ite (ok_num _) (ok_ite (ok_put (by decide)) (ok_ite (ok_put (by decide)) (ok_ite (ok_put (by decide)) (ok_ite (ok_cat (ok_put (by decide)) (ok_name _)) (ok_ite (ok_name _) ok_none))))))))))))))
    · cases ks with
      | nil => exact ok_none
      | cons a as => exact ok_cat (ok_put (by decide)) (I _ _)
    · cases ks with
      | nil => exact ok_none
      | cons a as => exact ok_cat (ok_put (by decide)) (I _ _)
    · cases ks with
      | nil => exact ok_none
      | cons a as => exact ok_cat (I _ _) (ok_cat (ok_put (by decide)) (ok_cat (ok_name _) (ok_cat (ok_put (by decide)) (ok_cat (ok_commas _ (ok_map (I 0) _)) (ok_put (by decide))))))
theorem ok_some (f : Nat) (ks : List Nd) : AllOk (someW f ks) := by
  unfold someW
  split
  · exact ok_cat (ok_put (by decide)) (ok_cat (ok_expr _ _ _) (ok_put (by decide)))
  · exact ok_none
theorem ok_semi {a : Option (List Tok)} (h : AllOk a) : AllOk (semiW a) := ok_cat h (ok_put (by decide))
theorem ok_stmts : ∀ (f : Nat), (∀ n, AllOk (blockW f n)) ∧ (∀ n, AllOk (stmtW f n))
  | 0 => ⟨fun n => by unfold blockW; exact ok_none, fun n => by unfold stmtW; exact ok_none⟩
  | f + 1 => by
    obtain ⟨I, J⟩ := ok_stmts f
    refine ⟨fun n => ?_, fun n => ?_⟩
    · obtain ⟨k, x, m, ks⟩ := n
      rw [blockW]
      split
      · exact ok_cat (ok_put (by decide)) (ok_cat (ok_catL _ (ok_map J _)) (ok_put (by decide)))
      · exact ok_none
    · obtain ⟨k, x, m, ks⟩ := n
      cases ks with
      | nil => rw [stmtW]; exact ok_none
      | cons a as =>
        rw [stmtW.eq_def]
        show AllOk (if k = 7 then _ else _)
        refine ok_ite (ok_semi (ok_cat (ok_put (by decide)) (ok_cat (ok_name _) (ok_cat (ok_put (by decide)) (ok_expr _ _ _))))) (ok_ite (ok_semi (ok_cat (ok_name _) (ok_cat (ok_put (by decide)) (ok_expr _ _ _)))) (ok_ite ?_ (ok_ite ?_ (ok_ite (ok_semi (ok_cat (ok_put (by decide)) (ok_expr _ _ _))) (ok_ite (ok_semi (ok_cat (ok_put (by decide)) (ok_some _ _))) (ok_ite (ok_cat (ok_put (by decide)) (I _)) (ok_ite (ok_semi (ok_cat (ok_put (by decide)) (ok_some _ _))) (ok_ite (ok_semi (ok_cat (ok_put (by decide)) (ok_some _ _))) (ok_ite ?_ (ok_ite (ok_semi (ok_expr _ _ _)) ok_none))))))))))
        · cases as with
          | nil => exact ok_none
          | cons b bs =>
            cases bs with
            | nil => exact ok_cat (ok_put (by decide)) (ok_cat (ok_some _ _) (I _))
            | cons c cs => exact ok_cat (ok_put (by decide)) (ok_cat (ok_some _ _) (ok_cat (I _) (ok_cat (ok_put (by decide)) (I _))))
        · cases as with
          | nil => exact ok_none
          | cons b bs => exact ok_cat (ok_put (by decide)) (ok_cat (ok_some _ _) (I _))
        · cases as with
          | nil => exact ok_none
          | cons b bs => exact ok_semi (ok_cat (ok_put (by decide)) (ok_cat (ok_put (by decide)) (ok_cat (ok_expr _ _ _) (ok_cat (ok_put (by decide)) (ok_cat (ok_expr _ _ _) (ok_put (by decide)))))))
theorem ok_member (f : Nat) (n : Nd) : AllOk (memberW f n) := by
  unfold memberW
  split
  · exact ok_semi (ok_cat (ok_put (by decide)) (ok_name _))
  split
  · split
    · exact ok_cat (ok_put (by decide)) (ok_cat (ok_name _) (ok_cat (ok_put (by decide)) (ok_cat (ok_commas _ (ok_map (fun a : Nd => ok_name a.text) _)) (ok_cat (ok_put (by decide)) ((ok_stmts f).1 _)))))
    · exact ok_none
  · exact ok_none
theorem ok_body (f : Nat) (ks : List Nd) : AllOk (classW.bodyW f ks) := ok_cat (ok_put (by decide)) (ok_cat (ok_catL _ (ok_map (ok_member f) _)) (ok_put (by decide)))
theorem ok_class (f : Nat) (n : Nd) : AllOk (classW f n) := by
  unfold classW
  refine ok_cat (ok_put (by decide)) (ok_cat (ok_name _) ?_)
  split
  · split
    · exact ok_cat (ok_put (by decide)) (ok_cat (ok_name _) (ok_body _ _))
    · exact ok_body _ _
  · exact ok_body _ _
theorem ok_prog (f : Nat) (n : Nd) : AllOk (progW f n) := by
  unfold progW
  split
  · split
    · exact ok_cat (ok_catL _ (ok_map (ok_class f) _)) (ok_cat (ok_put (by decide)) ((ok_stmts f).1 _))
    · exact ok_none
  · exact ok_none
end Go.Proofs.YtkppdndbfedijadGreatDoor

/- Chapter 9, plain: what tokens of a text look like: no name and no decimal looks like a word or a sign. -/
namespace Go.Proofs.YtkppdndbfedijadGreatDoor

/-- A token's look: its kind tells it. -/
def TokLook (t : Tok) : Prop := (t.1 = 1 ∧ nameB t.2.1 = true) ∨ (t.1 = 2 ∧ 0 < t.2.1.length ∧ t.2.1.all digB = true ∧ numP t.2.1 ≤ 1073741823) ∨ t.1 = 3 ∨ t.1 = 4
theorem come_look {T : List Int} {i k : Nat} {t : Tok} (hi : i < T.length) (h : comeP T i = .tok t k) : TokLook t := by
  have hf := come_fit hi h
  unfold comeP at h
  split at h
  · cases h
  · split at h
    · cases h
    · split at h
      · cases h
        by_cases hw : wordB (piece T i (stopP alnB T i)) = true
        · exact Or.inr (Or.inr (Or.inl (by show (if _ then _ else _ : Int) = 3; rw [if_pos hw])))
        · have e : (if wordB (piece T i (stopP alnB T i)) = true then (3 : Int) else 1) = 1 := if_neg hw
          exact Or.inl ⟨e, hf.1 e⟩
      · split at h
        · rename_i hd
          split at h
          · cases h
          · cases h
            obtain ⟨s1, s2⟩ := stop_more (p := digB) hi hd
            have hlen := piece_length (T := T) (i := i) s2
            refine Or.inr (Or.inl ⟨rfl, ?_, ?_, (hf.2 rfl).2⟩)
            · show 0 < (piece T i (stopP digB T i)).length
              omega
            · exact all_wd fun j hj => by
                have hj' : j < (piece T i (stopP digB T i)).length := hj
                show digB (wd (piece T i (stopP digB T i)) j) = true
                rw [piece_at (by omega)]
                exact stop_all (p := digB) (T := T) (i := i) (by omega) (by omega)
        · split at h
          · cases h
          · cases h
            exact Or.inr (Or.inr (Or.inr rfl))
theorem scanN_look {T : List Int} : ∀ (m i : Nat) (l : List Tok), scanN T m i = .ok l → ∀ t ∈ l, TokLook t
  | 0, i, l, h => by
    unfold scanN at h
    cases h
    intro t ht; cases ht
  | m + 1, i, l, h => by
    unfold scanN at h
    split at h
    · rename_i hi
      cases hc : comeP T i with
      | skip k => rw [hc] at h; exact scanN_look m k l h
      | tok t k =>
        rw [hc] at h
        simp only at h
        cases hs : scanN T m k with
        | error e => rw [hs] at h; cases h
        | ok l' =>
          rw [hs] at h
          cases h
          intro u hu
          rcases List.mem_cons.1 hu with rfl | hu
          · exact come_look hi hc
          · exact scanN_look m k l' hs u hu
      | bad c a => rw [hc] at h; cases h
    · cases h
      intro t ht; cases ht
/-- All tokens of a source look so. -/
def Looks (S : Src9) : Prop := ∀ i, i < S.L.length → TokLook (S.at i)
theorem looks_of {l : List Tok} {fin : Nat} (h : ∀ t ∈ l, TokLook t) : Looks ⟨l, fin⟩ := fun i hi => by
  have hi' : i < l.length := hi
  have e : Src9.at ⟨l, fin⟩ i = l[i] := by
    unfold Src9.at
    rw [List.getD_eq_getElem?_getD, List.getElem?_eq_getElem hi']
    rfl
  rw [e]
  exact h _ (List.getElem_mem hi')
theorem scan_looks {T : List Int} {l : List Tok} (h : scanP T = .ok l) : Looks ⟨l, T.length⟩ := by
  unfold scanP at h
  split at h
  · cases h
  · exact looks_of (scanN_look _ _ _ h)
/-- The text of what is next: none where nothing is. -/
def Src9.text (S : Src9) (s : PS) : List Int := if s.tok < S.L.length then (S.at s.tok).2.1 else []
/-- A text that no name and no decimal has. -/
def plainX (x : List Int) : Bool := !x.isEmpty && (!nameB x && !(x.all digB))
theorem sees_text {S : Src9} (hl : Looks S) {x : List Int} (hx : plainX x = true) (s : PS) : seesB S x s = (S.text s == x) := by
  unfold plainX at hx
  simp only [Bool.and_eq_true, Bool.not_eq_true'] at hx
  obtain ⟨h0, h1, h2⟩ := hx
  unfold seesB Src9.text
  by_cases ht : s.tok < S.L.length
  · rw [if_pos ht, decide_eq_true ht, Bool.true_and]
    cases he : (S.at s.tok).2.1 == x with
    | false => rfl
    | true =>
      have e : (S.at s.tok).2.1 = x := by simpa using he
      rcases hl s.tok ht with ⟨_, hn⟩ | ⟨_, _, hd, _⟩ | hk | hk
      · rw [e, h1] at hn; cases hn
      · rw [e, h2] at hd; cases hd
      · rw [hk]; rfl
      · rw [hk]; rfl
  · rw [if_neg ht, decide_eq_false ht, Bool.false_and]
    cases x with
    | nil => cases h0
    | cons a l => rfl
/-- Past what is next, whatever the grammar wants: as deep as it is then. -/
def takeP (S : Src9) (s : PS) : Got (List Int) :=
  if S.text s = sOpen ∨ S.text s = sBegin then (if 20 < s.deep + 1 then failP S 13 s else .ok (S.text s, { s with tok := s.tok + 1, deep := s.deep + 1 }))
  else if S.text s = sShut ∨ S.text s = sEnd then .ok (S.text s, { s with tok := s.tok + 1, deep := s.deep - 1 })
  else .ok (S.text s, s.step)
theorem want_take {S : Src9} (hl : Looks S) {x : List Int} (hx : plainX x = true) (s : PS) : wantP S x s = if S.text s = x then (takeP S s).then fun _ s => .ok ((), s) else failP S 12 s := by
  unfold wantP takeP
  rw [sees_text hl hx]
  by_cases he : S.text s = x
  · rw [if_pos he, if_pos (by rw [he]; simp), he]
    split
    · split <;> rfl
    · split <;> rfl
  · rw [if_neg he, if_neg (by simpa using he)]
/-- A name is no bracket. -/
theorem name_take {S : Src9} (hl : Looks S) (s : PS) : nameP S s = if isB S 1 s = true then takeP S s else failP S 12 s := by
  unfold nameP
  by_cases h : isB S 1 s = true
  · rw [if_pos h, if_pos h]
    have h' := h
    unfold isB at h'
    simp only [Bool.and_eq_true, decide_eq_true_eq] at h'
    obtain ⟨ht, hk⟩ := h'
    have hk1 : (S.at s.tok).1 = 1 := by simpa using hk
    have hn : nameB (S.at s.tok).2.1 = true := by
      rcases hl s.tok ht with ⟨_, hn⟩ | ⟨hk2, _⟩ | hk2 | hk2
      · exact hn
      · rw [hk1] at hk2; exact absurd hk2 (by decide)
      · rw [hk1] at hk2; exact absurd hk2 (by decide)
      · rw [hk1] at hk2; exact absurd hk2 (by decide)
    have e : S.text s = (S.at s.tok).2.1 := by unfold Src9.text; rw [if_pos ht]
    unfold takeP
    rw [e]
    rw [if_neg (by rintro (h | h) <;> (rw [h] at hn; exact absurd hn (by decide))), if_neg (by rintro (h | h) <;> (rw [h] at hn; exact absurd hn (by decide)))]
  · rw [if_neg h, if_neg h]
end Go.Proofs.YtkppdndbfedijadGreatDoor

/- Chapter 9, plain: a fault's code is never 0. -/
namespace Go.Proofs.YtkppdndbfedijadGreatDoor

/-- A fault, if there is one, is no OK. -/
def Bad {α : Type} (g : Got α) : Prop := ∀ e, g = .error e → e.1 ≠ 0
theorem badG_ok {α : Type} (y : α × PS) : Bad (.ok y : Got α) := fun e h => by cases h
theorem bad_out {α : Type} : Bad (outP : Got α) := fun e h => by unfold outP at h; cases h; decide
theorem bad_fail {α : Type} {c : Int} (S : Src9) (s : PS) (hc : c ≠ 0) : Bad (failP S c s : Got α) := fun e h => by unfold failP at h; cases h; exact hc
theorem bad_then {α β : Type} {g : Got α} {f : α → PS → Got β} (h : Bad g) (h' : ∀ a s, Bad (f a s)) : Bad (g.then f) := fun e he => by
  cases g with
  | error e' => exact h e (by unfold Got.then at he; exact congrArg _ (by injection he))
  | ok y => exact h' y.1 y.2 e he
theorem bad_ite {α : Type} {p : Prop} [Decidable p] {a b : Got α} (ha : Bad a) (hb : Bad b) : Bad (if p then a else b) := by
  by_cases h : p
  · rw [if_pos h]; exact ha
  · rw [if_neg h]; exact hb
theorem bad_want (S : Src9) (x : List Int) (s : PS) : Bad (wantP S x s) := by
  unfold wantP
  exact bad_ite (bad_ite (bad_ite (bad_fail _ _ (by decide)) (badG_ok _)) (bad_ite (badG_ok _) (badG_ok _))) (bad_fail _ _ (by decide))
theorem bad_name (S : Src9) (s : PS) : Bad (nameP S s) := bad_ite (badG_ok _) (bad_fail _ _ (by decide))
theorem bad_node (k : Int) (x : List Int) (m : Int) (ks : List Nd) (s : PS) : Bad (nodeP k x m ks s) := badG_ok _
structure BadE (S : Src9) (f : Nat) : Prop where
  expr : ∀ s, Bad (exprF S f s)
  sum : ∀ s, Bad (sumF S f s)
  sumL : ∀ n s, Bad (sumL S f n s)
  term : ∀ s, Bad (termF S f s)
  termL : ∀ n s, Bad (termL S f n s)
  unary : ∀ s, Bad (unaryF S f s)
  call : ∀ s, Bad (callF S f s)
  callL : ∀ n s, Bad (callL S f n s)
  args : ∀ s, Bad (argsF S f s)
  prim : ∀ s, Bad (primF S f s)
theorem badE (S : Src9) : ∀ f, BadE S f
  | 0 => ⟨fun _ => by rw [exprF]; exact bad_out, fun _ => by rw [sumF]; exact bad_out, fun _ _ => by rw [sumL]; exact bad_out, fun _ => by rw [termF]; exact bad_out, fun _ _ => by rw [termL]; exact bad_out, fun _ => by rw [unaryF]; exact bad_out, fun _ => by rw [callF]; exact bad_out, fun _ _ => by rw [callL]; exact bad_out, fun _ => by rw [argsF]; exact bad_out, fun _ => by rw [primF]; exact bad_out⟩
  | f + 1 => by
    have ih := badE S f
    refine ⟨fun s => ?_, fun s => ?_, fun n s => ?_, fun s => ?_, fun n s => ?_, fun s => ?_, fun s => ?_, fun n s => ?_, fun s => ?_, fun s => ?_⟩
    · rw [exprF]; (repeat (first | exact ih.expr _ | exact ih.sum _ | exact ih.sumL _ _ | exact ih.term _ | exact ih.termL _ _ | exact ih.unary _ | exact ih.call _ | exact ih.callL _ _ | exact ih.args _ | exact ih.prim _ | exact badG_ok _ | exact bad_out | exact bad_want _ _ _ | exact bad_name _ _ | exact bad_node _ _ _ _ _ | exact bad_fail _ _ (by decide) | refine bad_then ?_ (fun _ _ => ?_) | refine bad_ite ?_ ?_))
    · rw [sumF]; (repeat (first | exact ih.expr _ | exact ih.sum _ | exact ih.sumL _ _ | exact ih.term _ | exact ih.termL _ _ | exact ih.unary _ | exact ih.call _ | exact ih.callL _ _ | exact ih.args _ | exact ih.prim _ | exact badG_ok _ | exact bad_out | exact bad_want _ _ _ | exact bad_name _ _ | exact bad_node _ _ _ _ _ | exact bad_fail _ _ (by decide) | refine bad_then ?_ (fun _ _ => ?_) | refine bad_ite ?_ ?_))
    · rw [sumL]; (repeat (first | exact ih.expr _ | exact ih.sum _ | exact ih.sumL _ _ | exact ih.term _ | exact ih.termL _ _ | exact ih.unary _ | exact ih.call _ | exact ih.callL _ _ | exact ih.args _ | exact ih.prim _ | exact badG_ok _ | exact bad_out | exact bad_want _ _ _ | exact bad_name _ _ | exact bad_node _ _ _ _ _ | exact bad_fail _ _ (by decide) | refine bad_then ?_ (fun _ _ => ?_) | refine bad_ite ?_ ?_))
    · rw [termF]; (repeat (first | exact ih.expr _ | exact ih.sum _ | exact ih.sumL _ _ | exact ih.term _ | exact ih.termL _ _ | exact ih.unary _ | exact ih.call _ | exact ih.callL _ _ | exact ih.args _ | exact ih.prim _ | exact badG_ok _ | exact bad_out | exact bad_want _ _ _ | exact bad_name _ _ | exact bad_node _ _ _ _ _ | exact bad_fail _ _ (by decide) | refine bad_then ?_ (fun _ _ => ?_) | refine bad_ite ?_ ?_))
    · rw [termL]; (repeat (first | exact ih.expr _ | exact ih.sum _ | exact ih.sumL _ _ | exact ih.term _ | exact ih.termL _ _ | exact ih.unary _ | exact ih.call _ | exact ih.callL _ _ | exact ih.args _ | exact ih.prim _ | exact badG_ok _ | exact bad_out | exact bad_want _ _ _ | exact bad_name _ _ | exact bad_node _ _ _ _ _ | exact bad_fail _ _ (by decide) | refine bad_then ?_ (fun _ _ => ?_) | refine bad_ite ?_ ?_))
    · rw [unaryF]; (repeat (first | exact ih.expr _ | exact ih.sum _ | exact ih.sumL _ _ | exact ih.term _ | exact ih.termL _ _ | exact ih.unary _ | exact ih.call _ | exact ih.callL _ _ | exact ih.args _ | exact ih.prim _ | exact badG_ok _ | exact bad_out | exact bad_want _ _ _ | exact bad_name _ _ | exact bad_node _ _ _ _ _ | exact bad_fail _ _ (by decide) | refine bad_then ?_ (fun _ _ => ?_) | refine bad_ite ?_ ?_))
    · rw [callF]; (repeat (first | exact ih.expr _ | exact ih.sum _ | exact ih.sumL _ _ | exact ih.term _ | exact ih.termL _ _ | exact ih.unary _ | exact ih.call _ | exact ih.callL _ _ | exact ih.args _ | exact ih.prim _ | exact badG_ok _ | exact bad_out | exact bad_want _ _ _ | exact bad_name _ _ | exact bad_node _ _ _ _ _ | exact bad_fail _ _ (by decide) | refine bad_then ?_ (fun _ _ => ?_) | refine bad_ite ?_ ?_))
    · rw [callL]; (repeat (first | exact ih.expr _ | exact ih.sum _ | exact ih.sumL _ _ | exact ih.term _ | exact ih.termL _ _ | exact ih.unary _ | exact ih.call _ | exact ih.callL _ _ | exact ih.args _ | exact ih.prim _ | exact badG_ok _ | exact bad_out | exact bad_want _ _ _ | exact bad_name _ _ | exact bad_node _ _ _ _ _ | exact bad_fail _ _ (by decide) | refine bad_then ?_ (fun _ _ => ?_) | refine bad_ite ?_ ?_))
    · rw [argsF]; (repeat (first | exact ih.expr _ | exact ih.sum _ | exact ih.sumL _ _ | exact ih.term _ | exact ih.termL _ _ | exact ih.unary _ | exact ih.call _ | exact ih.callL _ _ | exact ih.args _ | exact ih.prim _ | exact badG_ok _ | exact bad_out | exact bad_want _ _ _ | exact bad_name _ _ | exact bad_node _ _ _ _ _ | exact bad_fail _ _ (by decide) | refine bad_then ?_ (fun _ _ => ?_) | refine bad_ite ?_ ?_))
    · rw [primF]; (repeat (first | exact ih.expr _ | exact ih.sum _ | exact ih.sumL _ _ | exact ih.term _ | exact ih.termL _ _ | exact ih.unary _ | exact ih.call _ | exact ih.callL _ _ | exact ih.args _ | exact ih.prim _ | exact badG_ok _ | exact bad_out | exact bad_want _ _ _ | exact bad_name _ _ | exact bad_node _ _ _ _ _ | exact bad_fail _ _ (by decide) | refine bad_then ?_ (fun _ _ => ?_) | refine bad_ite ?_ ?_))
theorem bad_with (S : Src9) (f : Nat) (k : Int) (s : PS) : Bad (withF S f k s) := by
  have ih := badE S f
  unfold withF; (repeat (first | exact ih.expr _ | exact badG_ok _ | exact bad_out | exact bad_want _ _ _ | exact bad_name _ _ | exact bad_node _ _ _ _ _ | exact bad_fail _ _ (by decide) | refine bad_then ?_ (fun _ _ => ?_) | refine bad_ite ?_ ?_))
theorem bad_one (S : Src9) (f : Nat) (k : Int) (s : PS) : Bad (oneF S f k s) := by
  have ih := badE S f
  unfold oneF; (repeat (first | exact ih.expr _ | exact badG_ok _ | exact bad_out | exact bad_want _ _ _ | exact bad_name _ _ | exact bad_node _ _ _ _ _ | exact bad_fail _ _ (by decide) | refine bad_then ?_ (fun _ _ => ?_) | refine bad_ite ?_ ?_))
theorem bad_two (S : Src9) (f : Nat) (k : Int) (s : PS) : Bad (twoF S f k s) := by
  have ih := badE S f
  unfold twoF; (repeat (first | exact ih.expr _ | exact badG_ok _ | exact bad_out | exact bad_want _ _ _ | exact bad_name _ _ | exact bad_node _ _ _ _ _ | exact bad_fail _ _ (by decide) | refine bad_then ?_ (fun _ _ => ?_) | refine bad_ite ?_ ?_))
theorem bad_cond (S : Src9) (f : Nat) (s : PS) : Bad (condF S f s) := by
  have ih := badE S f
  unfold condF; (repeat (first | exact ih.expr _ | exact badG_ok _ | exact bad_out | exact bad_want _ _ _ | exact bad_name _ _ | exact bad_node _ _ _ _ _ | exact bad_fail _ _ (by decide) | refine bad_then ?_ (fun _ _ => ?_) | refine bad_ite ?_ ?_))
structure BadB (S : Src9) (f : Nat) : Prop where
  block : ∀ s, Bad (blockF S f s)
  stmts : ∀ s, Bad (stmtsF S f s)
  stmt : ∀ s, Bad (stmtF S f s)
theorem badB (S : Src9) : ∀ f, BadB S f
  | 0 => ⟨fun _ => by rw [blockF]; exact bad_out, fun _ => by rw [stmtsF]; exact bad_out, fun _ => by rw [stmtF]; exact bad_out⟩
  | f + 1 => by
    have ih := badB S f
    refine ⟨fun s => ?_, fun s => ?_, fun s => ?_⟩
    · rw [blockF]; (repeat (first | exact ih.block _ | exact ih.stmts _ | exact ih.stmt _ | exact (badE S f).expr _ | exact bad_with _ _ _ _ | exact bad_one _ _ _ _ | exact bad_two _ _ _ _ | exact bad_cond _ _ _ | exact badG_ok _ | exact bad_out | exact bad_want _ _ _ | exact bad_name _ _ | exact bad_node _ _ _ _ _ | exact bad_fail _ _ (by decide) | refine bad_then ?_ (fun _ _ => ?_) | refine bad_ite ?_ ?_))
    · rw [stmtsF]; (repeat (first | exact ih.block _ | exact ih.stmts _ | exact ih.stmt _ | exact (badE S f).expr _ | exact bad_with _ _ _ _ | exact bad_one _ _ _ _ | exact bad_two _ _ _ _ | exact bad_cond _ _ _ | exact badG_ok _ | exact bad_out | exact bad_want _ _ _ | exact bad_name _ _ | exact bad_node _ _ _ _ _ | exact bad_fail _ _ (by decide) | refine bad_then ?_ (fun _ _ => ?_) | refine bad_ite ?_ ?_))
    · rw [stmtF]; (repeat (first | exact ih.block _ | exact ih.stmts _ | exact ih.stmt _ | exact (badE S f).expr _ | exact bad_with _ _ _ _ | exact bad_one _ _ _ _ | exact bad_two _ _ _ _ | exact bad_cond _ _ _ | exact badG_ok _ | exact bad_out | exact bad_want _ _ _ | exact bad_name _ _ | exact bad_node _ _ _ _ _ | exact bad_fail _ _ (by decide) | refine bad_then ?_ (fun _ _ => ?_) | refine bad_ite ?_ ?_))
theorem bad_argns (S : Src9) : ∀ f s, Bad (argnsF S f s)
  | 0, _ => by rw [argnsF]; exact bad_out
  | f + 1, s => by
    have ih := bad_argns S f
    rw [argnsF]; (repeat (first | exact ih _ | exact badG_ok _ | exact bad_out | exact bad_want _ _ _ | exact bad_name _ _ | exact bad_node _ _ _ _ _ | exact bad_fail _ _ (by decide) | refine bad_then ?_ (fun _ _ => ?_) | refine bad_ite ?_ ?_))
theorem bad_method (S : Src9) (f : Nat) (s : PS) : Bad (methodF S f s) := by
  unfold methodF; (repeat (first | exact bad_argns _ _ _ | exact (badB S f).block _ | exact badG_ok _ | exact bad_out | exact bad_want _ _ _ | exact bad_name _ _ | exact bad_node _ _ _ _ _ | exact bad_fail _ _ (by decide) | refine bad_then ?_ (fun _ _ => ?_) | refine bad_ite ?_ ?_))
theorem bad_slots (S : Src9) : ∀ f s, Bad (slotsF S f s)
  | 0, _ => by rw [slotsF]; exact bad_out
  | f + 1, s => by
    have ih := bad_slots S f
    rw [slotsF]; (repeat (first | exact ih _ | exact badG_ok _ | exact bad_out | exact bad_want _ _ _ | exact bad_name _ _ | exact bad_node _ _ _ _ _ | exact bad_fail _ _ (by decide) | refine bad_then ?_ (fun _ _ => ?_) | refine bad_ite ?_ ?_))
theorem bad_methods (S : Src9) : ∀ f s, Bad (methodsF S f s)
  | 0, _ => by rw [methodsF]; exact bad_out
  | f + 1, s => by
    have ih := bad_methods S f
    rw [methodsF]; (repeat (first | exact ih _ | exact bad_method _ _ _ | exact badG_ok _ | exact bad_out | exact bad_want _ _ _ | exact bad_name _ _ | exact bad_node _ _ _ _ _ | exact bad_fail _ _ (by decide) | refine bad_then ?_ (fun _ _ => ?_) | refine bad_ite ?_ ?_))
theorem bad_class (S : Src9) (f : Nat) (s : PS) : Bad (classF S f s) := by
  unfold classF; (repeat (first | exact bad_slots _ _ _ | exact bad_methods _ _ _ | exact badG_ok _ | exact bad_out | exact bad_want _ _ _ | exact bad_name _ _ | exact bad_node _ _ _ _ _ | exact bad_fail _ _ (by decide) | refine bad_then ?_ (fun _ _ => ?_) | refine bad_ite ?_ ?_))
theorem bad_classes (S : Src9) : ∀ f s, Bad (classesF S f s)
  | 0, _ => by rw [classesF]; exact bad_out
  | f + 1, s => by
    have ih := bad_classes S f
    rw [classesF]; (repeat (first | exact ih _ | exact bad_class _ _ _ | exact badG_ok _ | exact bad_out | exact bad_want _ _ _ | exact bad_name _ _ | exact bad_node _ _ _ _ _ | exact bad_fail _ _ (by decide) | refine bad_then ?_ (fun _ _ => ?_) | refine bad_ite ?_ ?_))
theorem bad_prog (S : Src9) (f : Nat) (s : PS) : Bad (progF S f s) := by
  unfold progF; (repeat (first | exact bad_classes _ _ _ | exact (badB S f).block _ | exact badG_ok _ | exact bad_out | exact bad_want _ _ _ | exact bad_name _ _ | exact bad_node _ _ _ _ _ | exact bad_fail _ _ (by decide) | refine bad_then ?_ (fun _ _ => ?_) | refine bad_ite ?_ ?_))
end Go.Proofs.YtkppdndbfedijadGreatDoor
