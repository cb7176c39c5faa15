/- Several texts in one. -/
import Derived.Test.YtkppdndbfedijadGreatDoorMd
/- gessoref9: loops over nodes; term. -/
namespace Go.Proofs.YtkppdndbfedijadGreatDoor
open Go.RowKit

/-- Where a loop that makes one node of another is: what is still to come makes G. -/
def Loop9 (w : World) (M : Nat → Prop) (u : Value) (G : Got Nd) (L : Nd → PS → Got Nd) (lo : Nat) (st : St9) (i : Nat) : Prop := match st with
  | .ok s => (∃ n, NodeV w M u n ∧ G = L n s) ∧ i ≤ s.tok ∧ lo ≤ s.tok
  | .error e => G = .error e ∧ AnyN u
theorem Loop9.any {w : World} {M : Nat → Prop} {u : Value} {G : Got Nd} {L : Nd → PS → Got Nd} {lo : Nat} {st : St9} {i : Nat} (h : Loop9 w M u G L lo st i) : AnyN u := by
  match st, h with
  | .ok s, h => obtain ⟨⟨n, hn, _⟩, _⟩ := h; exact hn.any
  | .error e, h => exact h.2
theorem Loop9.above {w w' : World} {M : Nat → Prop} {u : Value} {G : Got Nd} {L : Nd → PS → Got Nd} {lo : Nat} {st : St9} {i : Nat} (h : Loop9 w M u G L lo st i) (ha : Above M w w') : Loop9 w' M u G L lo st i := by
  match st, h with
  | .ok s, h => obtain ⟨⟨n, hn, hG⟩, hi⟩ := h; exact ⟨⟨n, hn.above ha, hG⟩, hi⟩
  | .error e, h => exact h
theorem Loop9.first {w : World} {M : Nat → Prop} {u : Value} {g : Got Nd} {L : Nd → PS → Got Nd} {lo : Nat} (h : ValG w M u g) (hl : ∀ n s, g = .ok (n, s) → lo ≤ s.tok) : Loop9 w M u (g.then L) L lo (stOf g) 0 := by
  match g, h, hl with
  | .ok (n, s), h, hl => exact ⟨⟨n, h, rfl⟩, Nat.zero_le _, hl n s rfl⟩
  | .error e, h, _ => exact ⟨rfl, h⟩
/-- The end of such a loop: what was made is what was to be read. -/
theorem Loop9.done {w : World} {M : Nat → Prop} {u : Value} {G : Got Nd} {L : Nd → PS → Got Nd} {lo : Nat} {st : St9} {i : Nat} (h : Loop9 w M u G L lo st i) (hl : ∀ n s, st = .ok s → L n s = .ok (n, s)) : ValG w M u G ∧ stOf G = st := by
  match st, h with
  | .ok s, h =>
    obtain ⟨⟨n, hn, hG⟩, _⟩ := h
    rw [hG, hl n s rfl]
    exact ⟨hn, rfl⟩
  | .error e, h => rw [h.1]; exact ⟨h.2, rfl⟩
/-- A node of two kids. -/
theorem two_val {w : World} {M : Nat → Prop} {kind : Int} {n : Nd} {g : Got Nd} {a b c d a' b' c' d' : Value} {T : TypeId} (hn : NodeV w M (.agg #[a, b, c, d]) n) (h : ValG w M (.agg #[a', b', c', d']) g) (hB : M w.heap.size) {w' : World} (ha : Above M (w.alloc (.cells #[a, b, c, d, a', b', c', d'] T)) w') :
    ValG w' M (.agg #[.int .i64 kind, .string ⟨#[]⟩, .int .i64 0, .slice (some ⟨w.heap.size, 0, none⟩) 2 2]) (g.then fun k s => nodeP kind [] 0 [n, k] s) := by
  match g, h with
  | .ok (m, s), h => exact NodeV.above (node_val (tx := []) (kids2 hn h hB 2)) ha
  | .error e, h => exact ⟨_, _, _, _, _, _, rfl⟩
theorem two_st {kind : Int} {n : Nd} {g : Got Nd} : stOf (g.then fun k s => nodeP kind [] 0 [n, k] s) = nodeS (stOf g) := by
  match g with
  | .ok (m, s) => rfl
  | .error e => rfl
theorem loop_next {w : World} {M : Nat → Prop} {u : Value} {G g : Got Nd} {L : Nd → PS → Got Nd} {kind : Int} {n : Nd} {i : Nat} (hv : ValG w M u (g.then fun k s => nodeP kind [] 0 [n, k] s)) (hG : G = g.then fun k s => (nodeP kind [] 0 [n, k] s).then fun m s => L m s) {lo : Nat} (hi : ∀ m s, g = .ok (m, s) → i + 1 ≤ s.tok ∧ lo ≤ s.tok) : Loop9 w M u G L lo (nodeS (stOf g)) (i + 1) := by
  match g, hv, hG, hi with
  | .ok (m, s), hv, hG, hi => exact ⟨⟨_, hv, hG⟩, hi m s rfl⟩
  | .error e, hv, hG, hi => exact ⟨hG, hv⟩
/-- Blocks that a loop's nodes may lie in. -/
abbrev Off (R N : Nat) : Nat → Prop := fun k => R < k ∧ k ≠ N
/-- The first token that is past where a reader begins. -/
def low9 (st : St9) : Nat := match st with
  | .ok s => s.tok + 1
  | .error _ => 0
set_option maxHeartbeats 8000000 in
theorem term_reads (Q B : Nat) (v : Value) (S : Src9) (st : St9)
    (h1 : Reads9 196 (unaryC S) Q B v S st)
    (h2 : ∀ s : PS, low9 st ≤ s.tok → s.tok < S.L.length → Reads9 196 (unaryC S) Q B v S (.ok s.step)) : Reads9 188 (termC S) Q B v S st := by
  intro w hp
  have hRB := hp.size
  have hqb := hp.qb
  have hfew := hp.few
  obtain ⟨vad, vc, hv0, _⟩ := hp.toks
  subst hv0
  have HPA : Hid (Par (w.alloc zeroN) Q B (.slice vad S.L.length vc) S st) := hp.below ((Below.refl _ w).alloc (Nat.le_refl _) _)
  have HX : Hid (Box4 (w.alloc zeroN) w.heap.size (.int .i64 0) (.string ⟨#[]⟩) (.int .i64 0) (.slice none 0 0)) := Box4.new _ _ _ _ _
  have e1 : nums ⟨#[42]⟩ = sTimes := by decide
  have hbg : ∀ st' w', Par w' Q B (.slice vad S.L.length vc) S st' → Calls Tryz.prog 147 #[.pointer (some ⟨Q, 0, none⟩), .string ⟨#[42]⟩] w' fun e w'' => e = .returned (.bool (seesS S sTimes st')) ∧ Par w'' Q B (.slice vad S.L.length vc) S (stepS S sTimes st') ∧ w'.grownBy w'' (some Q) := fun st' w' h' => by have := begins_any9 Q B _ S st' ⟨#[42]⟩ w' h'; rw [e1] at this; exact this
  have HG : bindS st (termC S) = (bindS st (unaryC S)).then (termLC S) := by
    match st with
    | .error e => rfl
    | .ok s => exact term_eq S s
  have HT : Hid (∀ n s1, bindS st (unaryC S) = .ok (n, s1) → low9 st ≤ s1.tok) := fun n s1 e => by
    match st, e with
    | .ok s, e => exact (unary_at e).1
  rw [HG]
  have h1' : Hid (∀ w, Par w Q B (.slice vad S.L.length vc) S st → Calls Tryz.prog 196 #[.pointer (some ⟨Q, 0, none⟩)] w fun e w' => (∃ u, e = .returned u ∧ ValG w' (From w.heap.size) u (bindS st (unaryC S))) ∧ Par w' Q B (.slice vad S.L.length vc) S (stOf (bindS st (unaryC S))) ∧ w.grownBy w' (some Q)) := h1
  have H2 : Hid (∀ s : PS, low9 st ≤ s.tok → s.tok < S.L.length → Reads9 196 (unaryC S) Q B (.slice vad S.L.length vc) S (.ok s.step)) := h2
  clear h1 h2 HG hp
  generalize low9 st = lo at HT H2
  generalize bindS st (unaryC S) = g0 at *
  obtain ⟨G, hGG⟩ : ∃ G, G = g0.then (termLC S) := ⟨_, rfl⟩
  rw [← hGG]
  have HGG : Hid (G = g0.then (termLC S)) := hGG
  clear hGG
  go_enter Tryz.func188, Tryz.ntmps188
  go_wp2_with (first
    | (go_at_call 196; refine (h1'.out _ HPA.out).mono ?_; rintro e w1 ⟨⟨u, rfl, hv⟩, hp1, hg1⟩; obtain ⟨a, b, c, ad, n, cc, hu'⟩ := hv.any; subst hu'; have hX1 := HX.out.grown hg1 (by omega)))
  have sz1 : w.heap.size < w1.heap.size := by have := hg1.size; simp at this; omega
  have HL0 : Hid (Loop9 (w1.alloc (.cells #[.int .i64 a, .string b, .int .i64 c, .slice ad n cc] 24)) (Off w.heap.size w1.heap.size) (.agg #[.int .i64 a, .string b, .int .i64 c, .slice ad n cc]) G (termLC S) lo (stOf g0) 0) := by
    rw [HGG.out]
    exact Loop9.first ((hv.mono (fun k hk hlt => ⟨by have hk' : (w.alloc zeroN).heap.size ≤ k := hk; simp at hk'; omega, by omega⟩)).above (Above.grown (World.grownBy_alloc _ _ none) (fun k e => by cases e))) HT.out
  have HP0 : Hid (Par (w1.alloc (.cells #[.int .i64 a, .string b, .int .i64 c, .slice ad n cc] 24)) Q B (.slice vad S.L.length vc) S (stOf g0)) := hp1.below ((Below.refl _ _).alloc (Nat.le_refl _) _)
  have HN0 : Hid (Box4 (w1.alloc (.cells #[.int .i64 a, .string b, .int .i64 c, .slice ad n cc] 24)) w1.heap.size (.int .i64 a) (.string b) (.int .i64 c) (.slice ad n cc)) := Box4.new _ _ _ _ _
  have HX0 : Hid (Box4 (w1.alloc (.cells #[.int .i64 a, .string b, .int .i64 c, .slice ad n cc] 24)) w.heap.size (.int .i64 0) (.string ⟨#[]⟩) (.int .i64 0) (.slice none 0 0)) := hX1.alloc _
  have HG0 : Hid (w.grownBy (w1.alloc (.cells #[.int .i64 a, .string b, .int .i64 c, .slice ad n cc] 24)) (some Q)) := ((World.grownBy_alloc w zeroN (some Q)).trans hg1).trans (World.grownBy_alloc _ _ _)
  generalize w1.alloc (.cells #[.int .i64 a, .string b, .int .i64 c, .slice ad n cc] 24) = W0 at *
  have HNL : Hid (w.heap.size ≤ w1.heap.size) := Nat.le_of_lt sz1
  have HNR : Hid (w1.heap.size ≠ w.heap.size) := (by show w1.heap.size ≠ w.heap.size; omega)
  generalize hNN : w1.heap.size = N at *
  generalize stOf g0 = st0 at *
  clear hv hp1 hg1 hX1 hNN HT HGG
  go_loopw [4] (fun s4 wr => ∃ (i : Nat) (st1 : St9) (a : Int) (b : ByteArray) (c : Int) (ad : Option Addr) (n cc : Nat), s4 = .int .i64 i ∧ i ≤ 4001 ∧ Hid (Par wr Q B (.slice vad S.L.length vc) S st1) ∧ Hid (Box4 wr N (.int .i64 a) (.string b) (.int .i64 c) (.slice ad n cc)) ∧ Hid (Box4 wr w.heap.size (.int .i64 0) (.string ⟨#[]⟩) (.int .i64 0) (.slice none 0 0)) ∧ Hid (Loop9 wr (Off w.heap.size N) (.agg #[.int .i64 a, .string b, .int .i64 c, .slice ad n cc]) G (termLC S) lo st1 i) ∧ Hid (w.grownBy wr (some Q))) (fun s4 _ => 4002 - (intOf s4).toNat)
  case atStart => exact ⟨0, st0, a, b, c, ad, n, cc, rfl, by omega, HP0, HN0, HX0, HL0, HG0⟩
  case round =>
    clear HP0 HN0 HX0 HL0 HG0
    obtain ⟨i, st1, a, b, c, ad, n, cc, rfl, hi, HP, HN, HR, HL, HGr⟩ := hrel
    obtain ⟨tok, deep, many, fc, fa, ho, hf⟩ := HP.out.obj
    obtain ⟨k0, _, _, _, _, _, _⟩ := ho.cells
    obtain ⟨⟨x0, x1, x2, x3⟩, f0, f1, f2, f3⟩ := HN.out.facts
    obtain ⟨⟨y0, y1, y2, y3⟩, r0, r1, r2, r3⟩ := HR.out.facts
    have hNb := HN.out.lt
    clear ho hf
    have hb0 := hbg st1 wr HP.out
    cases hs : seesS S sTimes st1 with
    | false =>
      rw [hs] at hb0
      have HD : Hid (ValG wr (Off w.heap.size N) (.agg #[.int .i64 a, .string b, .int .i64 c, .slice ad n cc]) G ∧ stOf G = st1) := HL.out.done (fun m s e => by
        subst e
        have hs' : seesB S sTimes s = false := hs
        rw [termL_eq, if_neg (by rw [hs']; decide)])
      have HS : Hid (stepS S sTimes st1 = st1) := by show _ = _; unfold stepS; rw [hs, if_neg (by decide)]
      rw [HS.out] at hb0
      by_cases hil : (i : Int) ≤ (S.L.length : Int)
      · clear hs HL
        go_wp2_with (first
          | (go_at_call 147; refine hb0.mono ?_; rintro e w2 ⟨rfl, hp2, hg2⟩; obtain ⟨⟨p0, p1, p2, p3⟩, _⟩ := (HN.out.grown hg2 (by omega)).facts; obtain ⟨⟨q0, q1, q2, q3⟩, s0, s1, s2, s3⟩ := (HR.out.grown hg2 (by omega)).facts))
        refine bodyPost_ret (v := .agg #[.int .i64 a, .string b, .int .i64 c, .slice ad n cc]) (by simp [results, Tryz.results188, go_sem, q0, q1, q2, q3]) rfl ⟨⟨_, rfl, ?_⟩, by rw [HD.out.2]; exact par_box hp2 hRB _ _ _ _, grown_own (HGr.out.trans hg2) (below_box (Nat.le_refl _) _ _ _ _)⟩
        exact ((HD.out.1.above (Above.grown hg2 (fun k e => by injection e with e; rintro ⟨h, _⟩; omega))).above (above_box (R := w.heap.size) (by rintro ⟨h, _⟩; omega) _ _ _ _)).mono (fun k hk _ => Nat.le_of_lt hk.1)
      · clear hs HL hb0
        go_wp2_with fail
        refine bodyPost_ret (v := .agg #[.int .i64 a, .string b, .int .i64 c, .slice ad n cc]) (by simp [results, Tryz.results188, go_sem, y0, y1, y2, y3]) rfl ⟨⟨_, rfl, ?_⟩, by rw [HD.out.2]; exact par_box HP.out hRB _ _ _ _, grown_own HGr.out (below_box (Nat.le_refl _) _ _ _ _)⟩
        exact (HD.out.1.above (above_box (R := w.heap.size) (by rintro ⟨h, _⟩; omega) _ _ _ _)).mono (fun k hk _ => Nat.le_of_lt hk.1)
    | true =>
      match st1, hs, HP, HL, hb0 with
      | .ok s1, hs, HP, HL, hb0 =>
        have hs' : seesB S sTimes s1 = true := hs
        have ht := sees_lt hs'
        obtain ⟨⟨nd, hnd, hGe⟩, hi1, hlo⟩ := HL.out
        have HND : Hid (NodeV wr (Off w.heap.size N) (.agg #[.int .i64 a, .string b, .int .i64 c, .slice ad n cc]) nd) := hnd
        have HGE : Hid (G = (unaryC S s1.step).then fun k s => (nodeP 22 [] 0 [nd, k] s).then fun m s => termLC S m s) := by show _ = _; rw [hGe, termL_eq, if_pos hs']; rfl
        have HTO : Hid (∀ m s, unaryC S s1.step = .ok (m, s) → i + 1 ≤ s.tok ∧ lo ≤ s.tok) := fun m s e => by
          have := (unary_at e).1
          have e2 : s1.step.tok = s1.tok + 1 := rfl
          omega
        have hu := H2.out s1 hlo ht
        unfold Reads9 at hu
        rw [bindS_ok] at hu
        have hil : (i : Int) ≤ (S.L.length : Int) := by omega
        have hwi := wrap_id (x := (i : Int) + 1) (by omega) (by omega)
        rw [hs] at hb0
        have HS : Hid (stepS S sTimes (.ok s1) = .ok s1.step) := by show _ = _; unfold stepS; rw [hs, if_pos rfl]
        rw [HS.out] at hb0
        clear hs hs' HL hnd hGe
        generalize unaryC S s1.step = gk at *
        go_wp2_with (first
          | (go_at_call 147; refine hb0.mono ?_; rintro e w2 ⟨rfl, hp2, hg2⟩)
          | (go_at_call 196; refine (hu _ hp2).mono ?_; rintro e w3 ⟨⟨uk, rfl, hvk⟩, hp3, hg3⟩; obtain ⟨a', b', c', ad', n', cc', hu'⟩ := hvk.any; subst hu'; have hgN := hg2.trans hg3; obtain ⟨⟨p0, p1, p2, p3⟩, _⟩ := (HN.out.grown hgN (by omega)).facts; have hN3 := (HN.out.grown hgN (by omega)).lt)
          | (go_at_call 74; refine (node_any Q B _ S (stOf gk) _ _ _ ⟨_, _, _, rfl⟩ _ (par_two hp3 _ _)).mono ?_; rintro e w4 ⟨rfl, hp4, hg4⟩; have hN4 := (((HN.out.grown hgN (by omega)).alloc _).alloc _).grown hg4 (by omega); obtain ⟨⟨m0, m1, m2, m3⟩, o0, o1, o2, o3⟩ := hN4.facts))
        have sz2 : N < w2.heap.size := (HN.out.grown hg2 (by omega)).lt
        have szr : w.heap.size < w2.heap.size := (HR.out.grown hg2 (by omega)).lt
        have sz3 : w2.heap.size ≤ w3.heap.size := hg3.size
        have hNR : N ≠ w.heap.size := HNR.out
        have hgw : w.grownBy w4 (some Q) := (((HGr.out.trans hgN).trans (World.grownBy_alloc _ _ _)).trans (World.grownBy_alloc _ _ _)).trans hg4
        have hQo : ∀ k, (some Q : Option Nat) = some k → ¬ Off w.heap.size N k := fun k e => by injection e with e; rintro ⟨h, _⟩; omega
        have hnd3 : NodeV (w3.alloc (.cells #[.int .i64 a', .string b', .int .i64 c', .slice ad' n' cc'] 24)) (Off w.heap.size N) (.agg #[.int .i64 a, .string b, .int .i64 c, .slice ad n cc]) nd := (HND.out.above (Above.grown hgN hQo)).above (Above.grown (World.grownBy_alloc _ _ none) (fun k e => by cases e))
        have hvk3 : ValG (w3.alloc (.cells #[.int .i64 a', .string b', .int .i64 c', .slice ad' n' cc'] 24)) (Off w.heap.size N) (.agg #[.int .i64 a', .string b', .int .i64 c', .slice ad' n' cc']) gk := (hvk.mono (fun k hk _ => by have hk' : w2.heap.size ≤ k := hk; exact ⟨by omega, by omega⟩)).above (Above.grown (World.grownBy_alloc _ _ none) (fun k e => by cases e))
        have hend := two_val (kind := 22) (T := 24) hnd3 hvk3 (by refine ⟨?_, ?_⟩ <;> simp <;> omega) ((Above.grown hg4 hQo).trans (above_box (R := N) (by rintro ⟨_, h⟩; exact h rfl) (.int .i64 22) (.string ⟨#[]⟩) (.int .i64 0) (.slice (some ⟨w3.heap.size + 1, 0, none⟩) 2 2)))
        simp only [World.size_alloc] at hend
        have hR4 := (((HR.out.grown hgN (by omega)).alloc (.cells #[.int .i64 a', .string b', .int .i64 c', .slice ad' n' cc'] 24)).alloc (.cells #[.int .i64 a, .string b, .int .i64 c, .slice ad n cc, .int .i64 a', .string b', .int .i64 c', .slice ad' n' cc'] 24)).grown hg4 (by omega)
        refine ⟨⟨i + 1, nodeS (stOf gk), 22, ⟨#[]⟩, 0, some ⟨w3.heap.size + 1, 0, none⟩, 2, 2, by simp, by omega, par_box hp4 (by omega) _ _ _ _, hN4.put _ _ _ _, hR4.other hNR _ _ _ _, loop_next hend HGE.out HTO.out, grown_own hgw (below_box HNL.out _ _ _ _)⟩, by simp [intOf]; omega⟩
end Go.Proofs.YtkppdndbfedijadGreatDoor

/- gessoref9: sum. -/
namespace Go.Proofs.YtkppdndbfedijadGreatDoor
open Go.RowKit

set_option maxHeartbeats 8000000 in
theorem sum_reads (Q B : Nat) (v : Value) (S : Src9) (st : St9)
    (h1 : Reads9 188 (termC S) Q B v S st)
    (h2 : ∀ s : PS, low9 st ≤ s.tok → s.tok < S.L.length → Reads9 188 (termC S) Q B v S (.ok s.step)) : Reads9 175 (sumC S) Q B v S st := by
  intro w hp
  have hRB := hp.size
  have hqb := hp.qb
  have hfew := hp.few
  obtain ⟨vad, vc, hv0, _⟩ := hp.toks
  subst hv0
  have HPA : Hid (Par (w.alloc zeroN) Q B (.slice vad S.L.length vc) S st) := hp.below ((Below.refl _ w).alloc (Nat.le_refl _) _)
  have HX : Hid (Box4 (w.alloc zeroN) w.heap.size (.int .i64 0) (.string ⟨#[]⟩) (.int .i64 0) (.slice none 0 0)) := Box4.new _ _ _ _ _
  have e1 : nums ⟨#[43]⟩ = sPlus := by decide
  have e2 : nums ⟨#[45]⟩ = sMinus := by decide
  have hbp : ∀ st' w', Par w' Q B (.slice vad S.L.length vc) S st' → Calls Tryz.prog 147 #[.pointer (some ⟨Q, 0, none⟩), .string ⟨#[43]⟩] w' fun e w'' => e = .returned (.bool (seesS S sPlus st')) ∧ Par w'' Q B (.slice vad S.L.length vc) S (stepS S sPlus st') ∧ w'.grownBy w'' (some Q) := fun st' w' h' => by have := begins_any9 Q B _ S st' ⟨#[43]⟩ w' h'; rw [e1] at this; exact this
  have hbm : ∀ st' w', Par w' Q B (.slice vad S.L.length vc) S st' → Calls Tryz.prog 147 #[.pointer (some ⟨Q, 0, none⟩), .string ⟨#[45]⟩] w' fun e w'' => e = .returned (.bool (seesS S sMinus st')) ∧ Par w'' Q B (.slice vad S.L.length vc) S (stepS S sMinus st') ∧ w'.grownBy w'' (some Q) := fun st' w' h' => by have := begins_any9 Q B _ S st' ⟨#[45]⟩ w' h'; rw [e2] at this; exact this
  have HG : bindS st (sumC S) = (bindS st (termC S)).then (sumLC S) := by
    match st with
    | .error e => rfl
    | .ok s => exact sum_eq S s
  have HT : Hid (∀ n s1, bindS st (termC S) = .ok (n, s1) → low9 st ≤ s1.tok) := fun n s1 e => by
    match st, e with
    | .ok s, e => exact (term_at e).1
  rw [HG]
  have h1' : Hid (∀ w, Par w Q B (.slice vad S.L.length vc) S st → Calls Tryz.prog 188 #[.pointer (some ⟨Q, 0, none⟩)] w fun e w' => (∃ u, e = .returned u ∧ ValG w' (From w.heap.size) u (bindS st (termC S))) ∧ Par w' Q B (.slice vad S.L.length vc) S (stOf (bindS st (termC S))) ∧ w.grownBy w' (some Q)) := h1
  have H2 : Hid (∀ s : PS, low9 st ≤ s.tok → s.tok < S.L.length → Reads9 188 (termC S) Q B (.slice vad S.L.length vc) S (.ok s.step)) := h2
  clear h1 h2 HG hp
  generalize low9 st = lo at HT H2
  generalize bindS st (termC S) = g0 at *
  obtain ⟨G, hGG⟩ : ∃ G, G = g0.then (sumLC S) := ⟨_, rfl⟩
  rw [← hGG]
  have HGG : Hid (G = g0.then (sumLC S)) := hGG
  clear hGG
  go_enter Tryz.func175, Tryz.ntmps175
  go_wp2_with (first
    | (go_at_call 188; refine (h1'.out _ HPA.out).mono ?_; rintro e w1 ⟨⟨u, rfl, hv⟩, hp1, hg1⟩; obtain ⟨a, b, c, ad, n, cc, hu'⟩ := hv.any; subst hu'; have hX1 := HX.out.grown hg1 (by omega)))
  have sz1 : w.heap.size < w1.heap.size := by have := hg1.size; simp at this; omega
  have HL0 : Hid (Loop9 (w1.alloc (.cells #[.int .i64 a, .string b, .int .i64 c, .slice ad n cc] 24)) (Off w.heap.size w1.heap.size) (.agg #[.int .i64 a, .string b, .int .i64 c, .slice ad n cc]) G (sumLC S) lo (stOf g0) 0) := by
    rw [HGG.out]
    exact Loop9.first ((hv.mono (fun k hk hlt => ⟨by have hk' : (w.alloc zeroN).heap.size ≤ k := hk; simp at hk'; omega, by omega⟩)).above (Above.grown (World.grownBy_alloc _ _ none) (fun k e => by cases e))) HT.out
  have HP0 : Hid (Par (w1.alloc (.cells #[.int .i64 a, .string b, .int .i64 c, .slice ad n cc] 24)) Q B (.slice vad S.L.length vc) S (stOf g0)) := hp1.below ((Below.refl _ _).alloc (Nat.le_refl _) _)
  have HN0 : Hid (Box4 (w1.alloc (.cells #[.int .i64 a, .string b, .int .i64 c, .slice ad n cc] 24)) w1.heap.size (.int .i64 a) (.string b) (.int .i64 c) (.slice ad n cc)) := Box4.new _ _ _ _ _
  have HX0 : Hid (Box4 (w1.alloc (.cells #[.int .i64 a, .string b, .int .i64 c, .slice ad n cc] 24)) w.heap.size (.int .i64 0) (.string ⟨#[]⟩) (.int .i64 0) (.slice none 0 0)) := hX1.alloc _
  have HG0 : Hid (w.grownBy (w1.alloc (.cells #[.int .i64 a, .string b, .int .i64 c, .slice ad n cc] 24)) (some Q)) := ((World.grownBy_alloc w zeroN (some Q)).trans hg1).trans (World.grownBy_alloc _ _ _)
  generalize w1.alloc (.cells #[.int .i64 a, .string b, .int .i64 c, .slice ad n cc] 24) = W0 at *
  have HNL : Hid (w.heap.size ≤ w1.heap.size) := Nat.le_of_lt sz1
  have HNR : Hid (w1.heap.size ≠ w.heap.size) := (by show w1.heap.size ≠ w.heap.size; omega)
  generalize hNN : w1.heap.size = N at *
  generalize stOf g0 = st0 at *
  clear hv hp1 hg1 hX1 hNN HT HGG
  go_loopw [4] (fun s4 wr => ∃ (i : Nat) (st1 : St9) (a : Int) (b : ByteArray) (c : Int) (ad : Option Addr) (n cc : Nat), s4 = .int .i64 i ∧ i ≤ 4001 ∧ Hid (Par wr Q B (.slice vad S.L.length vc) S st1) ∧ Hid (Box4 wr N (.int .i64 a) (.string b) (.int .i64 c) (.slice ad n cc)) ∧ Hid (Box4 wr w.heap.size (.int .i64 0) (.string ⟨#[]⟩) (.int .i64 0) (.slice none 0 0)) ∧ Hid (Loop9 wr (Off w.heap.size N) (.agg #[.int .i64 a, .string b, .int .i64 c, .slice ad n cc]) G (sumLC S) lo st1 i) ∧ Hid (w.grownBy wr (some Q))) (fun s4 _ => 4002 - (intOf s4).toNat)
  case atStart => exact ⟨0, st0, a, b, c, ad, n, cc, rfl, by omega, HP0, HN0, HX0, HL0, HG0⟩
  case round =>
    clear HP0 HN0 HX0 HL0 HG0
    obtain ⟨i, st1, a, b, c, ad, n, cc, rfl, hi, HP, HN, HR, HL, HGr⟩ := hrel
    obtain ⟨tok, deep, many, fc, fa, ho, hf⟩ := HP.out.obj
    obtain ⟨k0, _, _, _, _, _, _⟩ := ho.cells
    obtain ⟨⟨x0, x1, x2, x3⟩, f0, f1, f2, f3⟩ := HN.out.facts
    obtain ⟨⟨y0, y1, y2, y3⟩, r0, r1, r2, r3⟩ := HR.out.facts
    have hNb := HN.out.lt
    clear ho hf
    have hb0 := hbp st1 wr HP.out
    cases hs : seesS S sPlus st1 with
    | true =>
      match st1, hs, HP, HL, hb0 with
      | .ok s1, hs, HP, HL, hb0 =>
        have hs' : seesB S sPlus s1 = true := hs
        have ht := sees_lt hs'
        obtain ⟨⟨nd, hnd, hGe⟩, hi1, hlo⟩ := HL.out
        have HND : Hid (NodeV wr (Off w.heap.size N) (.agg #[.int .i64 a, .string b, .int .i64 c, .slice ad n cc]) nd) := hnd
        have HGE : Hid (G = (termC S s1.step).then fun k s => (nodeP 20 [] 0 [nd, k] s).then fun m s => sumLC S m s) := by show _ = _; rw [hGe, sumL_eq, if_pos hs']; rfl
        have HTO : Hid (∀ m s, termC S s1.step = .ok (m, s) → i + 1 ≤ s.tok ∧ lo ≤ s.tok) := fun m s e => by
          have := (term_at e).1
          have e2 : s1.step.tok = s1.tok + 1 := rfl
          omega
        have hu := H2.out s1 hlo ht
        unfold Reads9 at hu
        rw [bindS_ok] at hu
        have hil : (i : Int) ≤ (S.L.length : Int) := by omega
        have hwi := wrap_id (x := (i : Int) + 1) (by omega) (by omega)
        rw [hs] at hb0
        have HS : Hid (stepS S sPlus (.ok s1) = .ok s1.step) := by show _ = _; unfold stepS; rw [hs, if_pos rfl]
        rw [HS.out] at hb0
        clear hs hs' HL hnd hGe
        generalize termC S s1.step = gk at *
        go_wp2_with (first
          | (go_at_call 147; refine hb0.mono ?_; rintro e w2 ⟨rfl, hp2, hg2⟩)
          | (go_at_call 188; refine (hu _ hp2).mono ?_; rintro e w3 ⟨⟨uk, rfl, hvk⟩, hp3, hg3⟩; obtain ⟨a', b', c', ad', n', cc', hu'⟩ := hvk.any; subst hu'; have hgN := hg2.trans hg3; obtain ⟨⟨p0, p1, p2, p3⟩, _⟩ := (HN.out.grown hgN (by omega)).facts; have hN3 := (HN.out.grown hgN (by omega)).lt)
          | (go_at_call 74; refine (node_any Q B _ S (stOf gk) _ _ _ ⟨_, _, _, rfl⟩ _ (par_two hp3 _ _)).mono ?_; rintro e w4 ⟨rfl, hp4, hg4⟩; have hN4 := (((HN.out.grown hgN (by omega)).alloc _).alloc _).grown hg4 (by omega); obtain ⟨⟨m0, m1, m2, m3⟩, o0, o1, o2, o3⟩ := hN4.facts))
        have sz2 : N < w2.heap.size := (HN.out.grown hg2 (by omega)).lt
        have szr : w.heap.size < w2.heap.size := (HR.out.grown hg2 (by omega)).lt
        have sz3 : w2.heap.size ≤ w3.heap.size := hg3.size
        have hNR : N ≠ w.heap.size := HNR.out
        have hgw : w.grownBy w4 (some Q) := (((HGr.out.trans hgN).trans (World.grownBy_alloc _ _ _)).trans (World.grownBy_alloc _ _ _)).trans hg4
        have hQo : ∀ k, (some Q : Option Nat) = some k → ¬ Off w.heap.size N k := fun k e => by injection e with e; rintro ⟨h, _⟩; omega
        have hnd3 : NodeV (w3.alloc (.cells #[.int .i64 a', .string b', .int .i64 c', .slice ad' n' cc'] 24)) (Off w.heap.size N) (.agg #[.int .i64 a, .string b, .int .i64 c, .slice ad n cc]) nd := (HND.out.above (Above.grown hgN hQo)).above (Above.grown (World.grownBy_alloc _ _ none) (fun k e => by cases e))
        have hvk3 : ValG (w3.alloc (.cells #[.int .i64 a', .string b', .int .i64 c', .slice ad' n' cc'] 24)) (Off w.heap.size N) (.agg #[.int .i64 a', .string b', .int .i64 c', .slice ad' n' cc']) gk := (hvk.mono (fun k hk _ => by have hk' : w2.heap.size ≤ k := hk; exact ⟨by omega, by omega⟩)).above (Above.grown (World.grownBy_alloc _ _ none) (fun k e => by cases e))
        have hend := two_val (kind := 20) (T := 24) hnd3 hvk3 (by refine ⟨?_, ?_⟩ <;> simp <;> omega) ((Above.grown hg4 hQo).trans (above_box (R := N) (by rintro ⟨_, h⟩; exact h rfl) (.int .i64 20) (.string ⟨#[]⟩) (.int .i64 0) (.slice (some ⟨w3.heap.size + 1, 0, none⟩) 2 2)))
        simp only [World.size_alloc] at hend
        have hR4 := (((HR.out.grown hgN (by omega)).alloc (.cells #[.int .i64 a', .string b', .int .i64 c', .slice ad' n' cc'] 24)).alloc (.cells #[.int .i64 a, .string b, .int .i64 c, .slice ad n cc, .int .i64 a', .string b', .int .i64 c', .slice ad' n' cc'] 24)).grown hg4 (by omega)
        refine ⟨⟨i + 1, nodeS (stOf gk), 20, ⟨#[]⟩, 0, some ⟨w3.heap.size + 1, 0, none⟩, 2, 2, by simp, by omega, par_box hp4 (by omega) _ _ _ _, hN4.put _ _ _ _, hR4.other hNR _ _ _ _, loop_next hend HGE.out HTO.out, grown_own hgw (below_box HNL.out _ _ _ _)⟩, by simp [intOf]; omega⟩
    | false =>
      have hs0 := hs
      have HS0 : Hid (stepS S sPlus st1 = st1) := by show _ = _; unfold stepS; rw [hs, if_neg (by decide)]
      rw [hs, HS0.out] at hb0
      clear hs
      have hb1 := hbm st1
      cases hs : seesS S sMinus st1 with
      | false =>
        have HS1 : Hid (stepS S sMinus st1 = st1) := by show _ = _; unfold stepS; rw [hs, if_neg (by decide)]
        rw [hs, HS1.out] at hb1
        have HD : Hid (ValG wr (Off w.heap.size N) (.agg #[.int .i64 a, .string b, .int .i64 c, .slice ad n cc]) G ∧ stOf G = st1) := HL.out.done (fun m s e => by
          subst e
          have hs0' : seesB S sPlus s = false := hs0
          have hs' : seesB S sMinus s = false := hs
          rw [sumL_eq, if_neg (by rw [hs0']; decide), if_neg (by rw [hs']; decide)])
        by_cases hil : (i : Int) ≤ (S.L.length : Int)
        · clear hs hs0 HL
          go_wp2_with (first
            | (go_at_call_of 147 (Value.string ⟨#[43]⟩); refine hb0.mono ?_; rintro e w0 ⟨rfl, hp0, hg0⟩)
            | (go_at_call_of 147 (Value.string ⟨#[45]⟩); refine (hb1 _ hp0).mono ?_; rintro e w2 ⟨rfl, hp2, hg2'⟩; have hg2 := hg0.trans hg2'; obtain ⟨⟨p0, p1, p2, p3⟩, _⟩ := (HN.out.grown hg2 (by omega)).facts; obtain ⟨⟨q0, q1, q2, q3⟩, s0, s1, s2, s3⟩ := (HR.out.grown hg2 (by omega)).facts))
          refine bodyPost_ret (v := .agg #[.int .i64 a, .string b, .int .i64 c, .slice ad n cc]) (by simp [results, Tryz.results175, go_sem, q0, q1, q2, q3]) rfl ⟨⟨_, rfl, ?_⟩, by rw [HD.out.2]; exact par_box hp2 hRB _ _ _ _, grown_own (HGr.out.trans hg2) (below_box (Nat.le_refl _) _ _ _ _)⟩
          exact ((HD.out.1.above (Above.grown hg2 (fun k e => by injection e with e; rintro ⟨h, _⟩; omega))).above (above_box (R := w.heap.size) (by rintro ⟨h, _⟩; omega) _ _ _ _)).mono (fun k hk _ => Nat.le_of_lt hk.1)
        · clear hs hs0 HL hb0 hb1
          go_wp2_with fail
          refine bodyPost_ret (v := .agg #[.int .i64 a, .string b, .int .i64 c, .slice ad n cc]) (by simp [results, Tryz.results175, go_sem, y0, y1, y2, y3]) rfl ⟨⟨_, rfl, ?_⟩, by rw [HD.out.2]; exact par_box HP.out hRB _ _ _ _, grown_own HGr.out (below_box (Nat.le_refl _) _ _ _ _)⟩
          exact (HD.out.1.above (above_box (R := w.heap.size) (by rintro ⟨h, _⟩; omega) _ _ _ _)).mono (fun k hk _ => Nat.le_of_lt hk.1)
      | true =>
        match st1, hs0, hs, HP, HL, hb0, hb1 with
        | .ok s1, hs0, hs, HP, HL, hb0, hb1 =>
          have hs0' : seesB S sPlus s1 = false := hs0
          have hs' : seesB S sMinus s1 = true := hs
          have ht := sees_lt hs'
          obtain ⟨⟨nd, hnd, hGe⟩, hi1, hlo⟩ := HL.out
          have HND : Hid (NodeV wr (Off w.heap.size N) (.agg #[.int .i64 a, .string b, .int .i64 c, .slice ad n cc]) nd) := hnd
          have HGE : Hid (G = (termC S s1.step).then fun k s => (nodeP 21 [] 0 [nd, k] s).then fun m s => sumLC S m s) := by show _ = _; rw [hGe, sumL_eq, if_neg (by rw [hs0']; decide), if_pos hs']; rfl
          have HTO : Hid (∀ m s, termC S s1.step = .ok (m, s) → i + 1 ≤ s.tok ∧ lo ≤ s.tok) := fun m s e => by
            have := (term_at e).1
            have e2 : s1.step.tok = s1.tok + 1 := rfl
            omega
          have hu := H2.out s1 hlo ht
          unfold Reads9 at hu
          rw [bindS_ok] at hu
          have hil : (i : Int) ≤ (S.L.length : Int) := by omega
          have hwi := wrap_id (x := (i : Int) + 1) (by omega) (by omega)
          have HS : Hid (stepS S sMinus (.ok s1) = .ok s1.step) := by show _ = _; unfold stepS; rw [hs, if_pos rfl]
          rw [hs, HS.out] at hb1
          clear hs hs' hs0 hs0' HL hnd hGe
          generalize termC S s1.step = gk at *
          go_wp2_with (first
            | (go_at_call_of 147 (Value.string ⟨#[43]⟩); refine hb0.mono ?_; rintro e w0 ⟨rfl, hp0, hg0⟩)
            | (go_at_call_of 147 (Value.string ⟨#[45]⟩); refine (hb1 _ hp0).mono ?_; rintro e w2 ⟨rfl, hp2, hg2'⟩; have hg2 := hg0.trans hg2')
            | (go_at_call 188; refine (hu _ hp2).mono ?_; rintro e w3 ⟨⟨uk, rfl, hvk⟩, hp3, hg3⟩; obtain ⟨a', b', c', ad', n', cc', hu'⟩ := hvk.any; subst hu'; have hgN := hg2.trans hg3; obtain ⟨⟨p0, p1, p2, p3⟩, _⟩ := (HN.out.grown hgN (by omega)).facts; have hN3 := (HN.out.grown hgN (by omega)).lt)
            | (go_at_call 74; refine (node_any Q B _ S (stOf gk) _ _ _ ⟨_, _, _, rfl⟩ _ (par_two hp3 _ _)).mono ?_; rintro e w4 ⟨rfl, hp4, hg4⟩; have hN4 := (((HN.out.grown hgN (by omega)).alloc _).alloc _).grown hg4 (by omega); obtain ⟨⟨m0, m1, m2, m3⟩, o0, o1, o2, o3⟩ := hN4.facts))
          have sz2 : N < w2.heap.size := (HN.out.grown hg2 (by omega)).lt
          have szr : w.heap.size < w2.heap.size := (HR.out.grown hg2 (by omega)).lt
          have sz3 : w2.heap.size ≤ w3.heap.size := hg3.size
          have hNR : N ≠ w.heap.size := HNR.out
          have hgw : w.grownBy w4 (some Q) := (((HGr.out.trans hgN).trans (World.grownBy_alloc _ _ _)).trans (World.grownBy_alloc _ _ _)).trans hg4
          have hQo : ∀ k, (some Q : Option Nat) = some k → ¬ Off w.heap.size N k := fun k e => by injection e with e; rintro ⟨h, _⟩; omega
          have hnd3 : NodeV (w3.alloc (.cells #[.int .i64 a', .string b', .int .i64 c', .slice ad' n' cc'] 24)) (Off w.heap.size N) (.agg #[.int .i64 a, .string b, .int .i64 c, .slice ad n cc]) nd := (HND.out.above (Above.grown hgN hQo)).above (Above.grown (World.grownBy_alloc _ _ none) (fun k e => by cases e))
          have hvk3 : ValG (w3.alloc (.cells #[.int .i64 a', .string b', .int .i64 c', .slice ad' n' cc'] 24)) (Off w.heap.size N) (.agg #[.int .i64 a', .string b', .int .i64 c', .slice ad' n' cc']) gk := (hvk.mono (fun k hk _ => by have hk' : w2.heap.size ≤ k := hk; exact ⟨by omega, by omega⟩)).above (Above.grown (World.grownBy_alloc _ _ none) (fun k e => by cases e))
          have hend := two_val (kind := 21) (T := 24) hnd3 hvk3 (by refine ⟨?_, ?_⟩ <;> simp <;> omega) ((Above.grown hg4 hQo).trans (above_box (R := N) (by rintro ⟨_, h⟩; exact h rfl) (.int .i64 21) (.string ⟨#[]⟩) (.int .i64 0) (.slice (some ⟨w3.heap.size + 1, 0, none⟩) 2 2)))
          simp only [World.size_alloc] at hend
          have hR4 := (((HR.out.grown hgN (by omega)).alloc (.cells #[.int .i64 a', .string b', .int .i64 c', .slice ad' n' cc'] 24)).alloc (.cells #[.int .i64 a, .string b, .int .i64 c, .slice ad n cc, .int .i64 a', .string b', .int .i64 c', .slice ad' n' cc'] 24)).grown hg4 (by omega)
          refine ⟨⟨i + 1, nodeS (stOf gk), 21, ⟨#[]⟩, 0, some ⟨w3.heap.size + 1, 0, none⟩, 2, 2, by simp, by omega, par_box hp4 (by omega) _ _ _ _, hN4.put _ _ _ _, hR4.other hNR _ _ _ _, loop_next hend HGE.out HTO.out, grown_own hgw (below_box HNL.out _ _ _ _)⟩, by simp [intOf]; omega⟩
end Go.Proofs.YtkppdndbfedijadGreatDoor

/- gessoref9: expr. -/
namespace Go.Proofs.YtkppdndbfedijadGreatDoor
open Go.RowKit

set_option maxHeartbeats 8000000 in
theorem expr_reads (Q B : Nat) (v : Value) (S : Src9) (st : St9)
    (h1 : Reads9 175 (sumC S) Q B v S st)
    (h2 : ∀ s : PS, low9 st ≤ s.tok → s.tok < S.L.length → Reads9 175 (sumC S) Q B v S (.ok s.step)) : Reads9 149 (exprC S) Q B v S st := by
  intro w hp
  have hRB := hp.size
  have hqb := hp.qb
  have HPA : Hid (Par (w.alloc zeroN) Q B v S st) := hp.below ((Below.refl _ w).alloc (Nat.le_refl _) _)
  have HX : Hid (Box4 (w.alloc zeroN) w.heap.size (.int .i64 0) (.string ⟨#[]⟩) (.int .i64 0) (.slice none 0 0)) := Box4.new _ _ _ _ _
  have e1 : nums ⟨#[60]⟩ = sLess := by decide
  have e2 : nums ⟨#[61, 61]⟩ = sSame := by decide
  have hbl : ∀ st' w', Par w' Q B v S st' → Calls Tryz.prog 147 #[.pointer (some ⟨Q, 0, none⟩), .string ⟨#[60]⟩] w' fun e w'' => e = .returned (.bool (seesS S sLess st')) ∧ Par w'' Q B v S (stepS S sLess st') ∧ w'.grownBy w'' (some Q) := fun st' w' h' => by have := begins_any9 Q B v S st' ⟨#[60]⟩ w' h'; rw [e1] at this; exact this
  have hbs : ∀ st' w', Par w' Q B v S st' → Calls Tryz.prog 147 #[.pointer (some ⟨Q, 0, none⟩), .string ⟨#[61, 61]⟩] w' fun e w'' => e = .returned (.bool (seesS S sSame st')) ∧ Par w'' Q B v S (stepS S sSame st') ∧ w'.grownBy w'' (some Q) := fun st' w' h' => by have := begins_any9 Q B v S st' ⟨#[61, 61]⟩ w' h'; rw [e2] at this; exact this
  have HG : bindS st (exprC S) = (bindS st (sumC S)).then (fun n s => if seesB S sLess s = true then (sumC S s.step).then fun k s => nodeP 18 [] 0 [n, k] s else if seesB S sSame s = true then (sumC S s.step).then fun k s => nodeP 19 [] 0 [n, k] s else .ok (n, s)) := by
    match st with
    | .error e => rfl
    | .ok s => exact expr_eq S s
  have HT : ∀ n s1, bindS st (sumC S) = .ok (n, s1) → low9 st ≤ s1.tok := fun n s1 e => by
    match st, e with
    | .ok s, e => exact (sum_at e).1
  have h1' : ∀ w, Par w Q B v S st → Calls Tryz.prog 175 #[.pointer (some ⟨Q, 0, none⟩)] w fun e w' => (∃ u, e = .returned u ∧ ValG w' (From w.heap.size) u (bindS st (sumC S))) ∧ Par w' Q B v S (stOf (bindS st (sumC S))) ∧ w.grownBy w' (some Q) := h1
  obtain ⟨G, hGG⟩ : ∃ G, G = bindS st (exprC S) := ⟨_, rfl⟩
  rw [← hGG]
  rw [HG] at hGG
  have H2 : Hid (∀ s : PS, low9 st ≤ s.tok → s.tok < S.L.length → Reads9 175 (sumC S) Q B v S (.ok s.step)) := h2
  clear h1 h2 HG hp
  generalize low9 st = lo at HT H2
  generalize bindS st (sumC S) = g0 at *
  match g0, hGG, HT, h1' with
  | .error e0, hGG, HT, h1' =>
    rw [show G = .error e0 from hGG]
    have hb0 : ∀ w', Par w' Q B v S (.error e0) → Calls Tryz.prog 147 #[.pointer (some ⟨Q, 0, none⟩), .string ⟨#[60]⟩] w' fun e w'' => e = .returned (.bool false) ∧ Par w'' Q B v S (.error e0) ∧ w'.grownBy w'' (some Q) := hbl (.error e0)
    have hb1 : ∀ w', Par w' Q B v S (.error e0) → Calls Tryz.prog 147 #[.pointer (some ⟨Q, 0, none⟩), .string ⟨#[61, 61]⟩] w' fun e w'' => e = .returned (.bool false) ∧ Par w'' Q B v S (.error e0) ∧ w'.grownBy w'' (some Q) := hbs (.error e0)
    have H1 : Hid (∀ w, Par w Q B v S st → Calls Tryz.prog 175 #[.pointer (some ⟨Q, 0, none⟩)] w fun e w' => (∃ u, e = .returned u ∧ ValG w' (From w.heap.size) u (.error e0)) ∧ Par w' Q B v S (.error e0) ∧ w.grownBy w' (some Q)) := h1'
    clear h1' H2 HT hbl hbs
    go_enter Tryz.func149, Tryz.ntmps149
    go_wp2_with (first
      | (go_at_call_of 175 (Value.pointer (some ⟨Q, 0, none⟩)); refine (H1.out _ HPA.out).mono ?_; rintro e w1 ⟨⟨u, rfl, hv⟩, hp1, hg1⟩; obtain ⟨a, b, c, ad, n, cc, hu'⟩ := hv.any; subst hu'; have hX1 := HX.out.grown hg1 (by omega); have HP1 : Hid (Par (w1.alloc (.cells #[.int .i64 a, .string b, .int .i64 c, .slice ad n cc] 24)) Q B v S (.error e0)) := hp1.below ((Below.refl _ _).alloc (Nat.le_refl _) _); have HN1 := Box4.new w1 (.int .i64 a) (.string b) (.int .i64 c) (.slice ad n cc); have HR1 := hX1.alloc (.cells #[.int .i64 a, .string b, .int .i64 c, .slice ad n cc] 24))
      | (go_at_call_of 147 (Value.string ⟨#[60]⟩); refine (hb0 _ HP1.out).mono ?_; rintro e w0 ⟨rfl, hp0, hg0⟩)
      | (go_at_call_of 147 (Value.string ⟨#[61, 61]⟩); refine (hb1 _ hp0).mono ?_; rintro e w2 ⟨rfl, hp2, hg2'⟩; have hg2 := hg0.trans hg2'; have sz1 : w.heap.size < w1.heap.size := (by have := hg1.size; simp at this; omega); obtain ⟨⟨p0, p1, p2, p3⟩, _⟩ := (HN1.grown hg2 (by omega)).facts; obtain ⟨⟨q0, q1, q2, q3⟩, s0, s1, s2, s3⟩ := (HR1.grown hg2 (by omega)).facts))
    have hgw : w.grownBy w2 (some Q) := (((World.grownBy_alloc w zeroN (some Q)).trans hg1).trans (World.grownBy_alloc _ _ _)).trans hg2
    refine bodyPost_ret (v := .agg #[.int .i64 a, .string b, .int .i64 c, .slice ad n cc]) (by simp [results, Tryz.results149, go_sem, q0, q1, q2, q3]) rfl ⟨⟨_, rfl, ?_⟩, par_box hp2 hRB _ _ _ _, grown_own hgw (below_box (Nat.le_refl _) _ _ _ _)⟩
    have hz : w.heap.size < (w.alloc zeroN).heap.size := by simp
    exact (((hv.above (Above.grown (World.grownBy_alloc _ _ none) (fun k e => by cases e))).above (Above.grown hg2 (fun k e => by injection e with e; show ¬ (w.alloc zeroN).heap.size ≤ k; omega))).above (above_box (R := w.heap.size) (by show ¬ (w.alloc zeroN).heap.size ≤ w.heap.size; omega) _ _ _ _)).mono (fun k hk _ => by have hk' : (w.alloc zeroN).heap.size ≤ k := hk; show w.heap.size ≤ k; omega)
  | .ok (nd, s1), hGG, HT, h1' =>
    have hb0 := hbl (.ok s1)
    cases hs : seesB S sLess s1 with
    | true =>
      have hs' := hs
      have HGX : Hid (G = (sumC S s1.step).then fun k s => nodeP 18 [] 0 [nd, k] s) := by show _ = _; rw [hGG, then_ok, if_pos hs]
      rw [show seesS S sLess (.ok s1) = true from hs, show stepS S sLess (.ok s1) = .ok s1.step by unfold stepS; rw [show seesS S sLess (.ok s1) = true from hs, if_pos rfl]] at hb0
      clear hGG
      have ht := sees_lt hs'
      have hu := H2.out s1 (HT nd s1 rfl) ht
      unfold Reads9 at hu
      rw [bindS_ok] at hu
      clear H2 HT hbl hbs hs hs'
      generalize sumC S s1.step = gk at *
      have hcall := h1' _ HPA.out
      clear h1'
      go_enter Tryz.func149, Tryz.ntmps149
      go_wp2_with fail
      refine (show _ from ?_)
      go_wp2_with (first
        | (go_at_call 175; refine hcall.mono ?_; rintro e w1 ⟨⟨u, rfl, hv⟩, hp1, hg1⟩; obtain ⟨a, b, c, ad, n, cc, hu'⟩ := hv.any; subst hu'; have hX1 := HX.out.grown hg1 (by omega); clear hcall))
      have HP1 : Par (w1.alloc (.cells #[.int .i64 a, .string b, .int .i64 c, .slice ad n cc] 24)) Q B v S (.ok s1) := hp1.below ((Below.refl _ _).alloc (Nat.le_refl _) _)
      have HN1 := Box4.new w1 (.int .i64 a) (.string b) (.int .i64 c) (.slice ad n cc)
      have HR1 := hX1.alloc (.cells #[.int .i64 a, .string b, .int .i64 c, .slice ad n cc] 24)
      have sz1 : w.heap.size < w1.heap.size := (by have := hg1.size; simp at this; omega)
      have szA : (w.alloc zeroN).heap.size ≤ w1.heap.size := hg1.size
      have HV1 : Hid (NodeV (w1.alloc (.cells #[.int .i64 a, .string b, .int .i64 c, .slice ad n cc] 24)) (From (w.alloc zeroN).heap.size) (.agg #[.int .i64 a, .string b, .int .i64 c, .slice ad n cc]) nd) := NodeV.above hv (Above.grown (World.grownBy_alloc _ _ none) (fun k e => by cases e))
      have HW1 : Hid (w.grownBy (w1.alloc (.cells #[.int .i64 a, .string b, .int .i64 c, .slice ad n cc] 24)) (some Q)) := ((World.grownBy_alloc w zeroN (some Q)).trans hg1).trans (World.grownBy_alloc _ _ _)
      clear hv hp1 hg1 hX1
      go_wp2_with (first
        | (go_at_call 147; refine (hb0 _ HP1).mono ?_; rintro e w2 ⟨rfl, hp2, hg2⟩))
      have hgN := hg2
      have hN2 := HN1.grown hg2 (by omega)
      have hR2 := HR1.grown hg2 (by omega)
      have hN2l := hN2.lt
      have hR2l := hR2.lt
      go_wp2_with (first
        | (go_at_call 175; refine (hu _ hp2).mono ?_; rintro e w3 ⟨⟨uk, rfl, hvk⟩, hp3, hg3⟩; obtain ⟨a', b', c', ad', n', cc', hu'⟩ := hvk.any; subst hu'; obtain ⟨⟨p0, p1, p2, p3⟩, _⟩ := (hN2.grown hg3 (by omega)).facts; have hN3 := (hN2.grown hg3 (by omega)).lt)
        | (go_at_call 74; refine (node_any Q B v S (stOf gk) _ _ _ ⟨_, _, _, rfl⟩ _ (par_two hp3 _ _)).mono ?_; rintro e w4 ⟨rfl, hp4, hg4⟩; have hR4 := (((hR2.grown hg3 (by omega)).alloc _).alloc _).grown hg4 (by omega); obtain ⟨⟨q0, q1, q2, q3⟩, s0, s1', s2, s3⟩ := hR4.facts))
      have hz : w.heap.size < (w.alloc zeroN).heap.size := by simp
      have hQo : ∀ k, (some Q : Option Nat) = some k → ¬ From (w.alloc zeroN).heap.size k := fun k e => by injection e with e; show ¬ (w.alloc zeroN).heap.size ≤ k; omega
      have sz3 : w2.heap.size ≤ w3.heap.size := hg3.size
      have hgw : w.grownBy w4 (some Q) := ((((HW1.out.trans hg2).trans hg3).trans (World.grownBy_alloc _ _ _)).trans (World.grownBy_alloc _ _ _)).trans hg4
      have hnd3 : NodeV (w3.alloc (.cells #[.int .i64 a', .string b', .int .i64 c', .slice ad' n' cc'] 24)) (From (w.alloc zeroN).heap.size) (.agg #[.int .i64 a, .string b, .int .i64 c, .slice ad n cc]) nd := ((HV1.out.above (Above.grown hg2 hQo)).above (Above.grown hg3 hQo)).above (Above.grown (World.grownBy_alloc _ _ none) (fun k e => by cases e))
      have hvk3 : ValG (w3.alloc (.cells #[.int .i64 a', .string b', .int .i64 c', .slice ad' n' cc'] 24)) (From (w.alloc zeroN).heap.size) (.agg #[.int .i64 a', .string b', .int .i64 c', .slice ad' n' cc']) gk := (hvk.mono (fun k hk _ => by have hk' : w2.heap.size ≤ k := hk; show (w.alloc zeroN).heap.size ≤ k; omega)).above (Above.grown (World.grownBy_alloc _ _ none) (fun k e => by cases e))
      have hend := two_val (kind := 18) (T := 24) hnd3 hvk3 (by show (w.alloc zeroN).heap.size ≤ (w3.alloc _).heap.size; have : (w3.alloc (.cells #[.int .i64 a', .string b', .int .i64 c', .slice ad' n' cc'] 24)).heap.size = w3.heap.size + 1 := World.size_alloc _ _; omega) ((Above.grown hg4 hQo).trans (above_box (R := w.heap.size) (by show ¬ (w.alloc zeroN).heap.size ≤ w.heap.size; omega) (.int .i64 18) (.string ⟨#[]⟩) (.int .i64 0) (.slice (some ⟨w3.heap.size + 1, 0, none⟩) 2 2)))
      have hsz : (w3.alloc (.cells #[.int .i64 a', .string b', .int .i64 c', .slice ad' n' cc'] 24)).heap.size = w3.heap.size + 1 := World.size_alloc _ _
      rw [hsz] at hend
      refine bodyPost_ret (v := .agg #[.int .i64 18, .string ⟨#[]⟩, .int .i64 0, .slice (some ⟨w3.heap.size + 1, 0, none⟩) 2 2]) (by simp [results, Tryz.results149, go_sem, q0, q1, q2, q3]) rfl ⟨⟨_, rfl, ?_⟩, ?_, grown_own hgw (below_box (Nat.le_refl _) _ _ _ _)⟩
      · rw [HGX.out]
        exact hend.mono (fun k hk _ => by have hk' : (w.alloc zeroN).heap.size ≤ k := hk; show w.heap.size ≤ k; omega)
      · rw [HGX.out, two_st]
        exact par_box hp4 hRB _ _ _ _
    | false =>
      rw [show seesS S sLess (.ok s1) = false from hs, show stepS S sLess (.ok s1) = .ok s1 by unfold stepS; rw [show seesS S sLess (.ok s1) = false from hs, if_neg (by decide)]] at hb0
      have hsl := hs
      clear hs
      have hb1 := hbs (.ok s1)
      cases hs : seesB S sSame s1 with
      | true =>
        have hs' := hs
        have HGX : Hid (G = (sumC S s1.step).then fun k s => nodeP 19 [] 0 [nd, k] s) := by show _ = _; rw [hGG, then_ok, if_neg (by rw [hsl]; decide), if_pos hs]
        rw [show seesS S sSame (.ok s1) = true from hs, show stepS S sSame (.ok s1) = .ok s1.step by unfold stepS; rw [show seesS S sSame (.ok s1) = true from hs, if_pos rfl]] at hb1
        clear hGG hsl
        have ht := sees_lt hs'
        have hu := H2.out s1 (HT nd s1 rfl) ht
        unfold Reads9 at hu
        rw [bindS_ok] at hu
        clear H2 HT hbl hbs hs hs'
        generalize sumC S s1.step = gk at *
        have hcall := h1' _ HPA.out
        clear h1'
        go_enter Tryz.func149, Tryz.ntmps149
        go_wp2_with fail
        refine (show _ from ?_)
        go_wp2_with (first
          | (go_at_call 175; refine hcall.mono ?_; rintro e w1 ⟨⟨u, rfl, hv⟩, hp1, hg1⟩; obtain ⟨a, b, c, ad, n, cc, hu'⟩ := hv.any; subst hu'; have hX1 := HX.out.grown hg1 (by omega); clear hcall))
        have HP1 : Par (w1.alloc (.cells #[.int .i64 a, .string b, .int .i64 c, .slice ad n cc] 24)) Q B v S (.ok s1) := hp1.below ((Below.refl _ _).alloc (Nat.le_refl _) _)
        have HN1 := Box4.new w1 (.int .i64 a) (.string b) (.int .i64 c) (.slice ad n cc)
        have HR1 := hX1.alloc (.cells #[.int .i64 a, .string b, .int .i64 c, .slice ad n cc] 24)
        have sz1 : w.heap.size < w1.heap.size := (by have := hg1.size; simp at this; omega)
        have szA : (w.alloc zeroN).heap.size ≤ w1.heap.size := hg1.size
        have HV1 : Hid (NodeV (w1.alloc (.cells #[.int .i64 a, .string b, .int .i64 c, .slice ad n cc] 24)) (From (w.alloc zeroN).heap.size) (.agg #[.int .i64 a, .string b, .int .i64 c, .slice ad n cc]) nd) := NodeV.above hv (Above.grown (World.grownBy_alloc _ _ none) (fun k e => by cases e))
        have HW1 : Hid (w.grownBy (w1.alloc (.cells #[.int .i64 a, .string b, .int .i64 c, .slice ad n cc] 24)) (some Q)) := ((World.grownBy_alloc w zeroN (some Q)).trans hg1).trans (World.grownBy_alloc _ _ _)
        clear hv hp1 hg1 hX1
        go_wp2_with (first
          | (go_at_call_of 147 (Value.string ⟨#[60]⟩); refine (hb0 _ HP1).mono ?_; rintro e w0 ⟨rfl, hp0, hg0⟩)
          | (go_at_call_of 147 (Value.string ⟨#[61, 61]⟩); refine (hb1 _ hp0).mono ?_; rintro e w2 ⟨rfl, hp2, hg2'⟩; have hg2 := hg0.trans hg2'))
        have hgN := hg2
        have hN2 := HN1.grown hg2 (by omega)
        have hR2 := HR1.grown hg2 (by omega)
        have hN2l := hN2.lt
        have hR2l := hR2.lt
        go_wp2_with (first
          | (go_at_call 175; refine (hu _ hp2).mono ?_; rintro e w3 ⟨⟨uk, rfl, hvk⟩, hp3, hg3⟩; obtain ⟨a', b', c', ad', n', cc', hu'⟩ := hvk.any; subst hu'; obtain ⟨⟨p0, p1, p2, p3⟩, _⟩ := (hN2.grown hg3 (by omega)).facts; have hN3 := (hN2.grown hg3 (by omega)).lt)
          | (go_at_call 74; refine (node_any Q B v S (stOf gk) _ _ _ ⟨_, _, _, rfl⟩ _ (par_two hp3 _ _)).mono ?_; rintro e w4 ⟨rfl, hp4, hg4⟩; have hR4 := (((hR2.grown hg3 (by omega)).alloc _).alloc _).grown hg4 (by omega); obtain ⟨⟨q0, q1, q2, q3⟩, s0, s1', s2, s3⟩ := hR4.facts))
        have hz : w.heap.size < (w.alloc zeroN).heap.size := by simp
        have hQo : ∀ k, (some Q : Option Nat) = some k → ¬ From (w.alloc zeroN).heap.size k := fun k e => by injection e with e; show ¬ (w.alloc zeroN).heap.size ≤ k; omega
        have sz3 : w2.heap.size ≤ w3.heap.size := hg3.size
        have hgw : w.grownBy w4 (some Q) := ((((HW1.out.trans hg2).trans hg3).trans (World.grownBy_alloc _ _ _)).trans (World.grownBy_alloc _ _ _)).trans hg4
        have hnd3 : NodeV (w3.alloc (.cells #[.int .i64 a', .string b', .int .i64 c', .slice ad' n' cc'] 24)) (From (w.alloc zeroN).heap.size) (.agg #[.int .i64 a, .string b, .int .i64 c, .slice ad n cc]) nd := ((HV1.out.above (Above.grown hg2 hQo)).above (Above.grown hg3 hQo)).above (Above.grown (World.grownBy_alloc _ _ none) (fun k e => by cases e))
        have hvk3 : ValG (w3.alloc (.cells #[.int .i64 a', .string b', .int .i64 c', .slice ad' n' cc'] 24)) (From (w.alloc zeroN).heap.size) (.agg #[.int .i64 a', .string b', .int .i64 c', .slice ad' n' cc']) gk := (hvk.mono (fun k hk _ => by have hk' : w2.heap.size ≤ k := hk; show (w.alloc zeroN).heap.size ≤ k; omega)).above (Above.grown (World.grownBy_alloc _ _ none) (fun k e => by cases e))
        have hend := two_val (kind := 19) (T := 24) hnd3 hvk3 (by show (w.alloc zeroN).heap.size ≤ (w3.alloc _).heap.size; have : (w3.alloc (.cells #[.int .i64 a', .string b', .int .i64 c', .slice ad' n' cc'] 24)).heap.size = w3.heap.size + 1 := World.size_alloc _ _; omega) ((Above.grown hg4 hQo).trans (above_box (R := w.heap.size) (by show ¬ (w.alloc zeroN).heap.size ≤ w.heap.size; omega) (.int .i64 19) (.string ⟨#[]⟩) (.int .i64 0) (.slice (some ⟨w3.heap.size + 1, 0, none⟩) 2 2)))
        have hsz : (w3.alloc (.cells #[.int .i64 a', .string b', .int .i64 c', .slice ad' n' cc'] 24)).heap.size = w3.heap.size + 1 := World.size_alloc _ _
        rw [hsz] at hend
        refine bodyPost_ret (v := .agg #[.int .i64 19, .string ⟨#[]⟩, .int .i64 0, .slice (some ⟨w3.heap.size + 1, 0, none⟩) 2 2]) (by simp [results, Tryz.results149, go_sem, q0, q1, q2, q3]) rfl ⟨⟨_, rfl, ?_⟩, ?_, grown_own hgw (below_box (Nat.le_refl _) _ _ _ _)⟩
        · rw [HGX.out]
          exact hend.mono (fun k hk _ => by have hk' : (w.alloc zeroN).heap.size ≤ k := hk; show w.heap.size ≤ k; omega)
        · rw [HGX.out, two_st]
          exact par_box hp4 hRB _ _ _ _
      | false =>
        rw [show seesS S sSame (.ok s1) = false from hs, show stepS S sSame (.ok s1) = .ok s1 by unfold stepS; rw [show seesS S sSame (.ok s1) = false from hs, if_neg (by decide)]] at hb1
        have hGX : G = .ok (nd, s1) := by rw [hGG, then_ok, if_neg (by rw [hsl]; decide), if_neg (by rw [hs]; decide)]
        rw [hGX]
        clear hGG hsl hs hGX
        have H1 : Hid (∀ w, Par w Q B v S st → Calls Tryz.prog 175 #[.pointer (some ⟨Q, 0, none⟩)] w fun e w' => (∃ u, e = .returned u ∧ ValG w' (From w.heap.size) u (.ok (nd, s1))) ∧ Par w' Q B v S (.ok s1) ∧ w.grownBy w' (some Q)) := h1'
        clear h1' H2 HT hbl hbs
        go_enter Tryz.func149, Tryz.ntmps149
        go_wp2_with (first
          | (go_at_call_of 175 (Value.pointer (some ⟨Q, 0, none⟩)); refine (H1.out _ HPA.out).mono ?_; rintro e w1 ⟨⟨u, rfl, hv⟩, hp1, hg1⟩; obtain ⟨a, b, c, ad, n, cc, hu'⟩ := hv.any; subst hu'; have hX1 := HX.out.grown hg1 (by omega); have HP1 : Hid (Par (w1.alloc (.cells #[.int .i64 a, .string b, .int .i64 c, .slice ad n cc] 24)) Q B v S (.ok s1)) := hp1.below ((Below.refl _ _).alloc (Nat.le_refl _) _); have HN1 := Box4.new w1 (.int .i64 a) (.string b) (.int .i64 c) (.slice ad n cc); have HR1 := hX1.alloc (.cells #[.int .i64 a, .string b, .int .i64 c, .slice ad n cc] 24))
          | (go_at_call_of 147 (Value.string ⟨#[60]⟩); refine (hb0 _ HP1.out).mono ?_; rintro e w0 ⟨rfl, hp0, hg0⟩)
          | (go_at_call_of 147 (Value.string ⟨#[61, 61]⟩); refine (hb1 _ hp0).mono ?_; rintro e w2 ⟨rfl, hp2, hg2'⟩; have hg2 := hg0.trans hg2'; have sz1 : w.heap.size < w1.heap.size := (by have := hg1.size; simp at this; omega); obtain ⟨⟨p0, p1, p2, p3⟩, _⟩ := (HN1.grown hg2 (by omega)).facts; obtain ⟨⟨q0, q1, q2, q3⟩, s0, s1, s2, s3⟩ := (HR1.grown hg2 (by omega)).facts))
        have hgw : w.grownBy w2 (some Q) := (((World.grownBy_alloc w zeroN (some Q)).trans hg1).trans (World.grownBy_alloc _ _ _)).trans hg2
        refine bodyPost_ret (v := .agg #[.int .i64 a, .string b, .int .i64 c, .slice ad n cc]) (by simp [results, Tryz.results149, go_sem, q0, q1, q2, q3]) rfl ⟨⟨_, rfl, ?_⟩, par_box hp2 hRB _ _ _ _, grown_own hgw (below_box (Nat.le_refl _) _ _ _ _)⟩
        have hz : w.heap.size < (w.alloc zeroN).heap.size := by simp
        exact (((hv.above (Above.grown (World.grownBy_alloc _ _ none) (fun k e => by cases e))).above (Above.grown hg2 (fun k e => by injection e with e; show ¬ (w.alloc zeroN).heap.size ≤ k; omega))).above (above_box (R := w.heap.size) (by show ¬ (w.alloc zeroN).heap.size ≤ w.heap.size; omega) _ _ _ _)).mono (fun k hk _ => by have hk' : (w.alloc zeroN).heap.size ≤ k := hk; show w.heap.size ≤ k; omega)
end Go.Proofs.YtkppdndbfedijadGreatDoor

/- gessoref9: a number. -/
namespace Go.Proofs.YtkppdndbfedijadGreatDoor
open Go.RowKit

/-- Numbers that are none too great, in texts that are none too long. -/
def NumFit (S : Src9) : Prop := ∀ t ∈ S.L, t.1 = 2 → t.2.1.length ≤ 4000 ∧ 0 ≤ numP t.2.1 ∧ numP t.2.1 ≤ 1073741823
theorem tokAt_mem {l : List Tok} {k : Nat} (h : k < l.length) : tokAt l k ∈ l := by
  unfold tokAt
  rw [List.getD_eq_getElem?_getD, List.getElem?_eq_getElem h]
  exact List.getElem_mem _
theorem wrap_ten (m c : Int) : wrap64 (wrap64 (wrap64 (10 * IntKind.i64.wrap m) + c) - 48) = IntKind.i64.wrap (10 * m + (c - 48)) := by
  rw [IntKind.wrap_i64, IntKind.wrap_i64]; unfold wrap64; omega
set_option maxHeartbeats 8000000 in
theorem prim_num (Q B : Nat) (v : Value) (S : Src9) (s : PS) (hnf : NumFit S) (hs : isB S 2 s = true) (w : World) (hp : Par w Q B v S (.ok s)) :
    Calls Tryz.prog 210 #[.pointer (some ⟨Q, 0, none⟩)] w fun e w' => (∃ u, e = .returned u ∧ ValG w' (From w.heap.size) u (nodeP 26 [] (numP (S.at s.tok).2.1) [] s.step)) ∧ Par w' Q B v S (.ok s.step.node) ∧ w.grownBy w' (some Q) := by
  have hRB := hp.size
  have hqb := hp.qb
  have hfew := hp.few
  have ht := is_lt hs
  have hkd : (tokAt S.L s.tok).1 = 2 := by
    unfold isB at hs
    simp only [Bool.and_eq_true, beq_iff_eq] at hs
    exact hs.2
  obtain ⟨hx1, hx2, hx3⟩ := hnf _ (tokAt_mem ht) hkd
  have hxb := hp.bytes _ (tokAt_mem ht)
  have his := is_any Q B v S (.ok s) 2 _ (hp.below ((Below.refl _ w).alloc (Nat.le_refl _) zeroN))
  rw [show isS S 2 (.ok s) = true from hs] at his
  obtain ⟨vad, vc, hv0, _⟩ := hp.toks
  subst hv0
  have HPA : Hid (Par (w.alloc zeroN) Q B (.slice vad S.L.length vc) S (.ok s)) := hp.below ((Below.refl _ w).alloc (Nat.le_refl _) _)
  have HX : Hid (Box4 (w.alloc zeroN) w.heap.size (.int .i64 0) (.string ⟨#[]⟩) (.int .i64 0) (.slice none 0 0)) := Box4.new _ _ _ _ _
  have hwt := wrap_id (x := (s.tok : Int) + 1) (by omega) (by omega)
  have hil : (s.tok : Int) < (S.L.length : Int) := by omega
  obtain ⟨X, HX2⟩ : ∃ X, Hid (X = (tokAt S.L s.tok).2.1) := ⟨_, rfl⟩
  have HXS : Hid ((strOfNums X).size = X.length ∧ nums (strOfNums X) = X ∧ X.length ≤ 4000 ∧ IntKind.i64.wrap (numP X) = numP X) := by
    rw [HX2.out]
    refine ⟨?_, nums_str hxb, hx1, wrap_id (by omega) (by omega)⟩
    rw [← nums_length, nums_str hxb]
  rw [show (S.at s.tok).2.1 = X from HX2.out.symm]
  clear hs hkd hx1 hx2 hx3 hxb hp hnf
  go_enter Tryz.func210, Tryz.ntmps210
  go_wp2_with (first
    | (go_at_call 146; refine his.mono ?_; rintro e w1 ⟨rfl, hb1⟩))
  have hp1 := HPA.out.below hb1
  have hX1 := HX.out.grown (grown_below Q hb1) (by omega)
  obtain ⟨many, ho, hmm, _, _, _⟩ := hp1.ok
  obtain ⟨k0, k1, k2, k3, k4, k5, k6⟩ := ho.cells
  have z2 := ho.frozen 2
  have hql := ho.lt
  obtain ⟨ad1, c1, hv1, hrow⟩ := hp1.toks
  obtain ⟨b, off, had, hbl, hbq, hcl⟩ := hrow (by omega)
  simp only [Value.slice.injEq, true_and] at hv1
  obtain ⟨rfl, rfl⟩ := hv1
  subst had
  obtain ⟨_, x2, _⟩ := hcl s.tok ht
  rw [← HX2.out] at x2
  have hne : ¬ b = Q := by omega
  have HB1 : Hid (Below (w.alloc zeroN).heap.size (w.alloc zeroN) w1) := hb1
  have HP1 : Hid (Par w1 Q B (.slice (some ⟨b, off, none⟩) S.L.length vc) S (.ok s)) := hp1
  have HX1 : Hid (Box4 w1 w.heap.size (.int .i64 0) (.string ⟨#[]⟩) (.int .i64 0) (.slice none 0 0)) := hX1
  clear hcl hrow hmm ho his hb1 hp1 hX1
  go_region
  go_wp2_with (first
    | (go_at_call 74; refine (node_any Q B _ S (.ok s.step) _ _ _ ⟨_, _, _, rfl⟩ _ ((par_step HP1.out ht).below (Below.refl _ _).drew)).mono ?_; rintro e w2 ⟨rfl, hp2, hg2⟩))
  have hX2 := ((HX1.out.grown (grown_set _ Q 2 (.int .i64 ((s.tok : Int) + 1))) (by omega)).grown (grown_below Q (Below.refl _ _).drew) (by omega)).grown hg2 (by omega)
  have sz1 : w.heap.size < w2.heap.size := hX2.lt
  have HP0 : Hid (Par (w2.alloc (.cells #[.int .i64 26, .string ⟨#[]⟩, .int .i64 0, .slice none 0 0] 24)) Q B (.slice (some ⟨b, off, none⟩) S.L.length vc) S (.ok s.step.node)) := hp2.below ((Below.refl _ _).alloc (Nat.le_refl _) _)
  have HN0 : Hid (Box4 (w2.alloc (.cells #[.int .i64 26, .string ⟨#[]⟩, .int .i64 0, .slice none 0 0] 24)) w2.heap.size (.int .i64 26) (.string ⟨#[]⟩) (.int .i64 (IntKind.i64.wrap (decU X 0 0))) (.slice none 0 0)) := Box4.new _ _ _ _ _
  have HX0 : Hid (Box4 (w2.alloc (.cells #[.int .i64 26, .string ⟨#[]⟩, .int .i64 0, .slice none 0 0] 24)) w.heap.size (.int .i64 0) (.string ⟨#[]⟩) (.int .i64 0) (.slice none 0 0)) := hX2.alloc _
  have HG0 : Hid (w.grownBy (w2.alloc (.cells #[.int .i64 26, .string ⟨#[]⟩, .int .i64 0, .slice none 0 0] 24)) (some Q)) := (((((World.grownBy_alloc w zeroN (some Q)).trans (grown_below Q HB1.out)).trans (grown_set _ Q 2 _)).trans (grown_below Q (Below.refl _ _).drew)).trans hg2).trans (World.grownBy_alloc _ _ _)
  have HNL : Hid (w.heap.size < w2.heap.size) := sz1
  generalize w2.alloc (.cells #[.int .i64 26, .string ⟨#[]⟩, .int .i64 0, .slice none 0 0] 24) = W0 at *
  generalize w2.heap.size = N at *
  clear hp2 hg2 hX2 HB1 HP1 HX1 k0 k1 k2 k3 k4 k5 k6 z2 x2 hbl sz1
  go_loopw [6] (fun s6 wr => ∃ (i : Nat), s6 = .int .i64 i ∧ i ≤ X.length ∧ Hid (Par wr Q B (.slice (some ⟨b, off, none⟩) S.L.length vc) S (.ok s.step.node)) ∧ Hid (Box4 wr N (.int .i64 26) (.string ⟨#[]⟩) (.int .i64 (IntKind.i64.wrap (decU X 0 i))) (.slice none 0 0)) ∧ Hid (Box4 wr w.heap.size (.int .i64 0) (.string ⟨#[]⟩) (.int .i64 0) (.slice none 0 0)) ∧ Hid (w.grownBy wr (some Q))) (fun s6 _ => X.length - (intOf s6).toNat)
  case atStart => exact ⟨0, rfl, Nat.zero_le _, HP0, HN0, HX0, HG0⟩
  case round =>
    clear HP0 HN0 HX0 HG0
    obtain ⟨i, rfl, hi, HP, HN, HR, HGr⟩ := hrel
    obtain ⟨⟨m0, m1, m2, m3⟩, o0, o1, o2, o3⟩ := HN.out.facts
    obtain ⟨⟨y0, y1, y2, y3⟩, r0, r1, r2, r3⟩ := HR.out.facts
    have hNb := HN.out.lt
    have hXl : X.length ≤ 4000 := HXS.out.2.2.1
    have hsz : ((strOfNums X).size : Int) = (X.length : Int) := by rw [HXS.out.1]
    by_cases hlt : i < X.length
    · have hlt' : i < (strOfNums X).size := by rw [HXS.out.1]; exact hlt
      have hcc := nums_at hlt'
      rw [HXS.out.2.1] at hcc
      have hiz : (i : Int) < ((strOfNums X).size : Int) := by omega
      have hwi := wrap_id (x := (i : Int) + 1) (by omega) (by omega)
      have HW : Hid (wrap64 (wrap64 (wrap64 (10 * IntKind.i64.wrap (decU X 0 i)) + wd X i) - 48) = IntKind.i64.wrap (decU X 0 (i + 1))) := by
        show _ = _
        rw [wrap_ten]
        conv => rhs; unfold decU
        rw [Nat.zero_add]
      have hby : 0 ≤ wd X i ∧ wd X i ≤ 255 := by
        have := nums_byte (strOfNums X)
        rw [HXS.out.2.1] at this
        exact wd_byte this i
      have hwy := wrap_id (x := wd X i) (by omega) (by omega)
      clear hsz
      generalize wd X i = y at *
      generalize IntKind.i64.wrap (decU X 0 i) = m at *
      go_wp2_with fail
      go_region
      go_wp2_with fail
      have hbx : Below B wr (wr.setCell ⟨N, 2, none⟩ (.int .i64 (wrap64 (wrap64 (wrap64 (10 * m) + y) - 48)))).drew := ((Below.refl _ _).setCell (by have := HNL.out; dsimp only; omega) _).drew
      have hbw : Below w.heap.size wr (wr.setCell ⟨N, 2, none⟩ (.int .i64 (wrap64 (wrap64 (wrap64 (10 * m) + y) - 48)))).drew := ((Below.refl _ _).setCell (by dsimp only; exact Nat.le_of_lt HNL.out) _).drew
      refine ⟨⟨i + 1, by simp, by omega, HP.out.apart hbx, ?_, ?_, grown_own HGr.out hbw⟩, by simp [intOf]; omega⟩
      · have := HN.out.setNum (.int .i64 (wrap64 (wrap64 (wrap64 (10 * m) + y) - 48)))
        rw [HW.out] at this ⊢
        exact this
      · exact (Below.heap_setCell _ _ _ _ (by have := HNL.out; dsimp only; omega)).trans HR.out
    · have e : i = X.length := by omega
      subst e
      have hiz : ¬ (X.length : Int) < ((strOfNums X).size : Int) := by omega
      clear hsz
      go_wp2_with fail
      have hnum : wrap64 (decU X 0 X.length) = numP X := by
        have := HXS.out.2.2.2
        rw [IntKind.wrap_i64] at this
        unfold wrap64
        exact this
      refine bodyPost_ret (v := .agg #[.int .i64 26, .string ⟨#[]⟩, .int .i64 (numP X), .slice none 0 0]) (by simp [results, Tryz.results210, go_sem, y0, y1, y2, y3, hnum]) rfl ⟨⟨_, rfl, ?_⟩, par_box HP.out hRB _ _ _ _, grown_own HGr.out (below_box (Nat.le_refl _) _ _ _ _)⟩
      exact ⟨.slice none 0 0, rfl, kids_nil _ _ _⟩
end Go.Proofs.YtkppdndbfedijadGreatDoor

/- gessoref9: primary. -/
namespace Go.Proofs.YtkppdndbfedijadGreatDoor
open Go.RowKit

/-- A node without kids, of a text that was read. -/
theorem leaf_val {w : World} {M : Nat → Prop} {kind : Int} {g : Got (List Int)} {t : ByteArray} (h : TextG (.string t) g) : ValG w M (.agg #[.int .i64 kind, .string t, .int .i64 0, .slice none 0 0]) (g.then fun x s => nodeP kind x 0 [] s) := by
  match g, h with
  | .ok (x, s), h =>
    have e : Value.string t = .string (strOfNums x) := h
    injection e with e
    subst e
    exact ⟨.slice none 0 0, rfl, kids_nil _ _ _⟩
  | .error e, h => exact ⟨_, _, _, _, _, _, rfl⟩
theorem leaf_st {kind : Int} {g : Got (List Int)} : stOf (g.then fun x s => nodeP kind x 0 [] s) = nodeS (stOf g) := by
  match g with
  | .ok (x, s) => rfl
  | .error e => rfl
theorem text_string {x : Value} {g : Got (List Int)} (h : TextG x g) : ∃ t, x = .string t := by
  match g, h with
  | .ok (t, s), h => exact ⟨_, h⟩
  | .error e, h => exact h
theorem begins_no {Q B : Nat} {v : Value} {S : Src9} {st : St9} {x : ByteArray} {l : List Int} (e : nums x = l) (h : seesS S l st = false) : ∀ w', Par w' Q B v S st → Calls Tryz.prog 147 #[.pointer (some ⟨Q, 0, none⟩), .string x] w' fun e w'' => e = .returned (.bool false) ∧ Par w'' Q B v S st ∧ w'.grownBy w'' (some Q) := fun w' h' => by
  have := begins_any9 Q B v S st x w' h'
  rw [e, h] at this
  unfold stepS at this
  rw [h, if_neg (by decide)] at this
  exact this
theorem begins_yes {Q B : Nat} {v : Value} {S : Src9} {s : PS} {x : ByteArray} {l : List Int} (e : nums x = l) (h : seesB S l s = true) : ∀ w', Par w' Q B v S (.ok s) → Calls Tryz.prog 147 #[.pointer (some ⟨Q, 0, none⟩), .string x] w' fun e w'' => e = .returned (.bool true) ∧ Par w'' Q B v S (.ok s.step) ∧ w'.grownBy w'' (some Q) := fun w' h' => by
  have h2 : seesS S l (.ok s) = true := h
  have := begins_any9 Q B v S (.ok s) x w' h'
  rw [e, h2] at this
  unfold stepS at this
  rw [h2, if_pos rfl] at this
  exact this
theorem is_no {Q B : Nat} {v : Value} {S : Src9} {st : St9} {k : Int} (h : isS S k st = false) : ∀ w', Par w' Q B v S st → Calls Tryz.prog 146 #[.pointer (some ⟨Q, 0, none⟩), .int .i64 k] w' fun e w'' => e = .returned (.bool false) ∧ Below w'.heap.size w' w'' := fun w' h' => by
  have := is_any Q B v S st k w' h'
  rw [h] at this
  exact this
theorem is_yes {Q B : Nat} {v : Value} {S : Src9} {s : PS} {k : Int} (h : isB S k s = true) : ∀ w', Par w' Q B v S (.ok s) → Calls Tryz.prog 146 #[.pointer (some ⟨Q, 0, none⟩), .int .i64 k] w' fun e w'' => e = .returned (.bool true) ∧ Below w'.heap.size w' w'' := fun w' h' => by
  have := is_any Q B v S (.ok s) k w' h'
  rw [show isS S k (.ok s) = true from h] at this
  exact this
set_option maxHeartbeats 4000000 in
theorem prim_name (Q B : Nat) (v : Value) (S : Src9) (s : PS) (h2 : isB S 2 s = false) (h1 : isB S 1 s = true) (w : World) (hp : Par w Q B v S (.ok s)) :
    Calls Tryz.prog 210 #[.pointer (some ⟨Q, 0, none⟩)] w fun e w' => (∃ u, e = .returned u ∧ ValG w' (From w.heap.size) u ((nameP S s).then fun x s => nodeP 31 x 0 [] s)) ∧ Par w' Q B v S (stOf ((nameP S s).then fun x s => nodeP 31 x 0 [] s)) ∧ w.grownBy w' (some Q) := by
  have hRB := hp.size
  have hqb := hp.qb
  have HPA : Hid (Par (w.alloc zeroN) Q B v S (.ok s)) := hp.below ((Below.refl _ w).alloc (Nat.le_refl _) _)
  have HX : Hid (Box4 (w.alloc zeroN) w.heap.size (.int .i64 0) (.string ⟨#[]⟩) (.int .i64 0) (.slice none 0 0)) := Box4.new _ _ _ _ _
  have hI2 := is_no (Q := Q) (B := B) (v := v) (S := S) (st := .ok s) (k := 2) h2
  have hI1 := is_yes (Q := Q) (B := B) (v := v) (S := S) (s := s) (k := 1) h1
  clear hp
  go_enter Tryz.func210, Tryz.ntmps210
  go_wp2_with (first
    | (go_at_call_of 146 (Value.int .i64 2); refine (hI2 _ HPA.out).mono ?_; rintro e w1 ⟨rfl, hb1⟩; have hp1 := Par.below HPA.out hb1; have hg1 : (w.alloc zeroN).grownBy w1 (some Q) := (grown_below Q hb1); clear hI2)
    | (go_at_call_of 146 (Value.int .i64 1); refine (hI1 _ hp1).mono ?_; rintro e w2 ⟨rfl, hb2⟩; have hp2 := Par.below hp1 hb2; have hg2 : (w.alloc zeroN).grownBy w2 (some Q) := hg1.trans (grown_below Q hb2); clear hI1)
    | (go_at_call 105; refine (name_any Q B v S _ _ hp2).mono ?_; rintro e w7 ⟨⟨xv, rfl, htx⟩, hp7, hgx⟩; obtain ⟨tx, hxv⟩ := text_string htx; subst hxv; have hg7 := hg2.trans hgx)
    | (go_at_call 74; refine (node_any Q B v S _ _ _ _ ⟨_, _, _, rfl⟩ _ hp7).mono ?_; rintro e w8 ⟨rfl, hp8, hgx⟩; have hg8 := hg7.trans hgx; have hXe := HX.out.grown hg8 (by omega); obtain ⟨⟨q0, q1, q2, q3⟩, s0, s1, s2, s3⟩ := hXe.facts))
  have hgw : w.grownBy w8 (some Q) := (World.grownBy_alloc w zeroN (some Q)).trans hg8
  refine bodyPost_ret (v := .agg #[.int .i64 31, .string tx, .int .i64 0, .slice none 0 0]) (by simp [results, Tryz.results210, go_sem, q0, q1, q2, q3]) rfl ⟨⟨_, rfl, leaf_val htx⟩, by rw [leaf_st]; exact par_box hp8 hRB _ _ _ _, grown_own hgw (below_box (Nat.le_refl _) _ _ _ _)⟩
set_option maxHeartbeats 4000000 in
theorem prim_wNil (Q B : Nat) (v : Value) (S : Src9) (s : PS) (h2 : isB S 2 s = false) (h1 : isB S 1 s = false)  (b0 : seesB S wNil s = true) (w : World) (hp : Par w Q B v S (.ok s)) :
    Calls Tryz.prog 210 #[.pointer (some ⟨Q, 0, none⟩)] w fun e w' => (∃ u, e = .returned u ∧ ValG w' (From w.heap.size) u (nodeP 27 [] 0 [] s.step)) ∧ Par w' Q B v S (stOf (nodeP 27 [] 0 [] s.step)) ∧ w.grownBy w' (some Q) := by
  have hRB := hp.size
  have hqb := hp.qb
  have HPA : Hid (Par (w.alloc zeroN) Q B v S (.ok s)) := hp.below ((Below.refl _ w).alloc (Nat.le_refl _) _)
  have HX : Hid (Box4 (w.alloc zeroN) w.heap.size (.int .i64 0) (.string ⟨#[]⟩) (.int .i64 0) (.slice none 0 0)) := Box4.new _ _ _ _ _
  have hI2 := is_no (Q := Q) (B := B) (v := v) (S := S) (st := .ok s) (k := 2) h2
  have hI1 := is_no (Q := Q) (B := B) (v := v) (S := S) (st := .ok s) (k := 1) h1
  have hB0 := begins_yes (Q := Q) (B := B) (v := v) (S := S) (s := s) (x := ⟨#[110, 105, 108]⟩) (l := wNil) (by decide) b0
  clear hp
  go_enter Tryz.func210, Tryz.ntmps210
  go_wp2_with (first
    | (go_at_call_of 146 (Value.int .i64 2); refine (hI2 _ HPA.out).mono ?_; rintro e w1 ⟨rfl, hb1⟩; have hp1 := Par.below HPA.out hb1; have hg1 : (w.alloc zeroN).grownBy w1 (some Q) := (grown_below Q hb1); clear hI2)
    | (go_at_call_of 146 (Value.int .i64 1); refine (hI1 _ hp1).mono ?_; rintro e w2 ⟨rfl, hb2⟩; have hp2 := Par.below hp1 hb2; have hg2 : (w.alloc zeroN).grownBy w2 (some Q) := hg1.trans (grown_below Q hb2); clear hI1)
    | (go_at_call_of 147 (Value.string ⟨#[110, 105, 108]⟩); refine (hB0 _ hp2).mono ?_; rintro e w3 ⟨rfl, hp3, hgx⟩; have hg3 := hg2.trans hgx; clear hB0)
    | (go_at_call 74; refine (node_any Q B v S _ _ _ _ ⟨_, _, _, rfl⟩ _ hp3).mono ?_; rintro e w8 ⟨rfl, hp8, hgx⟩; have hg8 := hg3.trans hgx; have hXe := HX.out.grown hg8 (by omega); obtain ⟨⟨q0, q1, q2, q3⟩, s0, s1, s2, s3⟩ := hXe.facts))
  have hgw : w.grownBy w8 (some Q) := (World.grownBy_alloc w zeroN (some Q)).trans hg8
  refine bodyPost_ret (v := .agg #[.int .i64 27, .string ⟨#[]⟩, .int .i64 0, .slice none 0 0]) (by simp [results, Tryz.results210, go_sem, q0, q1, q2, q3]) rfl ⟨⟨_, rfl, ⟨.slice none 0 0, rfl, kids_nil _ _ _⟩⟩, par_box hp8 hRB _ _ _ _, grown_own hgw (below_box (Nat.le_refl _) _ _ _ _)⟩
set_option maxHeartbeats 4000000 in
theorem prim_wSelf (Q B : Nat) (v : Value) (S : Src9) (s : PS) (h2 : isB S 2 s = false) (h1 : isB S 1 s = false) (b0 : seesB S wNil s = false) (b1 : seesB S wSelf s = true) (w : World) (hp : Par w Q B v S (.ok s)) :
    Calls Tryz.prog 210 #[.pointer (some ⟨Q, 0, none⟩)] w fun e w' => (∃ u, e = .returned u ∧ ValG w' (From w.heap.size) u (nodeP 28 [] 0 [] s.step)) ∧ Par w' Q B v S (stOf (nodeP 28 [] 0 [] s.step)) ∧ w.grownBy w' (some Q) := by
  have hRB := hp.size
  have hqb := hp.qb
  have HPA : Hid (Par (w.alloc zeroN) Q B v S (.ok s)) := hp.below ((Below.refl _ w).alloc (Nat.le_refl _) _)
  have HX : Hid (Box4 (w.alloc zeroN) w.heap.size (.int .i64 0) (.string ⟨#[]⟩) (.int .i64 0) (.slice none 0 0)) := Box4.new _ _ _ _ _
  have hI2 := is_no (Q := Q) (B := B) (v := v) (S := S) (st := .ok s) (k := 2) h2
  have hI1 := is_no (Q := Q) (B := B) (v := v) (S := S) (st := .ok s) (k := 1) h1
  have hB0 := begins_no (Q := Q) (B := B) (v := v) (S := S) (st := .ok s) (x := ⟨#[110, 105, 108]⟩) (l := wNil) (by decide) b0
  have hB1 := begins_yes (Q := Q) (B := B) (v := v) (S := S) (s := s) (x := ⟨#[115, 101, 108, 102]⟩) (l := wSelf) (by decide) b1
  clear hp
  go_enter Tryz.func210, Tryz.ntmps210
  go_wp2_with (first
    | (go_at_call_of 146 (Value.int .i64 2); refine (hI2 _ HPA.out).mono ?_; rintro e w1 ⟨rfl, hb1⟩; have hp1 := Par.below HPA.out hb1; have hg1 : (w.alloc zeroN).grownBy w1 (some Q) := (grown_below Q hb1); clear hI2)
    | (go_at_call_of 146 (Value.int .i64 1); refine (hI1 _ hp1).mono ?_; rintro e w2 ⟨rfl, hb2⟩; have hp2 := Par.below hp1 hb2; have hg2 : (w.alloc zeroN).grownBy w2 (some Q) := hg1.trans (grown_below Q hb2); clear hI1)
    | (go_at_call_of 147 (Value.string ⟨#[110, 105, 108]⟩); refine (hB0 _ hp2).mono ?_; rintro e w3 ⟨rfl, hp3, hgx⟩; have hg3 := hg2.trans hgx; clear hB0)
    | (go_at_call_of 147 (Value.string ⟨#[115, 101, 108, 102]⟩); refine (hB1 _ hp3).mono ?_; rintro e w4 ⟨rfl, hp4, hgx⟩; have hg4 := hg3.trans hgx; clear hB1)
    | (go_at_call 74; refine (node_any Q B v S _ _ _ _ ⟨_, _, _, rfl⟩ _ hp4).mono ?_; rintro e w8 ⟨rfl, hp8, hgx⟩; have hg8 := hg4.trans hgx; have hXe := HX.out.grown hg8 (by omega); obtain ⟨⟨q0, q1, q2, q3⟩, s0, s1, s2, s3⟩ := hXe.facts))
  have hgw : w.grownBy w8 (some Q) := (World.grownBy_alloc w zeroN (some Q)).trans hg8
  refine bodyPost_ret (v := .agg #[.int .i64 28, .string ⟨#[]⟩, .int .i64 0, .slice none 0 0]) (by simp [results, Tryz.results210, go_sem, q0, q1, q2, q3]) rfl ⟨⟨_, rfl, ⟨.slice none 0 0, rfl, kids_nil _ _ _⟩⟩, par_box hp8 hRB _ _ _ _, grown_own hgw (below_box (Nat.le_refl _) _ _ _ _)⟩
set_option maxHeartbeats 4000000 in
theorem prim_wGate (Q B : Nat) (v : Value) (S : Src9) (s : PS) (h2 : isB S 2 s = false) (h1 : isB S 1 s = false) (b0 : seesB S wNil s = false) (b1 : seesB S wSelf s = false) (b2 : seesB S wGate s = true) (w : World) (hp : Par w Q B v S (.ok s)) :
    Calls Tryz.prog 210 #[.pointer (some ⟨Q, 0, none⟩)] w fun e w' => (∃ u, e = .returned u ∧ ValG w' (From w.heap.size) u (nodeP 29 [] 0 [] s.step)) ∧ Par w' Q B v S (stOf (nodeP 29 [] 0 [] s.step)) ∧ w.grownBy w' (some Q) := by
  have hRB := hp.size
  have hqb := hp.qb
  have HPA : Hid (Par (w.alloc zeroN) Q B v S (.ok s)) := hp.below ((Below.refl _ w).alloc (Nat.le_refl _) _)
  have HX : Hid (Box4 (w.alloc zeroN) w.heap.size (.int .i64 0) (.string ⟨#[]⟩) (.int .i64 0) (.slice none 0 0)) := Box4.new _ _ _ _ _
  have hI2 := is_no (Q := Q) (B := B) (v := v) (S := S) (st := .ok s) (k := 2) h2
  have hI1 := is_no (Q := Q) (B := B) (v := v) (S := S) (st := .ok s) (k := 1) h1
  have hB0 := begins_no (Q := Q) (B := B) (v := v) (S := S) (st := .ok s) (x := ⟨#[110, 105, 108]⟩) (l := wNil) (by decide) b0
  have hB1 := begins_no (Q := Q) (B := B) (v := v) (S := S) (st := .ok s) (x := ⟨#[115, 101, 108, 102]⟩) (l := wSelf) (by decide) b1
  have hB2 := begins_yes (Q := Q) (B := B) (v := v) (S := S) (s := s) (x := ⟨#[103, 97, 116, 101]⟩) (l := wGate) (by decide) b2
  clear hp
  go_enter Tryz.func210, Tryz.ntmps210
  go_wp2_with (first
    | (go_at_call_of 146 (Value.int .i64 2); refine (hI2 _ HPA.out).mono ?_; rintro e w1 ⟨rfl, hb1⟩; have hp1 := Par.below HPA.out hb1; have hg1 : (w.alloc zeroN).grownBy w1 (some Q) := (grown_below Q hb1); clear hI2)
    | (go_at_call_of 146 (Value.int .i64 1); refine (hI1 _ hp1).mono ?_; rintro e w2 ⟨rfl, hb2⟩; have hp2 := Par.below hp1 hb2; have hg2 : (w.alloc zeroN).grownBy w2 (some Q) := hg1.trans (grown_below Q hb2); clear hI1)
    | (go_at_call_of 147 (Value.string ⟨#[110, 105, 108]⟩); refine (hB0 _ hp2).mono ?_; rintro e w3 ⟨rfl, hp3, hgx⟩; have hg3 := hg2.trans hgx; clear hB0)
    | (go_at_call_of 147 (Value.string ⟨#[115, 101, 108, 102]⟩); refine (hB1 _ hp3).mono ?_; rintro e w4 ⟨rfl, hp4, hgx⟩; have hg4 := hg3.trans hgx; clear hB1)
    | (go_at_call_of 147 (Value.string ⟨#[103, 97, 116, 101]⟩); refine (hB2 _ hp4).mono ?_; rintro e w5 ⟨rfl, hp5, hgx⟩; have hg5 := hg4.trans hgx; clear hB2)
    | (go_at_call 74; refine (node_any Q B v S _ _ _ _ ⟨_, _, _, rfl⟩ _ hp5).mono ?_; rintro e w8 ⟨rfl, hp8, hgx⟩; have hg8 := hg5.trans hgx; have hXe := HX.out.grown hg8 (by omega); obtain ⟨⟨q0, q1, q2, q3⟩, s0, s1, s2, s3⟩ := hXe.facts))
  have hgw : w.grownBy w8 (some Q) := (World.grownBy_alloc w zeroN (some Q)).trans hg8
  refine bodyPost_ret (v := .agg #[.int .i64 29, .string ⟨#[]⟩, .int .i64 0, .slice none 0 0]) (by simp [results, Tryz.results210, go_sem, q0, q1, q2, q3]) rfl ⟨⟨_, rfl, ⟨.slice none 0 0, rfl, kids_nil _ _ _⟩⟩, par_box hp8 hRB _ _ _ _, grown_own hgw (below_box (Nat.le_refl _) _ _ _ _)⟩
set_option maxHeartbeats 4000000 in
theorem prim_wNew (Q B : Nat) (v : Value) (S : Src9) (s : PS) (h2 : isB S 2 s = false) (h1 : isB S 1 s = false) (b0 : seesB S wNil s = false) (b1 : seesB S wSelf s = false) (b2 : seesB S wGate s = false) (b3 : seesB S wNew s = true) (w : World) (hp : Par w Q B v S (.ok s)) :
    Calls Tryz.prog 210 #[.pointer (some ⟨Q, 0, none⟩)] w fun e w' => (∃ u, e = .returned u ∧ ValG w' (From w.heap.size) u ((nameP S s.step).then fun x s => nodeP 30 x 0 [] s)) ∧ Par w' Q B v S (stOf ((nameP S s.step).then fun x s => nodeP 30 x 0 [] s)) ∧ w.grownBy w' (some Q) := by
  have hRB := hp.size
  have hqb := hp.qb
  have HPA : Hid (Par (w.alloc zeroN) Q B v S (.ok s)) := hp.below ((Below.refl _ w).alloc (Nat.le_refl _) _)
  have HX : Hid (Box4 (w.alloc zeroN) w.heap.size (.int .i64 0) (.string ⟨#[]⟩) (.int .i64 0) (.slice none 0 0)) := Box4.new _ _ _ _ _
  have hI2 := is_no (Q := Q) (B := B) (v := v) (S := S) (st := .ok s) (k := 2) h2
  have hI1 := is_no (Q := Q) (B := B) (v := v) (S := S) (st := .ok s) (k := 1) h1
  have hB0 := begins_no (Q := Q) (B := B) (v := v) (S := S) (st := .ok s) (x := ⟨#[110, 105, 108]⟩) (l := wNil) (by decide) b0
  have hB1 := begins_no (Q := Q) (B := B) (v := v) (S := S) (st := .ok s) (x := ⟨#[115, 101, 108, 102]⟩) (l := wSelf) (by decide) b1
  have hB2 := begins_no (Q := Q) (B := B) (v := v) (S := S) (st := .ok s) (x := ⟨#[103, 97, 116, 101]⟩) (l := wGate) (by decide) b2
  have hB3 := begins_yes (Q := Q) (B := B) (v := v) (S := S) (s := s) (x := ⟨#[110, 101, 119]⟩) (l := wNew) (by decide) b3
  clear hp
  go_enter Tryz.func210, Tryz.ntmps210
  go_wp2_with (first
    | (go_at_call_of 146 (Value.int .i64 2); refine (hI2 _ HPA.out).mono ?_; rintro e w1 ⟨rfl, hb1⟩; have hp1 := Par.below HPA.out hb1; have hg1 : (w.alloc zeroN).grownBy w1 (some Q) := (grown_below Q hb1); clear hI2)
    | (go_at_call_of 146 (Value.int .i64 1); refine (hI1 _ hp1).mono ?_; rintro e w2 ⟨rfl, hb2⟩; have hp2 := Par.below hp1 hb2; have hg2 : (w.alloc zeroN).grownBy w2 (some Q) := hg1.trans (grown_below Q hb2); clear hI1)
    | (go_at_call_of 147 (Value.string ⟨#[110, 105, 108]⟩); refine (hB0 _ hp2).mono ?_; rintro e w3 ⟨rfl, hp3, hgx⟩; have hg3 := hg2.trans hgx; clear hB0)
    | (go_at_call_of 147 (Value.string ⟨#[115, 101, 108, 102]⟩); refine (hB1 _ hp3).mono ?_; rintro e w4 ⟨rfl, hp4, hgx⟩; have hg4 := hg3.trans hgx; clear hB1)
    | (go_at_call_of 147 (Value.string ⟨#[103, 97, 116, 101]⟩); refine (hB2 _ hp4).mono ?_; rintro e w5 ⟨rfl, hp5, hgx⟩; have hg5 := hg4.trans hgx; clear hB2)
    | (go_at_call_of 147 (Value.string ⟨#[110, 101, 119]⟩); refine (hB3 _ hp5).mono ?_; rintro e w6 ⟨rfl, hp6, hgx⟩; have hg6 := hg5.trans hgx; clear hB3)
    | (go_at_call 105; refine (name_any Q B v S _ _ hp6).mono ?_; rintro e w7 ⟨⟨xv, rfl, htx⟩, hp7, hgx⟩; obtain ⟨tx, hxv⟩ := text_string htx; subst hxv; have hg7 := hg6.trans hgx)
    | (go_at_call 74; refine (node_any Q B v S _ _ _ _ ⟨_, _, _, rfl⟩ _ hp7).mono ?_; rintro e w8 ⟨rfl, hp8, hgx⟩; have hg8 := hg7.trans hgx; have hXe := HX.out.grown hg8 (by omega); obtain ⟨⟨q0, q1, q2, q3⟩, s0, s1, s2, s3⟩ := hXe.facts))
  have hgw : w.grownBy w8 (some Q) := (World.grownBy_alloc w zeroN (some Q)).trans hg8
  refine bodyPost_ret (v := .agg #[.int .i64 30, .string tx, .int .i64 0, .slice none 0 0]) (by simp [results, Tryz.results210, go_sem, q0, q1, q2, q3]) rfl ⟨⟨_, rfl, leaf_val htx⟩, by rw [leaf_st]; exact par_box hp8 hRB _ _ _ _, grown_own hgw (below_box (Nat.le_refl _) _ _ _ _)⟩
end Go.Proofs.YtkppdndbfedijadGreatDoor

/- gessoref9: primary, in parentheses; all of it. -/
namespace Go.Proofs.YtkppdndbfedijadGreatDoor
open Go.RowKit

theorem paren_val {w : World} {M : Nat → Prop} {u : Value} {S : Src9} {g : Got Nd} (h : ValG w M u g) : ValG w M u (g.then fun n s => (wantP S sShut s).then fun _ s => .ok (n, s)) := by
  match g, h with
  | .ok (n, s), h =>
    show ValG w M u ((wantP S sShut s).then fun _ s => .ok (n, s))
    cases hw : wantP S sShut s with
    | ok x => exact h
    | error e => exact NodeV.any h
  | .error e, h => exact h
theorem paren_st {S : Src9} {g : Got Nd} : stOf (g.then fun n s => (wantP S sShut s).then fun _ s => .ok (n, s)) = stOf (bindS (stOf g) (wantP S sShut)) := by
  match g with
  | .ok (n, s) =>
    show stOf ((wantP S sShut s).then fun _ s => .ok (n, s)) = stOf (wantP S sShut s)
    cases hw : wantP S sShut s with
    | ok x => rfl
    | error e => rfl
  | .error e => rfl
theorem want_as {Q B : Nat} {v : Value} {S : Src9} {x : ByteArray} {l : List Int} (e : nums x = l) (st : St9) : ∀ w', Par w' Q B v S st → Calls Tryz.prog 72 #[.pointer (some ⟨Q, 0, none⟩), .string x] w' fun e w'' => e = .returned (.tuple #[]) ∧ Par w'' Q B v S (stOf (bindS st (wantP S l))) ∧ w'.grownBy w'' (some Q) := fun w' h' => by
  have := want_any Q B v S st x w' h'
  rw [e] at this
  exact this
set_option maxHeartbeats 8000000 in
theorem prim_paren (Q B : Nat) (v : Value) (S : Src9) (st : St9) (h2 : isS S 2 st = false) (h1 : isS S 1 st = false) (b0 : seesS S wNil st = false) (b1 : seesS S wSelf st = false) (b2 : seesS S wGate st = false) (b3 : seesS S wNew st = false)
    (hx : ∀ s1, bindS st (wantP S sOpen) = .ok ((), s1) → Reads9 149 (exprC S) Q B v S (.ok s1)) (w : World) (hp : Par w Q B v S st) :
    Calls Tryz.prog 210 #[.pointer (some ⟨Q, 0, none⟩)] w fun e w' => (∃ u, e = .returned u ∧ ValG w' (From w.heap.size) u ((bindS st (wantP S sOpen)).then fun _ s => (exprC S s).then fun n s => (wantP S sShut s).then fun _ s => .ok (n, s))) ∧ Par w' Q B v S (stOf ((bindS st (wantP S sOpen)).then fun _ s => (exprC S s).then fun n s => (wantP S sShut s).then fun _ s => .ok (n, s))) ∧ w.grownBy w' (some Q) := by
  have hRB := hp.size
  have hqb := hp.qb
  have HPA : Hid (Par (w.alloc zeroN) Q B v S st) := hp.below ((Below.refl _ w).alloc (Nat.le_refl _) _)
  have HX : Hid (Box4 (w.alloc zeroN) w.heap.size (.int .i64 0) (.string ⟨#[]⟩) (.int .i64 0) (.slice none 0 0)) := Box4.new _ _ _ _ _
  have hI2 := is_no (Q := Q) (B := B) (v := v) (S := S) (st := st) (k := 2) h2
  have hI1 := is_no (Q := Q) (B := B) (v := v) (S := S) (st := st) (k := 1) h1
  have hB0 := begins_no (Q := Q) (B := B) (v := v) (S := S) (st := st) (x := ⟨#[110, 105, 108]⟩) (l := wNil) (by decide) b0
  have hB1 := begins_no (Q := Q) (B := B) (v := v) (S := S) (st := st) (x := ⟨#[115, 101, 108, 102]⟩) (l := wSelf) (by decide) b1
  have hB2 := begins_no (Q := Q) (B := B) (v := v) (S := S) (st := st) (x := ⟨#[103, 97, 116, 101]⟩) (l := wGate) (by decide) b2
  have hB3 := begins_no (Q := Q) (B := B) (v := v) (S := S) (st := st) (x := ⟨#[110, 101, 119]⟩) (l := wNew) (by decide) b3
  have hW1 := want_as (Q := Q) (B := B) (v := v) (S := S) (x := ⟨#[40]⟩) (l := sOpen) (by decide) st
  have hW2 := fun st' => want_as (Q := Q) (B := B) (v := v) (S := S) (x := ⟨#[41]⟩) (l := sShut) (by decide) st'
  clear h2 h1 b0 b1 b2 b3
  cases hw : bindS st (wantP S sOpen) with
  | error e0 =>
    rw [hw] at hW1
    have hW1' : ∀ w', Par w' Q B v S st → Calls Tryz.prog 72 #[.pointer (some ⟨Q, 0, none⟩), .string ⟨#[40]⟩] w' fun e w'' => e = .returned (.tuple #[]) ∧ Par w'' Q B v S (.error e0) ∧ w'.grownBy w'' (some Q) := hW1
    clear hp hx hw hW1 hW2
    go_enter Tryz.func210, Tryz.ntmps210
    go_wp2_with (first
      | (go_at_call_of 146 (Value.int .i64 2); refine (hI2 _ HPA.out).mono ?_; rintro e w1 ⟨rfl, hb1⟩; have hp1 := Par.below HPA.out hb1; have hg1 : (w.alloc zeroN).grownBy w1 (some Q) := (grown_below Q hb1); clear hI2)
      | (go_at_call_of 146 (Value.int .i64 1); refine (hI1 _ hp1).mono ?_; rintro e w2 ⟨rfl, hb2⟩; have hp2 := Par.below hp1 hb2; have hg2 : (w.alloc zeroN).grownBy w2 (some Q) := hg1.trans (grown_below Q hb2); clear hI1)
      | (go_at_call_of 147 (Value.string ⟨#[110, 105, 108]⟩); refine (hB0 _ hp2).mono ?_; rintro e w3 ⟨rfl, hp3, hgx⟩; have hg3 := hg2.trans hgx; clear hB0)
      | (go_at_call_of 147 (Value.string ⟨#[115, 101, 108, 102]⟩); refine (hB1 _ hp3).mono ?_; rintro e w4 ⟨rfl, hp4, hgx⟩; have hg4 := hg3.trans hgx; clear hB1)
      | (go_at_call_of 147 (Value.string ⟨#[103, 97, 116, 101]⟩); refine (hB2 _ hp4).mono ?_; rintro e w5 ⟨rfl, hp5, hgx⟩; have hg5 := hg4.trans hgx; clear hB2)
      | (go_at_call_of 147 (Value.string ⟨#[110, 101, 119]⟩); refine (hB3 _ hp5).mono ?_; rintro e w6 ⟨rfl, hp6, hgx⟩; have hg6 := hg5.trans hgx; clear hB3)
      | (go_at_call 72; refine (hW1' _ hp6).mono ?_; rintro e w7 ⟨rfl, hp7, hgx⟩; have hg7 := hg6.trans hgx; have hXe := HX.out.grown hg7 (by omega); obtain ⟨⟨q0, q1, q2, q3⟩, s0, s1, s2, s3⟩ := hXe.facts; obtain ⟨tk, dp, mn, fc, fa, ho, hf⟩ := hp7.obj; obtain ⟨ec, ea⟩ := e0; obtain ⟨rfl, rfl, hfc⟩ := hf; obtain ⟨k0, k1, k2, k3, k4, k5, k6⟩ := ho.cells))
    have hgw : w.grownBy w7 (some Q) := (World.grownBy_alloc w zeroN (some Q)).trans hg7
    exact bodyPost_ret (v := .agg #[.int .i64 0, .string ⟨#[]⟩, .int .i64 0, .slice none 0 0]) (by simp [results, Tryz.results210, go_sem, q0, q1, q2, q3]) rfl ⟨⟨_, rfl, ⟨_, _, _, _, _, _, rfl⟩⟩, par_box hp7 hRB _ _ _ _, grown_own hgw (below_box (Nat.le_refl _) _ _ _ _)⟩
  | ok x =>
    obtain ⟨⟨⟩, s1⟩ := x
    rw [hw] at hW1
    have hW1' : ∀ w', Par w' Q B v S st → Calls Tryz.prog 72 #[.pointer (some ⟨Q, 0, none⟩), .string ⟨#[40]⟩] w' fun e w'' => e = .returned (.tuple #[]) ∧ Par w'' Q B v S (.ok s1) ∧ w'.grownBy w'' (some Q) := hW1
    have hxx := hx s1 hw
    unfold Reads9 at hxx
    rw [bindS_ok] at hxx
    rw [then_ok]
    rw [paren_st]
    clear hp hx hw hW1
    generalize exprC S s1 = gk at *
    have hW2' := hW2 (stOf gk)
    clear hW2
    go_enter Tryz.func210, Tryz.ntmps210
    go_wp2_with (first
      | (go_at_call_of 146 (Value.int .i64 2); refine (hI2 _ HPA.out).mono ?_; rintro e w1 ⟨rfl, hb1⟩; have hp1 := Par.below HPA.out hb1; have hg1 : (w.alloc zeroN).grownBy w1 (some Q) := (grown_below Q hb1); clear hI2)
      | (go_at_call_of 146 (Value.int .i64 1); refine (hI1 _ hp1).mono ?_; rintro e w2 ⟨rfl, hb2⟩; have hp2 := Par.below hp1 hb2; have hg2 : (w.alloc zeroN).grownBy w2 (some Q) := hg1.trans (grown_below Q hb2); clear hI1)
      | (go_at_call_of 147 (Value.string ⟨#[110, 105, 108]⟩); refine (hB0 _ hp2).mono ?_; rintro e w3 ⟨rfl, hp3, hgx⟩; have hg3 := hg2.trans hgx; clear hB0)
      | (go_at_call_of 147 (Value.string ⟨#[115, 101, 108, 102]⟩); refine (hB1 _ hp3).mono ?_; rintro e w4 ⟨rfl, hp4, hgx⟩; have hg4 := hg3.trans hgx; clear hB1)
      | (go_at_call_of 147 (Value.string ⟨#[103, 97, 116, 101]⟩); refine (hB2 _ hp4).mono ?_; rintro e w5 ⟨rfl, hp5, hgx⟩; have hg5 := hg4.trans hgx; clear hB2)
      | (go_at_call_of 147 (Value.string ⟨#[110, 101, 119]⟩); refine (hB3 _ hp5).mono ?_; rintro e w6 ⟨rfl, hp6, hgx⟩; have hg6 := hg5.trans hgx; clear hB3)
      | (go_at_call_of 72 (Value.string ⟨#[40]⟩); refine (hW1' _ hp6).mono ?_; rintro e w7 ⟨rfl, hp7, hgx⟩; have hg7 := hg6.trans hgx; obtain ⟨mn, ho, _, _, _, _⟩ := hp7.ok; obtain ⟨k0, k1, k2, k3, k4, k5, k6⟩ := ho.cells)
      | (go_at_call 149; refine (hxx _ hp7).mono ?_; rintro e w8 ⟨⟨u, rfl, hv⟩, hp8, hgy⟩; obtain ⟨a, b, c, ad, n, cc, hu'⟩ := hv.any; subst hu'; have hg8 := hg7.trans hgy; have hp8a := hp8.below ((Below.refl _ _).alloc (Nat.le_refl _) (.cells #[.int .i64 a, .string b, .int .i64 c, .slice ad n cc] 24)))
      | (go_at_call_of 72 (Value.string ⟨#[41]⟩); refine (hW2' _ hp8a).mono ?_; rintro e w9 ⟨rfl, hp9, hgz⟩; have hsz : w.heap.size < w8.heap.size := (by have := hg8.size; simp at this; omega); obtain ⟨⟨p0, p1, p2, p3⟩, _⟩ := ((Box4.new w8 (.int .i64 a) (.string b) (.int .i64 c) (.slice ad n cc)).grown hgz (by omega)).facts; have hXe := ((HX.out.grown hg8 (by omega)).alloc (.cells #[.int .i64 a, .string b, .int .i64 c, .slice ad n cc] 24)).grown hgz (by omega); obtain ⟨⟨q0, q1, q2, q3⟩, s0, s1', s2, s3⟩ := hXe.facts))
    have hgw : w.grownBy w9 (some Q) := (((World.grownBy_alloc w zeroN (some Q)).trans hg8).trans (World.grownBy_alloc _ _ _)).trans hgz
    have sz7 : w.heap.size < w7.heap.size := by have := hg7.size; simp at this; omega
    refine bodyPost_ret (v := .agg #[.int .i64 a, .string b, .int .i64 c, .slice ad n cc]) (by simp [results, Tryz.results210, go_sem, q0, q1, q2, q3]) rfl ⟨⟨_, rfl, ?_⟩, par_box hp9 hRB _ _ _ _, grown_own hgw (below_box (Nat.le_refl _) _ _ _ _)⟩
    refine ((((paren_val hv).above (Above.grown (World.grownBy_alloc _ _ none) (fun k e => by cases e))).above (Above.grown hgz (fun k e => by injection e with e; show ¬ w7.heap.size ≤ k; omega))).above (above_box (R := w.heap.size) (by show ¬ w7.heap.size ≤ w.heap.size; omega) _ _ _ _)).mono (fun k hk _ => by have hk' : w7.heap.size ≤ k := hk; show w.heap.size ≤ k; omega)
theorem sees_err {S : Src9} {x : List Int} {e : Int × Int} : seesS S x (.error e) = false := rfl
/-- primary, whatever comes. -/
theorem prim_reads (Q B : Nat) (v : Value) (S : Src9) (st : St9) (hnf : NumFit S)
    (hx : ∀ s1 : PS, low9 st ≤ s1.tok → s1.tok ≤ S.L.length → Reads9 149 (exprC S) Q B v S (.ok s1)) : Reads9 210 (primC S) Q B v S st := by
  intro w hp
  match st, hx, hp with
  | .error e, hx, hp => exact prim_paren Q B v S (.error e) rfl rfl rfl rfl rfl rfl (fun s1 h => by cases h) w hp
  | .ok s, hx, hp =>
    rw [bindS_ok, prim_eq]
    by_cases h2 : isB S 2 s = true
    · rw [if_pos h2]
      exact prim_num Q B v S s hnf h2 w hp
    have h2' : isB S 2 s = false := by simpa using h2
    rw [if_neg h2]
    by_cases h1 : isB S 1 s = true
    · rw [if_pos h1]
      exact prim_name Q B v S s h2' h1 w hp
    have h1' : isB S 1 s = false := by simpa using h1
    rw [if_neg h1]
    by_cases b0 : seesB S wNil s = true
    · rw [if_pos b0]
      exact prim_wNil Q B v S s h2' h1' b0 w hp
    have b0' : seesB S wNil s = false := by simpa using b0
    rw [if_neg b0]
    by_cases b1 : seesB S wSelf s = true
    · rw [if_pos b1]
      exact prim_wSelf Q B v S s h2' h1' b0' b1 w hp
    have b1' : seesB S wSelf s = false := by simpa using b1
    rw [if_neg b1]
    by_cases b2 : seesB S wGate s = true
    · rw [if_pos b2]
      exact prim_wGate Q B v S s h2' h1' b0' b1' b2 w hp
    have b2' : seesB S wGate s = false := by simpa using b2
    rw [if_neg b2]
    by_cases b3 : seesB S wNew s = true
    · rw [if_pos b3]
      exact prim_wNew Q B v S s h2' h1' b0' b1' b2' b3 w hp
    have b3' : seesB S wNew s = false := by simpa using b3
    rw [if_neg b3]
    exact prim_paren Q B v S (.ok s) h2' h1' b0' b1' b2' b3' (fun s1 h => by
      have hf := (want_fine S sOpen s).at h
      exact hx s1 hf.1 hf.2) w hp
end Go.Proofs.YtkppdndbfedijadGreatDoor
