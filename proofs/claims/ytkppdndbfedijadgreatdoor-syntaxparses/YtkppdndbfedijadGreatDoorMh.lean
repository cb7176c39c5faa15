/- Several texts in one. -/
import Derived.Test.YtkppdndbfedijadGreatDoorMg
/- gessoref9: a set, and an expression of its own. -/
namespace Go.Proofs.YtkppdndbfedijadGreatDoor
open Go.RowKit

set_option maxRecDepth 20000 in
set_option maxHeartbeats 4000000 in
theorem stmt_do1 (Q B : Nat) (v : Value) (S : Src9) (hnf : NumFit S) (st : St9) (b0 : seesS S wVar st = false) (b1 : seesS S wIf st = false) (b2 : seesS S wWhile st = false) (b3 : seesS S wReturn st = false) (b4 : seesS S wPrint st = false) (b5 : seesS S wFork st = false) (b6 : seesS S wWait st = false) (b7 : seesS S wSignal st = false) (b8 : seesS S wSwap st = false) (h1 : isS S 1 st = false) (w : World) (hp : Par w Q B v S st) : Calls Tryz.prog 108 #[.pointer (some ⟨Q, 0, none⟩)] w fun e w' => (∃ u, e = .returned u ∧ ValG w' (From w.heap.size) u (bindS st fun s => (exprC S s).then fun k s => (wantP S sSemi s).then fun _ s => nodeP 17 [] 0 [k] s)) ∧ Par w' Q B v S (stOf (bindS st fun s => (exprC S s).then fun k s => (wantP S sSemi s).then fun _ s => nodeP 17 [] 0 [k] s)) ∧ w.grownBy w' (some Q) := by
  have hRB := hp.size
  have hqb := hp.qb
  have hfew := hp.few
  have HPA : Hid (Par (w.alloc zeroN) Q B v S st) := hp.below ((Below.refl _ w).alloc (Nat.le_refl _) _)
  have HX : Hid (Box4 (w.alloc zeroN) w.heap.size (.int .i64 0) (.string ⟨#[]⟩) (.int .i64 0) (.slice none 0 0)) := Box4.new _ _ _ _ _
  have hB0 := begins_no (Q := Q) (B := B) (v := v) (S := S) (st := st) (x := ⟨#[118, 97, 114]⟩) (l := wVar) (by decide) b0
  have hB1 := begins_no (Q := Q) (B := B) (v := v) (S := S) (st := st) (x := ⟨#[105, 102]⟩) (l := wIf) (by decide) b1
  have hB2 := begins_no (Q := Q) (B := B) (v := v) (S := S) (st := st) (x := ⟨#[119, 104, 105, 108, 101]⟩) (l := wWhile) (by decide) b2
  have hB3 := begins_no (Q := Q) (B := B) (v := v) (S := S) (st := st) (x := ⟨#[114, 101, 116, 117, 114, 110]⟩) (l := wReturn) (by decide) b3
  have hB4 := begins_no (Q := Q) (B := B) (v := v) (S := S) (st := st) (x := ⟨#[112, 114, 105, 110, 116]⟩) (l := wPrint) (by decide) b4
  have hB5 := begins_no (Q := Q) (B := B) (v := v) (S := S) (st := st) (x := ⟨#[102, 111, 114, 107]⟩) (l := wFork) (by decide) b5
  have hB6 := begins_no (Q := Q) (B := B) (v := v) (S := S) (st := st) (x := ⟨#[119, 97, 105, 116]⟩) (l := wWait) (by decide) b6
  have hB7 := begins_no (Q := Q) (B := B) (v := v) (S := S) (st := st) (x := ⟨#[115, 105, 103, 110, 97, 108]⟩) (l := wSignal) (by decide) b7
  have hB8 := begins_no (Q := Q) (B := B) (v := v) (S := S) (st := st) (x := ⟨#[115, 119, 97, 112]⟩) (l := wSwap) (by decide) b8
  clear b0 b1 b2 b3 b4 b5 b6 b7 b8 hp
  rw [bindS_then st (exprC S)]
  have hxx := expr_any Q B v S hnf st
  unfold Reads9 at hxx
  generalize bindS st (exprC S) = gE at *
  have hW2 := want_as (Q := Q) (B := B) (v := v) (S := S) (x := ⟨#[59]⟩) (l := sSemi) (by decide) (stOf gE)
  have HO : Hid (_ ∧ _) := semi_one S 17 gE
  generalize (gE.then fun k s => (wantP S sSemi s).then fun _ s => nodeP 17 [] 0 [k] s) = G at *
  have hI := is_no (Q := Q) (B := B) (v := v) (S := S) (k := 1) h1
  clear h1
  go_enter Tryz.func108, Tryz.ntmps108
  go_wp2_with (first
    | (go_at_call_of 147 (Value.string ⟨#[118, 97, 114]⟩); refine (hB0 _ HPA.out).mono ?_; rintro e w1 ⟨rfl, hp1, hgx⟩; have hg1 : (w.alloc zeroN).grownBy w1 (some Q) := hgx; clear hB0 hgx)
    | (go_at_call_of 147 (Value.string ⟨#[105, 102]⟩); refine (hB1 _ hp1).mono ?_; rintro e w2 ⟨rfl, hp2, hgx⟩; have hg2 : (w.alloc zeroN).grownBy w2 (some Q) := hg1.trans hgx; clear hB1 hgx)
    | (go_at_call_of 147 (Value.string ⟨#[119, 104, 105, 108, 101]⟩); refine (hB2 _ hp2).mono ?_; rintro e w3 ⟨rfl, hp3, hgx⟩; have hg3 : (w.alloc zeroN).grownBy w3 (some Q) := hg2.trans hgx; clear hB2 hgx)
    | (go_at_call_of 147 (Value.string ⟨#[114, 101, 116, 117, 114, 110]⟩); refine (hB3 _ hp3).mono ?_; rintro e w4 ⟨rfl, hp4, hgx⟩; have hg4 : (w.alloc zeroN).grownBy w4 (some Q) := hg3.trans hgx; clear hB3 hgx)
    | (go_at_call_of 147 (Value.string ⟨#[112, 114, 105, 110, 116]⟩); refine (hB4 _ hp4).mono ?_; rintro e w5 ⟨rfl, hp5, hgx⟩; have hg5 : (w.alloc zeroN).grownBy w5 (some Q) := hg4.trans hgx; clear hB4 hgx)
    | (go_at_call_of 147 (Value.string ⟨#[102, 111, 114, 107]⟩); refine (hB5 _ hp5).mono ?_; rintro e w6 ⟨rfl, hp6, hgx⟩; have hg6 : (w.alloc zeroN).grownBy w6 (some Q) := hg5.trans hgx; clear hB5 hgx)
    | (go_at_call_of 147 (Value.string ⟨#[119, 97, 105, 116]⟩); refine (hB6 _ hp6).mono ?_; rintro e w7 ⟨rfl, hp7, hgx⟩; have hg7 : (w.alloc zeroN).grownBy w7 (some Q) := hg6.trans hgx; clear hB6 hgx)
    | (go_at_call_of 147 (Value.string ⟨#[115, 105, 103, 110, 97, 108]⟩); refine (hB7 _ hp7).mono ?_; rintro e w8 ⟨rfl, hp8, hgx⟩; have hg8 : (w.alloc zeroN).grownBy w8 (some Q) := hg7.trans hgx; clear hB7 hgx)
    | (go_at_call_of 147 (Value.string ⟨#[115, 119, 97, 112]⟩); refine (hB8 _ hp8).mono ?_; rintro e w9 ⟨rfl, hp9, hgx⟩; have hg9 : (w.alloc zeroN).grownBy w9 (some Q) := hg8.trans hgx; clear hB8 hgx)
    | (go_at_call 146; refine (hI _ hp9).mono ?_; rintro e w10 ⟨rfl, hb10⟩; have hp10 := Par.below hp9 hb10; have hg10 : (w.alloc zeroN).grownBy w10 (some Q) := hg9.trans (grown_below Q hb10)))
  go_quiet (fail)
  obtain ⟨w11, eq⟩ : ∃ w11, w11 = w10.drewN nq := ⟨_, rfl⟩
  have hbq : Below w10.heap.size w10 w11 := by rw [eq]; exact below_drewN _ _
  rw [← eq]
  clear eq
  have hp11 := Par.below hp10 hbq
  have hg11 := hg10.trans (grown_below Q hbq)
  go_wp2_with (first
    | (go_at_call 149; refine (hxx _ hp11).mono ?_; rintro e wE ⟨⟨u, rfl, hv⟩, hpE, hgE⟩; obtain ⟨a, b, c, ad, n, cc, hu'⟩ := hv.any; subst hu'; have hg8 := hg11.trans hgE; have hpEa := hpE.below ((Below.refl _ _).alloc (Nat.le_refl _) (.cells #[.int .i64 a, .string b, .int .i64 c, .slice ad n cc] 24)))
    | (go_at_call_of 72 (Value.string ⟨#[59]⟩); refine (hW2 _ hpEa).mono ?_; rintro e wL ⟨rfl, hpL, hgz⟩; have hsz : w.heap.size < wE.heap.size := (by have := hg8.size; simp at this; omega); obtain ⟨⟨p0, p1, p2, p3⟩, _⟩ := ((Box4.new wE (.int .i64 a) (.string b) (.int .i64 c) (.slice ad n cc)).grown hgz (by omega)).facts; have hpLa := hpL.below ((Below.refl _ _).alloc (Nat.le_refl _) (.cells #[.int .i64 a, .string b, .int .i64 c, .slice ad n cc] 24)); have hXL := ((HX.out.grown hg8 (by omega)).alloc (.cells #[.int .i64 a, .string b, .int .i64 c, .slice ad n cc] 24)).grown hgz (by omega))
    | (go_at_call 74; refine (node_any Q B _ S _ _ _ _ ⟨_, _, _, rfl⟩ _ hpLa).mono ?_; rintro e wN ⟨rfl, hpN, hgN⟩; have hXN := (hXL.alloc (.cells #[.int .i64 a, .string b, .int .i64 c, .slice ad n cc] 24)).grown hgN (by omega); obtain ⟨⟨q0, q1, q2, q3⟩, s0, s1', s2, s3⟩ := hXN.facts))
  have hgP := hg11
  have hgL : (w.alloc zeroN).grownBy wL (some Q) := (hg8.trans (World.grownBy_alloc _ _ _)).trans hgz
  have szL : wE.heap.size + 1 ≤ wL.heap.size := by have := hgz.size; simpa using this
  obtain ⟨ho, hs⟩ := HO.out
  have hgw : w.grownBy wN (some Q) := (((World.grownBy_alloc w zeroN (some Q)).trans hgL).trans (World.grownBy_alloc _ _ _)).trans hgN
  have szP : w.heap.size < w11.heap.size := by have := hgP.size; simp at this; omega
  have szE : w11.heap.size ≤ wE.heap.size := hgE.size
  have hvL : ValG wL (From w11.heap.size) (.agg #[.int .i64 a, .string b, .int .i64 c, .slice ad n cc]) gE := (hv.above (Above.grown (World.grownBy_alloc wE (.cells #[.int .i64 a, .string b, .int .i64 c, .slice ad n cc] 24) none) (fun k e => by cases e))).above (Above.grown hgz (fun k e => by injection e with e; show ¬ w11.heap.size ≤ k; omega))
  refine bodyPost_ret (v := .agg #[.int .i64 17, .string ⟨#[]⟩, .int .i64 0, .slice (some ⟨wL.heap.size, 0, none⟩) 1 1]) (by simp [results, Tryz.results108, go_sem, q0, q1, q2, q3]) rfl ⟨⟨_, rfl, ?_⟩, by rw [hs]; exact par_box hpN hRB _ _ _ _, grown_own hgw (below_box (Nat.le_refl _) _ _ _ _)⟩
  exact (val_one (T := 24) ho hvL (by show w11.heap.size ≤ _; omega) ((Above.grown hgN (fun k e => by injection e with e; show ¬ w11.heap.size ≤ k; omega)).trans (above_box (R := w.heap.size) (by show ¬ w11.heap.size ≤ w.heap.size; omega) _ _ _ _))).mono (fun k hk _ => by have hk' : w11.heap.size ≤ k := hk; show w.heap.size ≤ k; omega)
set_option maxRecDepth 20000 in
set_option maxHeartbeats 4000000 in
theorem stmt_do2 (Q B : Nat) (v : Value) (S : Src9) (hnf : NumFit S) (st : St9) (b0 : seesS S wVar st = false) (b1 : seesS S wIf st = false) (b2 : seesS S wWhile st = false) (b3 : seesS S wReturn st = false) (b4 : seesS S wPrint st = false) (b5 : seesS S wFork st = false) (b6 : seesS S wWait st = false) (b7 : seesS S wSignal st = false) (b8 : seesS S wSwap st = false) (s : PS) (hst : st = .ok s) (h1 : isB S 1 s = true) (h2 : ¬ s.tok + 1 < S.L.length) (w : World) (hp : Par w Q B v S st) : Calls Tryz.prog 108 #[.pointer (some ⟨Q, 0, none⟩)] w fun e w' => (∃ u, e = .returned u ∧ ValG w' (From w.heap.size) u (bindS st fun s => (exprC S s).then fun k s => (wantP S sSemi s).then fun _ s => nodeP 17 [] 0 [k] s)) ∧ Par w' Q B v S (stOf (bindS st fun s => (exprC S s).then fun k s => (wantP S sSemi s).then fun _ s => nodeP 17 [] 0 [k] s)) ∧ w.grownBy w' (some Q) := by
  subst hst
  have hRB := hp.size
  have hqb := hp.qb
  have hfew := hp.few
  have HPA : Hid (Par (w.alloc zeroN) Q B v S (.ok s)) := hp.below ((Below.refl _ w).alloc (Nat.le_refl _) _)
  have HX : Hid (Box4 (w.alloc zeroN) w.heap.size (.int .i64 0) (.string ⟨#[]⟩) (.int .i64 0) (.slice none 0 0)) := Box4.new _ _ _ _ _
  have hB0 := begins_no (Q := Q) (B := B) (v := v) (S := S) (st := (.ok s)) (x := ⟨#[118, 97, 114]⟩) (l := wVar) (by decide) b0
  have hB1 := begins_no (Q := Q) (B := B) (v := v) (S := S) (st := (.ok s)) (x := ⟨#[105, 102]⟩) (l := wIf) (by decide) b1
  have hB2 := begins_no (Q := Q) (B := B) (v := v) (S := S) (st := (.ok s)) (x := ⟨#[119, 104, 105, 108, 101]⟩) (l := wWhile) (by decide) b2
  have hB3 := begins_no (Q := Q) (B := B) (v := v) (S := S) (st := (.ok s)) (x := ⟨#[114, 101, 116, 117, 114, 110]⟩) (l := wReturn) (by decide) b3
  have hB4 := begins_no (Q := Q) (B := B) (v := v) (S := S) (st := (.ok s)) (x := ⟨#[112, 114, 105, 110, 116]⟩) (l := wPrint) (by decide) b4
  have hB5 := begins_no (Q := Q) (B := B) (v := v) (S := S) (st := (.ok s)) (x := ⟨#[102, 111, 114, 107]⟩) (l := wFork) (by decide) b5
  have hB6 := begins_no (Q := Q) (B := B) (v := v) (S := S) (st := (.ok s)) (x := ⟨#[119, 97, 105, 116]⟩) (l := wWait) (by decide) b6
  have hB7 := begins_no (Q := Q) (B := B) (v := v) (S := S) (st := (.ok s)) (x := ⟨#[115, 105, 103, 110, 97, 108]⟩) (l := wSignal) (by decide) b7
  have hB8 := begins_no (Q := Q) (B := B) (v := v) (S := S) (st := (.ok s)) (x := ⟨#[115, 119, 97, 112]⟩) (l := wSwap) (by decide) b8
  clear b0 b1 b2 b3 b4 b5 b6 b7 b8 hp
  rw [bindS_then (.ok s) (exprC S)]
  have hxx := expr_any Q B v S hnf (.ok s)
  unfold Reads9 at hxx
  generalize bindS (.ok s) (exprC S) = gE at *
  have hW2 := want_as (Q := Q) (B := B) (v := v) (S := S) (x := ⟨#[59]⟩) (l := sSemi) (by decide) (stOf gE)
  have HO : Hid (_ ∧ _) := semi_one S 17 gE
  generalize (gE.then fun k s => (wantP S sSemi s).then fun _ s => nodeP 17 [] 0 [k] s) = G at *
  have hI := is_yes (Q := Q) (B := B) (v := v) (S := S) (k := 1) h1
  obtain ⟨vad, vc, hv0, _⟩ := HPA.out.toks
  subst hv0
  have htl : s.tok ≤ 4000 := by obtain ⟨_, _, _, h, _⟩ := HPA.out.ok; omega
  have hw1 := wrap_id (x := (s.tok : Int) + 1) (by omega) (by omega)
  have hil : ¬ (s.tok : Int) + 1 < (S.L.length : Int) := by omega
  have hild : decide ((s.tok : Int) + 1 < (S.L.length : Int)) = false := decide_eq_false hil
  have hiln : ¬ s.tok + 1 < S.L.length := h2
  clear h1 h2
  go_enter Tryz.func108, Tryz.ntmps108
  go_wp2_with (first
    | (go_at_call_of 147 (Value.string ⟨#[118, 97, 114]⟩); refine (hB0 _ HPA.out).mono ?_; rintro e w1 ⟨rfl, hp1, hgx⟩; have hg1 : (w.alloc zeroN).grownBy w1 (some Q) := hgx; clear hB0 hgx)
    | (go_at_call_of 147 (Value.string ⟨#[105, 102]⟩); refine (hB1 _ hp1).mono ?_; rintro e w2 ⟨rfl, hp2, hgx⟩; have hg2 : (w.alloc zeroN).grownBy w2 (some Q) := hg1.trans hgx; clear hB1 hgx)
    | (go_at_call_of 147 (Value.string ⟨#[119, 104, 105, 108, 101]⟩); refine (hB2 _ hp2).mono ?_; rintro e w3 ⟨rfl, hp3, hgx⟩; have hg3 : (w.alloc zeroN).grownBy w3 (some Q) := hg2.trans hgx; clear hB2 hgx)
    | (go_at_call_of 147 (Value.string ⟨#[114, 101, 116, 117, 114, 110]⟩); refine (hB3 _ hp3).mono ?_; rintro e w4 ⟨rfl, hp4, hgx⟩; have hg4 : (w.alloc zeroN).grownBy w4 (some Q) := hg3.trans hgx; clear hB3 hgx)
    | (go_at_call_of 147 (Value.string ⟨#[112, 114, 105, 110, 116]⟩); refine (hB4 _ hp4).mono ?_; rintro e w5 ⟨rfl, hp5, hgx⟩; have hg5 : (w.alloc zeroN).grownBy w5 (some Q) := hg4.trans hgx; clear hB4 hgx)
    | (go_at_call_of 147 (Value.string ⟨#[102, 111, 114, 107]⟩); refine (hB5 _ hp5).mono ?_; rintro e w6 ⟨rfl, hp6, hgx⟩; have hg6 : (w.alloc zeroN).grownBy w6 (some Q) := hg5.trans hgx; clear hB5 hgx)
    | (go_at_call_of 147 (Value.string ⟨#[119, 97, 105, 116]⟩); refine (hB6 _ hp6).mono ?_; rintro e w7 ⟨rfl, hp7, hgx⟩; have hg7 : (w.alloc zeroN).grownBy w7 (some Q) := hg6.trans hgx; clear hB6 hgx)
    | (go_at_call_of 147 (Value.string ⟨#[115, 105, 103, 110, 97, 108]⟩); refine (hB7 _ hp7).mono ?_; rintro e w8 ⟨rfl, hp8, hgx⟩; have hg8 : (w.alloc zeroN).grownBy w8 (some Q) := hg7.trans hgx; clear hB7 hgx)
    | (go_at_call_of 147 (Value.string ⟨#[115, 119, 97, 112]⟩); refine (hB8 _ hp8).mono ?_; rintro e w9 ⟨rfl, hp9, hgx⟩; have hg9 : (w.alloc zeroN).grownBy w9 (some Q) := hg8.trans hgx; clear hB8 hgx)
    | (go_at_call 146; refine (hI _ hp9).mono ?_; rintro e w10 ⟨rfl, hb10⟩; have hp10 := Par.below hp9 hb10; have hg10 : (w.alloc zeroN).grownBy w10 (some Q) := hg9.trans (grown_below Q hb10); obtain ⟨mn, ho, _, _, _, _⟩ := hp10.ok; obtain ⟨k0, k1, k2, k3, k4, k5, k6⟩ := ho.cells; have hq10 := ho.lt))
  go_quiet (fail)
  obtain ⟨w11, eq⟩ : ∃ w11, w11 = w10.drewN nq := ⟨_, rfl⟩
  have hbq : Below w10.heap.size w10 w11 := by rw [eq]; exact below_drewN _ _
  rw [← eq]
  clear eq
  have hp11 := Par.below hp10 hbq
  have hg11 := hg10.trans (grown_below Q hbq)
  go_wp2_with (first
    | (go_at_call 149; refine (hxx _ hp11).mono ?_; rintro e wE ⟨⟨u, rfl, hv⟩, hpE, hgE⟩; obtain ⟨a, b, c, ad, n, cc, hu'⟩ := hv.any; subst hu'; have hg8 := hg11.trans hgE; have hpEa := hpE.below ((Below.refl _ _).alloc (Nat.le_refl _) (.cells #[.int .i64 a, .string b, .int .i64 c, .slice ad n cc] 24)))
    | (go_at_call_of 72 (Value.string ⟨#[59]⟩); refine (hW2 _ hpEa).mono ?_; rintro e wL ⟨rfl, hpL, hgz⟩; have hsz : w.heap.size < wE.heap.size := (by have := hg8.size; simp at this; omega); obtain ⟨⟨p0, p1, p2, p3⟩, _⟩ := ((Box4.new wE (.int .i64 a) (.string b) (.int .i64 c) (.slice ad n cc)).grown hgz (by omega)).facts; have hpLa := hpL.below ((Below.refl _ _).alloc (Nat.le_refl _) (.cells #[.int .i64 a, .string b, .int .i64 c, .slice ad n cc] 24)); have hXL := ((HX.out.grown hg8 (by omega)).alloc (.cells #[.int .i64 a, .string b, .int .i64 c, .slice ad n cc] 24)).grown hgz (by omega))
    | (go_at_call 74; refine (node_any Q B _ S _ _ _ _ ⟨_, _, _, rfl⟩ _ hpLa).mono ?_; rintro e wN ⟨rfl, hpN, hgN⟩; have hXN := (hXL.alloc (.cells #[.int .i64 a, .string b, .int .i64 c, .slice ad n cc] 24)).grown hgN (by omega); obtain ⟨⟨q0, q1, q2, q3⟩, s0, s1', s2, s3⟩ := hXN.facts))
  have hgP := hg11
  have hgL : (w.alloc zeroN).grownBy wL (some Q) := (hg8.trans (World.grownBy_alloc _ _ _)).trans hgz
  have szL : wE.heap.size + 1 ≤ wL.heap.size := by have := hgz.size; simpa using this
  obtain ⟨ho, hs⟩ := HO.out
  have hgw : w.grownBy wN (some Q) := (((World.grownBy_alloc w zeroN (some Q)).trans hgL).trans (World.grownBy_alloc _ _ _)).trans hgN
  have szP : w.heap.size < w11.heap.size := by have := hgP.size; simp at this; omega
  have szE : w11.heap.size ≤ wE.heap.size := hgE.size
  have hvL : ValG wL (From w11.heap.size) (.agg #[.int .i64 a, .string b, .int .i64 c, .slice ad n cc]) gE := (hv.above (Above.grown (World.grownBy_alloc wE (.cells #[.int .i64 a, .string b, .int .i64 c, .slice ad n cc] 24) none) (fun k e => by cases e))).above (Above.grown hgz (fun k e => by injection e with e; show ¬ w11.heap.size ≤ k; omega))
  refine bodyPost_ret (v := .agg #[.int .i64 17, .string ⟨#[]⟩, .int .i64 0, .slice (some ⟨wL.heap.size, 0, none⟩) 1 1]) (by simp [results, Tryz.results108, go_sem, q0, q1, q2, q3]) rfl ⟨⟨_, rfl, ?_⟩, by rw [hs]; exact par_box hpN hRB _ _ _ _, grown_own hgw (below_box (Nat.le_refl _) _ _ _ _)⟩
  exact (val_one (T := 24) ho hvL (by show w11.heap.size ≤ _; omega) ((Above.grown hgN (fun k e => by injection e with e; show ¬ w11.heap.size ≤ k; omega)).trans (above_box (R := w.heap.size) (by show ¬ w11.heap.size ≤ w.heap.size; omega) _ _ _ _))).mono (fun k hk _ => by have hk' : w11.heap.size ≤ k := hk; show w.heap.size ≤ k; omega)
set_option maxRecDepth 20000 in
set_option maxHeartbeats 4000000 in
theorem stmt_do3 (Q B : Nat) (v : Value) (S : Src9) (hnf : NumFit S) (st : St9) (b0 : seesS S wVar st = false) (b1 : seesS S wIf st = false) (b2 : seesS S wWhile st = false) (b3 : seesS S wReturn st = false) (b4 : seesS S wPrint st = false) (b5 : seesS S wFork st = false) (b6 : seesS S wWait st = false) (b7 : seesS S wSignal st = false) (b8 : seesS S wSwap st = false) (s : PS) (hst : st = .ok s) (h1 : isB S 1 s = true) (h2 : s.tok + 1 < S.L.length) (h3 : ((tokAt S.L (s.tok + 1)).2.1 == nums ⟨#[61]⟩) = false) (w : World) (hp : Par w Q B v S st) : Calls Tryz.prog 108 #[.pointer (some ⟨Q, 0, none⟩)] w fun e w' => (∃ u, e = .returned u ∧ ValG w' (From w.heap.size) u (bindS st fun s => (exprC S s).then fun k s => (wantP S sSemi s).then fun _ s => nodeP 17 [] 0 [k] s)) ∧ Par w' Q B v S (stOf (bindS st fun s => (exprC S s).then fun k s => (wantP S sSemi s).then fun _ s => nodeP 17 [] 0 [k] s)) ∧ w.grownBy w' (some Q) := by
  subst hst
  have hRB := hp.size
  have hqb := hp.qb
  have hfew := hp.few
  have HPA : Hid (Par (w.alloc zeroN) Q B v S (.ok s)) := hp.below ((Below.refl _ w).alloc (Nat.le_refl _) _)
  have HX : Hid (Box4 (w.alloc zeroN) w.heap.size (.int .i64 0) (.string ⟨#[]⟩) (.int .i64 0) (.slice none 0 0)) := Box4.new _ _ _ _ _
  have hB0 := begins_no (Q := Q) (B := B) (v := v) (S := S) (st := (.ok s)) (x := ⟨#[118, 97, 114]⟩) (l := wVar) (by decide) b0
  have hB1 := begins_no (Q := Q) (B := B) (v := v) (S := S) (st := (.ok s)) (x := ⟨#[105, 102]⟩) (l := wIf) (by decide) b1
  have hB2 := begins_no (Q := Q) (B := B) (v := v) (S := S) (st := (.ok s)) (x := ⟨#[119, 104, 105, 108, 101]⟩) (l := wWhile) (by decide) b2
  have hB3 := begins_no (Q := Q) (B := B) (v := v) (S := S) (st := (.ok s)) (x := ⟨#[114, 101, 116, 117, 114, 110]⟩) (l := wReturn) (by decide) b3
  have hB4 := begins_no (Q := Q) (B := B) (v := v) (S := S) (st := (.ok s)) (x := ⟨#[112, 114, 105, 110, 116]⟩) (l := wPrint) (by decide) b4
  have hB5 := begins_no (Q := Q) (B := B) (v := v) (S := S) (st := (.ok s)) (x := ⟨#[102, 111, 114, 107]⟩) (l := wFork) (by decide) b5
  have hB6 := begins_no (Q := Q) (B := B) (v := v) (S := S) (st := (.ok s)) (x := ⟨#[119, 97, 105, 116]⟩) (l := wWait) (by decide) b6
  have hB7 := begins_no (Q := Q) (B := B) (v := v) (S := S) (st := (.ok s)) (x := ⟨#[115, 105, 103, 110, 97, 108]⟩) (l := wSignal) (by decide) b7
  have hB8 := begins_no (Q := Q) (B := B) (v := v) (S := S) (st := (.ok s)) (x := ⟨#[115, 119, 97, 112]⟩) (l := wSwap) (by decide) b8
  clear b0 b1 b2 b3 b4 b5 b6 b7 b8 hp
  rw [bindS_then (.ok s) (exprC S)]
  have hxx := expr_any Q B v S hnf (.ok s)
  unfold Reads9 at hxx
  generalize bindS (.ok s) (exprC S) = gE at *
  have hW2 := want_as (Q := Q) (B := B) (v := v) (S := S) (x := ⟨#[59]⟩) (l := sSemi) (by decide) (stOf gE)
  have HO : Hid (_ ∧ _) := semi_one S 17 gE
  generalize (gE.then fun k s => (wantP S sSemi s).then fun _ s => nodeP 17 [] 0 [k] s) = G at *
  have hI := is_yes (Q := Q) (B := B) (v := v) (S := S) (k := 1) h1
  obtain ⟨vad, vc, hv0, _⟩ := HPA.out.toks
  subst hv0
  have htl : s.tok ≤ 4000 := by obtain ⟨_, _, _, h, _⟩ := HPA.out.ok; omega
  have hw1 := wrap_id (x := (s.tok : Int) + 1) (by omega) (by omega)
  have hil : (s.tok : Int) + 1 < (S.L.length : Int) := by omega
  have hild : decide ((s.tok : Int) + 1 < (S.L.length : Int)) = true := decide_eq_true hil
  have hcmp : ((strOfNums (tokAt S.L (s.tok + 1)).2.1).toList == [61]) = false := by
    rw [show ([61] : List UInt8) = ByteArray.toList ⟨#[61]⟩ by rw [ByteArray.toList_eq]]
    rw [str_same (xs := (tokAt S.L (s.tok + 1)).2.1) (by
      refine HPA.out.bytes _ ?_
      unfold tokAt
      rw [List.getD_eq_getElem?_getD, List.getElem?_eq_getElem h2]
      exact List.getElem_mem _) ⟨#[61]⟩]
    exact h3
  have H2 : Hid (s.tok + 1 < S.L.length) := h2
  clear h1 h2 h3
  go_enter Tryz.func108, Tryz.ntmps108
  go_wp2_with (first
    | (go_at_call_of 147 (Value.string ⟨#[118, 97, 114]⟩); refine (hB0 _ HPA.out).mono ?_; rintro e w1 ⟨rfl, hp1, hgx⟩; have hg1 : (w.alloc zeroN).grownBy w1 (some Q) := hgx; clear hB0 hgx)
    | (go_at_call_of 147 (Value.string ⟨#[105, 102]⟩); refine (hB1 _ hp1).mono ?_; rintro e w2 ⟨rfl, hp2, hgx⟩; have hg2 : (w.alloc zeroN).grownBy w2 (some Q) := hg1.trans hgx; clear hB1 hgx)
    | (go_at_call_of 147 (Value.string ⟨#[119, 104, 105, 108, 101]⟩); refine (hB2 _ hp2).mono ?_; rintro e w3 ⟨rfl, hp3, hgx⟩; have hg3 : (w.alloc zeroN).grownBy w3 (some Q) := hg2.trans hgx; clear hB2 hgx)
    | (go_at_call_of 147 (Value.string ⟨#[114, 101, 116, 117, 114, 110]⟩); refine (hB3 _ hp3).mono ?_; rintro e w4 ⟨rfl, hp4, hgx⟩; have hg4 : (w.alloc zeroN).grownBy w4 (some Q) := hg3.trans hgx; clear hB3 hgx)
    | (go_at_call_of 147 (Value.string ⟨#[112, 114, 105, 110, 116]⟩); refine (hB4 _ hp4).mono ?_; rintro e w5 ⟨rfl, hp5, hgx⟩; have hg5 : (w.alloc zeroN).grownBy w5 (some Q) := hg4.trans hgx; clear hB4 hgx)
    | (go_at_call_of 147 (Value.string ⟨#[102, 111, 114, 107]⟩); refine (hB5 _ hp5).mono ?_; rintro e w6 ⟨rfl, hp6, hgx⟩; have hg6 : (w.alloc zeroN).grownBy w6 (some Q) := hg5.trans hgx; clear hB5 hgx)
    | (go_at_call_of 147 (Value.string ⟨#[119, 97, 105, 116]⟩); refine (hB6 _ hp6).mono ?_; rintro e w7 ⟨rfl, hp7, hgx⟩; have hg7 : (w.alloc zeroN).grownBy w7 (some Q) := hg6.trans hgx; clear hB6 hgx)
    | (go_at_call_of 147 (Value.string ⟨#[115, 105, 103, 110, 97, 108]⟩); refine (hB7 _ hp7).mono ?_; rintro e w8 ⟨rfl, hp8, hgx⟩; have hg8 : (w.alloc zeroN).grownBy w8 (some Q) := hg7.trans hgx; clear hB7 hgx)
    | (go_at_call_of 147 (Value.string ⟨#[115, 119, 97, 112]⟩); refine (hB8 _ hp8).mono ?_; rintro e w9 ⟨rfl, hp9, hgx⟩; have hg9 : (w.alloc zeroN).grownBy w9 (some Q) := hg8.trans hgx; clear hB8 hgx)
    | (go_at_call 146; refine (hI _ hp9).mono ?_; rintro e w10 ⟨rfl, hb10⟩; have hp10 := Par.below hp9 hb10; have hg10 : (w.alloc zeroN).grownBy w10 (some Q) := hg9.trans (grown_below Q hb10); obtain ⟨mn, ho, _, _, _, _⟩ := hp10.ok; obtain ⟨k0, k1, k2, k3, k4, k5, k6⟩ := ho.cells; have hq10 := ho.lt; obtain ⟨ad', vc', hv1, hrw⟩ := hp10.toks; obtain ⟨bb, off, hade, hbl, _, hcl⟩ := hrw (by have := H2.out; omega); injection hv1 with hv1a hv1b hv1c; subst hv1a; subst hv1c; subst hade; obtain ⟨x1, x2, x3⟩ := hcl (s.tok + 1) H2.out; clear hcl hrw))
  go_quiet (fail)
  obtain ⟨w11, eq⟩ : ∃ w11, w11 = w10.drewN nq := ⟨_, rfl⟩
  have hbq : Below w10.heap.size w10 w11 := by rw [eq]; exact below_drewN _ _
  rw [← eq]
  clear eq
  have hp11 := Par.below hp10 hbq
  have hg11 := hg10.trans (grown_below Q hbq)
  go_wp2_with (first
    | (go_at_call 149; refine (hxx _ hp11).mono ?_; rintro e wE ⟨⟨u, rfl, hv⟩, hpE, hgE⟩; obtain ⟨a, b, c, ad, n, cc, hu'⟩ := hv.any; subst hu'; have hg8 := hg11.trans hgE; have hpEa := hpE.below ((Below.refl _ _).alloc (Nat.le_refl _) (.cells #[.int .i64 a, .string b, .int .i64 c, .slice ad n cc] 24)))
    | (go_at_call_of 72 (Value.string ⟨#[59]⟩); refine (hW2 _ hpEa).mono ?_; rintro e wL ⟨rfl, hpL, hgz⟩; have hsz : w.heap.size < wE.heap.size := (by have := hg8.size; simp at this; omega); obtain ⟨⟨p0, p1, p2, p3⟩, _⟩ := ((Box4.new wE (.int .i64 a) (.string b) (.int .i64 c) (.slice ad n cc)).grown hgz (by omega)).facts; have hpLa := hpL.below ((Below.refl _ _).alloc (Nat.le_refl _) (.cells #[.int .i64 a, .string b, .int .i64 c, .slice ad n cc] 24)); have hXL := ((HX.out.grown hg8 (by omega)).alloc (.cells #[.int .i64 a, .string b, .int .i64 c, .slice ad n cc] 24)).grown hgz (by omega))
    | (go_at_call 74; refine (node_any Q B _ S _ _ _ _ ⟨_, _, _, rfl⟩ _ hpLa).mono ?_; rintro e wN ⟨rfl, hpN, hgN⟩; have hXN := (hXL.alloc (.cells #[.int .i64 a, .string b, .int .i64 c, .slice ad n cc] 24)).grown hgN (by omega); obtain ⟨⟨q0, q1, q2, q3⟩, s0, s1', s2, s3⟩ := hXN.facts))
  have hgP := hg11
  have hgL : (w.alloc zeroN).grownBy wL (some Q) := (hg8.trans (World.grownBy_alloc _ _ _)).trans hgz
  have szL : wE.heap.size + 1 ≤ wL.heap.size := by have := hgz.size; simpa using this
  obtain ⟨ho, hs⟩ := HO.out
  have hgw : w.grownBy wN (some Q) := (((World.grownBy_alloc w zeroN (some Q)).trans hgL).trans (World.grownBy_alloc _ _ _)).trans hgN
  have szP : w.heap.size < w11.heap.size := by have := hgP.size; simp at this; omega
  have szE : w11.heap.size ≤ wE.heap.size := hgE.size
  have hvL : ValG wL (From w11.heap.size) (.agg #[.int .i64 a, .string b, .int .i64 c, .slice ad n cc]) gE := (hv.above (Above.grown (World.grownBy_alloc wE (.cells #[.int .i64 a, .string b, .int .i64 c, .slice ad n cc] 24) none) (fun k e => by cases e))).above (Above.grown hgz (fun k e => by injection e with e; show ¬ w11.heap.size ≤ k; omega))
  refine bodyPost_ret (v := .agg #[.int .i64 17, .string ⟨#[]⟩, .int .i64 0, .slice (some ⟨wL.heap.size, 0, none⟩) 1 1]) (by simp [results, Tryz.results108, go_sem, q0, q1, q2, q3]) rfl ⟨⟨_, rfl, ?_⟩, by rw [hs]; exact par_box hpN hRB _ _ _ _, grown_own hgw (below_box (Nat.le_refl _) _ _ _ _)⟩
  exact (val_one (T := 24) ho hvL (by show w11.heap.size ≤ _; omega) ((Above.grown hgN (fun k e => by injection e with e; show ¬ w11.heap.size ≤ k; omega)).trans (above_box (R := w.heap.size) (by show ¬ w11.heap.size ≤ w.heap.size; omega) _ _ _ _))).mono (fun k hk _ => by have hk' : w11.heap.size ≤ k := hk; show w.heap.size ≤ k; omega)
set_option maxRecDepth 20000 in
set_option maxHeartbeats 4000000 in
theorem stmt_set (Q B : Nat) (v : Value) (S : Src9) (hnf : NumFit S) (st : St9) (b0 : seesS S wVar st = false) (b1 : seesS S wIf st = false) (b2 : seesS S wWhile st = false) (b3 : seesS S wReturn st = false) (b4 : seesS S wPrint st = false) (b5 : seesS S wFork st = false) (b6 : seesS S wWait st = false) (b7 : seesS S wSignal st = false) (b8 : seesS S wSwap st = false) (s : PS) (hst : st = .ok s) (h1 : isB S 1 s = true) (h2 : s.tok + 1 < S.L.length) (h3 : ((tokAt S.L (s.tok + 1)).2.1 == nums ⟨#[61]⟩) = true) (w : World) (hp : Par w Q B v S st) : Calls Tryz.prog 108 #[.pointer (some ⟨Q, 0, none⟩)] w fun e w' => (∃ u, e = .returned u ∧ ValG w' (From w.heap.size) u (withC S 8 s)) ∧ Par w' Q B v S (stOf (withC S 8 s)) ∧ w.grownBy w' (some Q) := by
  subst hst
  have hRB := hp.size
  have hqb := hp.qb
  have hfew := hp.few
  have HPA : Hid (Par (w.alloc zeroN) Q B v S (.ok s)) := hp.below ((Below.refl _ w).alloc (Nat.le_refl _) _)
  have HX : Hid (Box4 (w.alloc zeroN) w.heap.size (.int .i64 0) (.string ⟨#[]⟩) (.int .i64 0) (.slice none 0 0)) := Box4.new _ _ _ _ _
  have hB0 := begins_no (Q := Q) (B := B) (v := v) (S := S) (st := (.ok s)) (x := ⟨#[118, 97, 114]⟩) (l := wVar) (by decide) b0
  have hB1 := begins_no (Q := Q) (B := B) (v := v) (S := S) (st := (.ok s)) (x := ⟨#[105, 102]⟩) (l := wIf) (by decide) b1
  have hB2 := begins_no (Q := Q) (B := B) (v := v) (S := S) (st := (.ok s)) (x := ⟨#[119, 104, 105, 108, 101]⟩) (l := wWhile) (by decide) b2
  have hB3 := begins_no (Q := Q) (B := B) (v := v) (S := S) (st := (.ok s)) (x := ⟨#[114, 101, 116, 117, 114, 110]⟩) (l := wReturn) (by decide) b3
  have hB4 := begins_no (Q := Q) (B := B) (v := v) (S := S) (st := (.ok s)) (x := ⟨#[112, 114, 105, 110, 116]⟩) (l := wPrint) (by decide) b4
  have hB5 := begins_no (Q := Q) (B := B) (v := v) (S := S) (st := (.ok s)) (x := ⟨#[102, 111, 114, 107]⟩) (l := wFork) (by decide) b5
  have hB6 := begins_no (Q := Q) (B := B) (v := v) (S := S) (st := (.ok s)) (x := ⟨#[119, 97, 105, 116]⟩) (l := wWait) (by decide) b6
  have hB7 := begins_no (Q := Q) (B := B) (v := v) (S := S) (st := (.ok s)) (x := ⟨#[115, 105, 103, 110, 97, 108]⟩) (l := wSignal) (by decide) b7
  have hB8 := begins_no (Q := Q) (B := B) (v := v) (S := S) (st := (.ok s)) (x := ⟨#[115, 119, 97, 112]⟩) (l := wSwap) (by decide) b8
  clear b0 b1 b2 b3 b4 b5 b6 b7 b8 hp
  have hc : ∀ w', Par w' Q B v S (.ok s) → Calls Tryz.prog 148 #[.pointer (some ⟨Q, 0, none⟩), .int .i64 8] w' fun e w'' => (∃ u, e = .returned u ∧ ValG w'' (From w'.heap.size) u (withC S 8 s)) ∧ Par w'' Q B v S (stOf (withC S 8 s)) ∧ w'.grownBy w'' (some Q) := fun w' h' => with_any9 Q B v S hnf 8 (.ok s) w' h'
  generalize withC S 8 s = G at *
  have hI := is_yes (Q := Q) (B := B) (v := v) (S := S) (k := 1) h1
  obtain ⟨vad, vc, hv0, _⟩ := HPA.out.toks
  subst hv0
  have htl : s.tok ≤ 4000 := by obtain ⟨_, _, _, h, _⟩ := HPA.out.ok; omega
  have hw1 := wrap_id (x := (s.tok : Int) + 1) (by omega) (by omega)
  have hil : (s.tok : Int) + 1 < (S.L.length : Int) := by omega
  have hild : decide ((s.tok : Int) + 1 < (S.L.length : Int)) = true := decide_eq_true hil
  have hcmp : ((strOfNums (tokAt S.L (s.tok + 1)).2.1).toList == [61]) = true := by
    rw [show ([61] : List UInt8) = ByteArray.toList ⟨#[61]⟩ by rw [ByteArray.toList_eq]]
    rw [str_same (xs := (tokAt S.L (s.tok + 1)).2.1) (by
      refine HPA.out.bytes _ ?_
      unfold tokAt
      rw [List.getD_eq_getElem?_getD, List.getElem?_eq_getElem h2]
      exact List.getElem_mem _) ⟨#[61]⟩]
    exact h3
  have H2 : Hid (s.tok + 1 < S.L.length) := h2
  clear h1 h2 h3
  go_enter Tryz.func108, Tryz.ntmps108
  go_wp2_with (first
    | (go_at_call_of 147 (Value.string ⟨#[118, 97, 114]⟩); refine (hB0 _ HPA.out).mono ?_; rintro e w1 ⟨rfl, hp1, hgx⟩; have hg1 : (w.alloc zeroN).grownBy w1 (some Q) := hgx; clear hB0 hgx)
    | (go_at_call_of 147 (Value.string ⟨#[105, 102]⟩); refine (hB1 _ hp1).mono ?_; rintro e w2 ⟨rfl, hp2, hgx⟩; have hg2 : (w.alloc zeroN).grownBy w2 (some Q) := hg1.trans hgx; clear hB1 hgx)
    | (go_at_call_of 147 (Value.string ⟨#[119, 104, 105, 108, 101]⟩); refine (hB2 _ hp2).mono ?_; rintro e w3 ⟨rfl, hp3, hgx⟩; have hg3 : (w.alloc zeroN).grownBy w3 (some Q) := hg2.trans hgx; clear hB2 hgx)
    | (go_at_call_of 147 (Value.string ⟨#[114, 101, 116, 117, 114, 110]⟩); refine (hB3 _ hp3).mono ?_; rintro e w4 ⟨rfl, hp4, hgx⟩; have hg4 : (w.alloc zeroN).grownBy w4 (some Q) := hg3.trans hgx; clear hB3 hgx)
    | (go_at_call_of 147 (Value.string ⟨#[112, 114, 105, 110, 116]⟩); refine (hB4 _ hp4).mono ?_; rintro e w5 ⟨rfl, hp5, hgx⟩; have hg5 : (w.alloc zeroN).grownBy w5 (some Q) := hg4.trans hgx; clear hB4 hgx)
    | (go_at_call_of 147 (Value.string ⟨#[102, 111, 114, 107]⟩); refine (hB5 _ hp5).mono ?_; rintro e w6 ⟨rfl, hp6, hgx⟩; have hg6 : (w.alloc zeroN).grownBy w6 (some Q) := hg5.trans hgx; clear hB5 hgx)
    | (go_at_call_of 147 (Value.string ⟨#[119, 97, 105, 116]⟩); refine (hB6 _ hp6).mono ?_; rintro e w7 ⟨rfl, hp7, hgx⟩; have hg7 : (w.alloc zeroN).grownBy w7 (some Q) := hg6.trans hgx; clear hB6 hgx)
    | (go_at_call_of 147 (Value.string ⟨#[115, 105, 103, 110, 97, 108]⟩); refine (hB7 _ hp7).mono ?_; rintro e w8 ⟨rfl, hp8, hgx⟩; have hg8 : (w.alloc zeroN).grownBy w8 (some Q) := hg7.trans hgx; clear hB7 hgx)
    | (go_at_call_of 147 (Value.string ⟨#[115, 119, 97, 112]⟩); refine (hB8 _ hp8).mono ?_; rintro e w9 ⟨rfl, hp9, hgx⟩; have hg9 : (w.alloc zeroN).grownBy w9 (some Q) := hg8.trans hgx; clear hB8 hgx)
    | (go_at_call 146; refine (hI _ hp9).mono ?_; rintro e w10 ⟨rfl, hb10⟩; have hp10 := Par.below hp9 hb10; have hg10 : (w.alloc zeroN).grownBy w10 (some Q) := hg9.trans (grown_below Q hb10); obtain ⟨mn, ho, _, _, _, _⟩ := hp10.ok; obtain ⟨k0, k1, k2, k3, k4, k5, k6⟩ := ho.cells; have hq10 := ho.lt; obtain ⟨ad', vc', hv1, hrw⟩ := hp10.toks; obtain ⟨bb, off, hade, hbl, _, hcl⟩ := hrw (by have := H2.out; omega); injection hv1 with hv1a hv1b hv1c; subst hv1a; subst hv1c; subst hade; obtain ⟨x1, x2, x3⟩ := hcl (s.tok + 1) H2.out; clear hcl hrw))
  go_quiet (fail)
  obtain ⟨w11, eq⟩ : ∃ w11, w11 = w10.drewN nq := ⟨_, rfl⟩
  have hbq : Below w10.heap.size w10 w11 := by rw [eq]; exact below_drewN _ _
  rw [← eq]
  clear eq
  have hp11 := Par.below hp10 hbq
  have hg11 := hg10.trans (grown_below Q hbq)
  go_wp2_with (first
    | (go_at_call 148; refine (hc _ hp11).mono ?_; rintro e wE ⟨⟨u, rfl, hv⟩, hpE, hgE⟩; obtain ⟨a, b, c, ad, n, cc, hu'⟩ := hv.any; subst hu'; have hgF := hg11.trans hgE; obtain ⟨⟨q0, q1, q2, q3⟩, _⟩ := (HX.out.grown hgF (by omega)).facts; obtain ⟨_, s0, s1, s2, s3⟩ := (HX.out.grown hgF (by omega)).facts))
  have hgw : w.grownBy wE (some Q) := (World.grownBy_alloc w zeroN (some Q)).trans hgF
  have sz : w.heap.size < w11.heap.size := by have := hg11.size; simp at this; omega
  refine bodyPost_ret (v := .agg #[.int .i64 a, .string b, .int .i64 c, .slice ad n cc]) (by simp [results, Tryz.results108, go_sem, q0, q1, q2, q3]) rfl ⟨⟨_, rfl, ?_⟩, par_box hpE hRB _ _ _ _, grown_own hgw (below_box (Nat.le_refl _) _ _ _ _)⟩
  exact (hv.above (above_box (R := w.heap.size) (by show ¬ w11.heap.size ≤ w.heap.size; omega) _ _ _ _)).mono (fun k hk _ => by have hk' : w11.heap.size ≤ k := hk; show w.heap.size ≤ k; omega)
end Go.Proofs.YtkppdndbfedijadGreatDoor

/- gessoref9: while. -/
namespace Go.Proofs.YtkppdndbfedijadGreatDoor
open Go.RowKit

def TwoG (kind : Int) (gE gB G : Got Nd) : Prop := (∃ e, G = .error e) ∨ ∃ k s b s1 s', gE = .ok (k, s) ∧ gB = .ok (b, s1) ∧ G = .ok (.mk kind [] 0 [k, b], s')
theorem val_two {w w' : World} {M : Nat → Prop} {kind : Int} {gE gB G : Got Nd} {a b c d a' b' c' d' : Value} {T : TypeId} (hG : TwoG kind gE gB G) (h : ValG w M (.agg #[a, b, c, d]) gE) (h' : ValG w M (.agg #[a', b', c', d']) gB) (hB : M w.heap.size) (ha : Above M (w.alloc (.cells #[a, b, c, d, a', b', c', d'] T)) w') :
    ValG w' M (.agg #[.int .i64 kind, .string ⟨#[]⟩, .int .i64 0, .slice (some ⟨w.heap.size, 0, none⟩) 2 2]) G := by
  rcases hG with ⟨e, rfl⟩ | ⟨k, s, b, s1, s', rfl, rfl, rfl⟩
  · exact ⟨_, _, _, _, _, _, rfl⟩
  · exact NodeV.above (node_val (tx := []) (kids2 h h' hB 2)) ha
/-- Where the block behind '( expr )' begins. -/
def condE (S : Src9) (s0 : PS) : Got Nd := bindS (stOf (bindS (.ok s0) (wantP S sOpen))) (exprC S)
def condT (S : Src9) (s0 : PS) : St9 := stOf (bindS (stOf (condE S s0)) (wantP S sShut))
theorem cond_chain (S : Src9) (s0 : PS) (F : Nd → PS → Got Nd) : (∃ e, (condC S s0).then F = .error e ∧ condT S s0 = .error e) ∨ ∃ k s s2, condE S s0 = .ok (k, s) ∧ condT S s0 = .ok s2 ∧ s0.tok ≤ s2.tok ∧ (condC S s0).then F = F k s2 := by
  unfold condC condT condE
  rw [bindS_ok]
  cases h1 : wantP S sOpen s0 with
  | error e => exact Or.inl ⟨e, rfl, rfl⟩
  | ok y =>
    obtain ⟨⟨⟩, s1⟩ := y
    simp only [then_ok, stOf_ok, bindS_ok]
    cases h2 : exprC S s1 with
    | error e => exact Or.inl ⟨e, rfl, rfl⟩
    | ok z =>
      obtain ⟨k, s2⟩ := z
      simp only [then_ok, stOf_ok, bindS_ok]
      cases h3 : wantP S sShut s2 with
      | error e => exact Or.inl ⟨e, rfl, rfl⟩
      | ok u =>
        obtain ⟨⟨⟩, s3⟩ := u
        have l1 := ((want_fine S sOpen s0).at h1).1
        have l2 := (expr_at h2).1
        have l3 := ((want_fine S sShut s2).at h3).1
        exact Or.inr ⟨k, s2, s3, rfl, rfl, by omega, rfl⟩
theorem cond_place {S : Src9} {s0 : PS} : ∀ s', condT S s0 = .ok s' → s0.tok ≤ s'.tok := fun s' e => by
  rcases cond_chain S s0 (fun k s => .ok (k, s)) with ⟨e', _, h⟩ | ⟨k, s, s2, _, h, h3, _⟩
  · rw [h] at e; cases e
  · rw [h] at e; cases e; exact h3
theorem while_two (S : Src9) (s0 : PS) (kind : Int) : TwoG kind (condE S s0) (bindS (condT S s0) (blockC S)) ((condC S s0).then fun k s => (blockC S s).then fun b s => nodeP kind [] 0 [k, b] s) ∧ stOf ((condC S s0).then fun k s => (blockC S s).then fun b s => nodeP kind [] 0 [k, b] s) = nodeS (stOf (bindS (condT S s0) (blockC S))) := by
  rcases cond_chain S s0 (fun k s => (blockC S s).then fun b s => nodeP kind [] 0 [k, b] s) with ⟨e, h1, h2⟩ | ⟨k, s, s2, h1, h2, _, h4⟩
  · rw [h1, h2]; exact ⟨Or.inl ⟨e, rfl⟩, rfl⟩
  · rw [h4, h1, h2, bindS_ok]
    cases blockC S s2 with
    | error e => exact ⟨Or.inl ⟨e, rfl⟩, rfl⟩
    | ok y => obtain ⟨b, s3⟩ := y; exact ⟨Or.inr ⟨k, s, b, s3, _, rfl, rfl, rfl⟩, rfl⟩
set_option maxRecDepth 20000 in
set_option maxHeartbeats 4000000 in
theorem stmt_wWhile (Q B : Nat) (v : Value) (S : Src9) (hnf : NumFit S) (s : PS) (b0 : seesB S wVar s = false) (b1 : seesB S wIf s = false) (b2 : seesB S wWhile s = true) (hbl : ∀ st' : St9, (∀ s', st' = .ok s' → s.tok + 1 ≤ s'.tok) → Reads9 73 (blockC S) Q B v S st') (w : World) (hp : Par w Q B v S (.ok s)) : Calls Tryz.prog 108 #[.pointer (some ⟨Q, 0, none⟩)] w fun e w' => (∃ u, e = .returned u ∧ ValG w' (From w.heap.size) u ((condC S s.step).then fun k s => (blockC S s).then fun b s => nodeP 10 [] 0 [k, b] s)) ∧ Par w' Q B v S (stOf ((condC S s.step).then fun k s => (blockC S s).then fun b s => nodeP 10 [] 0 [k, b] s)) ∧ w.grownBy w' (some Q) := by
  have hRB := hp.size
  have hqb := hp.qb
  have HPA : Hid (Par (w.alloc zeroN) Q B v S (.ok s)) := hp.below ((Below.refl _ w).alloc (Nat.le_refl _) _)
  have HX : Hid (Box4 (w.alloc zeroN) w.heap.size (.int .i64 0) (.string ⟨#[]⟩) (.int .i64 0) (.slice none 0 0)) := Box4.new _ _ _ _ _
  have hB0 := begins_no (Q := Q) (B := B) (v := v) (S := S) (st := .ok s) (x := ⟨#[118, 97, 114]⟩) (l := wVar) (by decide) b0
  have hB1 := begins_no (Q := Q) (B := B) (v := v) (S := S) (st := .ok s) (x := ⟨#[105, 102]⟩) (l := wIf) (by decide) b1
  have hB2 := begins_yes (Q := Q) (B := B) (v := v) (S := S) (s := s) (x := ⟨#[119, 104, 105, 108, 101]⟩) (l := wWhile) (by decide) b2
  clear b0 b1 b2 hp
  have hxx := expr_any Q B v S hnf (stOf (bindS (.ok s.step) (wantP S sOpen)))
  unfold Reads9 at hxx
  have hW1 := want_as (Q := Q) (B := B) (v := v) (S := S) (x := ⟨#[40]⟩) (l := sOpen) (by decide) (.ok s.step)
  rw [show bindS (stOf (bindS (.ok s.step) (wantP S sOpen))) (exprC S) = condE S s.step from rfl] at hxx
  have hW2 := want_as (Q := Q) (B := B) (v := v) (S := S) (x := ⟨#[41]⟩) (l := sShut) (by decide) (stOf (condE S s.step))
  rw [show stOf (bindS (stOf (condE S s.step)) (wantP S sShut)) = condT S s.step from rfl] at hW2
  have hbb := hbl (condT S s.step) (fun s' e => by have := cond_place s' e; exact this)
  unfold Reads9 at hbb
  have HO : Hid (_ ∧ _) := while_two S s.step 10
  generalize ((condC S s.step).then fun k s => (blockC S s).then fun b s => nodeP 10 [] 0 [k, b] s) = G at *
  clear hbl
  generalize bindS (condT S s.step) (blockC S) = gB at *
  generalize condT S s.step = st2 at *
  generalize condE S s.step = gE at *
  generalize stOf (bindS (.ok s.step) (wantP S sOpen)) = st1 at *
  go_enter Tryz.func108, Tryz.ntmps108
  go_wp2_with (first
    | (go_at_call_of 147 (Value.string ⟨#[118, 97, 114]⟩); refine (hB0 _ HPA.out).mono ?_; rintro e w1 ⟨rfl, hp1, hgx⟩; have hg1 : (w.alloc zeroN).grownBy w1 (some Q) := hgx; clear hB0 hgx)
    | (go_at_call_of 147 (Value.string ⟨#[105, 102]⟩); refine (hB1 _ hp1).mono ?_; rintro e w2 ⟨rfl, hp2, hgx⟩; have hg2 : (w.alloc zeroN).grownBy w2 (some Q) := hg1.trans hgx; clear hB1 hgx)
    | (go_at_call_of 147 (Value.string ⟨#[119, 104, 105, 108, 101]⟩); refine (hB2 _ hp2).mono ?_; rintro e w3 ⟨rfl, hp3, hgx⟩; have hg3 : (w.alloc zeroN).grownBy w3 (some Q) := hg2.trans hgx; clear hB2 hgx)
    | (go_at_call_of 72 (Value.string ⟨#[40]⟩); refine (hW1 _ hp3).mono ?_; rintro e wO ⟨rfl, hpO, hgx⟩; have hgO := hg3.trans hgx; clear hgx)
    | (go_at_call 149; refine (hxx _ hpO).mono ?_; rintro e wE ⟨⟨u, rfl, hv⟩, hpE, hgE⟩; obtain ⟨a, b, c, ad, n, cc, hu'⟩ := hv.any; subst hu'; have hg8 := hgO.trans hgE; have hpEa := hpE.below ((Below.refl _ _).alloc (Nat.le_refl _) (.cells #[.int .i64 a, .string b, .int .i64 c, .slice ad n cc] 24)); have hsz : w.heap.size < wE.heap.size := (by have := hg8.size; simp at this; omega))
    | (go_at_call_of 72 (Value.string ⟨#[41]⟩); refine (hW2 _ hpEa).mono ?_; rintro e wT ⟨rfl, hpT, hgT⟩; have hXT := ((HX.out.grown hg8 (by omega)).alloc (.cells #[.int .i64 a, .string b, .int .i64 c, .slice ad n cc] 24)).grown hgT (by omega); have hKT := (Box4.new wE (.int .i64 a) (.string b) (.int .i64 c) (.slice ad n cc)).grown hgT (by omega))
    | (go_at_call 73; refine (hbb _ hpT).mono ?_; rintro e wB ⟨⟨u, rfl, hvB⟩, hpB, hgB⟩; obtain ⟨a2, b2, c2, ad2, n2, cc2, hu2⟩ := hvB.any; subst hu2; have hXB := hXT.grown hgB (by omega); have hKB := hKT.grown hgB (by omega); have hltE := hKB.lt; obtain ⟨⟨p0, p1, p2, p3⟩, _⟩ := hKB.facts)
    | (go_at_call 74; refine (node_any Q B _ S _ _ _ _ ⟨_, _, _, rfl⟩ _ (par_two hpB (.cells #[.int .i64 a2, .string b2, .int .i64 c2, .slice ad2 n2 cc2] 24) (.cells #[.int .i64 a, .string b, .int .i64 c, .slice ad n cc, .int .i64 a2, .string b2, .int .i64 c2, .slice ad2 n2 cc2] 24))).mono ?_; rintro e wN ⟨rfl, hpN, hgN⟩; have hXN := ((hXB.alloc (.cells #[.int .i64 a2, .string b2, .int .i64 c2, .slice ad2 n2 cc2] 24)).alloc (.cells #[.int .i64 a, .string b, .int .i64 c, .slice ad n cc, .int .i64 a2, .string b2, .int .i64 c2, .slice ad2 n2 cc2] 24)).grown hgN (by omega); obtain ⟨⟨q0, q1, q2, q3⟩, s0, s1', s2, s3⟩ := hXN.facts))
  obtain ⟨ho, hs⟩ := HO.out
  have hgw : w.grownBy wN (some Q) := (((((((World.grownBy_alloc w zeroN (some Q)).trans hg8).trans (World.grownBy_alloc _ _ _)).trans hgT).trans hgB).trans (World.grownBy_alloc _ _ _)).trans (World.grownBy_alloc _ _ _)).trans hgN
  have szO : w.heap.size < wO.heap.size := by have := hgO.size; simp at this; omega
  have szE : wO.heap.size ≤ wE.heap.size := hgE.size
  have szT : wE.heap.size + 1 ≤ wT.heap.size := by have := hgT.size; simpa using this
  have szB : wT.heap.size ≤ wB.heap.size := hgB.size
  have hvE : ValG (wB.alloc (.cells #[.int .i64 a2, .string b2, .int .i64 c2, .slice ad2 n2 cc2] 24)) (From wO.heap.size) (.agg #[.int .i64 a, .string b, .int .i64 c, .slice ad n cc]) gE := (((hv.above (Above.grown (World.grownBy_alloc wE (.cells #[.int .i64 a, .string b, .int .i64 c, .slice ad n cc] 24) none) (fun k e => by cases e))).above (Above.grown hgT (fun k e => by injection e with e; show ¬ wO.heap.size ≤ k; omega))).above (Above.grown hgB (fun k e => by injection e with e; show ¬ wO.heap.size ≤ k; omega))).above (Above.grown (World.grownBy_alloc wB (.cells #[.int .i64 a2, .string b2, .int .i64 c2, .slice ad2 n2 cc2] 24) none) (fun k e => by cases e))
  have hvB' : ValG (wB.alloc (.cells #[.int .i64 a2, .string b2, .int .i64 c2, .slice ad2 n2 cc2] 24)) (From wO.heap.size) (.agg #[.int .i64 a2, .string b2, .int .i64 c2, .slice ad2 n2 cc2]) gB := (hvB.mono (fun k hk _ => by have hk' : wT.heap.size ≤ k := hk; show wO.heap.size ≤ k; omega)).above (Above.grown (World.grownBy_alloc wB (.cells #[.int .i64 a2, .string b2, .int .i64 c2, .slice ad2 n2 cc2] 24) none) (fun k e => by cases e))
  refine bodyPost_ret (v := .agg #[.int .i64 10, .string ⟨#[]⟩, .int .i64 0, .slice (some ⟨wB.heap.size + 1, 0, none⟩) 2 2]) (by simp [results, Tryz.results108, go_sem, q0, q1, q2, q3]) rfl ⟨⟨_, rfl, ?_⟩, by rw [hs]; exact par_box hpN hRB _ _ _ _, grown_own hgw (below_box (Nat.le_refl _) _ _ _ _)⟩
  have hend := (val_two (T := 24) ho hvE hvB' (by show wO.heap.size ≤ _; simp; omega) ((Above.grown hgN (fun k e => by injection e with e; show ¬ wO.heap.size ≤ k; omega)).trans (above_box (R := w.heap.size) (by show ¬ wO.heap.size ≤ w.heap.size; omega) (.int .i64 10) (.string ⟨#[]⟩) (.int .i64 0) (.slice (some ⟨wB.heap.size + 1, 0, none⟩) 2 2)))).mono (M' := From w.heap.size) (fun k hk _ => by have hk' : wO.heap.size ≤ k := hk; show w.heap.size ≤ k; omega)
  simp only [World.size_alloc] at hend
  exact hend
end Go.Proofs.YtkppdndbfedijadGreatDoor

/- gessoref9: if. -/
namespace Go.Proofs.YtkppdndbfedijadGreatDoor
open Go.RowKit

def ifG (S : Src9) (s0 : PS) : Got Nd := (condC S s0).then fun k s => (blockC S s).then fun b s => if seesB S wElse s = true then (blockC S s.step).then fun c s => nodeP 9 [] 0 [k, b, c] s else nodeP 9 [] 0 [k, b] s
theorem if_no (S : Src9) (s0 : PS) (h : seesS S wElse (stOf (bindS (condT S s0) (blockC S))) = false) : TwoG 9 (condE S s0) (bindS (condT S s0) (blockC S)) (ifG S s0) ∧ stOf (ifG S s0) = nodeS (stOf (bindS (condT S s0) (blockC S))) := by
  unfold ifG
  rcases cond_chain S s0 (fun k s => (blockC S s).then fun b s => if seesB S wElse s = true then (blockC S s.step).then fun c s => nodeP 9 [] 0 [k, b, c] s else nodeP 9 [] 0 [k, b] s) with ⟨e, h1, h2⟩ | ⟨k, s, s2, h1, h2, _, h4⟩
  · rw [h1, h2]; exact ⟨Or.inl ⟨e, rfl⟩, rfl⟩
  · rw [h4, h1, h2, bindS_ok]
    rw [h2, bindS_ok] at h
    cases hb : blockC S s2 with
    | error e => exact ⟨Or.inl ⟨e, rfl⟩, rfl⟩
    | ok y =>
      obtain ⟨b, s3⟩ := y
      rw [hb] at h
      have h' : seesB S wElse s3 = false := h
      rw [then_ok, if_neg (by rw [h']; decide)]
      exact ⟨Or.inr ⟨k, s, b, s3, _, rfl, rfl, rfl⟩, rfl⟩
theorem if_yes (S : Src9) (s0 : PS) (h : seesS S wElse (stOf (bindS (condT S s0) (blockC S))) = true) : ∃ k s b s3, condE S s0 = .ok (k, s) ∧ bindS (condT S s0) (blockC S) = .ok (b, s3) ∧ seesB S wElse s3 = true ∧ s0.tok ≤ s3.tok ∧ ifG S s0 = (blockC S s3.step).then fun c s => nodeP 9 [] 0 [k, b, c] s := by
  unfold ifG
  rcases cond_chain S s0 (fun k s => (blockC S s).then fun b s => if seesB S wElse s = true then (blockC S s.step).then fun c s => nodeP 9 [] 0 [k, b, c] s else nodeP 9 [] 0 [k, b] s) with ⟨e, h1, h2⟩ | ⟨k, s, s2, h1, h2, hl, h4⟩
  · rw [h2] at h; cases h
  · rw [h4, h1, h2, bindS_ok]
    rw [h2, bindS_ok] at h
    cases hb : blockC S s2 with
    | error e => rw [hb] at h; cases h
    | ok y =>
      obtain ⟨b, s3⟩ := y
      rw [hb] at h
      have h' : seesB S wElse s3 = true := h
      have := (block_at hb).1
      rw [then_ok, if_pos h']
      exact ⟨k, s, b, s3, rfl, rfl, h', by omega, rfl⟩
theorem KRow.two {w : World} {BB : Nat} {M : Nat → Prop} {n m : Nd} {a b c d a' b' c' d' : Value} (h : NodeV w M (.agg #[a, b, c, d]) n) (h' : NodeV w M (.agg #[a', b', c', d']) m) (hB : BB ≤ w.heap.size) : ∃ x y, KRow (w.alloc (.cells #[a, b, c, d, a', b', c', d'] 24)) BB M w.heap.size 2 [(n, x), (m, y)] := by
  obtain ⟨x, hv, hk⟩ := h
  obtain ⟨y, hv', hk'⟩ := h'
  simp only [Value.agg.injEq] at hv hv'
  have e : [a, b, c, d] = nodeV n x := by
    have := congrArg Array.toList hv
    simpa using this
  have e' : [a', b', c', d'] = nodeV m y := by
    have := congrArg Array.toList hv'
    simpa using this
  refine ⟨x, y, ⟨rfl, .inr ⟨w.heap.size, 2, #[a, b, c, d, a', b', c', d'], rfl, hB, heap_alloc_new w _, Nat.le_refl _, by decide, rfl, ?_⟩⟩, ?_⟩
  · show [a, b, c, d] ++ [a', b', c', d'] = _
    rw [e, e']
    simp [nodesV]
  · intro z hz
    have hab : ∀ (v : Value) (ks : List Nd), KidsV w M v ks → KidsV (w.alloc (.cells #[a, b, c, d, a', b', c', d'] 24)) (fun k => M k ∧ k ≠ w.heap.size) v ks := fun v ks hk => (hk.mono (fun k h1 h2 => ⟨h1, by omega⟩)).above (Above.grown (World.grownBy_alloc _ _ none) (fun k e => by cases e))
    simp only [List.mem_cons, List.not_mem_nil, or_false] at hz
    rcases hz with rfl | rfl
    · exact hab _ _ hk
    · exact hab _ _ hk'
theorem KRow.put {w : World} {BB g cap N : Nat} {M : Nat → Prop} {l : List (Nd × Value)} (h : KRow w BB M g cap l) (hn : N ≠ g) (hm : ¬ M N) (a b c d : Value) : KRow ((((w.setCell ⟨N, 0, none⟩ a).setCell ⟨N, 1, none⟩ b).setCell ⟨N, 2, none⟩ c).setCell ⟨N, 3, none⟩ d) BB M g cap l :=
  (((h.grown (grown_set _ N 0 a) hn hm).grown (grown_set _ N 1 b) hn hm).grown (grown_set _ N 2 c) hn hm).grown (grown_set _ N 3 d) hn hm
theorem four_new1 (w : World) (a b c d : Value) (T : TypeId) (g : Nat) (hg : g = w.heap.size) : ∀ j u, [a, b, c, d][j]? = some u → (w.alloc (.cells #[a, b, c, d] T)).cell? ((⟨g, 0, none⟩ : Addr).add j) = some u := fun j u h => by
  rw [add_plain, World.cell?_alloc_at _ _ _ _ hg, Nat.zero_add]
  simpa using h
set_option maxRecDepth 20000 in
set_option maxHeartbeats 8000000 in
theorem stmt_if0 (Q B : Nat) (v : Value) (S : Src9) (hnf : NumFit S) (s : PS) (b0 : seesB S wVar s = false) (b1 : seesB S wIf s = true) (hbl : ∀ st' : St9, (∀ s', st' = .ok s' → s.tok + 1 ≤ s'.tok) → Reads9 73 (blockC S) Q B v S st') (hel : seesS S wElse (stOf (bindS (condT S s.step) (blockC S))) = false) (w : World) (hp : Par w Q B v S (.ok s)) : Calls Tryz.prog 108 #[.pointer (some ⟨Q, 0, none⟩)] w fun e w' => (∃ u, e = .returned u ∧ ValG w' (From w.heap.size) u (ifG S s.step)) ∧ Par w' Q B v S (stOf (ifG S s.step)) ∧ w.grownBy w' (some Q) := by
  have hRB := hp.size
  have hqb := hp.qb
  have HPA : Hid (Par (w.alloc zeroN) Q B v S (.ok s)) := hp.below ((Below.refl _ w).alloc (Nat.le_refl _) _)
  have HX : Hid (Box4 (w.alloc zeroN) w.heap.size (.int .i64 0) (.string ⟨#[]⟩) (.int .i64 0) (.slice none 0 0)) := Box4.new _ _ _ _ _
  have hB0 := begins_no (Q := Q) (B := B) (v := v) (S := S) (st := .ok s) (x := ⟨#[118, 97, 114]⟩) (l := wVar) (by decide) b0
  have hB1 := begins_yes (Q := Q) (B := B) (v := v) (S := S) (s := s) (x := ⟨#[105, 102]⟩) (l := wIf) (by decide) b1
  clear b0 b1 hp
  have hxx := expr_any Q B v S hnf (stOf (bindS (.ok s.step) (wantP S sOpen)))
  unfold Reads9 at hxx
  have hW1 := want_as (Q := Q) (B := B) (v := v) (S := S) (x := ⟨#[40]⟩) (l := sOpen) (by decide) (.ok s.step)
  rw [show bindS (stOf (bindS (.ok s.step) (wantP S sOpen))) (exprC S) = condE S s.step from rfl] at hxx
  have hW2 := want_as (Q := Q) (B := B) (v := v) (S := S) (x := ⟨#[41]⟩) (l := sShut) (by decide) (stOf (condE S s.step))
  rw [show stOf (bindS (stOf (condE S s.step)) (wantP S sShut)) = condT S s.step from rfl] at hW2
  have hbb := hbl (condT S s.step) (fun s' e => by have := cond_place s' e; exact this)
  unfold Reads9 at hbb
  have HO : Hid (_ ∧ _) := if_no S s.step hel
  have hBE := begins_no (Q := Q) (B := B) (v := v) (S := S) (x := ⟨#[101, 108, 115, 101]⟩) (l := wElse) (by decide) hel
  generalize ifG S s.step = G at *
  clear hbl hel
  generalize bindS (condT S s.step) (blockC S) = gB at *
  generalize condT S s.step = st2 at *
  generalize condE S s.step = gE at *
  generalize stOf (bindS (.ok s.step) (wantP S sOpen)) = st1 at *
  go_enter Tryz.func108, Tryz.ntmps108
  go_wp2_with (first
    | (go_at_call_of 147 (Value.string ⟨#[118, 97, 114]⟩); refine (hB0 _ HPA.out).mono ?_; rintro e w1 ⟨rfl, hp1, hgx⟩; have hg1 : (w.alloc zeroN).grownBy w1 (some Q) := hgx; clear hB0 hgx)
    | (go_at_call_of 147 (Value.string ⟨#[105, 102]⟩); refine (hB1 _ hp1).mono ?_; rintro e w2 ⟨rfl, hp2, hgx⟩; have hg2 : (w.alloc zeroN).grownBy w2 (some Q) := hg1.trans hgx; clear hB1 hgx)
    | (go_at_call_of 72 (Value.string ⟨#[40]⟩); refine (hW1 _ hp2).mono ?_; rintro e wO ⟨rfl, hpO, hgx⟩; have hgO := hg2.trans hgx; clear hgx)
    | (go_at_call 149; refine (hxx _ hpO).mono ?_; rintro e wE ⟨⟨u, rfl, hv⟩, hpE, hgE⟩; obtain ⟨a, b, c, ad, n, cc, hu'⟩ := hv.any; subst hu'; have hg8 := hgO.trans hgE; have hpEa := hpE.below ((Below.refl _ _).alloc (Nat.le_refl _) (.cells #[.int .i64 a, .string b, .int .i64 c, .slice ad n cc] 24)); have hsz : w.heap.size < wE.heap.size := (by have := hg8.size; simp at this; omega))
    | (go_at_call_of 72 (Value.string ⟨#[41]⟩); refine (hW2 _ hpEa).mono ?_; rintro e wT ⟨rfl, hpT, hgT⟩; have hXT := ((HX.out.grown hg8 (by omega)).alloc (.cells #[.int .i64 a, .string b, .int .i64 c, .slice ad n cc] 24)).grown hgT (by omega); have hKT := (Box4.new wE (.int .i64 a) (.string b) (.int .i64 c) (.slice ad n cc)).grown hgT (by omega))
    | (go_at_call 73; refine (hbb _ hpT).mono ?_; rintro e wB ⟨⟨u, rfl, hvB⟩, hpB, hgB⟩; obtain ⟨a2, b2, c2, ad2, n2, cc2, hu2⟩ := hvB.any; subst hu2; have hXB := hXT.grown hgB (by omega); have hKB := hKT.grown hgB (by omega); have hltE := hKB.lt; obtain ⟨⟨p0, p1, p2, p3⟩, _⟩ := hKB.facts)
    | (go_at_call_of 147 (Value.string ⟨#[101, 108, 115, 101]⟩); refine (hBE _ (par_two hpB (.cells #[.int .i64 a2, .string b2, .int .i64 c2, .slice ad2 n2 cc2] 24) (.cells #[.int .i64 a, .string b, .int .i64 c, .slice ad n cc, .int .i64 a2, .string b2, .int .i64 c2, .slice ad2 n2 cc2] 24))).mono ?_; rintro e wH ⟨rfl, hpH, hgH⟩)
    | (go_at_call 74; refine (node_any Q B _ S _ _ _ _ ⟨_, _, _, rfl⟩ _ hpH).mono ?_; rintro e wN ⟨rfl, hpN, hgNx⟩; have hgN := hgH.trans hgNx; have hXN := ((hXB.alloc (.cells #[.int .i64 a2, .string b2, .int .i64 c2, .slice ad2 n2 cc2] 24)).alloc (.cells #[.int .i64 a, .string b, .int .i64 c, .slice ad n cc, .int .i64 a2, .string b2, .int .i64 c2, .slice ad2 n2 cc2] 24)).grown hgN (by omega); obtain ⟨⟨q0, q1, q2, q3⟩, s0, s1', s2, s3⟩ := hXN.facts))
  obtain ⟨ho, hs⟩ := HO.out
  have hgw : w.grownBy wN (some Q) := (((((((World.grownBy_alloc w zeroN (some Q)).trans hg8).trans (World.grownBy_alloc _ _ _)).trans hgT).trans hgB).trans (World.grownBy_alloc _ _ _)).trans (World.grownBy_alloc _ _ _)).trans hgN
  have szO : w.heap.size < wO.heap.size := by have := hgO.size; simp at this; omega
  have szE : wO.heap.size ≤ wE.heap.size := hgE.size
  have szT : wE.heap.size + 1 ≤ wT.heap.size := by have := hgT.size; simpa using this
  have szB : wT.heap.size ≤ wB.heap.size := hgB.size
  have hvE : ValG (wB.alloc (.cells #[.int .i64 a2, .string b2, .int .i64 c2, .slice ad2 n2 cc2] 24)) (From wO.heap.size) (.agg #[.int .i64 a, .string b, .int .i64 c, .slice ad n cc]) gE := (((hv.above (Above.grown (World.grownBy_alloc wE (.cells #[.int .i64 a, .string b, .int .i64 c, .slice ad n cc] 24) none) (fun k e => by cases e))).above (Above.grown hgT (fun k e => by injection e with e; show ¬ wO.heap.size ≤ k; omega))).above (Above.grown hgB (fun k e => by injection e with e; show ¬ wO.heap.size ≤ k; omega))).above (Above.grown (World.grownBy_alloc wB (.cells #[.int .i64 a2, .string b2, .int .i64 c2, .slice ad2 n2 cc2] 24) none) (fun k e => by cases e))
  have hvB' : ValG (wB.alloc (.cells #[.int .i64 a2, .string b2, .int .i64 c2, .slice ad2 n2 cc2] 24)) (From wO.heap.size) (.agg #[.int .i64 a2, .string b2, .int .i64 c2, .slice ad2 n2 cc2]) gB := (hvB.mono (fun k hk _ => by have hk' : wT.heap.size ≤ k := hk; show wO.heap.size ≤ k; omega)).above (Above.grown (World.grownBy_alloc wB (.cells #[.int .i64 a2, .string b2, .int .i64 c2, .slice ad2 n2 cc2] 24) none) (fun k e => by cases e))
  refine bodyPost_ret (v := .agg #[.int .i64 9, .string ⟨#[]⟩, .int .i64 0, .slice (some ⟨wB.heap.size + 1, 0, none⟩) 2 2]) (by simp [results, Tryz.results108, go_sem, q0, q1, q2, q3]) rfl ⟨⟨_, rfl, ?_⟩, by rw [hs]; exact par_box hpN hRB _ _ _ _, grown_own hgw (below_box (Nat.le_refl _) _ _ _ _)⟩
  have hend := (val_two (T := 24) ho hvE hvB' (by show wO.heap.size ≤ _; simp; omega) ((Above.grown hgN (fun k e => by injection e with e; show ¬ wO.heap.size ≤ k; omega)).trans (above_box (R := w.heap.size) (by show ¬ wO.heap.size ≤ w.heap.size; omega) (.int .i64 9) (.string ⟨#[]⟩) (.int .i64 0) (.slice (some ⟨wB.heap.size + 1, 0, none⟩) 2 2)))).mono (M' := From w.heap.size) (fun k hk _ => by have hk' : wO.heap.size ≤ k := hk; show w.heap.size ≤ k; omega)
  simp only [World.size_alloc] at hend
  exact hend
set_option maxRecDepth 20000 in
set_option maxHeartbeats 8000000 in
theorem stmt_if1 (Q B : Nat) (v : Value) (S : Src9) (hnf : NumFit S) (s : PS) (b0 : seesB S wVar s = false) (b1 : seesB S wIf s = true) (hbl : ∀ st' : St9, (∀ s', st' = .ok s' → s.tok + 1 ≤ s'.tok) → Reads9 73 (blockC S) Q B v S st') (hel : seesS S wElse (stOf (bindS (condT S s.step) (blockC S))) = true) (w : World) (hp : Par w Q B v S (.ok s)) : Calls Tryz.prog 108 #[.pointer (some ⟨Q, 0, none⟩)] w fun e w' => (∃ u, e = .returned u ∧ ValG w' (From w.heap.size) u (ifG S s.step)) ∧ Par w' Q B v S (stOf (ifG S s.step)) ∧ w.grownBy w' (some Q) := by
  have hRB := hp.size
  have hqb := hp.qb
  have HPA : Hid (Par (w.alloc zeroN) Q B v S (.ok s)) := hp.below ((Below.refl _ w).alloc (Nat.le_refl _) _)
  have HX : Hid (Box4 (w.alloc zeroN) w.heap.size (.int .i64 0) (.string ⟨#[]⟩) (.int .i64 0) (.slice none 0 0)) := Box4.new _ _ _ _ _
  have hB0 := begins_no (Q := Q) (B := B) (v := v) (S := S) (st := .ok s) (x := ⟨#[118, 97, 114]⟩) (l := wVar) (by decide) b0
  have hB1 := begins_yes (Q := Q) (B := B) (v := v) (S := S) (s := s) (x := ⟨#[105, 102]⟩) (l := wIf) (by decide) b1
  clear b0 b1 hp
  have hxx := expr_any Q B v S hnf (stOf (bindS (.ok s.step) (wantP S sOpen)))
  unfold Reads9 at hxx
  have hW1 := want_as (Q := Q) (B := B) (v := v) (S := S) (x := ⟨#[40]⟩) (l := sOpen) (by decide) (.ok s.step)
  rw [show bindS (stOf (bindS (.ok s.step) (wantP S sOpen))) (exprC S) = condE S s.step from rfl] at hxx
  have hW2 := want_as (Q := Q) (B := B) (v := v) (S := S) (x := ⟨#[41]⟩) (l := sShut) (by decide) (stOf (condE S s.step))
  rw [show stOf (bindS (stOf (condE S s.step)) (wantP S sShut)) = condT S s.step from rfl] at hW2
  have hbb := hbl (condT S s.step) (fun s' e => by have := cond_place s' e; exact this)
  unfold Reads9 at hbb
  obtain ⟨kn, sx, bn, s3', hE, hBk, hsee, htk, hG⟩ := if_yes S s.step hel
  have hBE := begins_yes (Q := Q) (B := B) (v := v) (S := S) (x := ⟨#[101, 108, 115, 101]⟩) (l := wElse) (by decide) hsee
  have hcc := hbl (.ok s3'.step) (fun s' e => by cases e; have h1 : s.tok + 1 ≤ s3'.tok := htk; show s.tok + 1 ≤ s3'.tok + 1; omega)
  unfold Reads9 at hcc
  rw [bindS_ok] at hcc
  rw [hG]
  rw [hE] at hxx hW2
  rw [hBk] at hbb
  clear hbl hel hE hBk hsee htk hG
  have HO : Hid (_ ∧ _) := fork_one 0 (blockC S s3'.step)
  generalize blockC S s3'.step = gC at *
  have HS : Hid (stOf (gC.then fun c s => nodeP 9 [] 0 [kn, bn, c] s) = nodeS (stOf gC)) := by
    show _ = _
    match gC with
    | .error e => rfl
    | .ok (c, s) => rfl
  clear HO
  generalize condT S s.step = st2 at *
  generalize stOf (bindS (.ok s.step) (wantP S sOpen)) = st1 at *
  go_enter Tryz.func108, Tryz.ntmps108
  go_wp2_with (first
    | (go_at_call_of 147 (Value.string ⟨#[118, 97, 114]⟩); refine (hB0 _ HPA.out).mono ?_; rintro e w1 ⟨rfl, hp1, hgx⟩; have hg1 : (w.alloc zeroN).grownBy w1 (some Q) := hgx; clear hB0 hgx)
    | (go_at_call_of 147 (Value.string ⟨#[105, 102]⟩); refine (hB1 _ hp1).mono ?_; rintro e w2 ⟨rfl, hp2, hgx⟩; have hg2 : (w.alloc zeroN).grownBy w2 (some Q) := hg1.trans hgx; clear hB1 hgx)
    | (go_at_call_of 72 (Value.string ⟨#[40]⟩); refine (hW1 _ hp2).mono ?_; rintro e wO ⟨rfl, hpO, hgx⟩; have hgO := hg2.trans hgx; clear hgx)
    | (go_at_call 149; refine (hxx _ hpO).mono ?_; rintro e wE ⟨⟨u, rfl, hv⟩, hpE, hgE⟩; obtain ⟨a, b, c, ad, n, cc, hu'⟩ := hv.any; subst hu'; have hg8 := hgO.trans hgE; have hpEa := hpE.below ((Below.refl _ _).alloc (Nat.le_refl _) (.cells #[.int .i64 a, .string b, .int .i64 c, .slice ad n cc] 24)); have hsz : w.heap.size < wE.heap.size := (by have := hg8.size; simp at this; omega))
    | (go_at_call_of 72 (Value.string ⟨#[41]⟩); refine (hW2 _ hpEa).mono ?_; rintro e wT ⟨rfl, hpT, hgT⟩; have hXT := ((HX.out.grown hg8 (by omega)).alloc (.cells #[.int .i64 a, .string b, .int .i64 c, .slice ad n cc] 24)).grown hgT (by omega); have hKT := (Box4.new wE (.int .i64 a) (.string b) (.int .i64 c) (.slice ad n cc)).grown hgT (by omega))
    | (go_at_call 73; refine (hbb _ hpT).mono ?_; rintro e wB ⟨⟨u, rfl, hvB⟩, hpB, hgB⟩; obtain ⟨a2, b2, c2, ad2, n2, cc2, hu2⟩ := hvB.any; subst hu2; have hXB := hXT.grown hgB (by omega); have hKB := hKT.grown hgB (by omega); have hszB := hgB.size; have hszT : wE.heap.size + 1 ≤ wT.heap.size := (by have := hgT.size; simpa using this); have hltE := hKB.lt; obtain ⟨⟨p0, p1, p2, p3⟩, _⟩ := hKB.facts)
    | (go_at_call_of 147 (Value.string ⟨#[101, 108, 115, 101]⟩); refine (hBE _ (par_two hpB (.cells #[.int .i64 a2, .string b2, .int .i64 c2, .slice ad2 n2 cc2] 24) (.cells #[.int .i64 a, .string b, .int .i64 c, .slice ad n cc, .int .i64 a2, .string b2, .int .i64 c2, .slice ad2 n2 cc2] 24))).mono ?_; rintro e wH ⟨rfl, hpH, hgH⟩; have hszH : wB.heap.size + 2 ≤ wH.heap.size := (by have := hgH.size; simpa using this))
    | (go_at_call 73; refine (hcc _ hpH).mono ?_; rintro e wC ⟨⟨u, rfl, hvC⟩, hpC, hgC⟩; obtain ⟨a3, b3, c3, ad3, n3, cc3, hu3⟩ := hvC.any; subst hu3; have hszC := hgC.size; obtain ⟨⟨r0, r1, r2, r3⟩, g0, g1, g2, g3⟩ := (((Box4.new wB (.int .i64 a2) (.string b2) (.int .i64 c2) (.slice ad2 n2 cc2)).alloc (.cells #[.int .i64 a, .string b, .int .i64 c, .slice ad n cc, .int .i64 a2, .string b2, .int .i64 c2, .slice ad2 n2 cc2] 24)).grown (hgH.trans hgC) (by omega)).facts; have hszO : w.heap.size < wO.heap.size := (by have := hgO.size; simp at this; omega); have hszE := hgE.size; have hQo : ¬ (Off w.heap.size wB.heap.size) Q := (by rintro ⟨h, _⟩; omega); obtain ⟨xk, yk, hrow⟩ := KRow.two (BB := wB.heap.size + 1) (M := (Off w.heap.size wB.heap.size)) (w := wB.alloc (.cells #[.int .i64 a2, .string b2, .int .i64 c2, .slice ad2 n2 cc2] 24)) (NodeV.above (NodeV.mono (NodeV.above (NodeV.above (NodeV.above hv (Above.grown (World.grownBy_alloc wE (.cells #[.int .i64 a, .string b, .int .i64 c, .slice ad n cc] 24) none) (fun k e => by cases e))) (Above.grown hgT (fun k e => by injection e with e; show ¬ wO.heap.size ≤ k; omega))) (Above.grown hgB (fun k e => by injection e with e; show ¬ wO.heap.size ≤ k; omega))) (fun k hk hlt => ⟨by have hk' : wO.heap.size ≤ k := hk; omega, by omega⟩)) (Above.grown (World.grownBy_alloc wB (.cells #[.int .i64 a2, .string b2, .int .i64 c2, .slice ad2 n2 cc2] 24) none) (fun k e => by cases e))) (NodeV.above (NodeV.mono hvB (fun k hk hlt => ⟨by have hk' : wT.heap.size ≤ k := hk; omega, by omega⟩)) (Above.grown (World.grownBy_alloc wB (.cells #[.int .i64 a2, .string b2, .int .i64 c2, .slice ad2 n2 cc2] 24) none) (fun k e => by cases e))) (by simp); have hsz1 : (wB.alloc (.cells #[.int .i64 a2, .string b2, .int .i64 c2, .slice ad2 n2 cc2] 24)).heap.size = wB.heap.size + 1 := (by simp); have hrowC := (hrow.grown hgH (by omega) hQo).grown hgC (by omega) hQo; rw [hsz1] at hrowC; clear hsz1; have hrowS := hrowC.put (N := wB.heap.size) (by omega) (by rintro ⟨_, h⟩; exact h rfl) (.int .i64 a3) (.string b3) (.int .i64 c3) (.slice ad3 n3 cc3))
    | (at_builtin; (refine wpList_append_whereN nodeE rfl (.tmp 36) (.tmp 38) rfl (wB.heap.size + 1) 2 1 (sl (wB.heap.size + 1) 2 2) (nodesV [(kn, xk), (bn, yk)]) [.int .i64 a3, .string b3, .int .i64 c3, .slice ad3 n3 cc3] rfl (hrowS.alloc (.cells #[.int .i64 a3, .string b3, .int .i64 c3, .slice ad3 n3 cc3] 24)).own ⟨wC.heap.size, 0, none⟩ rfl rfl (four_new1 _ _ _ _ _ _ _ (by simp [World.setCell])) (four_one _ _ _ _ _ _) (by omega) (by simp [World.setCell]; omega) ?_; intro g' cap' w7 O7 hg7x hor7; have hg7 : (((((wC.setCell ⟨wB.heap.size, 0, none⟩ (.int .i64 a3)).setCell ⟨wB.heap.size, 1, none⟩ (.string b3)).setCell ⟨wB.heap.size, 2, none⟩ (.int .i64 c3)).setCell ⟨wB.heap.size, 3, none⟩ (.slice ad3 n3 cc3)).alloc (.cells #[.int .i64 a3, .string b3, .int .i64 c3, .slice ad3 n3 cc3] 24)).grownBy w7 (some (wB.heap.size + 1)) := hg7x; have hb7 : Below (w.heap.size + 1) wC w7 := (((below_box (w := wC) (B := w.heap.size + 1) (R := wB.heap.size) (by omega) (.int .i64 a3) (.string b3) (.int .i64 c3) (.slice ad3 n3 cc3)).alloc (by simp [World.setCell]; omega) (.cells #[.int .i64 a3, .string b3, .int .i64 c3, .slice ad3 n3 cc3] 24)).grown hg7 (by simp [World.setCell]; omega) (fun k e => by injection e with e; omega)); have hp7 := hpC.apart (hb7.mono (by omega)); have hX7 : Box4 w7 w.heap.size (.int .i64 0) (.string ⟨#[]⟩) (.int .i64 0) (.slice none 0 0) := ((hb7.block w.heap.size (by omega)).trans (((hXB.alloc (.cells #[.int .i64 a2, .string b2, .int .i64 c2, .slice ad2 n2 cc2] 24)).alloc (.cells #[.int .i64 a, .string b, .int .i64 c, .slice ad n cc, .int .i64 a2, .string b2, .int .i64 c2, .slice ad2 n2 cc2] 24)).grown (hgH.trans hgC) (by omega)))))
    | (go_at_call 74; refine (node_any Q B _ S _ _ _ _ ⟨_, _, _, rfl⟩ _ hp7).mono ?_; rintro e wN ⟨rfl, hpN, hgN⟩; obtain ⟨⟨q0, q1, q2, q3⟩, s0, s1', s2, s3⟩ := (hX7.grown hgN (by omega)).facts))
  have hgw : w.grownBy wN (some Q) := (grown_own (((((((((World.grownBy_alloc w zeroN (some Q)).trans hg8).trans (World.grownBy_alloc _ _ _)).trans hgT).trans hgB).trans (World.grownBy_alloc _ _ _)).trans (World.grownBy_alloc _ _ _)).trans hgH).trans hgC) (hb7.mono (by omega))).trans hgN
  refine bodyPost_ret (v := .agg #[.int .i64 9, .string ⟨#[]⟩, .int .i64 0, sl g' 3 cap']) (by simp [results, Tryz.results108, go_sem, q0, q1, q2, q3]) rfl ⟨⟨_, rfl, ?_⟩, by rw [HS.out]; exact par_box hpN hRB _ _ _ _, grown_own hgw (below_box (Nat.le_refl _) _ _ _ _)⟩
  match gC, hvC with
  | .error e, _ => exact ⟨_, _, _, _, _, _, rfl⟩
  | .ok (cn, s4), hvC =>
    obtain ⟨zk, hz, hkz⟩ := (show NodeV wC (From wH.heap.size) _ cn from hvC)
    simp only [Value.agg.injEq] at hz
    have ez : [.int .i64 a3, .string b3, .int .i64 c3, .slice ad3 n3 cc3] = nodeV cn zk := by
      have := congrArg Array.toList hz
      simpa using this
    have hkS := ((hkz.above (above_box (R := wB.heap.size) (by show ¬ wH.heap.size ≤ wB.heap.size; omega) (.int .i64 a3) (.string b3) (.int .i64 c3) (.slice ad3 n3 cc3))).above (Above.grown (World.grownBy_alloc _ (.cells #[.int .i64 a3, .string b3, .int .i64 c3, .slice ad3 n3 cc3] 24) none) (fun k e => by cases e))).mono (M' := fun k => Off w.heap.size wB.heap.size k ∧ k ≠ wB.heap.size + 1) (fun k hk _ => by have hk' : wH.heap.size ≤ k := hk; exact ⟨⟨by omega, by omega⟩, by omega⟩)
    have hrow7 := (hrowS.alloc (.cells #[.int .i64 a3, .string b3, .int .i64 c3, .slice ad3 n3 cc3] 24)).snoc hkS (by rw [← ez]; exact O7) hg7 hor7
    have hkv : KidsV w7 (Off w.heap.size wB.heap.size) (sl g' 3 cap') [kn, bn, cn] := hrow7.kidsV (by have := (O7.lt g' rfl).1; exact ⟨by omega, by omega⟩)
    exact NodeV.mono (NodeV.above (node_val (tx := []) hkv) ((Above.grown hgN (fun k e => by injection e with e; rintro ⟨h, _⟩; omega)).trans (above_box (R := w.heap.size) (by rintro ⟨h, _⟩; omega) _ _ _ _))) (fun k hk _ => Nat.le_of_lt hk.1)
end Go.Proofs.YtkppdndbfedijadGreatDoor

/- gessoref9: statements and blocks, all of them together. -/
namespace Go.Proofs.YtkppdndbfedijadGreatDoor
open Go.RowKit

theorem stmt_reads (Q B : Nat) (v : Value) (S : Src9) (hnf : NumFit S) (st : St9)
    (hbl : ∀ s, st = .ok s → ∀ st' : St9, (∀ s', st' = .ok s' → s.tok + 1 ≤ s'.tok) → Reads9 73 (blockC S) Q B v S st') : Reads9 108 (stmtC S) Q B v S st := by
  intro w hp
  match st, hbl, hp with
  | .error e, _, hp => exact stmt_do1 Q B v S hnf (.error e) rfl rfl rfl rfl rfl rfl rfl rfl rfl rfl w hp
  | .ok s, hbl, hp =>
    have hbl := hbl s rfl
    rw [bindS_ok, stmt_eq]
    cases b0 : seesB S wVar s with
    | true => simp only [if_true]; exact stmt_wVar Q B v S hnf s b0 w hp
    | false =>
    cases b1 : seesB S wIf s with
    | true =>
      simp only [Bool.false_eq_true, if_false, if_true]
      cases hel : seesS S wElse (stOf (bindS (condT S s.step) (blockC S))) with
      | true => exact stmt_if1 Q B v S hnf s b0 b1 hbl hel w hp
      | false => exact stmt_if0 Q B v S hnf s b0 b1 hbl hel w hp
    | false =>
    cases b2 : seesB S wWhile s with
    | true => simp only [Bool.false_eq_true, if_false, if_true]; exact stmt_wWhile Q B v S hnf s b0 b1 b2 hbl w hp
    | false =>
    cases b3 : seesB S wReturn s with
    | true => simp only [Bool.false_eq_true, if_false, if_true]; exact stmt_wReturn Q B v S hnf s b0 b1 b2 b3 w hp
    | false =>
    cases b4 : seesB S wPrint s with
    | true => simp only [Bool.false_eq_true, if_false, if_true]; exact stmt_wPrint Q B v S hnf s b0 b1 b2 b3 b4 w hp
    | false =>
    cases b5 : seesB S wFork s with
    | true => simp only [Bool.false_eq_true, if_false, if_true]; exact stmt_wFork Q B v S s b0 b1 b2 b3 b4 b5 hbl w hp
    | false =>
    cases b6 : seesB S wWait s with
    | true => simp only [Bool.false_eq_true, if_false, if_true]; exact stmt_wWait Q B v S hnf s b0 b1 b2 b3 b4 b5 b6 w hp
    | false =>
    cases b7 : seesB S wSignal s with
    | true => simp only [Bool.false_eq_true, if_false, if_true]; exact stmt_wSignal Q B v S hnf s b0 b1 b2 b3 b4 b5 b6 b7 w hp
    | false =>
    cases b8 : seesB S wSwap s with
    | true => simp only [Bool.false_eq_true, if_false, if_true]; exact stmt_wSwap Q B v S hnf s b0 b1 b2 b3 b4 b5 b6 b7 b8 w hp
    | false =>
      simp only [Bool.false_eq_true, if_false]
      have e1 : nums ⟨#[61]⟩ = sSet := by decide
      cases h1 : isB S 1 s with
      | false =>
        rw [if_neg (by unfold setB; rw [h1]; simp)]
        exact stmt_do1 Q B v S hnf (.ok s) b0 b1 b2 b3 b4 b5 b6 b7 b8 h1 w hp
      | true =>
        by_cases h2 : s.tok + 1 < S.L.length
        · cases h3 : ((tokAt S.L (s.tok + 1)).2.1 == nums ⟨#[61]⟩) with
          | true =>
            rw [if_pos (by unfold setB; rw [h1, decide_eq_true h2]; rw [e1] at h3; exact h3)]
            exact stmt_set Q B v S hnf (.ok s) b0 b1 b2 b3 b4 b5 b6 b7 b8 s rfl h1 h2 h3 w hp
          | false =>
            rw [if_neg (by unfold setB; rw [h1, decide_eq_true h2]; rw [e1] at h3; intro h; rw [Bool.true_and, Bool.true_and] at h; exact absurd (h3.symm.trans h) (by decide))]
            exact stmt_do3 Q B v S hnf (.ok s) b0 b1 b2 b3 b4 b5 b6 b7 b8 s rfl h1 h2 h3 w hp
        · rw [if_neg (by unfold setB; rw [decide_eq_false h2]; simp)]
          exact stmt_do2 Q B v S hnf (.ok s) b0 b1 b2 b3 b4 b5 b6 b7 b8 s rfl h1 h2 w hp
theorem stmt_good (Q B : Nat) (v : Value) (S : Src9) (hnf : NumFit S) : ∀ (n : Nat) (s : PS), S.left s ≤ n → Reads9 108 (stmtC S) Q B v S (.ok s) := by
  intro n
  induction n with
  | zero =>
    intro s h
    refine stmt_reads Q B v S hnf (.ok s) (fun s0 e st' hs => block_reads Q B v S st' (fun s1 h1 h2 => ?_))
    cases e
    exfalso
    unfold Src9.left at h
    match st', hs, h1 with
    | .error e, _, h1 => have h1' : S.L.length + 1 ≤ s1.tok := h1; omega
    | .ok s', hs, h1 => have h1' : s'.tok + 1 ≤ s1.tok := h1; have := hs s' rfl; omega
  | succ n ih =>
    intro s h
    refine stmt_reads Q B v S hnf (.ok s) (fun s0 e st' hs => block_reads Q B v S st' (fun s1 h1 h2 => ih s1 ?_))
    cases e
    unfold Src9.left at h ⊢
    match st', hs, h1 with
    | .error e, _, h1 => have h1' : S.L.length + 1 ≤ s1.tok := h1; omega
    | .ok s', hs, h1 => have h1' : s'.tok + 1 ≤ s1.tok := h1; have := hs s' rfl; omega
theorem block_any9 (Q B : Nat) (v : Value) (S : Src9) (hnf : NumFit S) (st : St9) : Reads9 73 (blockC S) Q B v S st := block_reads Q B v S st (fun s _ _ => stmt_good Q B v S hnf _ s (Nat.le_refl _))
end Go.Proofs.YtkppdndbfedijadGreatDoor
