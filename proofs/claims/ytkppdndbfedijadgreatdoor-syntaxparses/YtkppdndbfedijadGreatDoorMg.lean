/- Several texts in one. -/
import Derived.Test.YtkppdndbfedijadGreatDoorMf
/- gessoref9: kids in a row that grows, and a block. -/
namespace Go.Proofs.YtkppdndbfedijadGreatDoor
open Go.RowKit

/-- A row of one's own of nodes that were read (or of any). -/
def Kin (w : World) (BB : Nat) (v : Value) (n : Nat) (GK : Got (List Nd)) : Prop :=
  ∃ xs, w.ownsRow BB 24 4 v n xs ∧ ∀ ks s, GK = .ok (ks, s) → ∃ l : List (Nd × Value), l.map Prod.fst = ks ∧ xs = nodesV l ∧ l.length = n ∧ ∀ z ∈ l, KidsV w (fun k => BB ≤ k ∧ v.ownBlock ≠ some k) z.2 z.1.kids
theorem Kin.nil (w : World) (BB : Nat) {g : Got (List Nd)} (h : ∀ ks s, g = .ok (ks, s) → ks = []) : Kin w BB (.slice none 0 0) 0 g := ⟨[], World.ownsRow_nil _ _ _ _, fun ks s e => ⟨[], (h ks s e).symm, rfl, rfl, fun z hz => by cases hz⟩⟩
theorem Kin.grown {w w' : World} {BB Q n : Nat} {v : Value} {GK : Got (List Nd)} (h : Kin w BB v n GK) (hg : w.grownBy w' (some Q)) (hq : Q < BB) : Kin w' BB v n GK := by
  obtain ⟨xs, ho, hk⟩ := h
  have hv : ∀ k, v.ownBlock = some k → BB ≤ k := fun k e => (ho.lt k e).1
  refine ⟨xs, ho.kept hg (Or.inr (by intro e; have := hv Q e; omega)), fun ks s e => ?_⟩
  obtain ⟨l, h1, h2, h3, h4⟩ := hk ks s e
  exact ⟨l, h1, h2, h3, fun z hz => (h4 z hz).above (Above.grown hg (fun k e => by injection e with e; rintro ⟨h, _⟩; omega))⟩
theorem Kin.alloc {w : World} {BB n : Nat} {v : Value} {GK : Got (List Nd)} (h : Kin w BB v n GK) (o : Obj) : Kin (w.alloc o) BB v n GK := by
  obtain ⟨xs, ho, hk⟩ := h
  refine ⟨xs, ho.alloc o, fun ks s e => ?_⟩
  obtain ⟨l, h1, h2, h3, h4⟩ := hk ks s e
  exact ⟨l, h1, h2, h3, fun z hz => (h4 z hz).above (Above.grown (World.grownBy_alloc _ _ none) (fun k e => by cases e))⟩
theorem Kin.below {w w' : World} {BB n : Nat} {v : Value} {GK : Got (List Nd)} (h : Kin w BB v n GK) (hb : Below w.heap.size w w') (hB : 0 < BB) : Kin w' BB v n GK := h.grown (Q := 0) (grown_below 0 hb) hB
theorem Kin.slice {w : World} {BB n : Nat} {v : Value} {GK : Got (List Nd)} (h : Kin w BB v n GK) : ∃ ad m c, v = .slice ad m c := by
  obtain ⟨xs, ho, _⟩ := h
  rcases ho.2 with ⟨rfl, _⟩ | ⟨g, cap, cur, rfl, _⟩
  · exact ⟨_, _, _, rfl⟩
  · exact ⟨_, _, _, rfl⟩
/-- One more; what was read lies from block C on, behind the row. -/
theorem Kin.more {w w' : World} {BB C n g' cap' : Nat} {v : Value} {GK GK' : Got (List Nd)} {gE : Got Nd} {a b c d : Value} {o o' : Obj} {xs : List Value}
    (hk : ∀ ks s, GK = .ok (ks, s) → ∃ l : List (Nd × Value), l.map Prod.fst = ks ∧ xs = nodesV l ∧ l.length = n ∧ ∀ z ∈ l, KidsV w (fun k => BB ≤ k ∧ v.ownBlock ≠ some k) z.2 z.1.kids)
    (hv : ValG w (From C) (.agg #[a, b, c, d]) gE) (hC : BB ≤ C) (hvC : ∀ k, v.ownBlock = some k → k < C)
    (ho : w'.ownsRow BB 24 4 (sl g' (n + 1) cap') (n + 1) (xs ++ [a, b, c, d])) (hg : ((w.alloc o).alloc o').grownBy w' v.ownBlock) (hor : v.ownBlock = some g' ∨ g' = ((w.alloc o).alloc o').heap.size)
    (hG : ∀ ks' s', GK' = .ok (ks', s') → ∃ ks s k s2, GK = .ok (ks, s) ∧ gE = .ok (k, s2) ∧ ks' = ks ++ [k]) : Kin w' BB (sl g' (n + 1) cap') (n + 1) GK' := by
  refine ⟨_, ho, fun ks' s' e => ?_⟩
  obtain ⟨ks, s, k, s2, rfl, rfl, rfl⟩ := hG ks' s' e
  obtain ⟨l, rfl, rfl, h3, h4⟩ := hk ks s rfl
  obtain ⟨x, hx, hkk⟩ := (show NodeV w (From C) (.agg #[a, b, c, d]) k from hv)
  simp only [Value.agg.injEq] at hx
  have ex : [a, b, c, d] = nodeV k x := by
    have := congrArg Array.toList hx
    simpa using this
  have h0 : ∀ z ks, KidsV w (fun j => BB ≤ j ∧ v.ownBlock ≠ some j) z ks → KidsV w' (fun j => BB ≤ j ∧ (sl g' (n + 1) cap').ownBlock ≠ some j) z ks := fun z ks hz => by
    have h1 := (hz.above (Above.grown (World.grownBy_alloc w o none) (fun k e => by cases e))).above (Above.grown (World.grownBy_alloc (w.alloc o) o' none) (fun k e => by cases e))
    have h2 := h1.mono (M' := fun j => (BB ≤ j ∧ (sl g' (n + 1) cap').ownBlock ≠ some j) ∧ v.ownBlock ≠ some j) (fun j hj hlt => ⟨⟨hj.1, fun e => by
      have e' : g' = j := by injection e
      rcases hor with h | h
      · exact hj.2 (by rw [h, e'])
      · omega⟩, hj.2⟩)
    exact (h2.above (Above.grown hg (fun j e => by rintro ⟨_, h⟩; exact h e))).mono (fun j hj _ => hj.1)
  refine ⟨l ++ [(k, x)], by simp, by rw [nodesV_snoc, ex], by simp [h3], fun z hz => ?_⟩
  rcases List.mem_append.1 hz with hz | hz
  · exact h0 _ _ (h4 z hz)
  · simp only [List.mem_singleton] at hz
    subst hz
    exact h0 _ _ (hkk.mono (fun j hj _ => by have hj' : C ≤ j := hj; exact ⟨by omega, fun e => by have := hvC j e; omega⟩))
/-- What a node of those kids is, behind what was read. -/
def ListG (kind : Int) (tx : ByteArray) (GA : Got (List Nd)) (G : Got Nd) : Prop := (∃ e, G = .error e) ∨ ∃ ks s s' x, GA = .ok (ks, s) ∧ tx = strOfNums x ∧ G = .ok (.mk kind x 0 ks, s')
theorem val_list {w w' : World} {BB n : Nat} {v : Value} {kind : Int} {tx : ByteArray} {G : Got Nd} {GK : Got (List Nd)} (hG : ListG kind tx GK G) (h : Kin w BB v n GK) (ha : Above (From BB) w w') : ValG w' (From BB) (.agg #[.int .i64 kind, .string tx, .int .i64 0, v]) G := by
  obtain ⟨ad, m, c, hv⟩ := h.slice
  rcases hG with ⟨e, rfl⟩ | ⟨ks, s, s', x, rfl, rfl, rfl⟩
  · subst hv; exact ⟨_, _, _, _, _, _, rfl⟩
  · obtain ⟨xs, ho, hk⟩ := h
    obtain ⟨l, rfl, rfl, h3, h4⟩ := hk ks s rfl
    subst h3
    exact NodeV.above (node_val (tx := x) (KidsV.of_own ho (fun k e => (ho.lt k e).1) (fun z hz => (h4 z hz).mono (fun k hk _ => hk.1)))) ha
/-- Where a loop is that reads kids. -/
structure LoopK (S : Src9) (X : PS → Got (List Nd)) (GA GK : Got (List Nd)) (lo i : Nat) : Prop where
  eq : GA = GK.then fun acc s => (X s).then fun ks s => .ok (acc ++ ks, s)
  place : ∀ ks s, GK = .ok (ks, s) → i ≤ s.tok ∧ lo ≤ s.tok ∧ s.tok ≤ S.L.length
def lowB (S : Src9) (st : St9) : Nat := match st with
  | .ok s => s.tok + 1
  | .error _ => S.L.length + 1
theorem then_err_eq {GA : Got (List Nd)} {e : Int × Int} {f : List Nd → PS → Got (List Nd)} (h : GA = Got.then (.error e) f) : GA = .error e := h
def blockG (S : Src9) (st1 : St9) : Got Nd := bindS st1 fun s => (stmtsC S s).then fun ks s => (wantP S sEnd s).then fun _ s => nodeP 6 [] 0 ks s
theorem block_bind (S : Src9) (st : St9) : bindS st (blockC S) = blockG S (stOf (bindS st (wantP S sBegin))) := by
  unfold blockG
  match st with
  | .error e => rfl
  | .ok s =>
    rw [bindS_ok, block_eq, bindS_ok]
    cases wantP S sBegin s with
    | error e => rfl
    | ok y => rfl
theorem block_list (S : Src9) (st1 : St9) : ListG 6 ⟨#[]⟩ (bindS st1 (stmtsC S)) (blockG S st1) ∧ stOf (blockG S st1) = nodeS (stOf (bindS (stOf (bindS st1 (stmtsC S))) (wantP S sEnd))) := by
  unfold blockG
  match st1 with
  | .error e => exact ⟨Or.inl ⟨_, rfl⟩, rfl⟩
  | .ok s =>
    rw [bindS_ok, bindS_ok]
    cases stmtsC S s with
    | error e => exact ⟨Or.inl ⟨_, rfl⟩, rfl⟩
    | ok y =>
      obtain ⟨ks, s1⟩ := y
      rw [then_ok, stOf_ok, bindS_ok]
      cases wantP S sEnd s1 with
      | error e => exact ⟨Or.inl ⟨_, rfl⟩, rfl⟩
      | ok z =>
        obtain ⟨⟨⟩, s2⟩ := z
        exact ⟨Or.inr ⟨ks, s1, _, [], rfl, rfl, rfl⟩, rfl⟩
theorem stmts_next {S : Src9} {GA : Got (List Nd)} {acc : List Nd} {s : PS} {lo i : Nat} (h : LoopK S (stmtsC S) GA (.ok (acc, s)) lo i) (hs : seesB S sEnd s = false) : LoopK S (stmtsC S) GA ((stmtC S s).then fun k s => .ok (acc ++ [k], s)) lo (i + 1) := by
  obtain ⟨h1, h2, h3⟩ := h.place acc s rfl
  refine ⟨?_, fun ks s' e => ?_⟩
  · rw [h.eq, then_ok, stmts_eq S s h3, if_neg (by rw [hs]; decide)]
    cases stmtC S s with
    | error e => rfl
    | ok y =>
      obtain ⟨k, s'⟩ := y
      rw [then_ok, then_ok, then_ok]
      cases stmtsC S s' with
      | error e => rfl
      | ok z =>
        obtain ⟨ks, s2⟩ := z
        simp
  · cases hx : stmtC S s with
    | error e' => rw [hx] at e; cases e
    | ok y =>
      obtain ⟨k, s2⟩ := y
      rw [hx] at e
      have := stmt_at hx
      cases e
      omega
theorem stmts_end {S : Src9} {GA : Got (List Nd)} {acc : List Nd} {s : PS} {lo i : Nat} (h : LoopK S (stmtsC S) GA (.ok (acc, s)) lo i) (hs : seesB S sEnd s = true) : GA = .ok (acc, s) := by
  obtain ⟨h1, h2, h3⟩ := h.place acc s rfl
  rw [h.eq, then_ok, stmts_eq S s h3, if_pos hs, then_ok, List.append_nil]
set_option maxRecDepth 20000 in
set_option maxHeartbeats 8000000 in
theorem block_reads (Q B : Nat) (v : Value) (S : Src9) (st : St9)
    (h1 : ∀ s : PS, lowB S st ≤ s.tok → s.tok ≤ S.L.length → Reads9 108 (stmtC S) Q B v S (.ok s)) : Reads9 73 (blockC S) Q B v S st := by
  intro w hp
  have hRB := hp.size
  have hqb := hp.qb
  have hfew := hp.few
  obtain ⟨vad, vc, hv0, _⟩ := hp.toks
  subst hv0
  have HPA : Hid (Par (w.alloc zeroN) Q B (.slice vad S.L.length vc) S st) := hp.below ((Below.refl _ w).alloc (Nat.le_refl _) _)
  have HX : Hid (Box4 (w.alloc zeroN) w.heap.size (.int .i64 0) (.string ⟨#[]⟩) (.int .i64 0) (.slice none 0 0)) := Box4.new _ _ _ _ _
  have hW1 := want_as (Q := Q) (B := B) (v := (.slice vad S.L.length vc)) (S := S) (x := ⟨#[123]⟩) (l := sBegin) (by decide) st
  have HT : Hid (∀ s1, stOf (bindS st (wantP S sBegin)) = .ok s1 → lowB S st ≤ s1.tok ∧ s1.tok ≤ S.L.length) := fun s1 e => by
    match st, e with
    | .ok s, e =>
      rw [bindS_ok] at e
      cases hw : wantP S sBegin s with
      | error e' => rw [hw] at e; cases e
      | ok y =>
        obtain ⟨⟨⟩, s2⟩ := y
        rw [hw] at e
        have := (want_fine S sBegin s).at hw
        cases e
        exact ⟨by show s.tok + 1 ≤ s1.tok; omega, by omega⟩
  rw [block_bind]
  have H1 : Hid (∀ s : PS, lowB S st ≤ s.tok → s.tok ≤ S.L.length → Reads9 108 (stmtC S) Q B (.slice vad S.L.length vc) S (.ok s)) := h1
  clear h1 hp
  generalize lowB S st = lo at HT H1
  generalize stOf (bindS st (wantP S sBegin)) = st1 at *
  have HO : Hid (ListG 6 ⟨#[]⟩ (bindS st1 (stmtsC S)) (blockG S st1) ∧ stOf (blockG S st1) = nodeS (stOf (bindS (stOf (bindS st1 (stmtsC S))) (wantP S sEnd)))) := block_list S st1
  generalize blockG S st1 = G at *
  obtain ⟨GA, HGA⟩ : ∃ GA, Hid (GA = bindS st1 (stmtsC S)) := ⟨_, rfl⟩
  rw [← HGA.out] at HO
  have hW2 := want_as (Q := Q) (B := B) (v := (.slice vad S.L.length vc)) (S := S) (x := ⟨#[125]⟩) (l := sEnd) (by decide) (stOf GA)
  have hse := fun st' w' (h' : Par w' Q B (.slice vad S.L.length vc) S st') => sees_any Q B _ S st' ⟨#[125]⟩ w' h'
  rw [show nums ⟨#[125]⟩ = sEnd by decide] at hse
  obtain ⟨GK0, HK0, HG0⟩ : ∃ GK0 : Got (List Nd), Hid (stOf GK0 = st1 ∧ (∀ ks s, GK0 = .ok (ks, s) → ks = [])) ∧ Hid (LoopK S (stmtsC S) GA GK0 lo 0) := by
    match st1, HT, HGA with
    | .error e, HT, HGA => exact ⟨.error e, ⟨rfl, fun ks s e => by cases e⟩, ⟨HGA.out, fun ks s e => by cases e⟩⟩
    | .ok s, HT, HGA => exact ⟨.ok ([], s), ⟨rfl, fun ks s e => by cases e; rfl⟩, ⟨by rw [HGA.out, bindS_ok, then_ok]; cases stmtsC S s with | error e => rfl | ok y => rfl, fun ks s' e => by cases e; have := HT.out s rfl; omega⟩⟩
  rw [← HK0.out.1] at hW1
  clear HT HGA
  go_enter Tryz.func73, Tryz.ntmps73
  go_wp2_with (first
    | (go_at_call 72; refine (hW1 _ HPA.out).mono ?_; rintro e w1 ⟨rfl, hp1, hg1⟩))
  have HP0 : Hid (Par w1 Q B (.slice vad S.L.length vc) S (stOf GK0)) := hp1
  have HR0 : Hid (Box4 w1 w.heap.size (.int .i64 0) (.string ⟨#[]⟩) (.int .i64 0) (.slice none 0 0)) := HX.out.grown hg1 (by omega)
  have HL0 : Hid (w.grownBy w1 (some Q)) := (World.grownBy_alloc w zeroN (some Q)).trans hg1
  have HN0 : Hid (Kin w1 (w.heap.size + 1) (.slice none 0 0) 0 GK0) := Kin.nil _ _ HK0.out.2
  clear hp1 hg1
  go_loopw [3, 4] (fun s3 s4 wr => ∃ (i n : Nat) (GK : Got (List Nd)), s4 = .int .i64 i ∧ i ≤ 4001 ∧ n ≤ i ∧ Hid (Par wr Q B (.slice vad S.L.length vc) S (stOf GK)) ∧ Hid (Box4 wr w.heap.size (.int .i64 0) (.string ⟨#[]⟩) (.int .i64 0) (.slice none 0 0)) ∧ Hid (w.grownBy wr (some Q)) ∧ Hid (Kin wr (w.heap.size + 1) s3 n GK) ∧ Hid (LoopK S (stmtsC S) GA GK lo i)) (fun _ s4 _ => 4002 - (intOf s4).toNat)
  case atStart => exact ⟨0, 0, GK0, rfl, by omega, by omega, HP0, HR0, HL0, HN0, HG0⟩
  case round =>
    clear HP0 HR0 HL0 HN0 HG0 HK0
    obtain ⟨i, n, GK, rfl, hi, hn, HPF, HRF, HGF, HKF, HL⟩ := hrel
    obtain ⟨ad3, m3, c3, hs3⟩ := HKF.out.slice
    subst hs3
    match GK, HPF, HKF, HL with
    | .error (ec, ea), HPF, HKF, HL =>
      obtain ⟨tok, deep, many, fc, fa, ho, hf⟩ := HPF.out.obj
      obtain ⟨k0, _, _, _, _, k5, _⟩ := ho.cells
      obtain ⟨rfl, rfl, hfc⟩ := hf
      have hcb : (fc == 0) = false := by simpa using hfc
      have hGA : GA = .error (fc, fa) := HL.out.eq
      rw [← hGA] at HKF HPF
      clear ho hGA HL
      by_cases hil : (i : Int) ≤ (S.L.length : Int)
      · go_wp2_with (first
          | (go_at_call_of 72 (Value.string ⟨#[125]⟩); refine (hW2 _ HPF.out).mono ?_; rintro e wA ⟨rfl, hpA, hgA⟩)
          | (go_at_call 74; refine (node_any Q B _ S _ _ _ _ ⟨_, _, _, rfl⟩ _ hpA).mono ?_; rintro e wB ⟨rfl, hpB, hgB⟩; have hgAB := hgA.trans hgB; obtain ⟨⟨x0, x1, x2, x3⟩, f0, f1, f2, f3⟩ := (HRF.out.grown hgAB (by omega)).facts))
        have hgw : w.grownBy wB (some Q) := HGF.out.trans hgAB
        refine bodyPost_ret (v := .agg #[.int .i64 6, .string ⟨#[]⟩, .int .i64 0, .slice ad3 m3 c3]) (by simp [results, Tryz.results73, go_sem, x0, x1, x2, x3]) rfl ⟨⟨_, rfl, ?_⟩, by rw [HO.out.2]; exact par_box hpB hRB _ _ _ _, grown_own hgw (below_box (Nat.le_refl _) _ _ _ _)⟩
        exact (val_list HO.out.1 HKF.out ((Above.grown hgAB (fun k e => by injection e with e; show ¬ w.heap.size + 1 ≤ k; omega)).trans (above_box (R := w.heap.size) (by show ¬ w.heap.size + 1 ≤ w.heap.size; omega) _ _ _ _))).mono (fun k hk _ => by have hk' : w.heap.size + 1 ≤ k := hk; show w.heap.size ≤ k; omega)
      · go_wp2_with (first
          | (go_at_call_of 72 (Value.string ⟨#[125]⟩); refine (hW2 _ HPF.out).mono ?_; rintro e wA ⟨rfl, hpA, hgA⟩)
          | (go_at_call 74; refine (node_any Q B _ S _ _ _ _ ⟨_, _, _, rfl⟩ _ hpA).mono ?_; rintro e wB ⟨rfl, hpB, hgB⟩; have hgAB := hgA.trans hgB; obtain ⟨⟨x0, x1, x2, x3⟩, f0, f1, f2, f3⟩ := (HRF.out.grown hgAB (by omega)).facts))
        have hgw : w.grownBy wB (some Q) := HGF.out.trans hgAB
        refine bodyPost_ret (v := .agg #[.int .i64 6, .string ⟨#[]⟩, .int .i64 0, .slice ad3 m3 c3]) (by simp [results, Tryz.results73, go_sem, x0, x1, x2, x3]) rfl ⟨⟨_, rfl, ?_⟩, by rw [HO.out.2]; exact par_box hpB hRB _ _ _ _, grown_own hgw (below_box (Nat.le_refl _) _ _ _ _)⟩
        exact (val_list HO.out.1 HKF.out ((Above.grown hgAB (fun k e => by injection e with e; show ¬ w.heap.size + 1 ≤ k; omega)).trans (above_box (R := w.heap.size) (by show ¬ w.heap.size + 1 ≤ w.heap.size; omega) _ _ _ _))).mono (fun k hk _ => by have hk' : w.heap.size + 1 ≤ k := hk; show w.heap.size ≤ k; omega)
    | .ok (acc, s), HPF, HKF, HL =>
      obtain ⟨many, ho, _, _, _, _⟩ := HPF.out.ok
      obtain ⟨k0, _, _, _, _, k5, _⟩ := ho.cells
      obtain ⟨hi1, hlo1, hle1⟩ := HL.out.place acc s rfl
      have hil : (i : Int) ≤ (S.L.length : Int) := by omega
      have hwi := wrap_id (x := (i : Int) + 1) (by omega) (by omega)
      clear ho
      have hse0 := hse (.ok s)
      rw [show seesS S sEnd (.ok s) = seesB S sEnd s from rfl] at hse0
      clear hse
      cases hs : seesB S sEnd s with
      | true =>
        rw [hs] at hse0
        have hGA : GA = .ok (acc, s) := stmts_end HL.out hs
        have hPx : Hid (Par wr Q B (.slice vad S.L.length vc) S (.ok s)) := HPF
        rw [← hGA] at HKF HPF
        have HST : Hid (stOf GA = .ok s) := by show _ = _; rw [hGA]; rfl
        clear hs HL hGA
        have HRG := HRF
        have HGG := HGF
        have HKG := HKF
        clear HPF HRF HGF HKF
        go_wp2_with (first
          | (go_at_call 70; refine (hse0 _ hPx.out).mono ?_; rintro e w2 ⟨rfl, hb2⟩; have HPF : Hid (Par w2 Q B (.slice vad S.L.length vc) S (stOf GA)) := (by show Par w2 Q B _ S (stOf GA); rw [HST.out]; exact hPx.out.below hb2); have HRF : Hid (Box4 w2 w.heap.size (.int .i64 0) (.string ⟨#[]⟩) (.int .i64 0) (.slice none 0 0)) := (HRG.out.grown (grown_below Q hb2) (by omega)); have HGF : Hid (w.grownBy w2 (some Q)) := (HGG.out.trans (grown_below Q hb2)); have HKF : Hid (Kin w2 (w.heap.size + 1) (.slice ad3 m3 c3) n GA) := (HKG.out.below hb2 (by omega)))
          | (go_at_call_of 72 (Value.string ⟨#[125]⟩); refine (hW2 _ HPF.out).mono ?_; rintro e wA ⟨rfl, hpA, hgA⟩)
          | (go_at_call 74; refine (node_any Q B _ S _ _ _ _ ⟨_, _, _, rfl⟩ _ hpA).mono ?_; rintro e wB ⟨rfl, hpB, hgB⟩; have hgAB := hgA.trans hgB; obtain ⟨⟨x0, x1, x2, x3⟩, f0, f1, f2, f3⟩ := (HRF.out.grown hgAB (by omega)).facts))
        have hgw : w.grownBy wB (some Q) := HGF.out.trans hgAB
        refine bodyPost_ret (v := .agg #[.int .i64 6, .string ⟨#[]⟩, .int .i64 0, .slice ad3 m3 c3]) (by simp [results, Tryz.results73, go_sem, x0, x1, x2, x3]) rfl ⟨⟨_, rfl, ?_⟩, by rw [HO.out.2]; exact par_box hpB hRB _ _ _ _, grown_own hgw (below_box (Nat.le_refl _) _ _ _ _)⟩
        exact (val_list HO.out.1 HKF.out ((Above.grown hgAB (fun k e => by injection e with e; show ¬ w.heap.size + 1 ≤ k; omega)).trans (above_box (R := w.heap.size) (by show ¬ w.heap.size + 1 ≤ w.heap.size; omega) _ _ _ _))).mono (fun k hk _ => by have hk' : w.heap.size + 1 ≤ k := hk; show w.heap.size ≤ k; omega)
      | false =>
        rw [hs] at hse0
        have HLN : Hid (LoopK S (stmtsC S) GA ((stmtC S s).then fun k s => .ok (acc ++ [k], s)) lo (i + 1)) := stmts_next HL.out hs
        have hst := H1.out s hlo1 hle1
        unfold Reads9 at hst
        rw [bindS_ok] at hst
        clear hs HL
        generalize stmtC S s = gE at *
        have hszr := HRF.out.lt
        go_wp2_with (first
          | (go_at_call 70; refine (hse0 _ HPF.out).mono ?_; rintro e w2 ⟨rfl, hb2⟩; have hp2 := Par.below HPF.out hb2; have hsz2 := hb2.size)
          | (go_at_call 108; refine (hst _ hp2).mono ?_; rintro e w6 ⟨⟨u, rfl, hv⟩, hp6, hg6⟩; obtain ⟨a', b', c', ad', n', cc', hu'⟩ := hv.any; subst hu'; have hK2 := HKF.out.below hb2 (by omega); have hlt2 : ∀ k, Value.ownBlock (.slice ad3 m3 c3) = some k → w.heap.size + 1 ≤ k ∧ k < w2.heap.size := (by obtain ⟨_, O2, _⟩ := hK2; exact O2.lt); obtain ⟨xs, O6, hk6⟩ := hK2.grown hg6 (by omega); have hsz6 := hg6.size)
          | (at_builtin; refine wpList_append_whereN nodeE rfl (.tmp 31) (.tmp 33) rfl (w.heap.size + 1) n 1 (.slice ad3 m3 c3) xs [.int .i64 a', .string b', .int .i64 c', .slice ad' n' cc'] rfl ((O6.alloc (.cells #[.int .i64 a', .string b', .int .i64 c', .slice ad' n' cc'] 24)).alloc (.cells #[.int .i64 a', .string b', .int .i64 c', .slice ad' n' cc'] 24)) ⟨w6.heap.size + 1, 0, none⟩ rfl rfl (four_new _ _ _ _ _ _ _) (four_one _ _ _ _ _ _) (by omega) (by simp; omega) ?_; intro g' cap' w7 O7 hg7 hor7))
        have hb7 : Below B w6 w7 := (below_two w6 (.cells #[.int .i64 a', .string b', .int .i64 c', .slice ad' n' cc'] 24) (.cells #[.int .i64 a', .string b', .int .i64 c', .slice ad' n' cc'] 24) (by omega)).grown hg7 (by simp; omega) (fun k e => by have := (hlt2 k e).1; omega)
        have hb7' : Below (w.heap.size + 1) w6 w7 := (below_two w6 (.cells #[.int .i64 a', .string b', .int .i64 c', .slice ad' n' cc'] 24) (.cells #[.int .i64 a', .string b', .int .i64 c', .slice ad' n' cc'] 24) (by omega)).grown hg7 (by simp; omega) (fun k e => (hlt2 k e).1)
        have hK7 := Kin.more (GK' := gE.then fun k s => .ok (acc ++ [k], s)) hk6 hv (by omega) (fun k e => (hlt2 k e).2) O7 hg7 hor7 (fun ks' s' e => by
          match gE, e with
          | .ok (k, s2), e => cases e; exact ⟨acc, s, k, _, rfl, rfl, rfl⟩)
        have hst7 : stOf (gE.then fun k s => (.ok (acc ++ [k], s) : Got (List Nd))) = stOf gE := by
          match gE with
          | .ok (k, s2) => rfl
          | .error e => rfl
        refine ⟨⟨i + 1, n + 1, gE.then fun k s => .ok (acc ++ [k], s), by simp, by omega, by omega, by rw [hst7]; exact hp6.apart hb7, ?_, ?_, hK7, HLN⟩, by simp [intOf]; omega⟩
        · exact (hb7'.block w.heap.size (by omega)).trans ((HRF.out.grown (grown_below Q hb2) (by omega)).grown hg6 (by omega))
        · exact grown_own ((HGF.out.trans (grown_below Q hb2)).trans hg6) (hb7'.mono (by omega))
end Go.Proofs.YtkppdndbfedijadGreatDoor

/- gessoref9: some: expressions in parentheses. -/
namespace Go.Proofs.YtkppdndbfedijadGreatDoor
open Go.RowKit

/-- So many expressions, behind '('. -/
def someK (S : Src9) (st1 : St9) : Nat → Got (List Nd)
  | 0 => bindS st1 fun s => .ok ([], s)
  | n + 1 => (someK S st1 n).then fun acc s => (if n = 0 then .ok ((), s) else wantP S sComma s).then fun _ s => (exprC S s).then fun k s => .ok (acc ++ [k], s)
def someG (S : Src9) (kind : Int) (st1 : St9) (n : Nat) : Got Nd := (someK S st1 n).then fun ks s => (wantP S sShut s).then fun _ s => (wantP S sSemi s).then fun _ s => nodeP kind [] 0 ks s
/-- Where the next expression is read. -/
def someS (S : Src9) (st1 : St9) (n : Nat) : St9 := if n = 0 then stOf (someK S st1 n) else stOf (bindS (stOf (someK S st1 n)) (wantP S sComma))
theorem someK_next (S : Src9) (st1 : St9) (n : Nat) : stOf (someK S st1 (n + 1)) = stOf (bindS (someS S st1 n) (exprC S)) ∧ ∀ ks' s', someK S st1 (n + 1) = .ok (ks', s') → ∃ ks s k s2, someK S st1 n = .ok (ks, s) ∧ bindS (someS S st1 n) (exprC S) = .ok (k, s2) ∧ ks' = ks ++ [k] := by
  unfold someS
  rw [someK]
  cases someK S st1 n with
  | error e =>
    by_cases h0 : n = 0
    · rw [if_pos h0]; exact ⟨rfl, fun _ _ e => by cases e⟩
    · rw [if_neg h0]; exact ⟨rfl, fun _ _ e => by cases e⟩
  | ok y =>
    obtain ⟨acc, s⟩ := y
    by_cases h0 : n = 0
    · simp only [if_pos h0, then_ok, stOf_ok, bindS_ok]
      cases exprC S s with
      | error e => exact ⟨rfl, fun _ _ e => by cases e⟩
      | ok z => obtain ⟨k, s2⟩ := z; exact ⟨rfl, fun _ _ e => by cases e; exact ⟨acc, s, k, _, rfl, rfl, rfl⟩⟩
    · simp only [if_neg h0, then_ok, stOf_ok, bindS_ok]
      cases wantP S sComma s with
      | error e => exact ⟨rfl, fun _ _ e => by cases e⟩
      | ok z =>
        obtain ⟨⟨⟩, s1⟩ := z
        simp only [then_ok, stOf_ok, bindS_ok]
        cases exprC S s1 with
        | error e => exact ⟨rfl, fun _ _ e => by cases e⟩
        | ok z => obtain ⟨k, s2⟩ := z; exact ⟨rfl, fun _ _ e => by cases e; exact ⟨acc, s, k, _, rfl, rfl, rfl⟩⟩
theorem some_list (S : Src9) (kind : Int) (st1 : St9) (n : Nat) : ListG kind ⟨#[]⟩ (someK S st1 n) (someG S kind st1 n) ∧ stOf (someG S kind st1 n) = nodeS (stOf (bindS (stOf (bindS (stOf (someK S st1 n)) (wantP S sShut))) (wantP S sSemi))) := by
  unfold someG
  cases someK S st1 n with
  | error e => exact ⟨Or.inl ⟨_, rfl⟩, rfl⟩
  | ok y =>
    obtain ⟨ks, s⟩ := y
    simp only [then_ok, stOf_ok, bindS_ok]
    cases wantP S sShut s with
    | error e => exact ⟨Or.inl ⟨_, rfl⟩, rfl⟩
    | ok z =>
      obtain ⟨⟨⟩, s1⟩ := z
      simp only [then_ok, stOf_ok, bindS_ok]
      cases wantP S sSemi s1 with
      | error e => exact ⟨Or.inl ⟨_, rfl⟩, rfl⟩
      | ok z => obtain ⟨⟨⟩, s2⟩ := z; exact ⟨Or.inr ⟨ks, s, _, [], rfl, rfl, rfl⟩, rfl⟩
theorem one_bind (S : Src9) (kind : Int) (st : St9) : bindS st (oneC S kind) = someG S kind (stOf (bindS st (wantP S sOpen))) 1 := by
  unfold someG
  match st with
  | .error e => rfl
  | .ok s =>
    rw [bindS_ok, oneC, bindS_ok]
    cases wantP S sOpen s with
    | error e => rfl
    | ok z =>
      obtain ⟨⟨⟩, s1⟩ := z
      show _ = Got.then (Got.then (exprC S s1) _) _
      rw [then_ok]
      cases exprC S s1 with
      | error e => rfl
      | ok z => rfl
theorem two_bind (S : Src9) (kind : Int) (st : St9) : bindS st (twoC S kind) = someG S kind (stOf (bindS st (wantP S sOpen))) 2 := by
  unfold someG
  match st with
  | .error e => rfl
  | .ok s =>
    rw [bindS_ok, twoC, bindS_ok]
    cases wantP S sOpen s with
    | error e => rfl
    | ok z =>
      obtain ⟨⟨⟩, s1⟩ := z
      show _ = Got.then (Got.then (Got.then (exprC S s1) _) _) _
      rw [then_ok]
      cases exprC S s1 with
      | error e => rfl
      | ok z =>
        obtain ⟨k, s2⟩ := z
        show _ = Got.then (Got.then (wantP S sComma s2) _) _
        rw [then_ok]
        cases wantP S sComma s2 with
        | error e => rfl
        | ok z =>
          obtain ⟨⟨⟩, s3⟩ := z
          show _ = Got.then (Got.then (exprC S s3) _) _
          rw [then_ok]
          cases exprC S s3 with
          | error e => rfl
          | ok z => rfl
set_option maxRecDepth 20000 in
set_option maxHeartbeats 8000000 in
theorem some_any9 (Q B : Nat) (v : Value) (S : Src9) (hnf : NumFit S) (kind : Int) (many : Nat) (hm : many ≤ 1000) (st : St9) (w : World) (hp : Par w Q B v S st) :
    Calls Tryz.prog 150 #[.pointer (some ⟨Q, 0, none⟩), .int .i64 kind, .int .i64 many] w fun e w' => (∃ u, e = .returned u ∧ ValG w' (From w.heap.size) u (someG S kind (stOf (bindS st (wantP S sOpen))) many)) ∧ Par w' Q B v S (stOf (someG S kind (stOf (bindS st (wantP S sOpen))) many)) ∧ w.grownBy w' (some Q) := by
  have hRB := hp.size
  have hqb := hp.qb
  have HPA : Hid (Par (w.alloc zeroN) Q B v S st) := hp.below ((Below.refl _ w).alloc (Nat.le_refl _) _)
  have HX : Hid (Box4 (w.alloc zeroN) w.heap.size (.int .i64 0) (.string ⟨#[]⟩) (.int .i64 0) (.slice none 0 0)) := Box4.new _ _ _ _ _
  have hW1 := want_as (Q := Q) (B := B) (v := v) (S := S) (x := ⟨#[40]⟩) (l := sOpen) (by decide) st
  generalize stOf (bindS st (wantP S sOpen)) = st1 at *
  have HO : Hid (ListG kind ⟨#[]⟩ (someK S st1 many) (someG S kind st1 many) ∧ stOf (someG S kind st1 many) = nodeS (stOf (bindS (stOf (bindS (stOf (someK S st1 many)) (wantP S sShut))) (wantP S sSemi)))) := some_list S kind st1 many
  generalize someG S kind st1 many = G at *
  have hW2 := want_as (Q := Q) (B := B) (v := v) (S := S) (x := ⟨#[41]⟩) (l := sShut) (by decide) (stOf (someK S st1 many))
  have hW3 := want_as (Q := Q) (B := B) (v := v) (S := S) (x := ⟨#[59]⟩) (l := sSemi) (by decide) (stOf (bindS (stOf (someK S st1 many)) (wantP S sShut)))
  have HK0 : Hid (stOf (someK S st1 0) = st1 ∧ ∀ ks s, someK S st1 0 = .ok (ks, s) → ks = []) := by
    show _ ∧ _
    rw [someK]
    match st1 with
    | .error e => exact ⟨rfl, fun _ _ e => by cases e⟩
    | .ok s => exact ⟨rfl, fun _ _ e => by cases e; rfl⟩
  have HXX : Hid (∀ st', Reads9 149 (exprC S) Q B v S st') := expr_any Q B v S hnf
  clear hp
  go_enter Tryz.func150, Tryz.ntmps150
  go_wp2_with (first
    | (go_at_call 72; refine (hW1 _ HPA.out).mono ?_; rintro e w1 ⟨rfl, hp1, hg1⟩))
  have HP0 : Hid (Par w1 Q B v S (stOf (someK S st1 0))) := by show Par _ _ _ _ _ _; rw [HK0.out.1]; exact hp1
  have HR0 : Hid (Box4 w1 w.heap.size (.int .i64 0) (.string ⟨#[]⟩) (.int .i64 0) (.slice none 0 0)) := HX.out.grown hg1 (by omega)
  have HL0 : Hid (w.grownBy w1 (some Q)) := (World.grownBy_alloc w zeroN (some Q)).trans hg1
  have HN0 : Hid (Kin w1 (w.heap.size + 1) (.slice none 0 0) 0 (someK S st1 0)) := Kin.nil _ _ HK0.out.2
  clear hp1 hg1 hW1
  go_loopw [7, 8] (fun s7 s8 wr => ∃ (i : Nat), s8 = .int .i64 i ∧ i ≤ many ∧ Hid (Par wr Q B v S (stOf (someK S st1 i))) ∧ Hid (Box4 wr w.heap.size (.int .i64 0) (.string ⟨#[]⟩) (.int .i64 0) (.slice none 0 0)) ∧ Hid (w.grownBy wr (some Q)) ∧ Hid (Kin wr (w.heap.size + 1) s7 i (someK S st1 i))) (fun _ s8 _ => 1002 - (intOf s8).toNat)
  case atStart => exact ⟨0, rfl, by omega, HP0, HR0, HL0, HN0⟩
  case round =>
    clear HP0 HR0 HL0 HN0 HK0
    obtain ⟨i, rfl, hi, HPF, HRF, HGF, HKF⟩ := hrel
    obtain ⟨ad3, m3, c3, hs3⟩ := HKF.out.slice
    subst hs3
    have hszr := HRF.out.lt
    have hwi := wrap_id (x := (i : Int) + 1) (by omega) (by omega)
    by_cases him : i = many
    · subst him
      have him' : ¬ (i : Int) < (i : Int) := by omega
      go_wp2_with (first
        | (go_at_call_of 72 (Value.string ⟨#[41]⟩); refine (hW2 _ HPF.out).mono ?_; rintro e wA ⟨rfl, hpA, hgA⟩)
        | (go_at_call_of 72 (Value.string ⟨#[59]⟩); refine (hW3 _ hpA).mono ?_; rintro e wC ⟨rfl, hpC, hgC⟩; have hgAC := hgA.trans hgC)
        | (go_at_call 74; refine (node_any Q B _ S _ _ _ _ ⟨_, _, _, rfl⟩ _ hpC).mono ?_; rintro e wB ⟨rfl, hpB, hgB⟩; have hgAB := hgAC.trans hgB; obtain ⟨⟨x0, x1, x2, x3⟩, f0, f1, f2, f3⟩ := (HRF.out.grown hgAB (by omega)).facts))
      have hgw : w.grownBy wB (some Q) := HGF.out.trans hgAB
      refine bodyPost_ret (v := .agg #[.int .i64 kind, .string ⟨#[]⟩, .int .i64 0, .slice ad3 m3 c3]) (by simp [results, Tryz.results150, go_sem, x0, x1, x2, x3]) rfl ⟨⟨_, rfl, ?_⟩, by rw [HO.out.2]; exact par_box hpB hRB _ _ _ _, grown_own hgw (below_box (Nat.le_refl _) _ _ _ _)⟩
      exact (val_list HO.out.1 HKF.out ((Above.grown hgAB (fun k e => by injection e with e; show ¬ w.heap.size + 1 ≤ k; omega)).trans (above_box (R := w.heap.size) (by show ¬ w.heap.size + 1 ≤ w.heap.size; omega) _ _ _ _))).mono (fun k hk _ => by have hk' : w.heap.size + 1 ≤ k := hk; show w.heap.size ≤ k; omega)
    · have him' : (i : Int) < (many : Int) := by omega
      have HNX : Hid (stOf (someK S st1 (i + 1)) = stOf (bindS (someS S st1 i) (exprC S)) ∧ ∀ ks' s', someK S st1 (i + 1) = .ok (ks', s') → ∃ ks s k s2, someK S st1 i = .ok (ks, s) ∧ bindS (someS S st1 i) (exprC S) = .ok (k, s2) ∧ ks' = ks ++ [k]) := someK_next S st1 i
      have hst := HXX.out (someS S st1 i)
      unfold Reads9 at hst
      by_cases h0 : i = 0
      · have h0' : ¬ (0 : Int) < (i : Int) := by omega
        have HPS : Hid (Par wr Q B v S (someS S st1 i)) := by show Par _ _ _ _ _ _; rw [someS, if_pos h0]; exact HPF.out
        clear h0
        generalize bindS (someS S st1 i) (exprC S) = gE at *
        generalize someS S st1 i = stc at *
        clear HO hW2 hW3 HXX
        go_wp2_with (first
          | (go_at_call 149; refine (hst _ HPS.out).mono ?_; rintro e w6 ⟨⟨u, rfl, hv⟩, hp6, hg6⟩; obtain ⟨a', b', c', ad', n', cc', hu'⟩ := hv.any; subst hu'; have hlt2 : ∀ k, Value.ownBlock (.slice ad3 m3 c3) = some k → w.heap.size + 1 ≤ k ∧ k < wr.heap.size := (by obtain ⟨_, O2, _⟩ := HKF.out; exact O2.lt); obtain ⟨xs, O6, hk6⟩ := HKF.out.grown hg6 (by omega); have hsz6 := hg6.size)
          | (at_builtin; refine wpList_append_whereN nodeE rfl (.tmp 23) (.tmp 25) rfl (w.heap.size + 1) i 1 (.slice ad3 m3 c3) xs [.int .i64 a', .string b', .int .i64 c', .slice ad' n' cc'] rfl ((O6.alloc (.cells #[.int .i64 a', .string b', .int .i64 c', .slice ad' n' cc'] 24)).alloc (.cells #[.int .i64 a', .string b', .int .i64 c', .slice ad' n' cc'] 24)) ⟨w6.heap.size + 1, 0, none⟩ rfl rfl (four_new _ _ _ _ _ _ _) (four_one _ _ _ _ _ _) (by omega) (by simp; omega) ?_; intro g' cap' w7 O7 hg7 hor7))
        have hb7 : Below B w6 w7 := (below_two w6 (.cells #[.int .i64 a', .string b', .int .i64 c', .slice ad' n' cc'] 24) (.cells #[.int .i64 a', .string b', .int .i64 c', .slice ad' n' cc'] 24) (by omega)).grown hg7 (by simp; omega) (fun k e => by have := (hlt2 k e).1; omega)
        have hb7' : Below (w.heap.size + 1) w6 w7 := (below_two w6 (.cells #[.int .i64 a', .string b', .int .i64 c', .slice ad' n' cc'] 24) (.cells #[.int .i64 a', .string b', .int .i64 c', .slice ad' n' cc'] 24) (by omega)).grown hg7 (by simp; omega) (fun k e => (hlt2 k e).1)
        have hK7 := Kin.more (GK' := someK S st1 (i + 1)) hk6 hv (by omega) (fun k e => (hlt2 k e).2) O7 hg7 hor7 HNX.out.2
        refine ⟨⟨i + 1, by simp, by omega, by rw [HNX.out.1]; exact hp6.apart hb7, ?_, ?_, hK7⟩, by simp [intOf]; omega⟩
        · exact (hb7'.block w.heap.size (by omega)).trans (HRF.out.grown hg6 (by omega))
        · exact grown_own (HGF.out.trans hg6) (hb7'.mono (by omega))
      · have h0' : (0 : Int) < (i : Int) := by omega
        have hWC := want_as (Q := Q) (B := B) (v := v) (S := S) (x := ⟨#[44]⟩) (l := sComma) (by decide) (stOf (someK S st1 i))
        have hss : someS S st1 i = stOf (bindS (stOf (someK S st1 i)) (wantP S sComma)) := by rw [someS, if_neg h0]
        rw [← hss] at hWC
        clear hss
        generalize bindS (someS S st1 i) (exprC S) = gE at *
        generalize someS S st1 i = stc at *
        clear HO hW2 hW3 HXX
        go_wp2_with (first
          | (go_at_call 72; refine (hWC _ HPF.out).mono ?_; rintro e w2 ⟨rfl, hp2, hg2⟩; have hsz2 := hg2.size)
          | (go_at_call 149; refine (hst _ hp2).mono ?_; rintro e w6 ⟨⟨u, rfl, hv⟩, hp6, hgy⟩; have hg6 := hg2.trans hgy; obtain ⟨a', b', c', ad', n', cc', hu'⟩ := hv.any; subst hu'; have hlt2 : ∀ k, Value.ownBlock (.slice ad3 m3 c3) = some k → w.heap.size + 1 ≤ k ∧ k < wr.heap.size := (by obtain ⟨_, O2, _⟩ := HKF.out; exact O2.lt); obtain ⟨xs, O6, hk6⟩ := HKF.out.grown hg6 (by omega); have hsz6 := hg6.size)
          | (at_builtin; refine wpList_append_whereN nodeE rfl (.tmp 23) (.tmp 25) rfl (w.heap.size + 1) i 1 (.slice ad3 m3 c3) xs [.int .i64 a', .string b', .int .i64 c', .slice ad' n' cc'] rfl ((O6.alloc (.cells #[.int .i64 a', .string b', .int .i64 c', .slice ad' n' cc'] 24)).alloc (.cells #[.int .i64 a', .string b', .int .i64 c', .slice ad' n' cc'] 24)) ⟨w6.heap.size + 1, 0, none⟩ rfl rfl (four_new _ _ _ _ _ _ _) (four_one _ _ _ _ _ _) (by omega) (by simp; omega) ?_; intro g' cap' w7 O7 hg7 hor7))
        have hb7 : Below B w6 w7 := (below_two w6 (.cells #[.int .i64 a', .string b', .int .i64 c', .slice ad' n' cc'] 24) (.cells #[.int .i64 a', .string b', .int .i64 c', .slice ad' n' cc'] 24) (by omega)).grown hg7 (by simp; omega) (fun k e => by have := (hlt2 k e).1; omega)
        have hb7' : Below (w.heap.size + 1) w6 w7 := (below_two w6 (.cells #[.int .i64 a', .string b', .int .i64 c', .slice ad' n' cc'] 24) (.cells #[.int .i64 a', .string b', .int .i64 c', .slice ad' n' cc'] 24) (by omega)).grown hg7 (by simp; omega) (fun k e => (hlt2 k e).1)
        have hK7 := Kin.more (GK' := someK S st1 (i + 1)) hk6 hv (by omega) (fun k e => by have := (hlt2 k e).2; omega) O7 hg7 hor7 HNX.out.2
        refine ⟨⟨i + 1, by simp, by omega, by rw [HNX.out.1]; exact hp6.apart hb7, ?_, ?_, hK7⟩, by simp [intOf]; omega⟩
        · exact (hb7'.block w.heap.size (by omega)).trans (HRF.out.grown hg6 (by omega))
        · exact grown_own (HGF.out.trans hg6) (hb7'.mono (by omega))
end Go.Proofs.YtkppdndbfedijadGreatDoor

/- gessoref9: statements that hand on. -/
namespace Go.Proofs.YtkppdndbfedijadGreatDoor
open Go.RowKit

set_option maxHeartbeats 4000000 in
theorem stmt_wVar (Q B : Nat) (v : Value) (S : Src9) (hnf : NumFit S) (s : PS) (b0 : seesB S wVar s = true) (w : World) (hp : Par w Q B v S (.ok s)) : Calls Tryz.prog 108 #[.pointer (some ⟨Q, 0, none⟩)] w fun e w' => (∃ u, e = .returned u ∧ ValG w' (From w.heap.size) u (withC S 7 s.step)) ∧ Par w' Q B v S (stOf (withC S 7 s.step)) ∧ w.grownBy w' (some Q) := by
  have hRB := hp.size
  have hqb := hp.qb
  have HPA : Hid (Par (w.alloc zeroN) Q B v S (.ok s)) := hp.below ((Below.refl _ w).alloc (Nat.le_refl _) _)
  have HX : Hid (Box4 (w.alloc zeroN) w.heap.size (.int .i64 0) (.string ⟨#[]⟩) (.int .i64 0) (.slice none 0 0)) := Box4.new _ _ _ _ _
  have hB0 := begins_yes (Q := Q) (B := B) (v := v) (S := S) (s := s) (x := ⟨#[118, 97, 114]⟩) (l := wVar) (by decide) b0
  clear b0 hp
  have hc : ∀ w', Par w' Q B v S (.ok s.step) → Calls Tryz.prog 148 #[.pointer (some ⟨Q, 0, none⟩), .int .i64 7] w' fun e w'' => (∃ u, e = .returned u ∧ ValG w'' (From w'.heap.size) u (withC S 7 s.step)) ∧ Par w'' Q B v S (stOf (withC S 7 s.step)) ∧ w'.grownBy w'' (some Q) := fun w' h' => with_any9 Q B v S hnf 7 (.ok s.step) w' h'
  generalize (withC S 7 s.step) = G at *
  go_enter Tryz.func108, Tryz.ntmps108
  go_wp2_with (first
    | (go_at_call_of 147 (Value.string ⟨#[118, 97, 114]⟩); refine (hB0 _ HPA.out).mono ?_; rintro e w1 ⟨rfl, hp1, hgx⟩; have hg1 : (w.alloc zeroN).grownBy w1 (some Q) := hgx; clear hB0 hgx)
    | (go_at_call 148; refine (hc _ hp1).mono ?_; rintro e wE ⟨⟨u, rfl, hv⟩, hpE, hgE⟩; obtain ⟨a, b, c, ad, n, cc, hu'⟩ := hv.any; subst hu'; have hgF := hg1.trans hgE; obtain ⟨⟨q0, q1, q2, q3⟩, _⟩ := (HX.out.grown hgF (by omega)).facts; obtain ⟨_, s0, s1, s2, s3⟩ := (HX.out.grown hgF (by omega)).facts))
  have hgw : w.grownBy wE (some Q) := (World.grownBy_alloc w zeroN (some Q)).trans hgF
  have sz : w.heap.size < w1.heap.size := by have := hg1.size; simp at this; omega
  refine bodyPost_ret (v := .agg #[.int .i64 a, .string b, .int .i64 c, .slice ad n cc]) (by simp [results, Tryz.results108, go_sem, q0, q1, q2, q3]) rfl ⟨⟨_, rfl, ?_⟩, par_box hpE hRB _ _ _ _, grown_own hgw (below_box (Nat.le_refl _) _ _ _ _)⟩
  exact (hv.above (above_box (R := w.heap.size) (by show ¬ w1.heap.size ≤ w.heap.size; omega) _ _ _ _)).mono (fun k hk _ => by have hk' : w1.heap.size ≤ k := hk; show w.heap.size ≤ k; omega)
set_option maxHeartbeats 4000000 in
theorem stmt_wPrint (Q B : Nat) (v : Value) (S : Src9) (hnf : NumFit S) (s : PS) (b0 : seesB S wVar s = false) (b1 : seesB S wIf s = false) (b2 : seesB S wWhile s = false) (b3 : seesB S wReturn s = false) (b4 : seesB S wPrint s = true) (w : World) (hp : Par w Q B v S (.ok s)) : Calls Tryz.prog 108 #[.pointer (some ⟨Q, 0, none⟩)] w fun e w' => (∃ u, e = .returned u ∧ ValG w' (From w.heap.size) u (oneC S 12 s.step)) ∧ Par w' Q B v S (stOf (oneC S 12 s.step)) ∧ w.grownBy w' (some Q) := by
  have hRB := hp.size
  have hqb := hp.qb
  have HPA : Hid (Par (w.alloc zeroN) Q B v S (.ok s)) := hp.below ((Below.refl _ w).alloc (Nat.le_refl _) _)
  have HX : Hid (Box4 (w.alloc zeroN) w.heap.size (.int .i64 0) (.string ⟨#[]⟩) (.int .i64 0) (.slice none 0 0)) := Box4.new _ _ _ _ _
  have hB0 := begins_no (Q := Q) (B := B) (v := v) (S := S) (st := .ok s) (x := ⟨#[118, 97, 114]⟩) (l := wVar) (by decide) b0
  have hB1 := begins_no (Q := Q) (B := B) (v := v) (S := S) (st := .ok s) (x := ⟨#[105, 102]⟩) (l := wIf) (by decide) b1
  have hB2 := begins_no (Q := Q) (B := B) (v := v) (S := S) (st := .ok s) (x := ⟨#[119, 104, 105, 108, 101]⟩) (l := wWhile) (by decide) b2
  have hB3 := begins_no (Q := Q) (B := B) (v := v) (S := S) (st := .ok s) (x := ⟨#[114, 101, 116, 117, 114, 110]⟩) (l := wReturn) (by decide) b3
  have hB4 := begins_yes (Q := Q) (B := B) (v := v) (S := S) (s := s) (x := ⟨#[112, 114, 105, 110, 116]⟩) (l := wPrint) (by decide) b4
  clear b0 b1 b2 b3 b4 hp
  have hc : ∀ w', Par w' Q B v S (.ok s.step) → Calls Tryz.prog 150 #[.pointer (some ⟨Q, 0, none⟩), .int .i64 12, .int .i64 1] w' fun e w'' => (∃ u, e = .returned u ∧ ValG w'' (From w'.heap.size) u (oneC S 12 s.step)) ∧ Par w'' Q B v S (stOf (oneC S 12 s.step)) ∧ w'.grownBy w'' (some Q) := fun w' h' => by
    have := some_any9 Q B v S hnf 12 1 (by decide) (.ok s.step) w' h'
    rw [← one_bind, bindS_ok] at this
    exact this
  generalize (oneC S 12 s.step) = G at *
  go_enter Tryz.func108, Tryz.ntmps108
  go_wp2_with (first
    | (go_at_call_of 147 (Value.string ⟨#[118, 97, 114]⟩); refine (hB0 _ HPA.out).mono ?_; rintro e w1 ⟨rfl, hp1, hgx⟩; have hg1 : (w.alloc zeroN).grownBy w1 (some Q) := hgx; clear hB0 hgx)
    | (go_at_call_of 147 (Value.string ⟨#[105, 102]⟩); refine (hB1 _ hp1).mono ?_; rintro e w2 ⟨rfl, hp2, hgx⟩; have hg2 : (w.alloc zeroN).grownBy w2 (some Q) := hg1.trans hgx; clear hB1 hgx)
    | (go_at_call_of 147 (Value.string ⟨#[119, 104, 105, 108, 101]⟩); refine (hB2 _ hp2).mono ?_; rintro e w3 ⟨rfl, hp3, hgx⟩; have hg3 : (w.alloc zeroN).grownBy w3 (some Q) := hg2.trans hgx; clear hB2 hgx)
    | (go_at_call_of 147 (Value.string ⟨#[114, 101, 116, 117, 114, 110]⟩); refine (hB3 _ hp3).mono ?_; rintro e w4 ⟨rfl, hp4, hgx⟩; have hg4 : (w.alloc zeroN).grownBy w4 (some Q) := hg3.trans hgx; clear hB3 hgx)
    | (go_at_call_of 147 (Value.string ⟨#[112, 114, 105, 110, 116]⟩); refine (hB4 _ hp4).mono ?_; rintro e w5 ⟨rfl, hp5, hgx⟩; have hg5 : (w.alloc zeroN).grownBy w5 (some Q) := hg4.trans hgx; clear hB4 hgx)
    | (go_at_call 150; refine (hc _ hp5).mono ?_; rintro e wE ⟨⟨u, rfl, hv⟩, hpE, hgE⟩; obtain ⟨a, b, c, ad, n, cc, hu'⟩ := hv.any; subst hu'; have hgF := hg5.trans hgE; obtain ⟨⟨q0, q1, q2, q3⟩, _⟩ := (HX.out.grown hgF (by omega)).facts; obtain ⟨_, s0, s1, s2, s3⟩ := (HX.out.grown hgF (by omega)).facts))
  have hgw : w.grownBy wE (some Q) := (World.grownBy_alloc w zeroN (some Q)).trans hgF
  have sz : w.heap.size < w5.heap.size := by have := hg5.size; simp at this; omega
  refine bodyPost_ret (v := .agg #[.int .i64 a, .string b, .int .i64 c, .slice ad n cc]) (by simp [results, Tryz.results108, go_sem, q0, q1, q2, q3]) rfl ⟨⟨_, rfl, ?_⟩, par_box hpE hRB _ _ _ _, grown_own hgw (below_box (Nat.le_refl _) _ _ _ _)⟩
  exact (hv.above (above_box (R := w.heap.size) (by show ¬ w5.heap.size ≤ w.heap.size; omega) _ _ _ _)).mono (fun k hk _ => by have hk' : w5.heap.size ≤ k := hk; show w.heap.size ≤ k; omega)
set_option maxHeartbeats 4000000 in
theorem stmt_wWait (Q B : Nat) (v : Value) (S : Src9) (hnf : NumFit S) (s : PS) (b0 : seesB S wVar s = false) (b1 : seesB S wIf s = false) (b2 : seesB S wWhile s = false) (b3 : seesB S wReturn s = false) (b4 : seesB S wPrint s = false) (b5 : seesB S wFork s = false) (b6 : seesB S wWait s = true) (w : World) (hp : Par w Q B v S (.ok s)) : Calls Tryz.prog 108 #[.pointer (some ⟨Q, 0, none⟩)] w fun e w' => (∃ u, e = .returned u ∧ ValG w' (From w.heap.size) u (oneC S 14 s.step)) ∧ Par w' Q B v S (stOf (oneC S 14 s.step)) ∧ w.grownBy w' (some Q) := by
  have hRB := hp.size
  have hqb := hp.qb
  have HPA : Hid (Par (w.alloc zeroN) Q B v S (.ok s)) := hp.below ((Below.refl _ w).alloc (Nat.le_refl _) _)
  have HX : Hid (Box4 (w.alloc zeroN) w.heap.size (.int .i64 0) (.string ⟨#[]⟩) (.int .i64 0) (.slice none 0 0)) := Box4.new _ _ _ _ _
  have hB0 := begins_no (Q := Q) (B := B) (v := v) (S := S) (st := .ok s) (x := ⟨#[118, 97, 114]⟩) (l := wVar) (by decide) b0
  have hB1 := begins_no (Q := Q) (B := B) (v := v) (S := S) (st := .ok s) (x := ⟨#[105, 102]⟩) (l := wIf) (by decide) b1
  have hB2 := begins_no (Q := Q) (B := B) (v := v) (S := S) (st := .ok s) (x := ⟨#[119, 104, 105, 108, 101]⟩) (l := wWhile) (by decide) b2
  have hB3 := begins_no (Q := Q) (B := B) (v := v) (S := S) (st := .ok s) (x := ⟨#[114, 101, 116, 117, 114, 110]⟩) (l := wReturn) (by decide) b3
  have hB4 := begins_no (Q := Q) (B := B) (v := v) (S := S) (st := .ok s) (x := ⟨#[112, 114, 105, 110, 116]⟩) (l := wPrint) (by decide) b4
  have hB5 := begins_no (Q := Q) (B := B) (v := v) (S := S) (st := .ok s) (x := ⟨#[102, 111, 114, 107]⟩) (l := wFork) (by decide) b5
  have hB6 := begins_yes (Q := Q) (B := B) (v := v) (S := S) (s := s) (x := ⟨#[119, 97, 105, 116]⟩) (l := wWait) (by decide) b6
  clear b0 b1 b2 b3 b4 b5 b6 hp
  have hc : ∀ w', Par w' Q B v S (.ok s.step) → Calls Tryz.prog 150 #[.pointer (some ⟨Q, 0, none⟩), .int .i64 14, .int .i64 1] w' fun e w'' => (∃ u, e = .returned u ∧ ValG w'' (From w'.heap.size) u (oneC S 14 s.step)) ∧ Par w'' Q B v S (stOf (oneC S 14 s.step)) ∧ w'.grownBy w'' (some Q) := fun w' h' => by
    have := some_any9 Q B v S hnf 14 1 (by decide) (.ok s.step) w' h'
    rw [← one_bind, bindS_ok] at this
    exact this
  generalize (oneC S 14 s.step) = G at *
  go_enter Tryz.func108, Tryz.ntmps108
  go_wp2_with (first
    | (go_at_call_of 147 (Value.string ⟨#[118, 97, 114]⟩); refine (hB0 _ HPA.out).mono ?_; rintro e w1 ⟨rfl, hp1, hgx⟩; have hg1 : (w.alloc zeroN).grownBy w1 (some Q) := hgx; clear hB0 hgx)
    | (go_at_call_of 147 (Value.string ⟨#[105, 102]⟩); refine (hB1 _ hp1).mono ?_; rintro e w2 ⟨rfl, hp2, hgx⟩; have hg2 : (w.alloc zeroN).grownBy w2 (some Q) := hg1.trans hgx; clear hB1 hgx)
    | (go_at_call_of 147 (Value.string ⟨#[119, 104, 105, 108, 101]⟩); refine (hB2 _ hp2).mono ?_; rintro e w3 ⟨rfl, hp3, hgx⟩; have hg3 : (w.alloc zeroN).grownBy w3 (some Q) := hg2.trans hgx; clear hB2 hgx)
    | (go_at_call_of 147 (Value.string ⟨#[114, 101, 116, 117, 114, 110]⟩); refine (hB3 _ hp3).mono ?_; rintro e w4 ⟨rfl, hp4, hgx⟩; have hg4 : (w.alloc zeroN).grownBy w4 (some Q) := hg3.trans hgx; clear hB3 hgx)
    | (go_at_call_of 147 (Value.string ⟨#[112, 114, 105, 110, 116]⟩); refine (hB4 _ hp4).mono ?_; rintro e w5 ⟨rfl, hp5, hgx⟩; have hg5 : (w.alloc zeroN).grownBy w5 (some Q) := hg4.trans hgx; clear hB4 hgx)
    | (go_at_call_of 147 (Value.string ⟨#[102, 111, 114, 107]⟩); refine (hB5 _ hp5).mono ?_; rintro e w6 ⟨rfl, hp6, hgx⟩; have hg6 : (w.alloc zeroN).grownBy w6 (some Q) := hg5.trans hgx; clear hB5 hgx)
    | (go_at_call_of 147 (Value.string ⟨#[119, 97, 105, 116]⟩); refine (hB6 _ hp6).mono ?_; rintro e w7 ⟨rfl, hp7, hgx⟩; have hg7 : (w.alloc zeroN).grownBy w7 (some Q) := hg6.trans hgx; clear hB6 hgx)
    | (go_at_call 150; refine (hc _ hp7).mono ?_; rintro e wE ⟨⟨u, rfl, hv⟩, hpE, hgE⟩; obtain ⟨a, b, c, ad, n, cc, hu'⟩ := hv.any; subst hu'; have hgF := hg7.trans hgE; obtain ⟨⟨q0, q1, q2, q3⟩, _⟩ := (HX.out.grown hgF (by omega)).facts; obtain ⟨_, s0, s1, s2, s3⟩ := (HX.out.grown hgF (by omega)).facts))
  have hgw : w.grownBy wE (some Q) := (World.grownBy_alloc w zeroN (some Q)).trans hgF
  have sz : w.heap.size < w7.heap.size := by have := hg7.size; simp at this; omega
  refine bodyPost_ret (v := .agg #[.int .i64 a, .string b, .int .i64 c, .slice ad n cc]) (by simp [results, Tryz.results108, go_sem, q0, q1, q2, q3]) rfl ⟨⟨_, rfl, ?_⟩, par_box hpE hRB _ _ _ _, grown_own hgw (below_box (Nat.le_refl _) _ _ _ _)⟩
  exact (hv.above (above_box (R := w.heap.size) (by show ¬ w7.heap.size ≤ w.heap.size; omega) _ _ _ _)).mono (fun k hk _ => by have hk' : w7.heap.size ≤ k := hk; show w.heap.size ≤ k; omega)
set_option maxHeartbeats 4000000 in
theorem stmt_wSignal (Q B : Nat) (v : Value) (S : Src9) (hnf : NumFit S) (s : PS) (b0 : seesB S wVar s = false) (b1 : seesB S wIf s = false) (b2 : seesB S wWhile s = false) (b3 : seesB S wReturn s = false) (b4 : seesB S wPrint s = false) (b5 : seesB S wFork s = false) (b6 : seesB S wWait s = false) (b7 : seesB S wSignal s = true) (w : World) (hp : Par w Q B v S (.ok s)) : Calls Tryz.prog 108 #[.pointer (some ⟨Q, 0, none⟩)] w fun e w' => (∃ u, e = .returned u ∧ ValG w' (From w.heap.size) u (oneC S 15 s.step)) ∧ Par w' Q B v S (stOf (oneC S 15 s.step)) ∧ w.grownBy w' (some Q) := by
  have hRB := hp.size
  have hqb := hp.qb
  have HPA : Hid (Par (w.alloc zeroN) Q B v S (.ok s)) := hp.below ((Below.refl _ w).alloc (Nat.le_refl _) _)
  have HX : Hid (Box4 (w.alloc zeroN) w.heap.size (.int .i64 0) (.string ⟨#[]⟩) (.int .i64 0) (.slice none 0 0)) := Box4.new _ _ _ _ _
  have hB0 := begins_no (Q := Q) (B := B) (v := v) (S := S) (st := .ok s) (x := ⟨#[118, 97, 114]⟩) (l := wVar) (by decide) b0
  have hB1 := begins_no (Q := Q) (B := B) (v := v) (S := S) (st := .ok s) (x := ⟨#[105, 102]⟩) (l := wIf) (by decide) b1
  have hB2 := begins_no (Q := Q) (B := B) (v := v) (S := S) (st := .ok s) (x := ⟨#[119, 104, 105, 108, 101]⟩) (l := wWhile) (by decide) b2
  have hB3 := begins_no (Q := Q) (B := B) (v := v) (S := S) (st := .ok s) (x := ⟨#[114, 101, 116, 117, 114, 110]⟩) (l := wReturn) (by decide) b3
  have hB4 := begins_no (Q := Q) (B := B) (v := v) (S := S) (st := .ok s) (x := ⟨#[112, 114, 105, 110, 116]⟩) (l := wPrint) (by decide) b4
  have hB5 := begins_no (Q := Q) (B := B) (v := v) (S := S) (st := .ok s) (x := ⟨#[102, 111, 114, 107]⟩) (l := wFork) (by decide) b5
  have hB6 := begins_no (Q := Q) (B := B) (v := v) (S := S) (st := .ok s) (x := ⟨#[119, 97, 105, 116]⟩) (l := wWait) (by decide) b6
  have hB7 := begins_yes (Q := Q) (B := B) (v := v) (S := S) (s := s) (x := ⟨#[115, 105, 103, 110, 97, 108]⟩) (l := wSignal) (by decide) b7
  clear b0 b1 b2 b3 b4 b5 b6 b7 hp
  have hc : ∀ w', Par w' Q B v S (.ok s.step) → Calls Tryz.prog 150 #[.pointer (some ⟨Q, 0, none⟩), .int .i64 15, .int .i64 1] w' fun e w'' => (∃ u, e = .returned u ∧ ValG w'' (From w'.heap.size) u (oneC S 15 s.step)) ∧ Par w'' Q B v S (stOf (oneC S 15 s.step)) ∧ w'.grownBy w'' (some Q) := fun w' h' => by
    have := some_any9 Q B v S hnf 15 1 (by decide) (.ok s.step) w' h'
    rw [← one_bind, bindS_ok] at this
    exact this
  generalize (oneC S 15 s.step) = G at *
  go_enter Tryz.func108, Tryz.ntmps108
  go_wp2_with (first
    | (go_at_call_of 147 (Value.string ⟨#[118, 97, 114]⟩); refine (hB0 _ HPA.out).mono ?_; rintro e w1 ⟨rfl, hp1, hgx⟩; have hg1 : (w.alloc zeroN).grownBy w1 (some Q) := hgx; clear hB0 hgx)
    | (go_at_call_of 147 (Value.string ⟨#[105, 102]⟩); refine (hB1 _ hp1).mono ?_; rintro e w2 ⟨rfl, hp2, hgx⟩; have hg2 : (w.alloc zeroN).grownBy w2 (some Q) := hg1.trans hgx; clear hB1 hgx)
    | (go_at_call_of 147 (Value.string ⟨#[119, 104, 105, 108, 101]⟩); refine (hB2 _ hp2).mono ?_; rintro e w3 ⟨rfl, hp3, hgx⟩; have hg3 : (w.alloc zeroN).grownBy w3 (some Q) := hg2.trans hgx; clear hB2 hgx)
    | (go_at_call_of 147 (Value.string ⟨#[114, 101, 116, 117, 114, 110]⟩); refine (hB3 _ hp3).mono ?_; rintro e w4 ⟨rfl, hp4, hgx⟩; have hg4 : (w.alloc zeroN).grownBy w4 (some Q) := hg3.trans hgx; clear hB3 hgx)
    | (go_at_call_of 147 (Value.string ⟨#[112, 114, 105, 110, 116]⟩); refine (hB4 _ hp4).mono ?_; rintro e w5 ⟨rfl, hp5, hgx⟩; have hg5 : (w.alloc zeroN).grownBy w5 (some Q) := hg4.trans hgx; clear hB4 hgx)
    | (go_at_call_of 147 (Value.string ⟨#[102, 111, 114, 107]⟩); refine (hB5 _ hp5).mono ?_; rintro e w6 ⟨rfl, hp6, hgx⟩; have hg6 : (w.alloc zeroN).grownBy w6 (some Q) := hg5.trans hgx; clear hB5 hgx)
    | (go_at_call_of 147 (Value.string ⟨#[119, 97, 105, 116]⟩); refine (hB6 _ hp6).mono ?_; rintro e w7 ⟨rfl, hp7, hgx⟩; have hg7 : (w.alloc zeroN).grownBy w7 (some Q) := hg6.trans hgx; clear hB6 hgx)
    | (go_at_call_of 147 (Value.string ⟨#[115, 105, 103, 110, 97, 108]⟩); refine (hB7 _ hp7).mono ?_; rintro e w8 ⟨rfl, hp8, hgx⟩; have hg8 : (w.alloc zeroN).grownBy w8 (some Q) := hg7.trans hgx; clear hB7 hgx)
    | (go_at_call 150; refine (hc _ hp8).mono ?_; rintro e wE ⟨⟨u, rfl, hv⟩, hpE, hgE⟩; obtain ⟨a, b, c, ad, n, cc, hu'⟩ := hv.any; subst hu'; have hgF := hg8.trans hgE; obtain ⟨⟨q0, q1, q2, q3⟩, _⟩ := (HX.out.grown hgF (by omega)).facts; obtain ⟨_, s0, s1, s2, s3⟩ := (HX.out.grown hgF (by omega)).facts))
  have hgw : w.grownBy wE (some Q) := (World.grownBy_alloc w zeroN (some Q)).trans hgF
  have sz : w.heap.size < w8.heap.size := by have := hg8.size; simp at this; omega
  refine bodyPost_ret (v := .agg #[.int .i64 a, .string b, .int .i64 c, .slice ad n cc]) (by simp [results, Tryz.results108, go_sem, q0, q1, q2, q3]) rfl ⟨⟨_, rfl, ?_⟩, par_box hpE hRB _ _ _ _, grown_own hgw (below_box (Nat.le_refl _) _ _ _ _)⟩
  exact (hv.above (above_box (R := w.heap.size) (by show ¬ w8.heap.size ≤ w.heap.size; omega) _ _ _ _)).mono (fun k hk _ => by have hk' : w8.heap.size ≤ k := hk; show w.heap.size ≤ k; omega)
set_option maxHeartbeats 4000000 in
theorem stmt_wSwap (Q B : Nat) (v : Value) (S : Src9) (hnf : NumFit S) (s : PS) (b0 : seesB S wVar s = false) (b1 : seesB S wIf s = false) (b2 : seesB S wWhile s = false) (b3 : seesB S wReturn s = false) (b4 : seesB S wPrint s = false) (b5 : seesB S wFork s = false) (b6 : seesB S wWait s = false) (b7 : seesB S wSignal s = false) (b8 : seesB S wSwap s = true) (w : World) (hp : Par w Q B v S (.ok s)) : Calls Tryz.prog 108 #[.pointer (some ⟨Q, 0, none⟩)] w fun e w' => (∃ u, e = .returned u ∧ ValG w' (From w.heap.size) u (twoC S 16 s.step)) ∧ Par w' Q B v S (stOf (twoC S 16 s.step)) ∧ w.grownBy w' (some Q) := by
  have hRB := hp.size
  have hqb := hp.qb
  have HPA : Hid (Par (w.alloc zeroN) Q B v S (.ok s)) := hp.below ((Below.refl _ w).alloc (Nat.le_refl _) _)
  have HX : Hid (Box4 (w.alloc zeroN) w.heap.size (.int .i64 0) (.string ⟨#[]⟩) (.int .i64 0) (.slice none 0 0)) := Box4.new _ _ _ _ _
  have hB0 := begins_no (Q := Q) (B := B) (v := v) (S := S) (st := .ok s) (x := ⟨#[118, 97, 114]⟩) (l := wVar) (by decide) b0
  have hB1 := begins_no (Q := Q) (B := B) (v := v) (S := S) (st := .ok s) (x := ⟨#[105, 102]⟩) (l := wIf) (by decide) b1
  have hB2 := begins_no (Q := Q) (B := B) (v := v) (S := S) (st := .ok s) (x := ⟨#[119, 104, 105, 108, 101]⟩) (l := wWhile) (by decide) b2
  have hB3 := begins_no (Q := Q) (B := B) (v := v) (S := S) (st := .ok s) (x := ⟨#[114, 101, 116, 117, 114, 110]⟩) (l := wReturn) (by decide) b3
  have hB4 := begins_no (Q := Q) (B := B) (v := v) (S := S) (st := .ok s) (x := ⟨#[112, 114, 105, 110, 116]⟩) (l := wPrint) (by decide) b4
  have hB5 := begins_no (Q := Q) (B := B) (v := v) (S := S) (st := .ok s) (x := ⟨#[102, 111, 114, 107]⟩) (l := wFork) (by decide) b5
  have hB6 := begins_no (Q := Q) (B := B) (v := v) (S := S) (st := .ok s) (x := ⟨#[119, 97, 105, 116]⟩) (l := wWait) (by decide) b6
  have hB7 := begins_no (Q := Q) (B := B) (v := v) (S := S) (st := .ok s) (x := ⟨#[115, 105, 103, 110, 97, 108]⟩) (l := wSignal) (by decide) b7
  have hB8 := begins_yes (Q := Q) (B := B) (v := v) (S := S) (s := s) (x := ⟨#[115, 119, 97, 112]⟩) (l := wSwap) (by decide) b8
  clear b0 b1 b2 b3 b4 b5 b6 b7 b8 hp
  have hc : ∀ w', Par w' Q B v S (.ok s.step) → Calls Tryz.prog 150 #[.pointer (some ⟨Q, 0, none⟩), .int .i64 16, .int .i64 2] w' fun e w'' => (∃ u, e = .returned u ∧ ValG w'' (From w'.heap.size) u (twoC S 16 s.step)) ∧ Par w'' Q B v S (stOf (twoC S 16 s.step)) ∧ w'.grownBy w'' (some Q) := fun w' h' => by
    have := some_any9 Q B v S hnf 16 2 (by decide) (.ok s.step) w' h'
    rw [← two_bind, bindS_ok] at this
    exact this
  generalize (twoC S 16 s.step) = G at *
  go_enter Tryz.func108, Tryz.ntmps108
  go_wp2_with (first
    | (go_at_call_of 147 (Value.string ⟨#[118, 97, 114]⟩); refine (hB0 _ HPA.out).mono ?_; rintro e w1 ⟨rfl, hp1, hgx⟩; have hg1 : (w.alloc zeroN).grownBy w1 (some Q) := hgx; clear hB0 hgx)
    | (go_at_call_of 147 (Value.string ⟨#[105, 102]⟩); refine (hB1 _ hp1).mono ?_; rintro e w2 ⟨rfl, hp2, hgx⟩; have hg2 : (w.alloc zeroN).grownBy w2 (some Q) := hg1.trans hgx; clear hB1 hgx)
    | (go_at_call_of 147 (Value.string ⟨#[119, 104, 105, 108, 101]⟩); refine (hB2 _ hp2).mono ?_; rintro e w3 ⟨rfl, hp3, hgx⟩; have hg3 : (w.alloc zeroN).grownBy w3 (some Q) := hg2.trans hgx; clear hB2 hgx)
    | (go_at_call_of 147 (Value.string ⟨#[114, 101, 116, 117, 114, 110]⟩); refine (hB3 _ hp3).mono ?_; rintro e w4 ⟨rfl, hp4, hgx⟩; have hg4 : (w.alloc zeroN).grownBy w4 (some Q) := hg3.trans hgx; clear hB3 hgx)
    | (go_at_call_of 147 (Value.string ⟨#[112, 114, 105, 110, 116]⟩); refine (hB4 _ hp4).mono ?_; rintro e w5 ⟨rfl, hp5, hgx⟩; have hg5 : (w.alloc zeroN).grownBy w5 (some Q) := hg4.trans hgx; clear hB4 hgx)
    | (go_at_call_of 147 (Value.string ⟨#[102, 111, 114, 107]⟩); refine (hB5 _ hp5).mono ?_; rintro e w6 ⟨rfl, hp6, hgx⟩; have hg6 : (w.alloc zeroN).grownBy w6 (some Q) := hg5.trans hgx; clear hB5 hgx)
    | (go_at_call_of 147 (Value.string ⟨#[119, 97, 105, 116]⟩); refine (hB6 _ hp6).mono ?_; rintro e w7 ⟨rfl, hp7, hgx⟩; have hg7 : (w.alloc zeroN).grownBy w7 (some Q) := hg6.trans hgx; clear hB6 hgx)
    | (go_at_call_of 147 (Value.string ⟨#[115, 105, 103, 110, 97, 108]⟩); refine (hB7 _ hp7).mono ?_; rintro e w8 ⟨rfl, hp8, hgx⟩; have hg8 : (w.alloc zeroN).grownBy w8 (some Q) := hg7.trans hgx; clear hB7 hgx)
    | (go_at_call_of 147 (Value.string ⟨#[115, 119, 97, 112]⟩); refine (hB8 _ hp8).mono ?_; rintro e w9 ⟨rfl, hp9, hgx⟩; have hg9 : (w.alloc zeroN).grownBy w9 (some Q) := hg8.trans hgx; clear hB8 hgx)
    | (go_at_call 150; refine (hc _ hp9).mono ?_; rintro e wE ⟨⟨u, rfl, hv⟩, hpE, hgE⟩; obtain ⟨a, b, c, ad, n, cc, hu'⟩ := hv.any; subst hu'; have hgF := hg9.trans hgE; obtain ⟨⟨q0, q1, q2, q3⟩, _⟩ := (HX.out.grown hgF (by omega)).facts; obtain ⟨_, s0, s1, s2, s3⟩ := (HX.out.grown hgF (by omega)).facts))
  have hgw : w.grownBy wE (some Q) := (World.grownBy_alloc w zeroN (some Q)).trans hgF
  have sz : w.heap.size < w9.heap.size := by have := hg9.size; simp at this; omega
  refine bodyPost_ret (v := .agg #[.int .i64 a, .string b, .int .i64 c, .slice ad n cc]) (by simp [results, Tryz.results108, go_sem, q0, q1, q2, q3]) rfl ⟨⟨_, rfl, ?_⟩, par_box hpE hRB _ _ _ _, grown_own hgw (below_box (Nat.le_refl _) _ _ _ _)⟩
  exact (hv.above (above_box (R := w.heap.size) (by show ¬ w9.heap.size ≤ w.heap.size; omega) _ _ _ _)).mono (fun k hk _ => by have hk' : w9.heap.size ≤ k := hk; show w.heap.size ≤ k; omega)
end Go.Proofs.YtkppdndbfedijadGreatDoor

/- gessoref9: return and fork. -/
namespace Go.Proofs.YtkppdndbfedijadGreatDoor
open Go.RowKit

theorem semi_one (S : Src9) (kind : Int) (gE : Got Nd) : OneG kind ⟨#[]⟩ gE (gE.then fun k s => (wantP S sSemi s).then fun _ s => nodeP kind [] 0 [k] s) ∧ stOf (gE.then fun k s => (wantP S sSemi s).then fun _ s => nodeP kind [] 0 [k] s) = nodeS (stOf (bindS (stOf gE) (wantP S sSemi))) := by
  match gE with
  | .error e => exact ⟨Or.inl ⟨_, rfl⟩, rfl⟩
  | .ok (k, s) =>
    simp only [then_ok, stOf_ok, bindS_ok]
    cases wantP S sSemi s with
    | error e => exact ⟨Or.inl ⟨_, rfl⟩, rfl⟩
    | ok z => obtain ⟨⟨⟩, s1⟩ := z; exact ⟨Or.inr ⟨k, s, _, [], rfl, rfl, rfl⟩, rfl⟩
theorem fork_one (kind : Int) (gE : Got Nd) : OneG kind ⟨#[]⟩ gE (gE.then fun k s => nodeP kind [] 0 [k] s) ∧ stOf (gE.then fun k s => nodeP kind [] 0 [k] s) = nodeS (stOf gE) := by
  match gE with
  | .error e => exact ⟨Or.inl ⟨_, rfl⟩, rfl⟩
  | .ok (k, s) => exact ⟨Or.inr ⟨k, s, _, [], rfl, rfl, rfl⟩, rfl⟩
set_option maxHeartbeats 4000000 in
theorem stmt_wReturn (Q B : Nat) (v : Value) (S : Src9) (hnf : NumFit S) (s : PS) (b0 : seesB S wVar s = false) (b1 : seesB S wIf s = false) (b2 : seesB S wWhile s = false) (b3 : seesB S wReturn s = true) (w : World) (hp : Par w Q B v S (.ok s)) : Calls Tryz.prog 108 #[.pointer (some ⟨Q, 0, none⟩)] w fun e w' => (∃ u, e = .returned u ∧ ValG w' (From w.heap.size) u ((exprC S s.step).then fun k s => (wantP S sSemi s).then fun _ s => nodeP 11 [] 0 [k] s)) ∧ Par w' Q B v S (stOf ((exprC S s.step).then fun k s => (wantP S sSemi s).then fun _ s => nodeP 11 [] 0 [k] s)) ∧ w.grownBy w' (some Q) := by
  have hRB := hp.size
  have hqb := hp.qb
  have HPA : Hid (Par (w.alloc zeroN) Q B v S (.ok s)) := hp.below ((Below.refl _ w).alloc (Nat.le_refl _) _)
  have HX : Hid (Box4 (w.alloc zeroN) w.heap.size (.int .i64 0) (.string ⟨#[]⟩) (.int .i64 0) (.slice none 0 0)) := Box4.new _ _ _ _ _
  have hB0 := begins_no (Q := Q) (B := B) (v := v) (S := S) (st := .ok s) (x := ⟨#[118, 97, 114]⟩) (l := wVar) (by decide) b0
  have hB1 := begins_no (Q := Q) (B := B) (v := v) (S := S) (st := .ok s) (x := ⟨#[105, 102]⟩) (l := wIf) (by decide) b1
  have hB2 := begins_no (Q := Q) (B := B) (v := v) (S := S) (st := .ok s) (x := ⟨#[119, 104, 105, 108, 101]⟩) (l := wWhile) (by decide) b2
  have hB3 := begins_yes (Q := Q) (B := B) (v := v) (S := S) (s := s) (x := ⟨#[114, 101, 116, 117, 114, 110]⟩) (l := wReturn) (by decide) b3
  clear b0 b1 b2 b3 hp
  have hxx := expr_any Q B v S hnf (.ok s.step)
  unfold Reads9 at hxx
  rw [bindS_ok] at hxx
  generalize exprC S s.step = gE at *
  have hW2 := want_as (Q := Q) (B := B) (v := v) (S := S) (x := ⟨#[59]⟩) (l := sSemi) (by decide) (stOf gE)
  have HO : Hid (_ ∧ _) := semi_one S 11 gE
  generalize (gE.then fun k s => (wantP S sSemi s).then fun _ s => nodeP 11 [] 0 [k] s) = G at *
  go_enter Tryz.func108, Tryz.ntmps108
  go_wp2_with (first
    | (go_at_call_of 147 (Value.string ⟨#[118, 97, 114]⟩); refine (hB0 _ HPA.out).mono ?_; rintro e w1 ⟨rfl, hp1, hgx⟩; have hg1 : (w.alloc zeroN).grownBy w1 (some Q) := hgx; clear hB0 hgx)
    | (go_at_call_of 147 (Value.string ⟨#[105, 102]⟩); refine (hB1 _ hp1).mono ?_; rintro e w2 ⟨rfl, hp2, hgx⟩; have hg2 : (w.alloc zeroN).grownBy w2 (some Q) := hg1.trans hgx; clear hB1 hgx)
    | (go_at_call_of 147 (Value.string ⟨#[119, 104, 105, 108, 101]⟩); refine (hB2 _ hp2).mono ?_; rintro e w3 ⟨rfl, hp3, hgx⟩; have hg3 : (w.alloc zeroN).grownBy w3 (some Q) := hg2.trans hgx; clear hB2 hgx)
    | (go_at_call_of 147 (Value.string ⟨#[114, 101, 116, 117, 114, 110]⟩); refine (hB3 _ hp3).mono ?_; rintro e w4 ⟨rfl, hp4, hgx⟩; have hg4 : (w.alloc zeroN).grownBy w4 (some Q) := hg3.trans hgx; clear hB3 hgx)
    | (go_at_call 149; refine (hxx _ hp4).mono ?_; rintro e wE ⟨⟨u, rfl, hv⟩, hpE, hgE⟩; obtain ⟨a, b, c, ad, n, cc, hu'⟩ := hv.any; subst hu'; have hg8 := hg4.trans hgE; have hpEa := hpE.below ((Below.refl _ _).alloc (Nat.le_refl _) (.cells #[.int .i64 a, .string b, .int .i64 c, .slice ad n cc] 24)))
    | (go_at_call_of 72 (Value.string ⟨#[59]⟩); refine (hW2 _ hpEa).mono ?_; rintro e wL ⟨rfl, hpL, hgz⟩; have hsz : w.heap.size < wE.heap.size := (by have := hg8.size; simp at this; omega); obtain ⟨⟨p0, p1, p2, p3⟩, _⟩ := ((Box4.new wE (.int .i64 a) (.string b) (.int .i64 c) (.slice ad n cc)).grown hgz (by omega)).facts; have hpLa := hpL.below ((Below.refl _ _).alloc (Nat.le_refl _) (.cells #[.int .i64 a, .string b, .int .i64 c, .slice ad n cc] 24)); have hXL := ((HX.out.grown hg8 (by omega)).alloc (.cells #[.int .i64 a, .string b, .int .i64 c, .slice ad n cc] 24)).grown hgz (by omega))
    | (go_at_call 74; refine (node_any Q B v S _ _ _ _ ⟨_, _, _, rfl⟩ _ hpLa).mono ?_; rintro e wN ⟨rfl, hpN, hgN⟩; have hXN := (hXL.alloc (.cells #[.int .i64 a, .string b, .int .i64 c, .slice ad n cc] 24)).grown hgN (by omega); obtain ⟨⟨q0, q1, q2, q3⟩, s0, s1', s2, s3⟩ := hXN.facts))
  have hgP := hg4
  have hgL : (w.alloc zeroN).grownBy wL (some Q) := (hg8.trans (World.grownBy_alloc _ _ _)).trans hgz
  have szL : wE.heap.size + 1 ≤ wL.heap.size := by have := hgz.size; simpa using this
  obtain ⟨ho, hs⟩ := HO.out
  have hgw : w.grownBy wN (some Q) := (((World.grownBy_alloc w zeroN (some Q)).trans hgL).trans (World.grownBy_alloc _ _ _)).trans hgN
  have szP : w.heap.size < w4.heap.size := by have := hgP.size; simp at this; omega
  have szE : w4.heap.size ≤ wE.heap.size := hgE.size
  have hvL : ValG wL (From w4.heap.size) (.agg #[.int .i64 a, .string b, .int .i64 c, .slice ad n cc]) gE := (hv.above (Above.grown (World.grownBy_alloc wE (.cells #[.int .i64 a, .string b, .int .i64 c, .slice ad n cc] 24) none) (fun k e => by cases e))).above (Above.grown hgz (fun k e => by injection e with e; show ¬ w4.heap.size ≤ k; omega))
  refine bodyPost_ret (v := .agg #[.int .i64 11, .string ⟨#[]⟩, .int .i64 0, .slice (some ⟨wL.heap.size, 0, none⟩) 1 1]) (by simp [results, Tryz.results108, go_sem, q0, q1, q2, q3]) rfl ⟨⟨_, rfl, ?_⟩, by rw [hs]; exact par_box hpN hRB _ _ _ _, grown_own hgw (below_box (Nat.le_refl _) _ _ _ _)⟩
  exact (val_one (T := 24) ho hvL (by show w4.heap.size ≤ _; omega) ((Above.grown hgN (fun k e => by injection e with e; show ¬ w4.heap.size ≤ k; omega)).trans (above_box (R := w.heap.size) (by show ¬ w4.heap.size ≤ w.heap.size; omega) _ _ _ _))).mono (fun k hk _ => by have hk' : w4.heap.size ≤ k := hk; show w.heap.size ≤ k; omega)
set_option maxHeartbeats 4000000 in
theorem stmt_wFork (Q B : Nat) (v : Value) (S : Src9) (s : PS) (b0 : seesB S wVar s = false) (b1 : seesB S wIf s = false) (b2 : seesB S wWhile s = false) (b3 : seesB S wReturn s = false) (b4 : seesB S wPrint s = false) (b5 : seesB S wFork s = true) (hbl : ∀ st' : St9, (∀ s', st' = .ok s' → s.tok + 1 ≤ s'.tok) → Reads9 73 (blockC S) Q B v S st') (w : World) (hp : Par w Q B v S (.ok s)) : Calls Tryz.prog 108 #[.pointer (some ⟨Q, 0, none⟩)] w fun e w' => (∃ u, e = .returned u ∧ ValG w' (From w.heap.size) u ((blockC S s.step).then fun k s => nodeP 13 [] 0 [k] s)) ∧ Par w' Q B v S (stOf ((blockC S s.step).then fun k s => nodeP 13 [] 0 [k] s)) ∧ w.grownBy w' (some Q) := by
  have hRB := hp.size
  have hqb := hp.qb
  have HPA : Hid (Par (w.alloc zeroN) Q B v S (.ok s)) := hp.below ((Below.refl _ w).alloc (Nat.le_refl _) _)
  have HX : Hid (Box4 (w.alloc zeroN) w.heap.size (.int .i64 0) (.string ⟨#[]⟩) (.int .i64 0) (.slice none 0 0)) := Box4.new _ _ _ _ _
  have hB0 := begins_no (Q := Q) (B := B) (v := v) (S := S) (st := .ok s) (x := ⟨#[118, 97, 114]⟩) (l := wVar) (by decide) b0
  have hB1 := begins_no (Q := Q) (B := B) (v := v) (S := S) (st := .ok s) (x := ⟨#[105, 102]⟩) (l := wIf) (by decide) b1
  have hB2 := begins_no (Q := Q) (B := B) (v := v) (S := S) (st := .ok s) (x := ⟨#[119, 104, 105, 108, 101]⟩) (l := wWhile) (by decide) b2
  have hB3 := begins_no (Q := Q) (B := B) (v := v) (S := S) (st := .ok s) (x := ⟨#[114, 101, 116, 117, 114, 110]⟩) (l := wReturn) (by decide) b3
  have hB4 := begins_no (Q := Q) (B := B) (v := v) (S := S) (st := .ok s) (x := ⟨#[112, 114, 105, 110, 116]⟩) (l := wPrint) (by decide) b4
  have hB5 := begins_yes (Q := Q) (B := B) (v := v) (S := S) (s := s) (x := ⟨#[102, 111, 114, 107]⟩) (l := wFork) (by decide) b5
  clear b0 b1 b2 b3 b4 b5 hp
  have hxx := hbl (.ok s.step) (fun s' e => by cases e; exact Nat.le_refl _)
  unfold Reads9 at hxx
  rw [bindS_ok] at hxx
  clear hbl
  generalize blockC S s.step = gE at *
  have HO : Hid (_ ∧ _) := fork_one 13 gE
  generalize (gE.then fun k s => nodeP 13 [] 0 [k] s) = G at *
  go_enter Tryz.func108, Tryz.ntmps108
  go_wp2_with (first
    | (go_at_call_of 147 (Value.string ⟨#[118, 97, 114]⟩); refine (hB0 _ HPA.out).mono ?_; rintro e w1 ⟨rfl, hp1, hgx⟩; have hg1 : (w.alloc zeroN).grownBy w1 (some Q) := hgx; clear hB0 hgx)
    | (go_at_call_of 147 (Value.string ⟨#[105, 102]⟩); refine (hB1 _ hp1).mono ?_; rintro e w2 ⟨rfl, hp2, hgx⟩; have hg2 : (w.alloc zeroN).grownBy w2 (some Q) := hg1.trans hgx; clear hB1 hgx)
    | (go_at_call_of 147 (Value.string ⟨#[119, 104, 105, 108, 101]⟩); refine (hB2 _ hp2).mono ?_; rintro e w3 ⟨rfl, hp3, hgx⟩; have hg3 : (w.alloc zeroN).grownBy w3 (some Q) := hg2.trans hgx; clear hB2 hgx)
    | (go_at_call_of 147 (Value.string ⟨#[114, 101, 116, 117, 114, 110]⟩); refine (hB3 _ hp3).mono ?_; rintro e w4 ⟨rfl, hp4, hgx⟩; have hg4 : (w.alloc zeroN).grownBy w4 (some Q) := hg3.trans hgx; clear hB3 hgx)
    | (go_at_call_of 147 (Value.string ⟨#[112, 114, 105, 110, 116]⟩); refine (hB4 _ hp4).mono ?_; rintro e w5 ⟨rfl, hp5, hgx⟩; have hg5 : (w.alloc zeroN).grownBy w5 (some Q) := hg4.trans hgx; clear hB4 hgx)
    | (go_at_call_of 147 (Value.string ⟨#[102, 111, 114, 107]⟩); refine (hB5 _ hp5).mono ?_; rintro e w6 ⟨rfl, hp6, hgx⟩; have hg6 : (w.alloc zeroN).grownBy w6 (some Q) := hg5.trans hgx; clear hB5 hgx)
    | (go_at_call 73; refine (hxx _ hp6).mono ?_; rintro e wE ⟨⟨u, rfl, hv⟩, hpE, hgE⟩; obtain ⟨a, b, c, ad, n, cc, hu'⟩ := hv.any; subst hu'; have hg8 := hg6.trans hgE; have hpLa := par_two hpE (.cells #[.int .i64 a, .string b, .int .i64 c, .slice ad n cc] 24) (.cells #[.int .i64 a, .string b, .int .i64 c, .slice ad n cc] 24))
    | (go_at_call 74; refine (node_any Q B v S _ _ _ _ ⟨_, _, _, rfl⟩ _ hpLa).mono ?_; rintro e wN ⟨rfl, hpN, hgN⟩; have hXN := (((HX.out.grown hg8 (by omega)).alloc (.cells #[.int .i64 a, .string b, .int .i64 c, .slice ad n cc] 24)).alloc (.cells #[.int .i64 a, .string b, .int .i64 c, .slice ad n cc] 24)).grown hgN (by omega); obtain ⟨⟨q0, q1, q2, q3⟩, s0, s1', s2, s3⟩ := hXN.facts))
  have hgP := hg6
  have hgL : (w.alloc zeroN).grownBy (wE.alloc (.cells #[.int .i64 a, .string b, .int .i64 c, .slice ad n cc] 24)) (some Q) := hg8.trans (World.grownBy_alloc _ _ _)
  have hvL : ValG (wE.alloc (.cells #[.int .i64 a, .string b, .int .i64 c, .slice ad n cc] 24)) (From w6.heap.size) (.agg #[.int .i64 a, .string b, .int .i64 c, .slice ad n cc]) gE := hv.above (Above.grown (World.grownBy_alloc wE (.cells #[.int .i64 a, .string b, .int .i64 c, .slice ad n cc] 24) none) (fun k e => by cases e))
  obtain ⟨ho, hs⟩ := HO.out
  have hgw : w.grownBy wN (some Q) := (((World.grownBy_alloc w zeroN (some Q)).trans hgL).trans (World.grownBy_alloc _ _ _)).trans hgN
  have szP : w.heap.size < w6.heap.size := by have := hgP.size; simp at this; omega
  have szE : w6.heap.size ≤ wE.heap.size := hgE.size
  refine bodyPost_ret (v := .agg #[.int .i64 13, .string ⟨#[]⟩, .int .i64 0, .slice (some ⟨wE.heap.size + 1, 0, none⟩) 1 1]) (by simp [results, Tryz.results108, go_sem, q0, q1, q2, q3]) rfl ⟨⟨_, rfl, ?_⟩, by rw [hs]; exact par_box hpN hRB _ _ _ _, grown_own hgw (below_box (Nat.le_refl _) _ _ _ _)⟩
  have hend := (val_one (T := 24) ho hvL (by show w6.heap.size ≤ _; simp; omega) ((Above.grown hgN (fun k e => by injection e with e; show ¬ w6.heap.size ≤ k; omega)).trans (above_box (R := w.heap.size) (by show ¬ w6.heap.size ≤ w.heap.size; omega) (.int .i64 13) (.string ⟨#[]⟩) (.int .i64 0) (.slice (some ⟨wE.heap.size + 1, 0, none⟩) 1 1)))).mono (fun k hk _ => by have hk' : w6.heap.size ≤ k := hk; show w.heap.size ≤ k; omega)
  simp only [World.size_alloc] at hend
  exact hend
end Go.Proofs.YtkppdndbfedijadGreatDoor
