/- Several texts in one. -/
import Derived.Test.YtkppdndbfedijadGreatDoorMh
import Derived.Test.YtkppdndbfedijadGreatDoorMa
import Derived.Deep.CutBlock
/- gessoref9: a program, of classes that are read as they should be. -/
namespace Go.Proofs.YtkppdndbfedijadGreatDoor
open Go.RowKit

/-- One more behind them. -/
def lastK (GA : Got (List Nd)) (gB : Got Nd) : Got (List Nd) := GA.then fun ks _ => gB.then fun b s => .ok (ks ++ [b], s)
theorem lastK_is {GA : Got (List Nd)} {gB : Got Nd} : ∀ ks' s', lastK GA gB = .ok (ks', s') → ∃ ks s k s2, GA = .ok (ks, s) ∧ gB = .ok (k, s2) ∧ ks' = ks ++ [k] := fun ks' s' e => by
  unfold lastK at e
  match GA, gB, e with
  | .ok (ks, s), .ok (b, s2), e => cases e; exact ⟨ks, s, b, _, rfl, rfl, rfl⟩
theorem prog_list (S : Src9) (st : St9) : ListG 1 ⟨#[]⟩ (lastK (bindS st (classesC S)) (bindS (stOf (bindS (stOf (bindS st (classesC S))) (wantP S wMain))) (blockC S))) (bindS st (progC S)) ∧ stOf (bindS st (progC S)) = nodeS (stOf (bindS (stOf (bindS (stOf (bindS st (classesC S))) (wantP S wMain))) (blockC S))) := by
  match st with
  | .error e => exact ⟨Or.inl ⟨e, rfl⟩, rfl⟩
  | .ok s =>
    unfold progC lastK
    simp only [bindS_ok]
    cases classesC S s with
    | error e => exact ⟨Or.inl ⟨e, rfl⟩, rfl⟩
    | ok y =>
      obtain ⟨ks, s1⟩ := y
      simp only [then_ok, stOf_ok, bindS_ok]
      cases wantP S wMain s1 with
      | error e => exact ⟨Or.inl ⟨e, rfl⟩, rfl⟩
      | ok z =>
        obtain ⟨⟨⟩, s2⟩ := z
        simp only [then_ok, stOf_ok, bindS_ok]
        cases blockC S s2 with
        | error e => exact ⟨Or.inl ⟨e, rfl⟩, rfl⟩
        | ok u => obtain ⟨b, s3⟩ := u; exact ⟨Or.inr ⟨_, _, _, [], rfl, rfl, rfl⟩, rfl⟩
theorem classes_next {S : Src9} {GA : Got (List Nd)} {acc : List Nd} {s : PS} {lo i : Nat} (h : LoopK S (classesC S) GA (.ok (acc, s)) lo i) (hs : seesB S wClass s = true) : LoopK S (classesC S) GA ((classC S s.step).then fun k s => .ok (acc ++ [k], s)) lo (i + 1) := by
  obtain ⟨h1, h2, h3⟩ := h.place acc s rfl
  refine ⟨?_, fun ks s' e => ?_⟩
  · rw [h.eq, then_ok, classes_eq S s, if_pos hs]
    cases classC S s.step with
    | error e => rfl
    | ok y =>
      obtain ⟨k, s'⟩ := y
      rw [then_ok, then_ok, then_ok]
      cases classesC S s' with
      | error e => rfl
      | ok z =>
        obtain ⟨ks, s2⟩ := z
        simp
  · cases hx : classC S s.step with
    | error e' => rw [hx] at e; cases e
    | ok y =>
      obtain ⟨k, s2⟩ := y
      rw [hx] at e
      have := class_at hx
      have e4 : s.step.tok = s.tok + 1 := rfl
      cases e
      omega
theorem classes_end {S : Src9} {GA : Got (List Nd)} {acc : List Nd} {s : PS} {lo i : Nat} (h : LoopK S (classesC S) GA (.ok (acc, s)) lo i) (hs : seesB S wClass s = false) : GA = .ok (acc, s) := by
  rw [h.eq, then_ok, classes_eq S s, if_neg (by rw [hs]; decide), then_ok, List.append_nil]
set_option maxRecDepth 20000 in
set_option maxHeartbeats 8000000 in
theorem prog_reads (Q B : Nat) (v : Value) (S : Src9) (hnf : NumFit S) (st : St9) (hst : ∀ s, st = .ok s → s.tok ≤ S.L.length)
    (h1 : ∀ s : PS, Reads9 71 (classC S) Q B v S (.ok s)) : Reads9 40 (progC S) Q B v S st := by
  intro w hp
  have hRB := hp.size
  have hqb := hp.qb
  have hfew := hp.few
  obtain ⟨vad, vc, hv0, _⟩ := hp.toks
  subst hv0
  have HO : Hid (_ ∧ _) := prog_list S st
  obtain ⟨GA, HGA⟩ : ∃ GA, Hid (GA = bindS st (classesC S)) := ⟨_, rfl⟩
  rw [← HGA.out] at HO
  have hW2 := want_as (Q := Q) (B := B) (v := (.slice vad S.L.length vc)) (S := S) (x := ⟨#[109, 97, 105, 110]⟩) (l := wMain) (by decide) (stOf GA)
  have hbb := block_any9 Q B (.slice vad S.L.length vc) S hnf (stOf (bindS (stOf GA) (wantP S wMain)))
  unfold Reads9 at hbb
  generalize bindS (stOf (bindS (stOf GA) (wantP S wMain))) (blockC S) = gB at *
  generalize stOf (bindS (stOf GA) (wantP S wMain)) = st3 at *
  generalize bindS st (progC S) = G at *
  have hse := fun st' w' (h' : Par w' Q B (.slice vad S.L.length vc) S st') => sees_any Q B _ S st' ⟨#[99, 108, 97, 115, 115]⟩ w' h'
  rw [show nums ⟨#[99, 108, 97, 115, 115]⟩ = wClass by decide] at hse
  have H1 : Hid (∀ s : PS, Reads9 71 (classC S) Q B (.slice vad S.L.length vc) S (.ok s)) := h1
  obtain ⟨GK0, HK0, HG0⟩ : ∃ GK0 : Got (List Nd), Hid (stOf GK0 = st ∧ (∀ ks s, GK0 = .ok (ks, s) → ks = [])) ∧ Hid (LoopK S (classesC S) GA GK0 0 0) := by
    match st, hst, HGA with
    | .error e, _, HGA => exact ⟨.error e, ⟨rfl, fun ks s e => by cases e⟩, ⟨HGA.out, fun ks s e => by cases e⟩⟩
    | .ok s, hst, HGA => exact ⟨.ok ([], s), ⟨rfl, fun ks s e => by cases e; rfl⟩, ⟨by rw [HGA.out, bindS_ok, then_ok]; cases classesC S s with | error e => rfl | ok y => rfl, fun ks s' e => by cases e; have := hst s rfl; omega⟩⟩
  have HP0 : Hid (Par (w.alloc zeroN) Q B (.slice vad S.L.length vc) S (stOf GK0)) := by show Par _ _ _ _ _ _; rw [HK0.out.1]; exact hp.below ((Below.refl _ w).alloc (Nat.le_refl _) _)
  have HR0 : Hid (Box4 (w.alloc zeroN) w.heap.size (.int .i64 0) (.string ⟨#[]⟩) (.int .i64 0) (.slice none 0 0)) := Box4.new _ _ _ _ _
  have HL0 : Hid (w.grownBy (w.alloc zeroN) (some Q)) := World.grownBy_alloc w zeroN (some Q)
  have HN0 : Hid (Kin (w.alloc zeroN) (w.heap.size + 1) (.slice none 0 0) 0 GK0) := Kin.nil _ _ HK0.out.2
  clear h1 hp HGA hst
  go_enter Tryz.func40, Tryz.ntmps40
  go_wp2_with fail
  go_loopw [3, 4] (fun s3 s4 wr => ∃ (i n : Nat) (GK : Got (List Nd)), s4 = .int .i64 i ∧ i ≤ 4001 ∧ n ≤ i ∧ Hid (Par wr Q B (.slice vad S.L.length vc) S (stOf GK)) ∧ Hid (Box4 wr w.heap.size (.int .i64 0) (.string ⟨#[]⟩) (.int .i64 0) (.slice none 0 0)) ∧ Hid (w.grownBy wr (some Q)) ∧ Hid (Kin wr (w.heap.size + 1) s3 n GK) ∧ Hid (LoopK S (classesC S) GA GK 0 i)) (fun _ s4 _ => 4002 - (intOf s4).toNat)
  case atStart => exact ⟨0, 0, GK0, rfl, by omega, by omega, HP0, HR0, HL0, HN0, HG0⟩
  case round =>
    clear HP0 HR0 HL0 HN0 HG0 HK0
    obtain ⟨i, n, GK, rfl, hi, hn, HPF, HRF, HGF, HKF, HL⟩ := hrel
    obtain ⟨ad3, m3, c3, hs3⟩ := HKF.out.slice
    subst hs3
    obtain ⟨tok, deep, many, fc, fa, ho, hf⟩ := HPF.out.obj
    obtain ⟨k0, _, _, _, _, _, _⟩ := ho.cells
    clear ho hf
    have hse0 := hse (stOf GK)
    clear hse
    cases hs : seesS S wClass (stOf GK) with
    | false =>
      rw [hs] at hse0
      have hGA : GA = GK := by
        match GK, HL, hs with
        | .error e, HL, _ => exact HL.out.eq
        | .ok (acc, s), HL, hs => exact classes_end HL.out hs
      subst hGA
      clear hs HL
      by_cases hil : (i : Int) ≤ (S.L.length : Int)
      · have HPG := HPF
        have HRG := HRF
        have HGG := HGF
        have HKG := HKF
        clear HPF HRF HGF HKF
        go_wp2_with (first
          | (go_at_call 70; refine (hse0 _ HPG.out).mono ?_; rintro e w2 ⟨rfl, hb2⟩; have HPF : Hid (Par w2 Q B (.slice vad S.L.length vc) S (stOf GA)) := (HPG.out.below hb2); have HRF : Hid (Box4 w2 w.heap.size (.int .i64 0) (.string ⟨#[]⟩) (.int .i64 0) (.slice none 0 0)) := (HRG.out.grown (grown_below Q hb2) (by omega)); have HGF : Hid (w.grownBy w2 (some Q)) := (HGG.out.trans (grown_below Q hb2)); have HKF : Hid (Kin w2 (w.heap.size + 1) (.slice ad3 m3 c3) n GA) := (HKG.out.below hb2 (by omega)))
          | (go_at_call 72; refine (hW2 _ HPF.out).mono ?_; rintro e wA ⟨rfl, hpA, hgA⟩)
          | (go_at_call 73; refine (hbb _ hpA).mono ?_; rintro e w6 ⟨⟨u, rfl, hv⟩, hp6, hgL⟩; have hg6 := hgA.trans hgL; obtain ⟨a', b', c', ad', n', cc', hu'⟩ := hv.any; subst hu'; have hlt2 : ∀ k, Value.ownBlock (.slice ad3 m3 c3) = some k → w.heap.size + 1 ≤ k ∧ k < w2.heap.size := (by obtain ⟨_, O2, _⟩ := HKF.out; exact O2.lt); obtain ⟨xs, O6, hk6⟩ := HKF.out.grown hg6 (by omega); have hszA := hgA.size; have hsz6 := hg6.size; have hszR := HRF.out.lt)
          | (at_builtin; refine wpList_append_whereN nodeE rfl (.tmp 38) (.tmp 40) rfl (w.heap.size + 1) n 1 (.slice ad3 m3 c3) xs [.int .i64 a', .string b', .int .i64 c', .slice ad' n' cc'] rfl ((O6.alloc (.cells #[.int .i64 a', .string b', .int .i64 c', .slice ad' n' cc'] 24)).alloc (.cells #[.int .i64 a', .string b', .int .i64 c', .slice ad' n' cc'] 24)) ⟨w6.heap.size + 1, 0, none⟩ rfl rfl (four_new _ _ _ _ _ _ _) (four_one _ _ _ _ _ _) (by omega) (by simp; omega) ?_; intro g' cap' w7 O7 hg7 hor7; have hb7 : Below (w.heap.size + 1) w6 w7 := (below_two w6 (.cells #[.int .i64 a', .string b', .int .i64 c', .slice ad' n' cc'] 24) (.cells #[.int .i64 a', .string b', .int .i64 c', .slice ad' n' cc'] 24) (by omega)).grown hg7 (by simp; omega) (fun k e => (hlt2 k e).1); have hp7 := hp6.apart (hb7.mono (by omega)); have hX7 : Box4 w7 w.heap.size (.int .i64 0) (.string ⟨#[]⟩) (.int .i64 0) (.slice none 0 0) := (hb7.block w.heap.size (by omega)).trans (HRF.out.grown hg6 (by omega)))
          | (go_at_call 74; refine (node_any Q B _ S _ _ _ _ ⟨_, _, _, rfl⟩ _ hp7).mono ?_; rintro e wN ⟨rfl, hpN, hgN⟩; obtain ⟨⟨x0, x1, x2, x3⟩, f0, f1, f2, f3⟩ := (hX7.grown hgN (by omega)).facts))
        have hK7 := Kin.more (GK' := lastK GA gB) hk6 hv (by omega) (fun k e => by have := (hlt2 k e).2; omega) O7 hg7 hor7 lastK_is
        have hgw : w.grownBy wN (some Q) := (grown_own (HGF.out.trans hg6) (hb7.mono (by omega))).trans hgN
        refine bodyPost_ret (v := .agg #[.int .i64 1, .string ⟨#[]⟩, .int .i64 0, sl g' (n + 1) cap']) (by simp [results, Tryz.results40, go_sem, x0, x1, x2, x3]) rfl ⟨⟨_, rfl, ?_⟩, by rw [HO.out.2]; exact par_box hpN hRB _ _ _ _, grown_own hgw (below_box (Nat.le_refl _) _ _ _ _)⟩
        exact (val_list HO.out.1 hK7 ((Above.grown hgN (fun k e => by injection e with e; show ¬ w.heap.size + 1 ≤ k; omega)).trans (above_box (R := w.heap.size) (by show ¬ w.heap.size + 1 ≤ w.heap.size; omega) _ _ _ _))).mono (fun k hk _ => by have hk' : w.heap.size + 1 ≤ k := hk; show w.heap.size ≤ k; omega)
      · go_wp2_with (first
          | (go_at_call 72; refine (hW2 _ HPF.out).mono ?_; rintro e wA ⟨rfl, hpA, hgA⟩)
          | (go_at_call 73; refine (hbb _ hpA).mono ?_; rintro e w6 ⟨⟨u, rfl, hv⟩, hp6, hgL⟩; have hg6 := hgA.trans hgL; obtain ⟨a', b', c', ad', n', cc', hu'⟩ := hv.any; subst hu'; have hlt2 : ∀ k, Value.ownBlock (.slice ad3 m3 c3) = some k → w.heap.size + 1 ≤ k ∧ k < wr.heap.size := (by obtain ⟨_, O2, _⟩ := HKF.out; exact O2.lt); obtain ⟨xs, O6, hk6⟩ := HKF.out.grown hg6 (by omega); have hszA := hgA.size; have hsz6 := hg6.size; have hszR := HRF.out.lt)
          | (at_builtin; refine wpList_append_whereN nodeE rfl (.tmp 38) (.tmp 40) rfl (w.heap.size + 1) n 1 (.slice ad3 m3 c3) xs [.int .i64 a', .string b', .int .i64 c', .slice ad' n' cc'] rfl ((O6.alloc (.cells #[.int .i64 a', .string b', .int .i64 c', .slice ad' n' cc'] 24)).alloc (.cells #[.int .i64 a', .string b', .int .i64 c', .slice ad' n' cc'] 24)) ⟨w6.heap.size + 1, 0, none⟩ rfl rfl (four_new _ _ _ _ _ _ _) (four_one _ _ _ _ _ _) (by omega) (by simp; omega) ?_; intro g' cap' w7 O7 hg7 hor7; have hb7 : Below (w.heap.size + 1) w6 w7 := (below_two w6 (.cells #[.int .i64 a', .string b', .int .i64 c', .slice ad' n' cc'] 24) (.cells #[.int .i64 a', .string b', .int .i64 c', .slice ad' n' cc'] 24) (by omega)).grown hg7 (by simp; omega) (fun k e => (hlt2 k e).1); have hp7 := hp6.apart (hb7.mono (by omega)); have hX7 : Box4 w7 w.heap.size (.int .i64 0) (.string ⟨#[]⟩) (.int .i64 0) (.slice none 0 0) := (hb7.block w.heap.size (by omega)).trans (HRF.out.grown hg6 (by omega)))
          | (go_at_call 74; refine (node_any Q B _ S _ _ _ _ ⟨_, _, _, rfl⟩ _ hp7).mono ?_; rintro e wN ⟨rfl, hpN, hgN⟩; obtain ⟨⟨x0, x1, x2, x3⟩, f0, f1, f2, f3⟩ := (hX7.grown hgN (by omega)).facts))
        have hK7 := Kin.more (GK' := lastK GA gB) hk6 hv (by omega) (fun k e => by have := (hlt2 k e).2; omega) O7 hg7 hor7 lastK_is
        have hgw : w.grownBy wN (some Q) := (grown_own (HGF.out.trans hg6) (hb7.mono (by omega))).trans hgN
        refine bodyPost_ret (v := .agg #[.int .i64 1, .string ⟨#[]⟩, .int .i64 0, sl g' (n + 1) cap']) (by simp [results, Tryz.results40, go_sem, x0, x1, x2, x3]) rfl ⟨⟨_, rfl, ?_⟩, by rw [HO.out.2]; exact par_box hpN hRB _ _ _ _, grown_own hgw (below_box (Nat.le_refl _) _ _ _ _)⟩
        exact (val_list HO.out.1 hK7 ((Above.grown hgN (fun k e => by injection e with e; show ¬ w.heap.size + 1 ≤ k; omega)).trans (above_box (R := w.heap.size) (by show ¬ w.heap.size + 1 ≤ w.heap.size; omega) _ _ _ _))).mono (fun k hk _ => by have hk' : w.heap.size + 1 ≤ k := hk; show w.heap.size ≤ k; omega)
    | true =>
      match GK, HPF, HKF, HL, hs, hse0 with
      | .ok (acc, s), HPF, HKF, HL, hs, hse0 =>
        rw [hs] at hse0
        have hs' : seesB S wClass s = true := hs
        have hse1 : ∀ w', Par w' Q B (.slice vad S.L.length vc) S (.ok s) → Calls Tryz.prog 70 #[.pointer (some ⟨Q, 0, none⟩), .string ⟨#[99, 108, 97, 115, 115]⟩] w' fun e w'' => e = .returned (.bool true) ∧ Below w'.heap.size w' w'' := hse0
        have HLN : Hid (LoopK S (classesC S) GA ((classC S s.step).then fun k s => .ok (acc ++ [k], s)) 0 (i + 1)) := classes_next HL.out hs'
        obtain ⟨hi1, _, hle1⟩ := HL.out.place acc s rfl
        have ht := sees_lt hs'
        have hil : (i : Int) ≤ (S.L.length : Int) := by omega
        have hwi := wrap_id (x := (i : Int) + 1) (by omega) (by omega)
        have hwt := wrap_id (x := (s.tok : Int) + 1) (by omega) (by omega)
        have hst := H1.out s.step
        unfold Reads9 at hst
        rw [bindS_ok] at hst
        have HPS : Hid (Par wr Q B (.slice vad S.L.length vc) S (.ok s)) := HPF
        clear hs hs' HL hse0 HPF
        generalize classC S s.step = gE at *
        have hszr := HRF.out.lt
        go_wp2_with (first
          | (go_at_call 70; refine (hse1 _ HPS.out).mono ?_; rintro e w2 ⟨rfl, hb2⟩; have hp2 := Par.below HPS.out hb2; have hsz2 := hb2.size; obtain ⟨mn2, ho2, _, _, _, _⟩ := hp2.ok; obtain ⟨_, _, v2, _, _, _, _⟩ := ho2.cells; have z2 := ho2.frozen 2; clear ho2)
          | (go_at_call 71; refine (hst _ (par_step hp2 ht)).mono ?_; rintro e w6 ⟨⟨u, rfl, hvx⟩, hp6, hg6⟩; have hzz : (w2.setCell ⟨Q, 2, none⟩ (.int .i64 ((s.tok : Int) + 1))).heap.size = w2.heap.size := (by simp [World.setCell]); have hv : ValG w6 (From w2.heap.size) u gE := (by rw [← hzz]; exact hvx); clear hvx; obtain ⟨a', b', c', ad', n', cc', hu'⟩ := hv.any; subst hu'; have hK2 := (HKF.out.below hb2 (by omega)).grown (grown_set w2 Q 2 (.int .i64 ((s.tok : Int) + 1))) (by omega); have hlt2 : ∀ k, Value.ownBlock (.slice ad3 m3 c3) = some k → w.heap.size + 1 ≤ k ∧ k < w2.heap.size := (by obtain ⟨_, O2, _⟩ := HKF.out.below hb2 (by omega); exact O2.lt); obtain ⟨xs, O6, hk6⟩ := hK2.grown hg6 (by omega); have hsz6 : w2.heap.size ≤ w6.heap.size := (by have := hg6.size; rw [hzz] at this; exact this); clear hzz)
          | (at_builtin; refine wpList_append_whereN nodeE rfl (.tmp 30) (.tmp 32) rfl (w.heap.size + 1) n 1 (.slice ad3 m3 c3) xs [.int .i64 a', .string b', .int .i64 c', .slice ad' n' cc'] rfl ((O6.alloc (.cells #[.int .i64 a', .string b', .int .i64 c', .slice ad' n' cc'] 24)).alloc (.cells #[.int .i64 a', .string b', .int .i64 c', .slice ad' n' cc'] 24)) ⟨w6.heap.size + 1, 0, none⟩ rfl rfl (four_new _ _ _ _ _ _ _) (four_one _ _ _ _ _ _) (by omega) (by simp; omega) ?_; intro g' cap' w7 O7 hg7 hor7))
        have hb7 : Below (w.heap.size + 1) w6 w7 := (below_two w6 (.cells #[.int .i64 a', .string b', .int .i64 c', .slice ad' n' cc'] 24) (.cells #[.int .i64 a', .string b', .int .i64 c', .slice ad' n' cc'] 24) (by omega)).grown hg7 (by simp; omega) (fun k e => (hlt2 k e).1)
        have hK7 := Kin.more (GK' := gE.then fun k s => .ok (acc ++ [k], s)) hk6 hv (by omega) (fun k e => (hlt2 k e).2) O7 hg7 hor7 (fun ks' s' e => by
          match gE, e with
          | .ok (k, s2), e => cases e; exact ⟨acc, s, k, _, rfl, rfl, rfl⟩)
        have hst7 : stOf (gE.then fun k s => (.ok (acc ++ [k], s) : Got (List Nd))) = stOf gE := by
          match gE with
          | .ok (k, s2) => rfl
          | .error e => rfl
        have hgS := ((grown_below Q hb2).trans (grown_set w2 Q 2 (.int .i64 ((s.tok : Int) + 1)))).trans hg6
        refine ⟨⟨i + 1, n + 1, gE.then fun k s => .ok (acc ++ [k], s), by simp, by omega, by omega, by rw [hst7]; exact hp6.apart (hb7.mono (by omega)), ?_, ?_, hK7, HLN⟩, by simp [intOf]; omega⟩
        · exact (hb7.block w.heap.size (by omega)).trans (HRF.out.grown hgS (by omega))
        · exact grown_own (HGF.out.trans hgS) (hb7.mono (by omega))
end Go.Proofs.YtkppdndbfedijadGreatDoor

/- gessoref9: a method. -/
namespace Go.Proofs.YtkppdndbfedijadGreatDoor
open Go.RowKit

theorem Kin.length {w : World} {BB n : Nat} {v : Value} {GK : Got (List Nd)} (h : Kin w BB v n GK) : (∃ ad c, v = .slice ad n c) ∧ ∀ ks s, GK = .ok (ks, s) → ks.length = n := by
  obtain ⟨xs, ho, hk⟩ := h
  refine ⟨?_, fun ks s e => ?_⟩
  · rcases ho.2 with ⟨rfl, rfl⟩ | ⟨g, cap, cur, rfl, _⟩
    · exact ⟨_, _, rfl⟩
    · exact ⟨_, _, rfl⟩
  · obtain ⟨l, rfl, _, h3, _⟩ := hk ks s e
    simpa using h3
/-- What a method is, behind what was read. -/
def MethG (g1 : Got (List Int)) (GA : Got (List Nd)) (gB G : Got Nd) : Prop := (∃ e, G = .error e) ∨ ∃ x s1 ks s2 b s3 s', g1 = .ok (x, s1) ∧ GA = .ok (ks, s2) ∧ gB = .ok (b, s3) ∧ G = .ok (.mk 4 x (ks.length : Int) (ks ++ [b]), s')
theorem val_meth {w w0 : World} {BB n : Nat} {v v0 : Value} {tx : ByteArray} {g1 : Got (List Int)} {GA : Got (List Nd)} {gB G : Got Nd} (hG : MethG g1 GA gB G) (ht : TextG (.string tx) g1) (h0 : Kin w0 BB v0 n GA) (h : Kin w BB v (n + 1) (lastK GA gB)) : ValG w (From BB) (.agg #[.int .i64 4, .string tx, .int .i64 n, v]) G := by
  obtain ⟨ad, c, hv⟩ := h.length.1
  rcases hG with ⟨e, rfl⟩ | ⟨x, s1, ks, s2, b, s3, s', rfl, rfl, rfl, rfl⟩
  · subst hv; exact ⟨_, _, _, _, _, _, rfl⟩
  · have e : Value.string tx = .string (strOfNums x) := ht
    injection e with e
    subst e
    have hn := h0.length.2 ks s2 rfl
    subst hn
    obtain ⟨xs, ho, hk⟩ := h
    obtain ⟨l, h1, rfl, h3, h4⟩ := hk (ks ++ [b]) s3 rfl
    refine ⟨v, rfl, ?_⟩
    show KidsV w (From BB) v (ks ++ [b])
    rw [← h1]
    rw [← h3] at ho
    exact KidsV.of_own ho (fun k e => (ho.lt k e).1) (fun z hz => (h4 z hz).mono (fun k hk _ => hk.1))
theorem meth_list (S : Src9) (st : St9) : MethG (bindS st (nameP S)) (bindS (stOf (bindS (stOf (bindS st (nameP S))) (wantP S sOpen))) (argnG S)) (bindS (stOf (bindS (stOf (bindS (stOf (bindS (stOf (bindS st (nameP S))) (wantP S sOpen))) (argnG S))) (wantP S sShut))) (blockC S)) (bindS st (methodC S)) ∧ stOf (bindS st (methodC S)) = nodeS (stOf (bindS (stOf (bindS (stOf (bindS (stOf (bindS (stOf (bindS st (nameP S))) (wantP S sOpen))) (argnG S))) (wantP S sShut))) (blockC S))) := by
  match st with
  | .error e => exact ⟨Or.inl ⟨e, rfl⟩, rfl⟩
  | .ok s =>
    unfold methodC
    simp only [bindS_ok]
    cases nameP S s with
    | error e => exact ⟨Or.inl ⟨e, rfl⟩, rfl⟩
    | ok y =>
      obtain ⟨x, s1⟩ := y
      simp only [then_ok, stOf_ok, bindS_ok]
      cases wantP S sOpen s1 with
      | error e => exact ⟨Or.inl ⟨e, rfl⟩, rfl⟩
      | ok z =>
        obtain ⟨⟨⟩, s2⟩ := z
        simp only [then_ok, stOf_ok, bindS_ok]
        cases argnG S s2 with
        | error e => exact ⟨Or.inl ⟨e, rfl⟩, rfl⟩
        | ok u =>
          obtain ⟨ks, s3⟩ := u
          simp only [then_ok, stOf_ok, bindS_ok]
          cases wantP S sShut s3 with
          | error e => exact ⟨Or.inl ⟨e, rfl⟩, rfl⟩
          | ok z =>
            obtain ⟨⟨⟩, s4⟩ := z
            simp only [then_ok, stOf_ok, bindS_ok]
            cases blockC S s4 with
            | error e => exact ⟨Or.inl ⟨e, rfl⟩, rfl⟩
            | ok u => obtain ⟨b, s5⟩ := u; exact ⟨Or.inr ⟨x, s1, ks, s3, b, s5, _, rfl, rfl, rfl, rfl⟩, rfl⟩
/-- Where a method's names are. -/
def MethL (S : Src9) (GA GK : Got (List Nd)) (isb : Bool) (i : Nat) : Prop :=
  (GA = GK ∧ i = 0 ∧ ((isb = true ∧ ∃ y, GK = .ok y) ∨ (isb = false ∧ ∃ e, GK = .error e))) ∨ (isb = false ∧ ∃ acc s, GK = .ok (acc, s) ∧ (GA = (argnsC S s).then fun ks s => .ok (acc ++ ks, s)) ∧ i ≤ s.tok ∧ s.tok ≤ S.L.length)
theorem meth_first (S : Src9) (st2 : St9) (hb : ∀ s, st2 = .ok s → s.tok ≤ S.L.length) : ∃ GK0 : Got (List Nd), stOf GK0 = st2 ∧ (∀ ks s, GK0 = .ok (ks, s) → ks = []) ∧ MethL S (bindS st2 (argnG S)) GK0 (seesS S sShut st2) 0 := by
  match st2, hb with
  | .error e, _ => exact ⟨.error e, rfl, fun _ _ e => (by cases e), Or.inl ⟨rfl, rfl, Or.inr ⟨rfl, e, rfl⟩⟩⟩
  | .ok s, hb =>
    refine ⟨.ok ([], s), rfl, fun _ _ e => (by cases e; rfl), ?_⟩
    have hb' := hb s rfl
    rw [bindS_ok]
    unfold argnG
    cases hs : seesB S sShut s with
    | true => exact Or.inl ⟨rfl, rfl, Or.inl ⟨hs, _, rfl⟩⟩
    | false =>
      refine Or.inr ⟨hs, [], s, rfl, ?_, Nat.zero_le _, hb'⟩
      rw [if_neg (by decide)]
      cases argnsC S s with
      | error e => rfl
      | ok y => rfl
def argK (S : Src9) (s : PS) : Got Nd := (nameP S s).then fun x s => nodeP 5 x 0 [] s
theorem argns_next {S : Src9} {GA : Got (List Nd)} {acc : List Nd} {s : PS} (h : GA = (argnsC S s).then fun ks s => .ok (acc ++ ks, s)) :
    (seesS S sComma (stOf (argK S s)) = false → GA = (argK S s).then fun k s => .ok (acc ++ [k], s)) ∧ (seesS S sComma (stOf (argK S s)) = true → ∃ k s3, argK S s = .ok (k, s3) ∧ seesB S sComma s3 = true ∧ s.tok + 1 ≤ s3.tok ∧ GA = (argnsC S s3.step).then fun ks s => .ok ((acc ++ [k]) ++ ks, s)) := by
  rw [argns_eq] at h
  unfold argK
  cases hn : nameP S s with
  | error e =>
    rw [hn] at h
    exact ⟨fun _ => h, fun e => by cases e⟩
  | ok y =>
    obtain ⟨x, s1⟩ := y
    rw [hn, then_ok] at h
    rw [then_ok]
    have h1 := ((name_fine S s).at hn).1
    refine ⟨fun hs => ?_, fun hs => ⟨.mk 5 x 0 [], s1.node, rfl, hs, by rw [node_tok]; omega, ?_⟩⟩
    · have hs' : seesB S sComma s1.node = false := hs
      rw [h]
      show Got.then (if seesB S sComma s1.node = true then _ else _) _ = _
      rw [if_neg (by rw [hs']; decide)]
      rfl
    · have hs' : seesB S sComma s1.node = true := hs
      rw [h]
      show Got.then (if seesB S sComma s1.node = true then _ else _) _ = _
      rw [if_pos hs']
      cases argnsC S s1.node.step with
      | error e => rfl
      | ok y => show Except.ok _ = Except.ok _; simp
end Go.Proofs.YtkppdndbfedijadGreatDoor

/- gessoref9: a row of kids that is read, with all that stands beside it. -/
namespace Go.Proofs.YtkppdndbfedijadGreatDoor
open Go.RowKit

/-- Where a reading of kids is: the parser, the result's box, the row. -/
structure RowL (w wx : World) (Q B : Nat) (v : Value) (S : Src9) (st : St9) (k : Value) (n : Nat) (GK : Got (List Nd)) : Prop where
  par : Par wx Q B v S st
  box : Box4 wx w.heap.size (.int .i64 0) (.string ⟨#[]⟩) (.int .i64 0) (.slice none 0 0)
  gro : w.grownBy wx (some Q)
  kin : Kin wx (w.heap.size + 1) k n GK
theorem RowL.lt {w wx : World} {Q B n : Nat} {v k : Value} {S : Src9} {st : St9} {GK : Got (List Nd)} (h : RowL w wx Q B v S st k n GK) : ∀ j, k.ownBlock = some j → w.heap.size + 1 ≤ j ∧ j < wx.heap.size := by
  obtain ⟨_, O2, _⟩ := h.kin
  exact O2.lt
theorem RowL.grown {w wx wy : World} {Q B n : Nat} {v k : Value} {S : Src9} {st st' : St9} {GK : Got (List Nd)} (h : RowL w wx Q B v S st k n GK) (hq : Q < w.heap.size) (hp : Par wy Q B v S st') (hg : wx.grownBy wy (some Q)) : RowL w wy Q B v S st' k n GK :=
  ⟨hp, h.box.grown hg hq, h.gro.trans hg, h.kin.grown hg (by omega)⟩
theorem RowL.as {w wx : World} {Q B n : Nat} {v k : Value} {S : Src9} {st : St9} {GK GK' : Got (List Nd)} (h : RowL w wx Q B v S st k n GK) (e : GK = GK') : RowL w wx Q B v S st k n GK' := e ▸ h
theorem RowL.first {w wx : World} {Q B : Nat} {v : Value} {S : Src9} {st : St9} {GK : Got (List Nd)} (hp : Par wx Q B v S st) (hx : Box4 wx w.heap.size (.int .i64 0) (.string ⟨#[]⟩) (.int .i64 0) (.slice none 0 0)) (hg : w.grownBy wx (some Q)) (h : ∀ ks s, GK = .ok (ks, s) → ks = []) : RowL w wx Q B v S st (.slice none 0 0) 0 GK := ⟨hp, hx, hg, Kin.nil _ _ h⟩
/-- One more behind the row. -/
theorem RowL.push {w wx : World} {Q B n C : Nat} {v k : Value} {S : Src9} {st : St9} {GK : Got (List Nd)} {gE : Got Nd} {a b c d : Value} (h : RowL w wx Q B v S st k n GK) (hB : B ≤ w.heap.size) (hv : ValG wx (From C) (.agg #[a, b, c, d]) gE) (hC : w.heap.size + 1 ≤ C) (hkC : ∀ j, k.ownBlock = some j → j < C) :
    ∃ xs, wx.ownsRow (w.heap.size + 1) 24 4 k n xs ∧ ∀ (o o' : Obj) (g' cap' : Nat) (wy : World), wy.ownsRow (w.heap.size + 1) 24 4 (sl g' (n + 1) cap') (n + 1) (xs ++ [a, b, c, d]) → ((wx.alloc o).alloc o').grownBy wy k.ownBlock → (k.ownBlock = some g' ∨ g' = ((wx.alloc o).alloc o').heap.size) →
      ∀ GK' : Got (List Nd), (∀ ks' s', GK' = .ok (ks', s') → ∃ ks s k s2, GK = .ok (ks, s) ∧ gE = .ok (k, s2) ∧ ks' = ks ++ [k]) → RowL w wy Q B v S st (sl g' (n + 1) cap') (n + 1) GK' ∧ wx.heap.size ≤ wy.heap.size := by
  have hlt := h.lt
  have hx := h.box.lt
  obtain ⟨xs, O, hk⟩ := h.kin
  refine ⟨xs, O, fun o o' g' cap' wy O' hg hor GK' hG => ?_⟩
  have hb : Below (w.heap.size + 1) wx wy := (below_two wx o o' (by omega)).grown hg (by simp; omega) (fun j e => (hlt j e).1)
  exact ⟨⟨h.par.apart (hb.mono (by omega)), (hb.block w.heap.size (by omega)).trans h.box, grown_own h.gro (hb.mono (by omega)), Kin.more hk hv hC hkC O' hg hor hG⟩, hb.size⟩
end Go.Proofs.YtkppdndbfedijadGreatDoor

/- gessoref9: a class, what is plain in it. -/
namespace Go.Proofs.YtkppdndbfedijadGreatDoor
open Go.RowKit

/-- A node of a name alone. -/
def leafK (kind : Int) (g : Got (List Int)) : Got Nd := g.then fun x s => nodeP kind x 0 [] s
theorem leafK_val {w : World} {M : Nat → Prop} {kind : Int} {tx : ByteArray} {g : Got (List Int)} (h : TextG (.string tx) g) : ValG w M (.agg #[.int .i64 kind, .string tx, .int .i64 0, .slice none 0 0]) (leafK kind g) := by
  match g, h with
  | .error e, _ => exact ⟨_, _, _, _, _, _, rfl⟩
  | .ok (x, s), h =>
    have e : Value.string tx = .string (strOfNums x) := h
    injection e with e
    subst e
    exact ⟨_, rfl, none, 0, rfl, fun h => by cases h⟩
theorem leafK_st {kind : Int} {g : Got (List Int)} : stOf (leafK kind g) = nodeS (stOf g) := by
  match g with
  | .error e => rfl
  | .ok (x, s) => rfl
theorem arg_leaf (S : Src9) (s : PS) : argK S s = leafK 5 (nameP S s) := rfl
/-- A name and then something that is wanted. -/
def nameW (S : Src9) (l : List Int) (g : Got (List Int)) : Got (List Int) := g.then fun x s => (wantP S l s).then fun _ s => .ok (x, s)
theorem nameW_text {S : Src9} {l : List Int} {tx : ByteArray} {g : Got (List Int)} (h : TextG (.string tx) g) : TextG (.string tx) (nameW S l g) := by
  match g, h with
  | .error e, _ => exact ⟨_, rfl⟩
  | .ok (x, s), h =>
    unfold nameW
    rw [then_ok]
    cases wantP S l s with
    | error e => exact ⟨_, rfl⟩
    | ok y => exact h
theorem nameW_st {S : Src9} {l : List Int} {g : Got (List Int)} : stOf (nameW S l g) = stOf (bindS (stOf g) (wantP S l)) := by
  match g with
  | .error e => rfl
  | .ok (x, s) =>
    unfold nameW
    rw [then_ok, stOf_ok, bindS_ok]
    cases wantP S l s with
    | error e => rfl
    | ok y => rfl
def slotK (S : Src9) (s : PS) : Got Nd := leafK 3 (nameW S sSemi (nameP S s.step))
theorem slots_is (S : Src9) (s : PS) : slotsC S s = if seesB S wSlot s = true then (slotK S s).then fun k s => (slotsC S s).then fun ks s => .ok (k :: ks, s) else .ok ([], s) := by
  rw [slots_eq]
  split
  · unfold slotK leafK nameW
    cases nameP S s.step with
    | error e => rfl
    | ok y =>
      obtain ⟨x, s1⟩ := y
      rw [then_ok, then_ok]
      cases wantP S sSemi s1 with
      | error e => rfl
      | ok z => rfl
  · rfl
theorem slotK_at {S : Src9} {s s2 : PS} {k : Nd} (e : slotK S s = .ok (k, s2)) : s.tok + 1 ≤ s2.tok ∧ s2.tok ≤ S.L.length := by
  unfold slotK leafK nameW at e
  cases hn : nameP S s.step with
  | error e' => rw [hn] at e; cases e
  | ok y =>
    obtain ⟨x, s1⟩ := y
    rw [hn, then_ok] at e
    have h1 := (name_fine S s.step).at hn
    rw [step_tok] at h1
    cases hw : wantP S sSemi s1 with
    | error e' => rw [hw] at e; cases e
    | ok z =>
      obtain ⟨⟨⟩, s3⟩ := z
      rw [hw] at e
      have h2 := (want_fine S sSemi s1).at hw
      cases e
      rw [node_tok]
      omega
def beganG (S : Src9) (GU : Got (List Nd)) : Got (List Nd) := GU.then fun up s => (wantP S sBegin s).then fun _ s => .ok (up, s)
def moreG (X : PS → Got (List Nd)) (GK : Got (List Nd)) : Got (List Nd) := GK.then fun acc s => (X s).then fun ks s => .ok (acc ++ ks, s)
theorem began_st {S : Src9} {GU : Got (List Nd)} : stOf (beganG S GU) = stOf (bindS (stOf GU) (wantP S sBegin)) := by
  match GU with
  | .error e => rfl
  | .ok (up, s) =>
    unfold beganG
    rw [then_ok, stOf_ok, bindS_ok]
    cases wantP S sBegin s with
    | error e => rfl
    | ok y => rfl
theorem began_kids {S : Src9} {GU : Got (List Nd)} {ks : List Nd} {s : PS} (e : beganG S GU = .ok (ks, s)) : ∃ s1, GU = .ok (ks, s1) ∧ s.tok ≤ S.L.length := by
  match GU, e with
  | .ok (up, s1), e =>
    unfold beganG at e
    rw [then_ok] at e
    cases hw : wantP S sBegin s1 with
    | error e' => rw [hw] at e; cases e
    | ok y =>
      obtain ⟨⟨⟩, s2⟩ := y
      rw [hw] at e
      have h2 := (want_fine S sBegin s1).at hw
      cases e
      exact ⟨_, rfl, h2.2⟩
theorem cls_list (S : Src9) (st : St9) {tx : ByteArray} (ht : TextG (.string tx) (bindS st (nameP S))) :
    ListG 2 tx (moreG (methodsC S) (moreG (slotsC S) (beganG S (bindS (stOf (bindS st (nameP S))) (upC S))))) (bindS st (classC S)) ∧ stOf (bindS st (classC S)) = nodeS (stOf (bindS (stOf (moreG (methodsC S) (moreG (slotsC S) (beganG S (bindS (stOf (bindS st (nameP S))) (upC S)))))) (wantP S sEnd))) := by
  match st, ht with
  | .error e, _ => exact ⟨Or.inl ⟨_, rfl⟩, rfl⟩
  | .ok s, ht =>
    unfold classC
    simp only [bindS_ok] at ht ⊢
    cases hn : nameP S s with
    | error e => exact ⟨Or.inl ⟨_, rfl⟩, rfl⟩
    | ok y =>
      obtain ⟨x, s1⟩ := y
      rw [hn] at ht
      have e : Value.string tx = .string (strOfNums x) := ht
      injection e with e
      simp only [then_ok, stOf_ok, bindS_ok]
      cases upC S s1 with
      | error e => exact ⟨Or.inl ⟨_, rfl⟩, rfl⟩
      | ok y =>
        obtain ⟨up, s2⟩ := y
        unfold beganG
        simp only [then_ok]
        cases wantP S sBegin s2 with
        | error e => exact ⟨Or.inl ⟨_, rfl⟩, rfl⟩
        | ok y =>
          obtain ⟨⟨⟩, s3⟩ := y
          unfold moreG
          simp only [then_ok]
          cases slotsC S s3 with
          | error e => exact ⟨Or.inl ⟨_, rfl⟩, rfl⟩
          | ok y =>
            obtain ⟨ks, s4⟩ := y
            simp only [then_ok]
            cases methodsC S s4 with
            | error e => exact ⟨Or.inl ⟨_, rfl⟩, rfl⟩
            | ok y =>
              obtain ⟨ms, s5⟩ := y
              simp only [then_ok, stOf_ok, bindS_ok]
              cases wantP S sEnd s5 with
              | error e => exact ⟨Or.inl ⟨_, rfl⟩, rfl⟩
              | ok y =>
                obtain ⟨⟨⟩, s6⟩ := y
                exact ⟨Or.inr ⟨_, _, _, x, rfl, e, rfl⟩, rfl⟩
/-- A loop that reads kids, each behind a word. -/
theorem LoopK.start {S : Src9} {X : PS → Got (List Nd)} {GK : Got (List Nd)} (h : ∀ ks s, GK = .ok (ks, s) → s.tok ≤ S.L.length) : LoopK S X (moreG X GK) GK 0 0 := ⟨rfl, fun ks s e => by have := h ks s e; omega⟩
theorem each_next {S : Src9} {X : PS → Got (List Nd)} {K : PS → Got Nd} {l : List Int} (hX : ∀ s, X s = if seesB S l s = true then (K s).then fun k s => (X s).then fun ks s => .ok (k :: ks, s) else .ok ([], s)) (hK : ∀ s k s2, K s = .ok (k, s2) → s.tok + 1 ≤ s2.tok ∧ s2.tok ≤ S.L.length)
    {GA : Got (List Nd)} {acc : List Nd} {s : PS} {i : Nat} (h : LoopK S X GA (.ok (acc, s)) 0 i) (hs : seesB S l s = true) : LoopK S X GA ((K s).then fun k s => .ok (acc ++ [k], s)) 0 (i + 1) := by
  obtain ⟨h1, h2, h3⟩ := h.place acc s rfl
  refine ⟨?_, fun ks s' e => ?_⟩
  · rw [h.eq, then_ok, hX s, if_pos hs]
    cases K s with
    | error e => rfl
    | ok y =>
      obtain ⟨k, s'⟩ := y
      rw [then_ok, then_ok, then_ok]
      cases X s' with
      | error e => rfl
      | ok z =>
        obtain ⟨ks, s2⟩ := z
        simp
  · cases hx : K s with
    | error e' => rw [hx] at e; cases e
    | ok y =>
      obtain ⟨k, s2⟩ := y
      rw [hx] at e
      have := hK s k s2 hx
      cases e
      omega
theorem each_end {S : Src9} {X : PS → Got (List Nd)} {K : PS → Got Nd} {l : List Int} (hX : ∀ s, X s = if seesB S l s = true then (K s).then fun k s => (X s).then fun ks s => .ok (k :: ks, s) else .ok ([], s))
    {GA GK : Got (List Nd)} {i : Nat} (h : LoopK S X GA GK 0 i) (hs : seesS S l (stOf GK) = false) : GA = GK := by
  match GK, h, hs with
  | .error e, h, _ => exact h.eq
  | .ok (acc, s), h, hs =>
    have hs' : seesB S l s = false := hs
    rw [h.eq, then_ok, hX s, if_neg (by rw [hs']; decide), then_ok, List.append_nil]
theorem then_st {g : Got Nd} {acc : List Nd} : stOf (g.then fun k s => (.ok (acc ++ [k], s) : Got (List Nd))) = stOf g := by
  match g with
  | .ok (k, s2) => rfl
  | .error e => rfl
theorem then_kids {g : Got Nd} {acc : List Nd} {s0 : PS} : ∀ ks' s', (g.then fun k s => (.ok (acc ++ [k], s) : Got (List Nd))) = .ok (ks', s') → ∃ ks s k s2, (.ok (acc, s0) : Got (List Nd)) = .ok (ks, s) ∧ g = .ok (k, s2) ∧ ks' = ks ++ [k] := fun ks' s' e => by
  match g, e with
  | .ok (k, s2), e => cases e; exact ⟨acc, s0, k, _, rfl, rfl, rfl⟩
/-- What stands ahead of a class's kids. -/
theorem up_no {S : Src9} {st : St9} (h : seesS S sColon st = false) : stOf (bindS st (upC S)) = st ∧ ∀ ks s, bindS st (upC S) = .ok (ks, s) → ks = [] := by
  match st, h with
  | .error e, _ => exact ⟨rfl, fun ks s e => by cases e⟩
  | .ok s, h =>
    have h' : seesB S sColon s = false := h
    rw [bindS_ok]
    unfold upC
    rw [if_neg (by rw [h']; decide)]
    exact ⟨rfl, fun ks s e => by cases e; rfl⟩
theorem up_yes {S : Src9} {s : PS} (h : seesB S sColon s = true) : bindS (.ok s) (upC S) = (leafK 31 (nameP S s.step)).then fun k s => .ok ([] ++ [k], s) := by
  rw [bindS_ok]
  unfold upC leafK
  rw [if_pos h]
  cases nameP S s.step with
  | error e => rfl
  | ok y => rfl
end Go.Proofs.YtkppdndbfedijadGreatDoor

/- gessoref9: a method. -/
namespace Go.Proofs.YtkppdndbfedijadGreatDoor
open Go.RowKit

set_option maxRecDepth 20000 in
set_option maxHeartbeats 16000000 in
theorem method_reads (Q B : Nat) (v : Value) (S : Src9) (hnf : NumFit S) (st : St9) : Reads9 106 (methodC S) Q B v S st := by
  intro w hp
  have hRB := hp.size
  have hqb := hp.qb
  have hfew := hp.few
  obtain ⟨vad, vc, hv0, _⟩ := hp.toks
  subst hv0
  have HPA : Hid (Par (w.alloc zeroN) Q B (.slice vad S.L.length vc) S st) := hp.below ((Below.refl _ w).alloc (Nat.le_refl _) _)
  have HX : Hid (Box4 (w.alloc zeroN) w.heap.size (.int .i64 0) (.string ⟨#[]⟩) (.int .i64 0) (.slice none 0 0)) := Box4.new _ _ _ _ _
  have HO : Hid (_ ∧ _) := meth_list S st
  have hnm := fun w' (h' : Par w' Q B (.slice vad S.L.length vc) S st) => name_any Q B (.slice vad S.L.length vc) S st w' h'
  generalize bindS st (methodC S) = G at *
  have HB2 : Hid (∀ s, stOf (bindS (stOf (bindS st (nameP S))) (wantP S sOpen)) = .ok s → s.tok ≤ S.L.length) := fun s e => by
    cases hg : bindS st (nameP S) with
    | error e' => rw [hg] at e; cases e
    | ok y =>
      obtain ⟨x, s1⟩ := y
      rw [hg, stOf_ok, bindS_ok] at e
      cases hw : wantP S sOpen s1 with
      | error e' => rw [hw] at e; cases e
      | ok z =>
        obtain ⟨⟨⟩, s2⟩ := z
        rw [hw] at e
        cases e
        exact ((want_fine S sOpen s1).at hw).2
  generalize bindS st (nameP S) = g1 at *
  have hW1 := want_as (Q := Q) (B := B) (v := (.slice vad S.L.length vc)) (S := S) (x := ⟨#[40]⟩) (l := sOpen) (by decide) (stOf g1)
  generalize stOf (bindS (stOf g1) (wantP S sOpen)) = st2 at *
  have hsh := fun w' (h' : Par w' Q B (.slice vad S.L.length vc) S st2) => sees_any Q B _ S st2 ⟨#[41]⟩ w' h'
  rw [show nums ⟨#[41]⟩ = sShut by decide] at hsh
  obtain ⟨GK0, HK0, HK1, HG0⟩ : ∃ GK0 : Got (List Nd), Hid (stOf GK0 = st2) ∧ Hid (∀ ks s, GK0 = .ok (ks, s) → ks = []) ∧ Hid (MethL S (bindS st2 (argnG S)) GK0 (seesS S sShut st2) 0) := meth_first S st2 HB2.out
  generalize bindS st2 (argnG S) = GA at *
  generalize seesS S sShut st2 = isb0 at *
  have hW2 := want_as (Q := Q) (B := B) (v := (.slice vad S.L.length vc)) (S := S) (x := ⟨#[41]⟩) (l := sShut) (by decide) (stOf GA)
  generalize stOf (bindS (stOf GA) (wantP S sShut)) = st3 at *
  have hbb := block_any9 Q B (.slice vad S.L.length vc) S hnf st3
  unfold Reads9 at hbb
  generalize bindS st3 (blockC S) = gB at *
  have hcm := fun st' w' (h' : Par w' Q B (.slice vad S.L.length vc) S st') => sees_any Q B _ S st' ⟨#[44]⟩ w' h'
  rw [show nums ⟨#[44]⟩ = sComma by decide] at hcm
  clear hp HB2
  have hql : Q < w.heap.size := by omega
  go_enter Tryz.func106, Tryz.ntmps106
  go_upto_block 0 with (first
    | (go_at_call 105; refine (hnm _ HPA.out).mono ?_; rintro e w1 ⟨⟨xv, rfl, htx⟩, hp1, hg1⟩; obtain ⟨tx, hxv⟩ := text_string htx; subst hxv)
    | (go_at_call 72; refine (hW1 _ hp1).mono ?_; rintro e w2 ⟨rfl, hp2, hgx⟩; have hg2 := hg1.trans hgx)
    | (go_at_call 70; refine (hsh _ hp2).mono ?_; rintro e w3 ⟨rfl, hb3⟩; have hp3 := hp2.below hb3; have hg3 := hg2.trans (grown_below Q hb3)))
  have HTX : Hid (TextG (.string tx) g1) := htx
  have HR0 : Hid (RowL w w3 Q B (.slice vad S.L.length vc) S (stOf GK0) (.slice none 0 0) 0 GK0) := RowL.first (by rw [HK0.out]; exact hp3) (HX.out.grown hg3 (by omega)) ((World.grownBy_alloc w zeroN (some Q)).trans hg3) HK1.out
  clear htx hp1 hg1 hp2 hgx hg2 hb3 hp3 hg3 hnm hW1 hsh HPA HX
  go_cut [4] from 18 to 58 (fun s4 wx => ∃ (n : Nat) (ad : Option Addr) (c : Nat), s4 = .slice ad n c ∧ n ≤ 4002 ∧ Hid (RowL w wx Q B (.slice vad S.L.length vc) S (stOf GA) (.slice ad n c) n GA))
  case first =>
    clear hbb hW2 HTX HO
    go_wp2_with fail
    go_loopw [4, 5, 6] (fun s4 s5 s6 wr => ∃ (i n : Nat) (isb : Bool) (GK : Got (List Nd)), s5 = .bool isb ∧ s6 = .int .i64 i ∧ i ≤ 4001 ∧ n ≤ i ∧ Hid (RowL w wr Q B (.slice vad S.L.length vc) S (stOf GK) s4 n GK) ∧ Hid (MethL S GA GK isb i)) (fun _ _ s6 _ => 4002 - (intOf s6).toNat)
    case atStart => exact ⟨0, 0, isb0, GK0, rfl, rfl, by omega, by omega, HR0, HG0⟩
    case round =>
      clear HR0 HG0 HK0 HK1
      obtain ⟨i, n, isb, GK, rfl, rfl, hi, hn, HRF, HL⟩ := hrel
      obtain ⟨ad3, c3, hs3⟩ := HRF.out.kin.length.1
      subst hs3
      rcases HL.out with ⟨rfl, hi0, hor⟩ | ⟨rfl, acc, s, rfl, hga, hi1, hle1⟩
      · have hil : (i : Int) ≤ (S.L.length : Int) := by omega
        have hnb : n ≤ 4002 := by omega
        clear hi0 hn hi HL hcm
        obtain ⟨tok, deep, many, fc, fa, ho, hf⟩ := HRF.out.par.obj
        obtain ⟨k0, _, _, _, _, k5, _⟩ := ho.cells
        rcases hor with ⟨rfl, y, hy⟩ | ⟨rfl, ⟨ec, ea⟩, he⟩
        · clear ho hf hy
          go_wp2_with fail
          go_meet
          exact ⟨n, ad3, c3, rfl, hnb, HRF⟩
        · rw [he] at hf
          obtain ⟨rfl, rfl, hfc⟩ := hf
          have hcb : (fc == 0) = false := by simpa using hfc
          clear ho he
          go_wp2_with fail
          go_meet
          exact ⟨n, ad3, c3, rfl, hnb, HRF⟩
      · have hil : (i : Int) ≤ (S.L.length : Int) := by omega
        have hwi := wrap_id (x := (i : Int) + 1) (by omega) (by omega)
        have hnx := argns_next hga
        rw [arg_leaf, leafK_st] at hnx
        have hnm := fun w' (h' : Par w' Q B (.slice vad S.L.length vc) S (.ok s)) => name_any Q B (.slice vad S.L.length vc) S (.ok s) w' h'
        rw [bindS_ok] at hnm
        obtain ⟨many, ho, _, _, _, _⟩ := HRF.out.par.ok
        obtain ⟨k0, _, _, _, _, k5, _⟩ := ho.cells
        have hbx := HRF.out.box.lt
        have HPS : Hid (Par wr Q B (.slice vad S.L.length vc) S (.ok s)) := HRF.out.par
        clear ho hga HL
        generalize nameP S s = gn at *
        have hcm0 := hcm (nodeS (stOf gn))
        clear hcm
        cases hsc : seesS S sComma (nodeS (stOf gn)) with
        | false =>
          have HGA : Hid (GA = (leafK 5 gn).then fun k s => .ok (acc ++ [k], s)) := hnx.1 hsc
          rw [hsc] at hcm0
          clear hsc hnx
          go_wp2_with (first
            | (go_at_call 105; refine (hnm _ HPS.out).mono ?_; rintro e w4 ⟨⟨xv, rfl, htx⟩, hp4, hg4⟩; obtain ⟨ty, hxv⟩ := text_string htx; subst hxv)
            | (go_at_call 74; refine (node_any Q B _ S _ _ _ _ ⟨_, _, _, rfl⟩ _ hp4).mono ?_; rintro e w6 ⟨rfl, hp6, hg6⟩; have hR6 := HRF.out.grown hql hp6 (hg4.trans hg6); have hx6 := hR6.box.lt; obtain ⟨xs, O6, hmore⟩ := hR6.push hRB (leafK_val (kind := 5) htx) (C := w6.heap.size) (by omega) (fun j e => (hR6.lt j e).2))
            | (at_builtin; refine wpList_append_whereN nodeE rfl (.tmp 44) (.tmp 46) rfl (w.heap.size + 1) n 1 (.slice ad3 n c3) xs [.int .i64 5, .string ty, .int .i64 0, .slice none 0 0] rfl ((O6.alloc (.cells #[.int .i64 5, .string ty, .int .i64 0, .slice none 0 0] 24)).alloc (.cells #[.int .i64 5, .string ty, .int .i64 0, .slice none 0 0] 24)) ⟨w6.heap.size + 1, 0, none⟩ rfl rfl (four_new _ _ _ _ _ _ _) (four_one _ _ _ _ _ _) (by omega) (by simp; omega) ?_; intro g' cap' w7 O7 hg7 hor7; obtain ⟨hR7, hsz7⟩ := hmore _ _ _ _ _ O7 hg7 hor7 _ (then_kids (acc := acc) (s0 := s)))
            | (go_at_call 70; refine (hcm0 _ hR7.par).mono ?_; rintro e w8 ⟨rfl, hb8⟩; have hR8 := hR7.grown hql (hR7.par.below hb8) (grown_below Q hb8)))
          go_meet
          refine ⟨n + 1, _, _, rfl, by omega, ?_⟩
          show RowL _ _ _ _ _ _ _ _ _ _
          rw [HGA.out, then_st, leafK_st]
          exact hR8
        | true =>
          obtain ⟨k, s3, hk3, hs3, ht3, hga3⟩ := hnx.2 hsc
          rw [hsc] at hcm0
          have ht := sees_lt hs3
          have hwt := wrap_id (x := (s3.tok : Int) + 1) (by omega) (by omega)
          have HGA : Hid (MethL S GA (.ok (acc ++ [k], s3.step)) false (i + 1)) := Or.inr ⟨rfl, acc ++ [k], s3.step, rfl, hga3, by show i + 1 ≤ s3.tok + 1; omega, by show s3.tok + 1 ≤ _; omega⟩
          have HKK : Hid (∀ ks' s', (.ok (acc ++ [k], s3.step) : Got (List Nd)) = .ok (ks', s') → ∃ ks s1 k1 s2, (.ok (acc, s) : Got (List Nd)) = .ok (ks, s1) ∧ leafK 5 gn = .ok (k1, s2) ∧ ks' = ks ++ [k1]) := fun ks' s' e => by cases e; exact ⟨acc, s, k, s3, rfl, hk3, rfl⟩
          have HST : Hid (nodeS (stOf gn) = .ok s3) := by show _ = _; rw [← leafK_st (kind := 5), hk3]; rfl
          clear hsc hnx hk3 hs3 hga3
          go_wp2_with (first
            | (go_at_call 105; refine (hnm _ HPS.out).mono ?_; rintro e w4 ⟨⟨xv, rfl, htx⟩, hp4, hg4⟩; obtain ⟨ty, hxv⟩ := text_string htx; subst hxv)
            | (go_at_call 74; refine (node_any Q B _ S _ _ _ _ ⟨_, _, _, rfl⟩ _ hp4).mono ?_; rintro e w6 ⟨rfl, hp6, hg6⟩; have hR6 := HRF.out.grown hql hp6 (hg4.trans hg6); have hx6 := hR6.box.lt; obtain ⟨xs, O6, hmore⟩ := hR6.push hRB (leafK_val (kind := 5) htx) (C := w6.heap.size) (by omega) (fun j e => (hR6.lt j e).2))
            | (at_builtin; refine wpList_append_whereN nodeE rfl (.tmp 44) (.tmp 46) rfl (w.heap.size + 1) n 1 (.slice ad3 n c3) xs [.int .i64 5, .string ty, .int .i64 0, .slice none 0 0] rfl ((O6.alloc (.cells #[.int .i64 5, .string ty, .int .i64 0, .slice none 0 0] 24)).alloc (.cells #[.int .i64 5, .string ty, .int .i64 0, .slice none 0 0] 24)) ⟨w6.heap.size + 1, 0, none⟩ rfl rfl (four_new _ _ _ _ _ _ _) (four_one _ _ _ _ _ _) (by omega) (by simp; omega) ?_; intro g' cap' w7 O7 hg7 hor7; obtain ⟨hR7, hsz7⟩ := hmore _ _ _ _ _ O7 hg7 hor7 _ HKK.out)
            | (go_at_call 70; refine (hcm0 _ hR7.par).mono ?_; rintro e w8 ⟨rfl, hb8⟩; have hR8 := hR7.grown hql (hR7.par.below hb8) (grown_below Q hb8); have hp8 := hR8.par; rw [HST.out] at hp8; obtain ⟨many8, ho8, _, _, _, _⟩ := hp8.ok; obtain ⟨_, _, v2, _, _, _, _⟩ := ho8.cells; have z2 := ho8.frozen 2; clear ho8))
          exact ⟨⟨i + 1, n + 1, false, .ok (acc ++ [k], s3.step), rfl, by simp, by omega, by omega, hR8.grown hql (par_step hp8 ht) (grown_set w8 Q 2 _), HGA⟩, by simp [intOf]; omega⟩
  case rest =>
    obtain ⟨n, ad, c, rfl, hn, HRA⟩ := hcut
    have hbA := HRA.out.box.lt
    have hlt := HRA.out.lt
    clear HK0 HK1 HG0 HR0 hcm
    go_wp2_with (first
      | (go_at_call 72; refine (hW2 _ HRA.out.par).mono ?_; rintro e wA ⟨rfl, hpA, hgA⟩)
      | (go_at_call 73; refine (hbb _ hpA).mono ?_; rintro e w6 ⟨⟨u, rfl, hv⟩, hp6, hgL⟩; obtain ⟨a', b', c', ad', n', cc', hu'⟩ := hv.any; subst hu'; have hR6 := HRA.out.grown hql hp6 (hgA.trans hgL); have hx6 := hR6.box.lt; have hszA := hgA.size; obtain ⟨xs, O6, hmore⟩ := hR6.push hRB hv (by omega) (fun j e => by have := (hlt j e).2; omega))
      | (at_builtin; refine wpList_append_whereN nodeE rfl (.tmp 65) (.tmp 67) rfl (w.heap.size + 1) n 1 (.slice ad n c) xs [.int .i64 a', .string b', .int .i64 c', .slice ad' n' cc'] rfl ((O6.alloc (.cells #[.int .i64 a', .string b', .int .i64 c', .slice ad' n' cc'] 24)).alloc (.cells #[.int .i64 a', .string b', .int .i64 c', .slice ad' n' cc'] 24)) ⟨w6.heap.size + 1, 0, none⟩ rfl rfl (four_new _ _ _ _ _ _ _) (four_one _ _ _ _ _ _) (by omega) (by simp; omega) ?_; intro g' cap' w7 O7 hg7 hor7; obtain ⟨hR7, hsz7⟩ := hmore _ _ _ _ _ O7 hg7 hor7 _ (lastK_is (GA := GA) (gB := gB)))
      | (go_at_call 74; refine (node_any Q B _ S _ _ _ _ ⟨_, _, _, rfl⟩ _ hR7.par).mono ?_; rintro e wN ⟨rfl, hpN, hgN⟩; have hRN := hR7.grown hql hpN hgN; have hxN := hRN.box.lt; obtain ⟨⟨x0, x1, x2, x3⟩, f0, f1, f2, f3⟩ := hRN.box.facts))
    obtain ⟨⟨k0, k1, k2, k3⟩, _⟩ := ((hRN.box.put (.int .i64 4) (.string tx) (.int .i64 n) (.slice (some ⟨g', 0, none⟩) (n + 1) cap')).alloc (.cells #[.int .i64 4, .string tx, .int .i64 n, .slice (some ⟨g', 0, none⟩) (n + 1) cap'] 24)).facts
    refine bodyPost_ret (v := .agg #[.int .i64 4, .string tx, .int .i64 n, sl g' (n + 1) cap']) (by simp [results, Tryz.results106, go_sem, k0, k1, k2, k3]) rfl ⟨⟨_, rfl, ?_⟩, by rw [HO.out.2]; exact (par_box hpN hRB _ _ _ _).below ((Below.refl _ _).alloc (Nat.le_refl _) _), (grown_own hRN.gro (below_box (Nat.le_refl _) _ _ _ _)).trans (World.grownBy_alloc _ _ _)⟩
    exact (((val_meth HO.out.1 HTX.out HRA.out.kin hRN.kin).above (above_box (R := w.heap.size) (by show ¬ w.heap.size + 1 ≤ w.heap.size; omega) _ _ _ _)).above (Above.grown (World.grownBy_alloc _ _ none) (fun k e => by cases e))).mono (fun k hk _ => by have hk' : w.heap.size + 1 ≤ k := hk; show w.heap.size ≤ k; omega)
end Go.Proofs.YtkppdndbfedijadGreatDoor
