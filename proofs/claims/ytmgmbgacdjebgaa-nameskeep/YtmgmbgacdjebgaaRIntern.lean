/- gessoref7.Intern. -/
import Derived.Test.YtmgmbgacdjebgaaRFind
import Derived.Test.YtmgmbgacdjebgaaNIntern
import Derived.Test.YtmgmbgacdjebgaaRefNewGood
import Derived.Test.YtmgmbgacdjebgaaRefPutGood
namespace Go.Proofs.Ytmgmbgacdjebgaa
open Go.RowKit

/-- What is said: those words, that reference, that error. -/
def Says (r : List Int × Int × Int) (e : Ending) (w : World) : Prop := ∃ ad c, e = .returned (.tuple #[.agg #[.slice ad r.1.length c], .int .i64 r.2.1, .int .i64 r.2.2]) ∧ Reads w (.slice ad r.1.length c) r.1
theorem says_new {K : List Int} {a : Int} {e : Ending} {w : World} (h : NewAns K a e w) : Says (K, a, 0) e w := by
  obtain ⟨g, c, he, hown⟩ := h
  exact ⟨_, _, he, Reads.of_own hown⟩
theorem says_err {er : Int} {e : Ending} {w : World} (h : e = newErr er) : Says ([], 0, er) e w := ⟨none, 0, h, ⟨none, 0, rfl, fun h => by simp at h⟩⟩

/-- What Put answers, n words in all. -/
def PutN (n : Nat) (K : List Int) (e : Ending) (w : World) : Prop := ∃ g c, e = .returned (.tuple #[.agg #[sl g n c], .int .i64 0]) ∧ w.ownsRow 0 3 1 (sl g n c) n (vals K)
theorem rput_n (K : List Int) (n g c p k : Nat) (what : Int) (w : World) (hn : K.length = n) (hown : w.ownsRow 0 3 1 (sl g n c) n (vals K)) (hwf : ∀ j, (Lit.int .i64 (wd K j)).wf = true) (hc : (checkOf K).1 = 0) (ho : thingB K (2 * (p : Int)) = true) (hm : p ∈ places K 2) (hk : k < slotsAt K p) (hst : standB K (formAt K p) what = true) :
    Calls Try.prog 30 #[.agg #[sl g n c], .int .i64 (2 * (p : Int)), .int .i64 (k : Int), .int .i64 what] w fun e w' => PutN n (K.set (p + 3 + k) what) e w' ∧ Below w.heap.size w w' := by
  subst hn
  obtain ⟨hf, hu⟩ := check_ok hc
  obtain ⟨_, hl, _⟩ := front_out hf
  refine (rput_good K g 0 c p k what w (own_reads hown hwf) hu hl (own_cap hown).1 ho hm hk hst).mono fun e w' hp => ⟨?_, hp.2⟩
  obtain ⟨g', c', he, ho'⟩ := hp.1
  rw [List.length_set] at he ho'
  exact ⟨g', c', he, ho'⟩
theorem own_not {w : World} {g c n B : Nat} {K : List Int} {ad : Option Addr} {m k : Nat} (h : w.ownsRow 0 3 1 (sl g n c) n (vals K)) (hn : 0 < n) (hl : K.length = n) (hB : w.cell? ⟨B, 0, none⟩ = some (.slice ad m k)) : g ≠ B := fun e => by
  subst hl
  have := own_cell h hn
  rw [e, hB] at this
  simp at this
theorem boxX {w w' : World} {x : Value} {t : TypeId} (hb : Below (w.alloc (.cells #[x] t)).heap.size (w.alloc (.cells #[x] t)) w') : w'.frozen? ⟨w.heap.size, 0, none⟩ = false := by
  rw [hb.frozen (p := ⟨w.heap.size, 0, none⟩) (by simp)]; exact frozen_at2 rfl

set_option maxRecDepth 20000 in
set_option maxHeartbeats 4000000 in
theorem rintern_table (W : List Int) (b off cap p : Nat) (t : ByteArray) (w : World) (hr : Row w b off W) (hc : (checkOf W).1 = 0) (hcap : W.length ≤ cap) (t1 : thingB W (2 * (p : Int)) = true) (t2 : p ∈ places W 2) (t3 : formAt W p = 0) (t4 : (slotsOf W p).length = slotsAt W p) (t5 : 0 < (slotsOf W p).length) (t6 : ∀ j, j < (slotsOf W p).length → rowB W (wd (slotsOf W p) j) = true) (hl : t.size ≤ 60) :
    Calls Try.prog 15 #[heapV (some ⟨b, off, none⟩) W.length cap, .int .i64 (2 * (p : Int)), .string t] w fun e w' => Says (internP W (2 * (p : Int)) (nums t)) e w' ∧ Below w.heap.size w w' := by
  obtain ⟨hfr, hu⟩ := check_ok hc
  obtain ⟨h2, hl2, _, hh1, hh2⟩ := front_out hfr
  have HS : Hid (∀ sv, seatI (seatP W p (nums t)) = sv → ∀ w0, Row w0 b off W → Calls Try.prog 29 #[heapV (some ⟨b, off, none⟩) W.length cap, .int .i64 (2 * (p : Int)), .string t] w0 fun e w' => e = .returned (.int .i64 sv) ∧ Below w0.heap.size w0 w') :=
    fun sv hsv w0 h0 => rseat_any W b off cap p t w0 h0 hc hcap t1 t2 t5 t6 hl sv hsv
  have HF0 : Hid (seatP W p (nums t) = none → internP W (2 * (p : Int)) (nums t) = ([], 0, 6)) := fun e => by unfold internP; rw [begP_ref, e]
  have HF1 : Hid (∀ k, seatP W p (nums t) = some k → internP W (2 * (p : Int)) (nums t) = if wd W (p + 3 + k) = 0 then (if 2000 < W.length + 3 + (nums t).length ∨ 10000 < wd W 1 then ([], 0, 6) else (internW W p k (nums t), 2 * (W.length : Int), 0)) else (W, wd W (p + 3 + k), 0)) := fun k e => by unfold internP; rw [begP_ref, e]
  have HL : Hid (∀ k, seatP W p (nums t) = some k → k < (slotsOf W p).length ∧ wd W (p + 3 + k) = wd (slotsOf W p) k) := fun k hk => by
    have hk1 := (seat_lt (by omega) _ _ _ hk).1
    exact ⟨by omega, (slots_at hk1).symm⟩
  have HC : Hid ((checkOf W).1 = 0) := hc
  have H4 : Hid ((slotsOf W p).length = slotsAt W p) := t4
  have H3 : Hid (formAt W p = 0) := t3
  have HN : Hid ((nums t).length = t.size) := nums_length t
  clear t3 t4 t6 hc hfr
  cases hs : seatP W p (nums t) with
  | none =>
    rw [HF0.out hs]
    have HSS : Hid (∀ w0, Row w0 b off W → Calls Try.prog 29 #[heapV (some ⟨b, off, none⟩) W.length cap, .int .i64 (2 * (p : Int)), .string t] w0 fun e w' => e = .returned (.int .i64 (-1)) ∧ Below w0.heap.size w0 w') := HS.out (-1) (by rw [hs]; rfl)
    clear HS HF0 HF1 HL
    go_enter Try.func15, Try.ntmps15
    go_wp2_with (first | (go_at_call 27; refine (rlook_yes W b off cap p _ ((hr.alloc _).alloc _) hu hl2 hcap t1 t2).mono ?_; rintro e w1 ⟨⟨v1, rfl, ad1, c1, rfl, hs1⟩, hb1⟩; obtain ⟨c0, d1, d2, hz⟩ := boxes11 hb1; have z1 : w.heap.size < w1.heap.size := (by omega)) | (go_at_call 29; refine (HSS.out _ ((((hr.alloc _).alloc _).same hb1).alloc _)).mono ?_; rintro e w2 ⟨rfl, hb2⟩; obtain ⟨u3, z2⟩ := box4v hb2; have hB2 := hb1.trans ((below_call hb2).mono hb1.size); obtain ⟨c0', d1', d2', hz'⟩ := boxes11 hB2))
    refine bodyPost_ret (v := .tuple #[.agg #[.slice none 0 0], .int .i64 0, .int .i64 6]) (by simp [results, Try.results15, go_sem, d1']) rfl ⟨says_err rfl, ?_⟩
    repeat (first | refine Below.setCell ?_ (by dsimp only; omega) _ | exact below2 hB2)
  | some k =>
    obtain ⟨hk, hwk⟩ := HL.out k hs
    have HSS : Hid (∀ w0, Row w0 b off W → Calls Try.prog 29 #[heapV (some ⟨b, off, none⟩) W.length cap, .int .i64 (2 * (p : Int)), .string t] w0 fun e w' => e = .returned (.int .i64 (k : Int)) ∧ Below w0.heap.size w0 w') := HS.out (k : Int) (by rw [hs]; rfl)
    have hF := HF1.out k hs
    rw [hwk] at hF
    have hki : (k : Int) < ((slotsOf W p).length : Int) := by omega
    have hk0 : ¬ (k : Int) < 0 := by omega
    clear HS HF0 HF1 HL hwk
    by_cases h0 : wd (slotsOf W p) k = 0
    · rw [if_pos h0] at hF
      have hb0 : (wd (slotsOf W p) k != 0) = false := by simpa using h0
      have HSz : Hid (sizeB (t.size : Int) = true) := decide_eq_true (by omega)
      clear h0
      by_cases hfull : 2000 < W.length + 3 + (nums t).length ∨ 10000 < wd W 1
      · rw [if_pos hfull] at hF
        rw [hF]
        have HFull : Hid (2000 < (W.length : Int) + 3 + (t.size : Int) ∨ 10000 < wd W 1) := by rw [HN.out] at hfull; show _ ∨ _; omega
        clear hF hfull
        go_enter Try.func15, Try.ntmps15
        go_wp2_with (first | (go_at_call 27; refine (rlook_yes W b off cap p _ ((hr.alloc _).alloc _) hu hl2 hcap t1 t2).mono ?_; rintro e w1 ⟨⟨v1, rfl, ad1, c1, rfl, hs1⟩, hb1⟩; obtain ⟨c0, d1, d2, hz⟩ := boxes11 hb1; have z1 : w.heap.size < w1.heap.size := (by omega); obtain ⟨g, hg, hgB, hown⟩ := hs1 t5; subst hg) | (go_at_call 29; refine (HSS.out _ ((((hr.alloc _).alloc _).same hb1).alloc _)).mono ?_; rintro e w2 ⟨rfl, hb2⟩; obtain ⟨u3, z2⟩ := box4v hb2; have hB2 := hb1.trans ((below_call hb2).mono hb1.size); obtain ⟨c0', d1', d2', hz'⟩ := boxes11 hB2; have hck := own_cell (ownsRow_below hown (below_call hb2) (own_lt hown)) hk) | (go_at_call 10; refine (rnew_full W b off cap 0 1 (t.size : Int) _ (((hr.alloc _).alloc _).same hB2) hu h2 hl2 hh2 (nil_at0 W) (by decide) HSz.out HFull.out).mono ?_; rintro e w3 ⟨rfl, hb3⟩; have hB3 := hB2.trans (hb3.mono hB2.size); obtain ⟨c0'', d1'', d2'', hz''⟩ := boxes11 hB3))
        refine bodyPost_ret (v := .tuple #[.agg #[.slice none 0 0], .int .i64 0, .int .i64 6]) (by simp [results, Try.results15, go_sem, cell_past, d1'', hz'']) rfl ⟨says_err rfl, ?_⟩
        repeat (first | refine Below.setCell ?_ (by dsimp only; omega) _ | refine Below.alloc ?_ (by simp [World.setCell]; omega) _ | exact below2 hB3)
      · rw [if_neg hfull] at hF
        rw [hF]
        rw [HN.out] at hfull
        have hfit : (W.length : Int) + 3 + (t.size : Int) ≤ 2000 := by omega
        have hh : wd W 1 ≤ 10000 := by omega
        have HFl : Hid (∀ i, i ≤ (nums t).length → Filling W (nums t) i) := fun i hi => filling HC.out (by rw [HN.out]; exact hl) (nums_byte t) (by rw [HN.out]; omega) hh hi
        have HWF : Hid (∀ i j, (Lit.int .i64 (wd (fillP (moreW W 0 1 (nums t).length) (W.length + 3) (nums t) i) j)).wf = true) := fun i j =>
          wd_in (P := fun x => (Lit.int .i64 x).wf = true) (by decide) (fill_in_all (P := fun x => (Lit.int .i64 x).wf = true) small_wf (in_wd (P := fun x => (Lit.int .i64 x).wf = true) hr.wf) (nums_byte t) (by rw [HN.out]; exact hl) (by omega) hh2 i) j
        have HP : Hid ((checkOf (textW W (nums t))).1 = 0 ∧ thingB (textW W (nums t)) (2 * (p : Int)) = true ∧ p ∈ places (textW W (nums t)) 2 ∧ k < slotsAt (textW W (nums t)) p ∧ standB (textW W (nums t)) (formAt (textW W (nums t)) p) (2 * (W.length : Int)) = true) := text_put HC.out (by rw [HN.out]; exact hl) (nums_byte t) (by rw [HN.out]; omega) hh t1 t2 H3.out (by rw [← H4.out]; exact hk)
        have HM : Hid (newWords W 0 1 (t.size : Int) = moreW W 0 1 (nums t).length) := by rw [new_more, HN.out]; exact rfl
        have HW : Hid ((moreW W 0 1 (nums t).length).length = W.length + 3 + t.size) := by rw [moreW_length, HN.out]; exact rfl
        clear hF hfull
        go_enter Try.func15, Try.ntmps15
        go_wp2_with (first | (go_at_call 27; refine (rlook_yes W b off cap p _ ((hr.alloc _).alloc _) hu hl2 hcap t1 t2).mono ?_; rintro e w1 ⟨⟨v1, rfl, ad1, c1, rfl, hs1⟩, hb1⟩; obtain ⟨c0, d1, d2, hz⟩ := boxes11 hb1; have z1 : w.heap.size < w1.heap.size := (by omega); obtain ⟨g, hg, hgB, hown⟩ := hs1 t5; subst hg) | (go_at_call 29; refine (HSS.out _ ((((hr.alloc _).alloc _).same hb1).alloc _)).mono ?_; rintro e w2 ⟨rfl, hb2⟩; obtain ⟨u3, z2⟩ := box4v hb2; have hB2 := hb1.trans ((below_call hb2).mono hb1.size); obtain ⟨c0', d1', d2', hz'⟩ := boxes11 hB2; have hck := own_cell (ownsRow_below hown (below_call hb2) (own_lt hown)) hk) | (go_at_call 10; refine (rnew_good W b off cap 0 1 t.size _ (((hr.alloc _).alloc _).same hB2) hu h2 hh hh1 (nil_at0 W) (by decide) HSz.out hfit).mono ?_; rintro e w3 ⟨hans, hb3⟩; rw [HM.out] at hans; obtain ⟨g3, c3, rfl, hown3⟩ := hans; rw [HW.out] at hown3 ⊢; have hB3 := hB2.trans (hb3.mono hB2.size); have z3 := hB3.size; simp only [World.size_alloc] at z3))
        clear hck u3 z2 c0' d1' d2' hz' hown hgB c0 d1 d2 hz z1
        have HPut : Hid (∀ (i g c : Nat) (w0 : World), i < t.size → w0.ownsRow 0 3 1 (sl g (W.length + 3 + t.size) c) (W.length + 3 + t.size) (vals (fillP (moreW W 0 1 (nums t).length) (W.length + 3) (nums t) i)) →
            Calls Try.prog 30 #[.agg #[sl g (W.length + 3 + t.size) c], .int .i64 (2 * (W.length : Int)), .int .i64 (i : Int), .int .i64 (wd (nums t) i)] w0 fun e w' => PutN (W.length + 3 + t.size) (fillP (moreW W 0 1 (nums t).length) (W.length + 3) (nums t) (i + 1)) e w' ∧ Below w0.heap.size w0 w') := fun i g c w0 hi hown0 => by
          have F := HFl.out i (by rw [HN.out]; omega)
          exact rput_n _ _ g c W.length i _ w0 (by rw [fill_length]; exact HW.out) hown0 (HWF.out i) F.check (F.thing h2 (by omega)) F.mem (by rw [F.slots, HN.out]; exact hi) (F.stand (nums_byte t) (by rw [HN.out]; exact hi))
        have HTab : Hid (∀ (g c : Nat) (w0 : World), w0.ownsRow 0 3 1 (sl g (W.length + 3 + t.size) c) (W.length + 3 + t.size) (vals (fillP (moreW W 0 1 (nums t).length) (W.length + 3) (nums t) t.size)) →
            Calls Try.prog 30 #[.agg #[sl g (W.length + 3 + t.size) c], .int .i64 (2 * (p : Int)), .int .i64 (k : Int), .int .i64 (2 * (W.length : Int))] w0 fun e w' => PutN (W.length + 3 + t.size) (internW W p k (nums t)) e w' ∧ Below w0.heap.size w0 w') := fun g c w0 hown0 => by
          obtain ⟨x1, x2, x3, x4, x5⟩ := HP.out
          have e : fillP (moreW W 0 1 (nums t).length) (W.length + 3) (nums t) t.size = textW W (nums t) := by unfold textW; rw [HN.out]
          rw [e] at hown0
          rw [intern_text]
          exact rput_n _ _ g c p k _ w0 (by rw [textW_length, HN.out]) hown0 (by rw [← e]; exact HWF.out _) x1 x2 x3 x4 x5
        have HIL : Hid ((internW W p k (nums t)).length = W.length + 3 + t.size) := by rw [intern_text, List.length_set, textW_length, HN.out]; exact rfl
        have HO3 : Hid (w3.ownsRow 0 3 1 (sl g3 (W.length + 3 + t.size) c3) (W.length + 3 + t.size) (vals (fillP (moreW W 0 1 (nums t).length) (W.length + 3) (nums t) 0))) := hown3
        have hNp : 0 < W.length + 3 + t.size := by omega
        clear hown3 HFl HWF HP HM HC H4 H3 HSS
        go_loopw [15] (fun s15 wr => ∃ (i g c : Nat), s15 = .int .i64 i ∧ i ≤ t.size ∧ Hid (wr.ownsRow 0 3 1 (sl g (W.length + 3 + t.size) c) (W.length + 3 + t.size) (vals (fillP (moreW W 0 1 (nums t).length) (W.length + 3) (nums t) i))) ∧ Hid (wr.cell? ⟨w3.heap.size, 0, none⟩ = some (sl g (W.length + 3 + t.size) c)) ∧ Hid (wr.frozen? ⟨w3.heap.size, 0, none⟩ = false) ∧ Below w3.heap.size w3 wr) (fun s15 _ => t.size - (intOf s15).toNat)
        case atStart => exact ⟨0, g3, c3, rfl, Nat.zero_le _, HO3.out.alloc _, (by show World.cell? _ _ = _; rw [cell_at2 rfl]; rfl), (by show World.frozen? _ _ = _; exact frozen_at2 rfl), (Below.refl _ _).alloc (Nat.le_refl _) _⟩
        case round =>
          rename_i wr
          obtain ⟨i, g4, c4, rfl, hi', HO, HX, HFz, hB⟩ := hrel
          have hX := HX.out
          have hFz := HFz.out
          have zB := hB.size
          have zX := World.block_lt_of_cell? wr _ hX
          by_cases hlt : i < t.size
          · have hil : (i : Int) < (t.size : Int) := by omega
            have hcc := nums_at hlt
            have hby := wd_byte (nums_byte t) i
            have HPi : Hid (∀ (w0 : World), w0.ownsRow 0 3 1 (sl g4 (W.length + 3 + t.size) c4) (W.length + 3 + t.size) (vals (fillP (moreW W 0 1 (nums t).length) (W.length + 3) (nums t) i)) → Calls Try.prog 30 #[.agg #[sl g4 (W.length + 3 + t.size) c4], .int .i64 (2 * (W.length : Int)), .int .i64 (i : Int), .int .i64 (wd (nums t) i)] w0 fun e w' => PutN (W.length + 3 + t.size) (fillP (moreW W 0 1 (nums t).length) (W.length + 3) (nums t) (i + 1)) e w' ∧ Below w0.heap.size w0 w') := fun w0 h0 => HPut.out i g4 c4 w0 hlt h0
            generalize wd (nums t) i = x at *
            have hw1 := wrap_id (x := x) (by omega) (by omega)
            go_wp2_with fail
            go_region_with (go_at_call 30; refine (HPi.out _ (by first | exact HO.out.drew | exact HO.out)).mono ?_; rintro e w5 ⟨⟨g5, c5, rfl, hown5⟩, hb5⟩; have hb6 := below_drew hb5; have y0 := (hb6.cell (p := ⟨w3.heap.size, 0, none⟩) zX).trans hX; have y1 := (hb6.frozen (p := ⟨w3.heap.size, 0, none⟩) zX).trans hFz)
            all_goals go_wp2_with fail
            all_goals
              have ne5 : g5 ≠ w3.heap.size := own_not hown5 hNp (by rw [fill_length]; exact HW.out) y0
              go_roundw
              case rel => exact ⟨i + 1, g5, c5, by first | rfl | simp, by omega, own_set' hown5 ne5 _, World.cell?_setCell_same' w5 _ _ (by rw [y0]; rfl), (by show World.frozen? _ _ = _; rw [World.frozen?_setCell]; exact y1), (hB.trans (hb6.mono zB)).setCell (p := ⟨w3.heap.size, 0, none⟩) (Nat.le_refl _) _⟩
              case measure => simp [intOf]; omega
          · have e : i = t.size := by omega
            subst e
            have HTi : Hid (∀ (w0 : World), w0.ownsRow 0 3 1 (sl g4 (W.length + 3 + t.size) c4) (W.length + 3 + t.size) (vals (fillP (moreW W 0 1 (nums t).length) (W.length + 3) (nums t) t.size)) → Calls Try.prog 30 #[.agg #[sl g4 (W.length + 3 + t.size) c4], .int .i64 (2 * (p : Int)), .int .i64 (k : Int), .int .i64 (2 * (W.length : Int))] w0 fun e w' => PutN (W.length + 3 + t.size) (internW W p k (nums t)) e w' ∧ Below w0.heap.size w0 w') := fun w0 h0 => HTab.out g4 c4 w0 h0
            have nX : ¬ w3.heap.size = w.heap.size + 1 := by omega
            have nX' : ¬ w.heap.size + 1 = w3.heap.size := by omega
            go_wp2_with (first | (go_at_call 30; refine (HTi.out _ HO.out).mono ?_; rintro e w5 ⟨⟨g5, c5, rfl, hown5⟩, hb5⟩; have y0 := (hb5.cell (p := ⟨w3.heap.size, 0, none⟩) zX).trans hX; have y1 := (hb5.frozen (p := ⟨w3.heap.size, 0, none⟩) zX).trans hFz; have hB5 := hB3.trans ((hB.trans (hb5.mono zB)).mono hB3.size); obtain ⟨c0, d1, d2, hz⟩ := boxes11 hB5))
            have ne5 : g5 ≠ w3.heap.size := own_not hown5 hNp HIL.out y0
            have ne6 : g5 ≠ w.heap.size + 1 := own_not hown5 hNp HIL.out d1
            refine bodyPost_ret (v := .tuple #[.agg #[sl g5 (W.length + 3 + t.size) c5], .int .i64 (2 * (W.length : Int)), .int .i64 0]) (by simp [results, Try.results15, go_sem, d1]) rfl ⟨⟨_, c5, by rw [HIL.out], ?_⟩, ?_⟩
            · have hO6 := own_set' (own_set' hown5 (a := ⟨w3.heap.size, 0, none⟩) ne5 (sl g5 (W.length + 3 + t.size) c5)) (a := ⟨w.heap.size + 1, 0, none⟩) ne6 (sl g5 (W.length + 3 + t.size) c5)
              rw [← HIL.out] at hO6
              have := Reads.of_own hO6
              rw [HIL.out] at this ⊢
              exact this
            · repeat (first | refine Below.setCell ?_ (by dsimp only; omega) _ | exact below2 hB5)
    · rw [if_neg h0] at hF
      rw [hF]
      have hb0 : (wd (slotsOf W p) k != 0) = true := by simpa using h0
      clear hF h0
      go_enter Try.func15, Try.ntmps15
      go_wp2_with (first | (go_at_call 27; refine (rlook_yes W b off cap p _ ((hr.alloc _).alloc _) hu hl2 hcap t1 t2).mono ?_; rintro e w1 ⟨⟨v1, rfl, ad1, c1, rfl, hs1⟩, hb1⟩; obtain ⟨c0, d1, d2, hz⟩ := boxes11 hb1; have z1 : w.heap.size < w1.heap.size := (by omega); obtain ⟨g, hg, hgB, hown⟩ := hs1 t5; subst hg) | (go_at_call 29; refine (HSS.out _ ((((hr.alloc _).alloc _).same hb1).alloc _)).mono ?_; rintro e w2 ⟨rfl, hb2⟩; obtain ⟨u3, z2⟩ := box4v hb2; have hB2 := hb1.trans ((below_call hb2).mono hb1.size); obtain ⟨c0', d1', d2', hz'⟩ := boxes11 hB2; have hck := own_cell (ownsRow_below hown (below_call hb2) (own_lt hown)) hk))
      have zg : w.heap.size + 1 + 1 ≤ g := by simp at hgB; omega
      have n1 : ¬ w1.heap.size = w.heap.size + 1 := by omega
      have n2 : ¬ w.heap.size + 1 = w1.heap.size := by omega
      have n3 : ¬ g = w.heap.size + 1 := by omega
      have n4 : ¬ w.heap.size + 1 = g := by omega
      go_region
      all_goals go_wp2_with fail
      all_goals
        refine bodyPost_ret (v := .tuple #[.agg #[.slice (some ⟨b, off, none⟩) W.length cap], .int .i64 (wd (slotsOf W p) k), .int .i64 0]) (by simp [results, Try.results15, go_sem, d1']) rfl ⟨⟨_, cap, rfl, Reads.of_row (hr.same ?_)⟩, ?_⟩
        all_goals repeat (first | refine Below.setCell ?_ (by dsimp only; omega) _ | refine Below.drew ?_ | exact below2 hB2)
end Go.Proofs.Ytmgmbgacdjebgaa
