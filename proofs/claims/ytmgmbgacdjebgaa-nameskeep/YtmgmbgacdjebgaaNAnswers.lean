/- names: what Intern and Find answer. -/
import Derived.Test.YtmgmbgacdjebgaaNIntern
namespace Go.Proofs.Ytmgmbgacdjebgaa
open Go.RowKit

theorem tab_facts {W : List Int} {p : Nat} (hc : (checkOf W).1 = 0) (ht : tableB W (2 * (p : Int)) = true) : thingB W (2 * (p : Int)) = true ∧ p ∈ places W 2 ∧ formAt W p = 0 ∧ (slotsOf W p).length = slotsAt W p ∧ 0 < (slotsOf W p).length ∧ ∀ j, j < (slotsOf W p).length → rowB W (wd (slotsOf W p) j) = true := by
  obtain ⟨_, hu⟩ := check_ok hc
  obtain ⟨t1, t2, t3, t4, t5⟩ := table_out hu ht
  rw [begP_ref] at t2 t3 t4 t5
  have hsl : (slotsOf W p).length = slotsAt W p := slots_length (fits_out (place_fit hu t2).2.2.1).2.2.2.2
  refine ⟨t1, t2, t3, hsl, by omega, fun j hj => ?_⟩
  rw [hsl] at hj
  rw [slots_at hj]
  exact row_mk (t5 j hj)
theorem words_below {W : List Int} {ad : Option Addr} {w w' : World} (hr : 2 ≤ W.length → ∃ b off, ad = some ⟨b, off, none⟩ ∧ Row w b off W) (hb : Below w.heap.size w w') : 2 ≤ W.length → ∃ b off, ad = some ⟨b, off, none⟩ ∧ Row w' b off W :=
  fun h => let ⟨b, off, e, r⟩ := hr h; ⟨b, off, e, r.same hb⟩
/-- What Intern answers. -/
def InternAns (r : List Int × Int × Int) (e : Ending) (w : World) : Prop := (r.2.2 = 0 ∧ NewAns r.1 r.2.1 e w) ∨ (r.2.2 ≠ 0 ∧ r.1 = [] ∧ r.2.1 = 0 ∧ e = newErr r.2.2)

set_option maxRecDepth 20000 in
set_option maxHeartbeats 1000000 in
theorem intern_err (W : List Int) (ad : Option Addr) (cap : Nat) (o er : Int) (t : ByteArray) (w : World) (hr : 2 ≤ W.length → ∃ b off, ad = some ⟨b, off, none⟩ ∧ Row w b off W) (he : (er != 0) = true)
    (hs : Hid (∀ w0, (2 ≤ W.length → ∃ b off, ad = some ⟨b, off, none⟩ ∧ Row w0 b off W) → Calls Try.prog 17 #[heapV ad W.length cap, .int .i64 o, .string t] w0 fun e w' => e = .returned (.tuple #[noTab, .int .i64 (-1), .int .i64 er]) ∧ Below w0.heap.size w0 w')) :
    Calls Try.prog 5 #[heapV ad W.length cap, .int .i64 o, .string t] w fun e w' => e = newErr er ∧ Below w.heap.size w w' := by
  have HR : Hid (2 ≤ W.length → ∃ b off, ad = some ⟨b, off, none⟩ ∧ Row w b off W) := hr
  clear hr
  go_enter Try.func5, Try.ntmps5
  go_wp2_with (go_at_call 17; refine (hs.out _ (reads2 HR.out)).mono ?_; rintro e w1 ⟨rfl, hb1⟩; obtain ⟨c0, d1, d2, hz⟩ := boxes11 hb1)
  refine bodyPost_ret (v := .tuple #[.agg #[.slice none 0 0], .int .i64 0, .int .i64 er]) (by simp [results, Try.results5, go_sem, cell_past, d1, hz]) rfl ⟨rfl, ?_⟩
  repeat (first | refine Below.setCell ?_ (by dsimp only; omega) _ | refine Below.alloc ?_ (by simp [World.setCell]; omega) _ | exact below2 hb1)
set_option maxRecDepth 20000 in
set_option maxHeartbeats 1000000 in
theorem find_err (W : List Int) (ad : Option Addr) (cap : Nat) (o er : Int) (t : ByteArray) (w : World) (hr : 2 ≤ W.length → ∃ b off, ad = some ⟨b, off, none⟩ ∧ Row w b off W) (he : (er != 0) = true)
    (hs : Hid (∀ w0, (2 ≤ W.length → ∃ b off, ad = some ⟨b, off, none⟩ ∧ Row w0 b off W) → Calls Try.prog 17 #[heapV ad W.length cap, .int .i64 o, .string t] w0 fun e w' => e = .returned (.tuple #[noTab, .int .i64 (-1), .int .i64 er]) ∧ Below w0.heap.size w0 w')) :
    Calls Try.prog 6 #[heapV ad W.length cap, .int .i64 o, .string t] w fun e w' => e = .returned (.tuple #[.int .i64 0, .int .i64 er]) ∧ Below w.heap.size w w' := by
  have HR : Hid (2 ≤ W.length → ∃ b off, ad = some ⟨b, off, none⟩ ∧ Row w b off W) := hr
  clear hr
  go_enter Try.func6, Try.ntmps6
  go_wp2_with (go_at_call 17; refine (hs.out _ (reads1 HR.out)).mono ?_; rintro e w1 ⟨rfl, hb1⟩)
  refine bodyPost_ret (v := .tuple #[.int .i64 0, .int .i64 er]) (by simp [results, Try.results6, go_sem]) rfl ⟨rfl, ?_⟩
  exact (below_call hb1).alloc (below_call hb1).size _

set_option maxRecDepth 20000 in
set_option maxHeartbeats 1000000 in
theorem find_table (W : List Int) (ad : Option Addr) (cap p : Nat) (t : ByteArray) (w : World) (hr : 2 ≤ W.length → ∃ b off, ad = some ⟨b, off, none⟩ ∧ Row w b off W) (h : (checkOf W).1 = 0) (ht : tableB W (2 * (p : Int)) = true) (hl : t.size ≤ 60) :
    Calls Try.prog 6 #[heapV ad W.length cap, .int .i64 (2 * (p : Int)), .string t] w fun e w' => e = .returned (.tuple #[.int .i64 (findP W (2 * (p : Int)) (nums t)).1, .int .i64 (findP W (2 * (p : Int)) (nums t)).2]) ∧ Below w.heap.size w w' := by
  obtain ⟨t1, t2, t3, t4, t5, t6⟩ := tab_facts h ht
  have HR : Hid (2 ≤ W.length → ∃ b off, ad = some ⟨b, off, none⟩ ∧ Row w b off W) := hr
  have HS : Hid (∀ sv, seatI (seatP W p (nums t)) = sv → ∀ w0, (2 ≤ W.length → ∃ b off, ad = some ⟨b, off, none⟩ ∧ Row w0 b off W) → Calls Try.prog 17 #[heapV ad W.length cap, .int .i64 (2 * (p : Int)), .string t] w0 fun e w' => SearchAns W p w0.heap.size sv e w' ∧ Below w0.heap.size w0 w') :=
    fun sv hsv w0 h0 => searched_yes W ad cap p t w0 h0 h t1 t2 ht hl t5 t6 sv hsv
  have HF0 : Hid (seatP W p (nums t) = none → findP W (2 * (p : Int)) (nums t) = (0, 10)) := fun e => by unfold findP; rw [begP_ref, e]
  have HF1 : Hid (∀ k, seatP W p (nums t) = some k → findP W (2 * (p : Int)) (nums t) = if wd W (p + 3 + k) = 0 then (0, 10) else (wd W (p + 3 + k), 0)) := fun k e => by unfold findP; rw [begP_ref, e]
  have HL : Hid (∀ k, seatP W p (nums t) = some k → k < (slotsOf W p).length ∧ wd W (p + 3 + k) = wd (slotsOf W p) k) := fun k hk => by
    have hk1 := (seat_lt (by omega) _ _ _ hk).1
    exact ⟨by omega, (slots_at hk1).symm⟩
  clear hr ht t1 t2 t3 t4 t6 h
  cases hs : seatP W p (nums t) with
  | none =>
    have e0 : findP W (2 * (p : Int)) (nums t) = (0, 10) := HF0.out hs
    rw [e0]
    have HS' := HS.out (-1) (by rw [hs]; rfl)
    have HSS : Hid (∀ w0, (2 ≤ W.length → ∃ b off, ad = some ⟨b, off, none⟩ ∧ Row w0 b off W) → Calls Try.prog 17 #[heapV ad W.length cap, .int .i64 (2 * (p : Int)), .string t] w0 fun e w' => SearchAns W p w0.heap.size (-1) e w' ∧ Below w0.heap.size w0 w') := HS'
    clear HS' e0
    go_enter Try.func6, Try.ntmps6
    go_wp2_with (go_at_call 17; refine (HSS.out _ (reads1 HR.out)).mono ?_; rintro e w1 ⟨⟨b, cap', bm, ad2, c2, rfl, hsl⟩, hb1⟩)
    refine bodyPost_ret (v := .tuple #[.int .i64 0, .int .i64 10]) (by simp [results, Try.results6, go_sem]) rfl ⟨rfl, ?_⟩
    exact (below_call hb1).alloc (below_call hb1).size _
  | some k =>
    obtain ⟨hk, hwk⟩ := HL.out k hs
    have HS' := HS.out (k : Int) (by rw [hs]; rfl)
    have HSS : Hid (∀ w0, (2 ≤ W.length → ∃ b off, ad = some ⟨b, off, none⟩ ∧ Row w0 b off W) → Calls Try.prog 17 #[heapV ad W.length cap, .int .i64 (2 * (p : Int)), .string t] w0 fun e w' => SearchAns W p w0.heap.size (k : Int) e w' ∧ Below w0.heap.size w0 w') := HS'
    clear HS'
    have hkm : ((k : Int) == -1) = false := by rw [beq_eq_false_iff_ne]; omega
    have hki : (k : Int) < ((slotsOf W p).length : Int) := by omega
    by_cases h0 : wd (slotsOf W p) k = 0
    · have e0 : findP W (2 * (p : Int)) (nums t) = (0, 10) := by have := HF1.out k hs; rw [hwk, if_pos h0] at this; exact this
      rw [e0]
      have hb0 : (wd (slotsOf W p) k == 0) = true := by simpa using h0
      clear e0 h0 hwk
      go_enter Try.func6, Try.ntmps6
      go_wp2_with (go_at_call 17; refine (HSS.out _ (reads1 HR.out)).mono ?_; rintro e w1 ⟨⟨b, cap', bm, ad2, c2, rfl, hsl⟩, hb1⟩; obtain ⟨g, o, hg, hgl, hcx⟩ := hsl.at t5; subst hg; have hck := hcx k hk; clear hcx)
      refine bodyPost_ret (v := .tuple #[.int .i64 0, .int .i64 10]) (by simp [results, Try.results6, go_sem]) rfl ⟨rfl, ?_⟩
      exact (below_call hb1).alloc (below_call hb1).size _
    · have e0 : findP W (2 * (p : Int)) (nums t) = (wd (slotsOf W p) k, 0) := by have := HF1.out k hs; rw [hwk, if_neg h0] at this; exact this
      rw [e0]
      have hb0 : (wd (slotsOf W p) k == 0) = false := by simpa using h0
      clear e0 h0 hwk
      go_enter Try.func6, Try.ntmps6
      go_wp2_with (go_at_call 17; refine (HSS.out _ (reads1 HR.out)).mono ?_; rintro e w1 ⟨⟨b, cap', bm, ad2, c2, rfl, hsl⟩, hb1⟩; obtain ⟨g, o, hg, hgl, hcx⟩ := hsl.at t5; subst hg; have hck := hcx k hk; clear hcx)
      refine bodyPost_ret (v := .tuple #[.int .i64 (wd (slotsOf W p) k), .int .i64 0]) (by simp [results, Try.results6, go_sem]) rfl ⟨rfl, ?_⟩
      exact (below_call hb1).alloc (below_call hb1).size _

set_option maxRecDepth 20000 in
set_option maxHeartbeats 4000000 in
theorem intern_table (W : List Int) (ad : Option Addr) (cap p : Nat) (t : ByteArray) (w : World) (hr : 2 ≤ W.length → ∃ b off, ad = some ⟨b, off, none⟩ ∧ Row w b off W) (h : (checkOf W).1 = 0) (ht : tableB W (2 * (p : Int)) = true) (hl : t.size ≤ 60) :
    Calls Try.prog 5 #[heapV ad W.length cap, .int .i64 (2 * (p : Int)), .string t] w fun e w' => InternAns (internP W (2 * (p : Int)) (nums t)) e w' ∧ Below w.heap.size w w' := by
  obtain ⟨t1, t2, t3, t4, t5, t6⟩ := tab_facts h ht
  obtain ⟨h2, hl2, _, hh1, hh2⟩ := front_out (check_ok h).1
  have HR : Hid (2 ≤ W.length → ∃ b off, ad = some ⟨b, off, none⟩ ∧ Row w b off W) := hr
  have HN := nums_length t
  have HS : Hid (∀ sv, seatI (seatP W p (nums t)) = sv → ∀ w0, (2 ≤ W.length → ∃ b off, ad = some ⟨b, off, none⟩ ∧ Row w0 b off W) → Calls Try.prog 17 #[heapV ad W.length cap, .int .i64 (2 * (p : Int)), .string t] w0 fun e w' => SearchAns W p w0.heap.size sv e w' ∧ Below w0.heap.size w0 w') :=
    fun sv hsv w0 h0 => searched_yes W ad cap p t w0 h0 h t1 t2 ht hl t5 t6 sv hsv
  have HF0 : Hid (seatP W p (nums t) = none → internP W (2 * (p : Int)) (nums t) = ([], 0, 6)) := fun e => by unfold internP; rw [begP_ref, e]
  have HF1 : Hid (∀ k, seatP W p (nums t) = some k → internP W (2 * (p : Int)) (nums t) = if wd W (p + 3 + k) = 0 then (if 2000 < W.length + 3 + (nums t).length ∨ 10000 < wd W 1 then ([], 0, 6) else (internW W p k (nums t), 2 * (W.length : Int), 0)) else (W, wd W (p + 3 + k), 0)) := fun k e => by unfold internP; rw [begP_ref, e]
  have HL : Hid (∀ k, seatP W p (nums t) = some k → k < (slotsOf W p).length ∧ wd W (p + 3 + k) = wd (slotsOf W p) k) := fun k hk => by
    have hk1 := (seat_lt (by omega) _ _ _ hk).1
    exact ⟨by omega, (slots_at hk1).symm⟩
  have HFull : Hid (∀ (w0 : World) (at' : Int), (2000 < W.length + 3 + (nums t).length ∨ 10000 < wd W 1) → (2 ≤ W.length → ∃ b off, ad = some ⟨b, off, none⟩ ∧ Row w0 b off W) → Calls Try.prog 19 #[heapV ad W.length cap, .int .i64 (2 * (p : Int)), .int .i64 at', .string t] w0 fun e w' => e = newErr 6 ∧ Below w0.heap.size w0 w') :=
    fun w0 at' hf h0 => seated_full W ad cap _ at' t w0 h0 h hl (by rw [HN] at hf; omega)
  have HGood : Hid (∀ (w0 : World) (k : Nat), ¬ (2000 < W.length + 3 + (nums t).length ∨ 10000 < wd W 1) → k < slotsAt W p → (2 ≤ W.length → ∃ b off, ad = some ⟨b, off, none⟩ ∧ Row w0 b off W) → Calls Try.prog 19 #[heapV ad W.length cap, .int .i64 (2 * (p : Int)), .int .i64 (k : Int), .string t] w0 fun e w' => NewAns (internW W p k (nums t)) (2 * (W.length : Int)) e w' ∧ Below w0.heap.size w0 w') :=
    fun w0 k hf hk h0 => seated_good W ad cap p k t w0 h0 h hl (by rw [HN] at hf; omega) (by omega) t1 t2 t3 hk
  have H4 : Hid ((slotsOf W p).length = slotsAt W p) := t4
  clear hr ht t1 t2 t3 t4 t6 h HN
  cases hs : seatP W p (nums t) with
  | none =>
    rw [HF0.out hs]
    have HSS : Hid (∀ w0, (2 ≤ W.length → ∃ b off, ad = some ⟨b, off, none⟩ ∧ Row w0 b off W) → Calls Try.prog 17 #[heapV ad W.length cap, .int .i64 (2 * (p : Int)), .string t] w0 fun e w' => SearchAns W p w0.heap.size (-1) e w' ∧ Below w0.heap.size w0 w') := HS.out (-1) (by rw [hs]; rfl)
    clear HS HF0 HF1 HFull HGood HL
    go_enter Try.func5, Try.ntmps5
    go_wp2_with (go_at_call 17; refine (HSS.out _ (reads2 HR.out)).mono ?_; rintro e w1 ⟨⟨b, cap', bm, ad2, c2, rfl, hsl⟩, hb1⟩; obtain ⟨c0, d1, d2, hz⟩ := boxes11 hb1)
    refine bodyPost_ret (v := .tuple #[.agg #[.slice none 0 0], .int .i64 0, .int .i64 6]) (by simp [results, Try.results5, go_sem, cell_past, d1, hz]) rfl ⟨Or.inr ⟨by decide, rfl, rfl, rfl⟩, ?_⟩
    repeat (first | refine Below.setCell ?_ (by dsimp only; omega) _ | refine Below.alloc ?_ (by simp [World.setCell]; omega) _ | exact below2 hb1)
  | some k =>
    obtain ⟨hk, hwk⟩ := HL.out k hs
    have HSS : Hid (∀ w0, (2 ≤ W.length → ∃ b off, ad = some ⟨b, off, none⟩ ∧ Row w0 b off W) → Calls Try.prog 17 #[heapV ad W.length cap, .int .i64 (2 * (p : Int)), .string t] w0 fun e w' => SearchAns W p w0.heap.size (k : Int) e w' ∧ Below w0.heap.size w0 w') := HS.out (k : Int) (by rw [hs]; rfl)
    have hF := HF1.out k hs
    rw [hwk] at hF
    clear HS HF0 HF1 HL hwk
    have hkm : ((k : Int) == -1) = false := by rw [beq_eq_false_iff_ne]; omega
    have hki : (k : Int) < ((slotsOf W p).length : Int) := by omega
    by_cases h0 : wd (slotsOf W p) k = 0
    · rw [if_pos h0] at hF
      have hb0 : (wd (slotsOf W p) k != 0) = false := by simpa using h0
      clear h0
      by_cases hfull : 2000 < W.length + 3 + (nums t).length ∨ 10000 < wd W 1
      · rw [if_pos hfull] at hF
        rw [hF]
        have HD : Hid (∀ (w0 : World), (2 ≤ W.length → ∃ b off, ad = some ⟨b, off, none⟩ ∧ Row w0 b off W) → Calls Try.prog 19 #[heapV ad W.length cap, .int .i64 (2 * (p : Int)), .int .i64 (k : Int), .string t] w0 fun e w' => e = newErr 6 ∧ Below w0.heap.size w0 w') := fun w0 hr0 => HFull.out w0 _ hfull hr0
        clear hF hfull HFull HGood
        go_enter Try.func5, Try.ntmps5
        go_wp2_with (first | (go_at_call 17; refine (HSS.out _ (reads2 HR.out)).mono ?_; rintro e w1 ⟨⟨b, cap', bm, ad2, c2, rfl, hsl⟩, hb1⟩; obtain ⟨c0, d1, d2, hz⟩ := boxes11 hb1; obtain ⟨g, o, hg, hgl, hcx⟩ := hsl.at t5; subst hg; have hck := hcx k hk; clear hcx; have HR1 := (words_below (reads2 HR.out) hb1); have hz0 : w.heap.size < w1.heap.size := (by omega)) | (go_at_call 19; refine (HD.out _ (reads1 HR1)).mono ?_; rintro e w2 ⟨rfl, hb2⟩; have hB2 := hb1.trans (((below_call hb2)).mono hb1.size); obtain ⟨c0', d1', d2', hz'⟩ := boxes11 hB2))
        refine bodyPost_ret (v := .tuple #[.agg #[.slice none 0 0], .int .i64 0, .int .i64 6]) (by simp [results, Try.results5, go_sem, d1']) rfl ⟨Or.inr ⟨by decide, rfl, rfl, rfl⟩, ?_⟩
        repeat (first | refine Below.setCell ?_ (by dsimp only; omega) _ | exact below2 hB2)
      · rw [if_neg hfull] at hF
        rw [hF]
        have HD : Hid (∀ (w0 : World), (2 ≤ W.length → ∃ b off, ad = some ⟨b, off, none⟩ ∧ Row w0 b off W) → Calls Try.prog 19 #[heapV ad W.length cap, .int .i64 (2 * (p : Int)), .int .i64 (k : Int), .string t] w0 fun e w' => NewAns (internW W p k (nums t)) (2 * (W.length : Int)) e w' ∧ Below w0.heap.size w0 w') := fun w0 hr0 => HGood.out w0 k hfull (by rw [← H4.out]; exact hk) hr0
        have hpos : 0 < (internW W p k (nums t)).length := by rw [intern_text, List.length_set, textW_length]; omega
        have HPos : Hid (0 < (internW W p k (nums t)).length) := hpos
        clear hF hfull HFull HGood hpos
        obtain ⟨K, hK⟩ : ∃ K, internW W p k (nums t) = K := ⟨_, rfl⟩
        rw [hK] at HD HPos ⊢
        clear hK
        go_enter Try.func5, Try.ntmps5
        go_wp2_with (first | (go_at_call 17; refine (HSS.out _ (reads2 HR.out)).mono ?_; rintro e w1 ⟨⟨b, cap', bm, ad2, c2, rfl, hsl⟩, hb1⟩; obtain ⟨c0, d1, d2, hz⟩ := boxes11 hb1; obtain ⟨g, o, hg, hgl, hcx⟩ := hsl.at t5; subst hg; have hck := hcx k hk; clear hcx; have HR1 := (words_below (reads2 HR.out) hb1); have hz0 : w.heap.size < w1.heap.size := (by omega)) | (go_at_call 19; refine (HD.out _ (reads1 HR1)).mono ?_; rintro e w2 ⟨⟨g2, cc2, rfl, hown2⟩, hb2⟩; have hB2 := hb1.trans (((below_call hb2)).mono hb1.size); obtain ⟨c0', d1', d2', hz'⟩ := boxes11 hB2))
        have q1 : w2.cell? ⟨g2, 0, none⟩ = some (.int .i64 (wd K 0)) := own_cell hown2 HPos.out
        have n2 : g2 ≠ w.heap.size + 1 := fun e => by rw [e, d1'] at q1; simp at q1
        refine bodyPost_ret (v := .tuple #[.agg #[sl g2 K.length cc2], .int .i64 (2 * (W.length : Int)), .int .i64 0]) (by simp [results, Try.results5, go_sem, d1']) rfl ⟨Or.inl ⟨rfl, g2, cc2, rfl, own_set' hown2 n2 _⟩, ?_⟩
        repeat (first | refine Below.setCell ?_ (by dsimp only; omega) _ | exact below2 hB2)
    · rw [if_neg h0] at hF
      rw [hF]
      have hb0 : (wd (slotsOf W p) k != 0) = true := by simpa using h0
      clear hF h0 HFull HGood
      obtain ⟨hb', off', rfl, hrow0⟩ := HR.out h2
      go_enter Try.func5, Try.ntmps5
      go_upto_region 7 with (first | (go_at_call 17; refine (HSS.out _ (reads2 HR.out)).mono ?_; rintro e w1 ⟨⟨b, cap', bm, ad2, c2, rfl, hsl⟩, hb1⟩; obtain ⟨g, hg, hgB, hown⟩ := hsl t5; subst hg; have hck := own_cell hown hk; have hgl := own_lt hown))
      obtain ⟨wr, hwr⟩ : ∃ wr, (w1.alloc (.cells #[sl b W.length cap', .map (some bm), .slice (some ⟨g, 0, none⟩) (slotsOf W p).length c2] 48)) = wr := ⟨_, rfl⟩
      rw [hwr]
      have z1 := hb1.size
      simp only [World.size_alloc] at z1 hgB
      have hA : Below ((w.alloc (.cells #[.slice (some ⟨hb', off', none⟩) W.length cap] 24)).alloc (.cells #[.slice none 0 0] 24)).heap.size ((w.alloc (.cells #[.slice (some ⟨hb', off', none⟩) W.length cap] 24)).alloc (.cells #[.slice none 0 0] 24)) wr := by
        rw [← hwr]; exact hb1.alloc (by simp; omega) _
      have e0 := (boxes11 hA).1
      have e1 : wr.cell? ⟨w1.heap.size, 2, none⟩ = some (.slice (some ⟨g, 0, none⟩) (slotsOf W p).length c2) := by rw [← hwr, cell_at2 rfl]; rfl
      have e2 : wr.cell? ⟨g, k, none⟩ = some (.int .i64 (wd (slotsOf W p) k)) := by rw [← hwr, cell_past _ (by exact hgl)]; exact hck
      have l0 : w1.heap.size < wr.heap.size := by rw [← hwr]; simp
      have hrow : Row wr hb' off' W := ((hrow0.alloc _).alloc _).same hA
      have n1 : ¬ w1.heap.size = w.heap.size + 1 := by omega
      have n2 : ¬ w.heap.size + 1 = w1.heap.size := by omega
      have n3 : ¬ g = w.heap.size + 1 := by omega
      have n4 : ¬ w.heap.size + 1 = g := by omega
      clear hwr hck hown hsl hrow0 HR
      go_region_held3 (fun w' => w'.cell? ⟨w.heap.size, 0, none⟩ = some (.slice (some ⟨hb', off', none⟩) W.length cap) ∧ w'.cell? ⟨w1.heap.size, 2, none⟩ = some (.slice (some ⟨g, 0, none⟩) (slotsOf W p).length c2) ∧ w'.cell? ⟨g, k, none⟩ = some (.int .i64 (wd (slotsOf W p) k))) (go_keep) (first | (go_at_call 18; refine (clone_any W hb' off' cap _ (hrow.same (Below.refl _ _).drew) (by omega) hl2).mono ?_; rintro e w2 ⟨⟨g3, c3, rfl, hg3, hown3⟩, hb2⟩; have hb3 := below_drew hb2; have a0 := (hb3.cell (p := ⟨w.heap.size, 0, none⟩) (by dsimp only; omega)).trans e0; have a1 := (hb3.cell (p := ⟨w1.heap.size, 2, none⟩) l0).trans e1; have a2 := (hb3.cell (p := ⟨g, k, none⟩) (by dsimp only; omega)).trans e2; have hB3 := hA.trans (hb3.mono hA.size); obtain ⟨c0', d1', d2', hz'⟩ := boxes11 hB3; have hg3' : wr.heap.size ≤ g3 := (by simpa using hg3)))
      all_goals go_wp2_with fail
      all_goals
        refine bodyPost_ret (v := .tuple #[.agg #[sl g3 W.length c3], .int .i64 (wd (slotsOf W p) k), .int .i64 0]) (by simp [results, Try.results5, go_sem, d1']) rfl ⟨Or.inl ⟨rfl, g3, c3, rfl, own_set' hown3 (by dsimp only; omega) _⟩, ?_⟩
        repeat (first | refine Below.setCell ?_ (by dsimp only; omega) _ | exact below2 hB3)
end Go.Proofs.Ytmgmbgacdjebgaa
