/- NamesKeep holds for every heap, every table, every text and every size that can come in, with no condition: the program finds a text, or makes it known, or says what stands against it. -/
import Derived.Test.YtmgmbgacdjebgaaNamesCore
import Derived.ChangeMaps5
namespace Go.Proofs.Ytmgmbgacdjebgaa.namesKeep
open Go.ChangeShapes Go.WideShapes Go.ChangeAt Go.RowKit Go.Joins Go.Deep

theorem says_intern {r : List Int × Int × Int} {e : Ending} {w : World} (h : InternAns r e w) : Says r e w := by
  obtain ⟨K, a, er⟩ := r
  rcases h with ⟨h0, hn⟩ | ⟨_, h1, h2, he⟩
  · obtain rfl : er = 0 := h0
    exact says_new hn
  · obtain rfl : K = [] := h1
    obtain rfl : a = 0 := h2
    exact says_err he
theorem intern_len {W T : List Int} {o : Int} (hW : W.length ≤ 2000) : (internP W o T).1.length ≤ 1000000 := by
  unfold internP
  cases seatP W (begP o) T with
  | none => simp
  | some k =>
    simp only
    split
    · split
      · simp
      · simp only [intern_text, List.length_set, textW_length]; omega
    · simp only; omega
theorem all_len {W : List Int} {p : Nat} (h : (slotsOf W p).length ≤ 60) : (allP W p).length ≤ 1000000 := by
  have e := allTo_all (W := W) (p := p) (i := (textP W p).length) (Nat.le_refl _)
  have hl := allTo_length W p (textP W p).length
  rw [e] at hl
  have : (textP W p).length ≤ 60 := h
  omega
theorem row_words {W : List Int} {b off : Nat} {w : World} (h : Row w b off W) : 2 ≤ W.length → ∃ b' off', (some ⟨b, off, none⟩ : Option Addr) = some ⟨b', off', none⟩ ∧ Row w b' off' W := fun _ => ⟨b, off, rfl, h⟩

/-- Table and New, of a size that may be. -/
theorem tab_in (W : List Int) (b off cap : Nat) (si : Int) (hm : W.length ≤ maxLen) (h : (checkOf W).1 = 0) (hsi : 1 ≤ si ∧ si ≤ 60) :
    ∃ (rT : List Int) (oT eT : Int), rT.length ≤ 1000000 ∧
      (∀ w0, Row w0 b off W → Calls Try.prog 8 #[heapV (some ⟨b, off, none⟩) W.length cap, .int .i64 si] w0 fun e w' => Says (rT, oT, eT) e w' ∧ Below w0.heap.size w0 w') ∧
      (∀ w0, Row w0 b off W → Calls Try.prog 10 #[heapV (some ⟨b, off, none⟩) W.length cap, .int .i64 0, .int .i64 0, .int .i64 si] w0 fun e w' => Says (rT, oT, eT) e w' ∧ Below w0.heap.size w0 w') := by
  obtain ⟨hf, hu⟩ := check_ok h
  obtain ⟨h2, hl, _, hh1, hh2⟩ := front_out hf
  have hsz : sizeB si = true := decide_eq_true (by omega)
  by_cases hfull : 2000 < (W.length : Int) + 3 + si ∨ 10000 < wd W 1
  · refine ⟨[], 0, 6, by simp, fun w0 h0 => (table_err W _ cap si 6 w0 hm (row_words h0) h hsi.1 (fun w1 h1 => new_full W _ cap 0 0 si w1 h1 h (nil_at0 W) (by decide) hsz hfull)).mono fun e w' hp => ⟨says_err hp.1, hp.2⟩, fun w0 h0 => (rnew_full W b off cap 0 0 si w0 h0 hu h2 hl hh2 (nil_at0 W) (by decide) hsz hfull).mono fun e w' hp => ⟨says_err hp.1, hp.2⟩⟩
  · obtain ⟨m, rfl⟩ := Int.eq_ofNat_of_zero_le (show 0 ≤ si by omega)
    refine ⟨newWords W 0 0 m, 2 * (W.length : Int), 0, by rw [new_length]; omega, fun w0 h0 => (table_good W _ cap m w0 hm (row_words h0) h (by omega) (by omega) (by omega) (by omega)).mono fun e w' hp => ⟨says_new hp.1, hp.2⟩, fun w0 h0 => (rnew_good W b off cap 0 0 m w0 h0 hu h2 (by omega) hh1 (nil_at0 W) (by decide) hsz (by omega)).mono fun e w' hp => ⟨says_new hp.1, hp.2⟩⟩
/-- Table, of another. -/
theorem tab_out (W : List Int) (b off cap : Nat) (si : Int) (hm : W.length ≤ maxLen) (h : (checkOf W).1 = 0) (hsi : si < 1 ∨ 60 < si) (w0 : World) (h0 : Row w0 b off W) : Calls Try.prog 8 #[heapV (some ⟨b, off, none⟩) W.length cap, .int .i64 si] w0 fun e w' => Says ([], 0, 4) e w' ∧ Below w0.heap.size w0 w' := by
  by_cases h1 : si < 1
  · exact (table_small W _ cap si w0 hm (row_words h0) h h1).mono fun e w' hp => ⟨says_err hp.1, hp.2⟩
  · have hs : sizeB si = false := decide_eq_false (by omega)
    exact (table_err W _ cap si 4 w0 hm (row_words h0) h (by omega) (fun w1 hr1 => new_range W _ cap 0 0 si w1 hr1 h (nil_at0 W) (by rw [hs]; simp))).mono fun e w' hp => ⟨says_err hp.1, hp.2⟩

theorem walk_yes (W : List Int) (b off cap : Nat) (o si : Int) (t : ByteArray) (w : World) (hm : W.length ≤ maxLen) (hcap : W.length ≤ cap) (hl : W.length ≤ 5000) (hr : Row w b off W) (h : (checkOf W).1 = 0) :
    Calls Try.prog 3 #[.agg #[.slice (some ⟨b, off, none⟩) W.length cap], .int .i64 o, .string t, .int .i64 si] w fun e w' => e = .returned (.bool true) ∧ Below w.heap.size w w' := by
  obtain ⟨hf, hu⟩ := check_ok h
  obtain ⟨h2, hl2, _, hh1, hh2⟩ := front_out hf
  have hC : ∀ w0, Row w0 b off W → Calls Try.prog 9 #[heapV (some ⟨b, off, none⟩) W.length cap] w0 fun e w' => e = .returned (.agg #[.int .i64 0, .int .i64 0]) ∧ Below w0.heap.size w0 w' := fun w0 h0 => by
    have := rcheck_any W _ cap w0 hm (row_words h0); rw [see_fst h] at this; exact this
  have hB := fun w0 h0 => rtable_any W b off cap o w0 h0 hu hl2 hcap
  cases ht : tableB W o with
  | false =>
    rw [ht] at hB
    have hs : ∀ w0, (2 ≤ W.length → ∃ b' off', (some ⟨b, off, none⟩ : Option Addr) = some ⟨b', off', none⟩ ∧ Row w0 b' off' W) → Calls Try.prog 20 #[heapV (some ⟨b, off, none⟩) W.length cap, .int .i64 o] w0 fun e w' => e = .returned (.tuple #[noTab, .int .i64 3]) ∧ Below w0.heap.size w0 w' := fun w0 h0 => by
      cases hth : thingB W o with
      | false => exact seating_kind W _ cap o w0 h0 h hth
      | true =>
        obtain ⟨p, rfl, hmem, _⟩ := thing_even hth
        exact seating_not W _ cap p w0 h0 h hth hmem ht
    have hse := fun w0 h0 => searched_err W _ cap o 3 t w0 h0 (by decide) hs
    have hI : ∀ w0, Row w0 b off W → Calls Try.prog 5 #[heapV (some ⟨b, off, none⟩) W.length cap, .int .i64 o, .string t] w0 fun e w' => Says ([], 0, 3) e w' ∧ Below w0.heap.size w0 w' := fun w0 h0 => (intern_err W _ cap o 3 t w0 (row_words h0) (by decide) hse).mono fun e w' hp => ⟨says_err hp.1, hp.2⟩
    have hF := fun w0 (h0 : Row w0 b off W) => find_err W _ cap o 3 t w0 (row_words h0) (by decide) hse
    have hA : ∀ w0, Row w0 b off W → Calls Try.prog 7 #[heapV (some ⟨b, off, none⟩) W.length cap, .int .i64 o] w0 fun e w' => AllAns [] 3 e w' ∧ Below w0.heap.size w0 w' := fun w0 h0 => (all_err W _ cap o 3 w0 (row_words h0) (by decide) hs).mono fun e w' hp => ⟨⟨none, 0, hp.1, readsS_none⟩, hp.2⟩
    by_cases hsi : 1 ≤ si ∧ si ≤ 60
    · obtain ⟨rT, oT, eT, hrT, hT, hN⟩ := tab_in W b off cap si hm h hsi
      exact core_in_not W b off cap o si t w hr hl hsi rT oT eT hrT hI hF hA hT hC hN hB
    · exact core_out_not W b off cap o si t w hr hl (by omega) hI hF hA (tab_out W b off cap si hm h (by omega)) hC hB
  | true =>
    rw [ht] at hB
    obtain ⟨p, rfl, _, _⟩ := thing_even (table_out hu ht).1
    obtain ⟨t1, t2, t3, t4, t5, t6⟩ := tab_facts h ht
    have h60 : (slotsOf W p).length ≤ 60 := by rw [t4]; have := (fits_out (place_fit hu t2).2.2.1).2.2.2.1; unfold slotsAt; omega
    have hA : ∀ w0, Row w0 b off W → Calls Try.prog 7 #[heapV (some ⟨b, off, none⟩) W.length cap, .int .i64 (2 * (p : Int))] w0 fun e w' => AllAns (allP W p) 0 e w' ∧ Below w0.heap.size w0 w' := fun w0 h0 => (all_table W _ cap p w0 (row_words h0) h t1 t2 ht t6).mono fun e w' hp => ⟨by
      obtain ⟨v, he, hv⟩ := hp.1
      have hrd := hv.reads
      obtain ⟨ad, c, rfl, _⟩ := hv
      exact ⟨ad, c, he, hrd⟩, hp.2⟩
    have hA7 := fun w0 (h0 : Row w0 b off W) => rall_table W b off cap p w0 h0 h hcap t1 t2 t5 t6
    by_cases htl : t.size ≤ 60
    · have hI : ∀ w0, Row w0 b off W → Calls Try.prog 5 #[heapV (some ⟨b, off, none⟩) W.length cap, .int .i64 (2 * (p : Int)), .string t] w0 fun e w' => Says (internP W (2 * (p : Int)) (nums t)) e w' ∧ Below w0.heap.size w0 w' := fun w0 h0 => (intern_table W _ cap p t w0 (row_words h0) h ht htl).mono fun e w' hp => ⟨says_intern hp.1, hp.2⟩
      have hF := fun w0 (h0 : Row w0 b off W) => find_table W _ cap p t w0 (row_words h0) h ht htl
      have hI7 := fun w0 (h0 : Row w0 b off W) => rintern_table W b off cap p t w0 h0 h hcap t1 t2 t3 t4 t5 t6 htl
      have hF7 := fun w0 (h0 : Row w0 b off W) => rfind_table W b off cap p t w0 h0 h hcap t1 t2 t4 t5 t6 htl
      have hlen := intern_len (W := W) (T := nums t) (o := 2 * (p : Int)) hl2
      by_cases hsi : 1 ≤ si ∧ si ≤ 60
      · obtain ⟨rT, oT, eT, hrT, hT, hN⟩ := tab_in W b off cap si hm h hsi
        exact core_in_ok W b off cap _ si t w hr hl hsi rT oT eT hrT _ (all_len h60) htl _ _ _ _ _ hlen hI hF hA hT hC hN hB hA7 hI7 hF7
      · exact core_out_ok W b off cap _ si t w hr hl (by omega) _ (all_len h60) htl _ _ _ _ _ hlen hI hF hA (tab_out W b off cap si hm h (by omega)) hC hB hA7 hI7 hF7
    · have hse := fun w0 h0 => searched_size W (some ⟨b, off, none⟩) cap p t w0 h0 h t1 t2 ht (by omega)
      have hI : ∀ w0, Row w0 b off W → Calls Try.prog 5 #[heapV (some ⟨b, off, none⟩) W.length cap, .int .i64 (2 * (p : Int)), .string t] w0 fun e w' => Says ([], 0, 1) e w' ∧ Below w0.heap.size w0 w' := fun w0 h0 => (intern_err W _ cap _ 1 t w0 (row_words h0) (by decide) hse).mono fun e w' hp => ⟨says_err hp.1, hp.2⟩
      have hF := fun w0 (h0 : Row w0 b off W) => find_err W _ cap _ 1 t w0 (row_words h0) (by decide) hse
      by_cases hsi : 1 ≤ si ∧ si ≤ 60
      · obtain ⟨rT, oT, eT, hrT, hT, hN⟩ := tab_in W b off cap si hm h hsi
        exact core_in_long W b off cap _ si t w hr hl hsi rT oT eT hrT _ (all_len h60) (by omega) hI hF hA hT hC hN hB hA7
      · exact core_out_long W b off cap _ si t w hr hl (by omega) _ (all_len h60) (by omega) hI hF hA (tab_out W b off cap si hm h (by omega)) hC hB hA7

set_option maxRecDepth 20000 in
theorem big (ad : Option Addr) (n cap : Nat) (o si : Int) (t : ByteArray) (w : World) (hm : n ≤ maxLen) (h : 5000 < n) :
    Calls Try.prog 3 #[.agg #[.slice ad n cap], .int .i64 o, .string t, .int .i64 si] w fun e w' => e = .returned (.bool true) ∧ Below w.heap.size w w' := by
  unfold maxLen at hm
  go_enter Try.func3, Try.ntmps3
  go_wp2
  go_ret
  exact ⟨rfl, (Below.refl _ _).alloc (Nat.le_refl _) _⟩

set_option maxRecDepth 20000 in
set_option maxHeartbeats 4000000 in
theorem walk_no (W : List Int) (ad : Option Addr) (cap : Nat) (o si : Int) (t : ByteArray) (w : World) (hm : W.length ≤ maxLen) (hl : W.length ≤ 5000) (hr : 2 ≤ W.length → ∃ b off, ad = some ⟨b, off, none⟩ ∧ Row w b off W) (h : (checkOf W).1 ≠ 0) :
    Calls Try.prog 3 #[.agg #[.slice ad W.length cap], .int .i64 o, .string t, .int .i64 si] w fun e w' => e = .returned (.bool true) ∧ Below w.heap.size w w' := by
  have HR : Hid (2 ≤ W.length → ∃ b off, ad = some ⟨b, off, none⟩ ∧ Row w b off W) := hr
  have hs := fun w0 h0 => seating_heap W ad cap o w0 hm h0 h
  have hse := fun w0 h0 => searched_err W ad cap o 7 t w0 h0 (by decide) hs
  have hI : Hid (∀ w0, (2 ≤ W.length → ∃ b off, ad = some ⟨b, off, none⟩ ∧ Row w0 b off W) → Calls Try.prog 5 #[heapV ad W.length cap, .int .i64 o, .string t] w0 fun e w' => e = newErr 7 ∧ Below w0.heap.size w0 w') := fun w0 h0 => intern_err W ad cap o 7 t w0 h0 (by decide) hse
  have hF : Hid (∀ w0, (2 ≤ W.length → ∃ b off, ad = some ⟨b, off, none⟩ ∧ Row w0 b off W) → Calls Try.prog 6 #[heapV ad W.length cap, .int .i64 o, .string t] w0 fun e w' => e = .returned (.tuple #[.int .i64 0, .int .i64 7]) ∧ Below w0.heap.size w0 w') := fun w0 h0 => find_err W ad cap o 7 t w0 h0 (by decide) hse
  have hA : Hid (∀ w0, (2 ≤ W.length → ∃ b off, ad = some ⟨b, off, none⟩ ∧ Row w0 b off W) → Calls Try.prog 7 #[heapV ad W.length cap, .int .i64 o] w0 fun e w' => e = .returned (.tuple #[.slice none 0 0, .int .i64 7]) ∧ Below w0.heap.size w0 w') := fun w0 h0 => all_err W ad cap o 7 w0 h0 (by decide) hs
  have hT : Hid (∀ w0, (2 ≤ W.length → ∃ b off, ad = some ⟨b, off, none⟩ ∧ Row w0 b off W) → Calls Try.prog 8 #[heapV ad W.length cap, .int .i64 si] w0 fun e w' => e = newErr 7 ∧ Below w0.heap.size w0 w') := fun w0 h0 => table_heap W ad cap si w0 hm h0 h
  have hC : Hid (∀ w0, (2 ≤ W.length → ∃ b off, ad = some ⟨b, off, none⟩ ∧ Row w0 b off W) → Calls Try.prog 9 #[heapV ad W.length cap] w0 fun e w' => e = .returned (.agg #[.int .i64 (checkOf W).1, .int .i64 (checkOf W).2]) ∧ Below w0.heap.size w0 w') := fun w0 h0 => rcheck_any W ad cap w0 hm h0
  have hli : ¬ ((5000 : Int) < (W.length : Int)) := by omega
  clear hs hse hr
  generalize checkOf W = F at h hC
  have hb : (F.1 != 0) = true := by simpa using h
  clear h
  go_enter Try.func3, Try.ntmps3
  go_wp2_with (first | (go_at_call 5; refine (hI.out _ (reads1 HR.out)).mono ?_; rintro e w1 ⟨rfl, hb1⟩; have h1 := box_one hb1; have z1 := grew hb1) | (go_at_call 6; refine (hF.out _ (reads1 (words_below (reads1 HR.out) hb1))).mono ?_; rintro e w2 ⟨rfl, hb2⟩; have h2 := keep hb2 h1; have k2 := box_one hb2; have z2 := grew hb2; have A2 := hb1.trans ((below_call hb2).mono hb1.size)) | (go_at_call 7; refine (hA.out _ (words_below (reads1 HR.out) A2)).mono ?_; rintro e w3 ⟨rfl, hb3⟩; have h3 := keep0 hb3 h2; have k3 := keep0 hb3 k2; have z3 := hb3.size; have A3 := A2.trans (hb3.mono A2.size)) | (go_at_call 8; refine (hT.out _ (words_below (reads1 HR.out) A3)).mono ?_; rintro e w4 ⟨rfl, hb4⟩; have h4 := keep0 hb4 h3; have k4 := keep0 hb4 k3; have z4 := hb4.size; have A4 := A3.trans (hb4.mono A3.size); have hz4 : w.heap.size < w4.heap.size := (by omega); have hz14 : w1.heap.size < w4.heap.size := (by omega)) | (go_at_call 9; refine (hC.out _ (reads1 (words_below (reads1 HR.out) A4))).mono ?_; rintro e w5 ⟨rfl, hb5⟩; have k5 := keep hb5 k4; have m5 := box_one hb5; have z5 := grew hb5; have z15 : w1.heap.size < w5.heap.size := (by omega)))
  go_ret
  refine ⟨ret_bool (by simp), ?_⟩
  exact ((below_call A4).trans ((below_call hb5).mono (below_call A4).size)).alloc (by omega) _

theorem walk (W : List Int) (ad : Option Addr) (cap : Nat) (o si : Int) (t : ByteArray) (w : World) (hm : W.length ≤ maxLen) (hcap : W.length ≤ cap) (hr : 2 ≤ W.length → ∃ b off, ad = some ⟨b, off, none⟩ ∧ Row w b off W) :
    Calls Try.prog 3 #[.agg #[.slice ad W.length cap], .int .i64 o, .string t, .int .i64 si] w fun e w' => e = .returned (.bool true) ∧ Below w.heap.size w w' := by
  by_cases hl : W.length ≤ 5000
  · by_cases h : (checkOf W).1 = 0
    · obtain ⟨b, off, rfl, hrow⟩ := hr (front_out (check_ok h).1).1
      exact walk_yes W b off cap o si t w hm hcap hl hrow h
    · exact walk_no W ad cap o si t w hm hl hr h
  · exact big ad W.length cap o si t w hm (by omega)

set_option maxRecDepth 20000 in
theorem open_heap2 {H : Type} {enc : TypeId × Value → H} {w : World} {base b0 : Nat} {spare : Nat → Bool} {held : Bool} {r : Reach} {v : Value} {d : DataW H} {p : List MemPlace} (hv : Value.okWide Try.prog w r b0 24 v) (h : DataW.Trod enc Try.prog w base spare held 24 v d p) :
    ∃ (ad : Option Addr) (cap : Nat) (W : List Int), v = .agg #[.slice ad W.length cap] ∧ W.length ≤ maxLen ∧ W.length ≤ cap ∧ (2 ≤ W.length → ∃ b off, ad = some ⟨b, off, none⟩ ∧ Row w b off W) := by
  obtain ⟨v0, y0, n, rfl, hy⟩ := open_agg1 Try.underlying24 (by kernel_rfl) (by kernel_rfl) hv h
  obtain ⟨a, l, c, hs⟩ := slice_form lt30 hy
  simp at hs
  subst hs
  have hcp : l ≤ c := by
    rcases open_ints lt30 lt3 (by kernel_rfl) hy with ⟨hcs, _⟩ | ⟨y, l', c', zs, hcs, _, hl, _⟩
    · simp at hcs; omega
    · simp at hcs; omega
  obtain ⟨hm, W, rfl, hr⟩ := open_nums hy
  exact ⟨a, c, W, rfl, hm, hcp, fun h => hr (by omega)⟩

set_option maxRecDepth 100000 in
theorem lifted (os : Os) (started : os.Started) (H : Type) (enc : TypeId × Value → H) :
    ReturnsInHanded {} Try.checked os 3 .any (Rows.namesKeepSpec.pre6 enc Try.prog Try.f3 Rows.namesKeepRow.domain false) (Rows.namesKeepSpec.post enc Try.prog Try.f3 false true false false) := by
  refine returnsInHanded_of_change (C := Try.checked) own started (by kernel_rfl) Try.func3
    (ChangeSpec.witness6 (enc := enc) (C := Try.checked) false ⟨#[], #[.agg #[.slice none 0 0], .int .i64 0, .string ByteArray.empty, .int .i64 0], []⟩ 8 (by kernel_rfl) (by kernel_rfl) (by kernel_rfl) (by kernel_rfl)) ?_
  intro W base args ds gs before hval0 hW hcnd _
  have hval : ∀ (j : Nat) t v, Try.f3.params[j]? = some t → args[j]? = some v → Value.okWide Try.prog W .any base t v := hval0
  have hW' := hW
  obtain ⟨p, q, hA0, hV, rfl, hfz, hnd⟩ := hW
  have hA : DataW.TrodAll enc Try.prog W 0 (fun _ => true) true Try.f3.params.toList args.toList ds p := hA0
  rw [Try.params3] at hA hval
  obtain ⟨v0, vs0, d0, ds0, p0, q0, hargs, rfl, rfl, h0, r0⟩ := trodAll_cons hA
  obtain ⟨v1, vs1, d1, ds1, p1, q1, rfl, rfl, rfl, h1, r1⟩ := trodAll_cons r0
  obtain ⟨v2, vs2, d2, ds2, p2, q2, rfl, rfl, rfl, h2, r2⟩ := trodAll_cons r1
  obtain ⟨v3, vs3, d3, ds3, p3, q3, rfl, rfl, rfl, h3, r3⟩ := trodAll_cons r2
  obtain ⟨rfl, rfl, rfl⟩ := trodAll_nil r3
  obtain rfl : args = #[v0, v1, v2, v3] := by cases args; simp_all
  obtain ⟨rfl, rfl⟩ := trodVars_none hV
  have lt0 : ∀ x ∈ p0, x.block < W.heap.size := by obtain ⟨m, hm⟩ := h0; exact DataW.trod_lt m _ _ _ hm
  obtain ⟨ad, cap, Ws, rfl, hm, hcap, hr⟩ := open_heap2 (hval 0 24 v0 rfl rfl) h0
  obtain ⟨a1, rfl, rfl, rfl, w1⟩ := open_int lt3 (hval 1 3 v1 rfl rfl) h1
  obtain ⟨s2, rfl, rfl, rfl, w2⟩ := Go.ChangeMaps.open_string tyStr (hval 2 9 v2 rfl rfl) h2
  obtain ⟨a3, rfl, rfl, rfl, w3⟩ := open_int lt3 (hval 3 3 v3 rfl rfl) h3
  clear hA0 hval0
  refine (walk Ws ad cap a1 a3 s2 W hm hcap hr).mono fun e W' ⟨he, bel⟩ => ?_
  subst he
  exact ⟨_, rfl, _, _, _, [], _, [], hW', trodAll_mk1 (shut_bool lt4 _), (trodAll_cons_mk (Below.trod laidOut (by kernel_rfl) (of_decide_eq_true (by kernel_rfl)) h0 bel lt0) (trodAll_cons_mk (shut_int lt3 w1) (trodAll_cons_mk (Go.ChangeMaps.shut_string tyStr w2) (trodAll_cons_mk (shut_int lt3 w3) trodAll_mk0)))), rfl, bel.frame _, fun h => by cases h⟩

theorem over : Rows.namesKeepRow.holds Try.pinned (OpenSpec.ofChange Rows.namesKeepSpec) :=
  OpenClaim.holds_of_wide 3 Try.f3 rfl rfl rfl rfl rfl rfl rfl ⟨rfl, rfl, rfl, rfl, rfl⟩ rfl rfl rfl rfl rfl (by kernel_rfl) Try.func3 (by kernel_rfl)
    (of_decide_eq_true (by kernel_rfl)) (by unfold Func.isWrapper; first | (rw [if_pos (by decide +kernel)]; kernel_rfl) | (rw [if_neg (by decide +kernel)]; exact ⟨rfl, rfl⟩))
    (fun os started H enc _ => lifted os started H enc)

end Go.Proofs.Ytmgmbgacdjebgaa.namesKeep
namespace Go.Proofs.Ytmgmbgacdjebgaa
/-- The statement. -/
theorem namesKeep_holds : Rows.NamesKeepSaid := namesKeep.over
#print axioms namesKeep_holds
end Go.Proofs.Ytmgmbgacdjebgaa
