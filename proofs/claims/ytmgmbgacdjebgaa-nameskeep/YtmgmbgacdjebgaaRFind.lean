/- gessoref7.Find, All; gessoref1.Texts. -/
import Derived.Test.YtmgmbgacdjebgaaNTexts
namespace Go.Proofs.Ytmgmbgacdjebgaa
open Go.RowKit

theorem box4v {w w' : World} {x0 x1 x2 x3 : Value} {t : TypeId} (hb : Below (w.alloc (.cells #[x0, x1, x2, x3] t)).heap.size (w.alloc (.cells #[x0, x1, x2, x3] t)) w') : w'.cell? ⟨w.heap.size, 3, none⟩ = some x3 ∧ w.heap.size < w'.heap.size := by
  refine ⟨?_, by have := hb.size; simp at this; omega⟩
  rw [hb.cell (p := ⟨w.heap.size, 3, none⟩) (by simp), cell_at2 rfl]; rfl

set_option maxRecDepth 20000 in
set_option maxHeartbeats 2000000 in
theorem rfind_table (W : List Int) (b off cap p : Nat) (t : ByteArray) (w : World) (hr : Row w b off W) (hc : (checkOf W).1 = 0) (hcap : W.length ≤ cap) (t1 : thingB W (2 * (p : Int)) = true) (t2 : p ∈ places W 2) (t4 : (slotsOf W p).length = slotsAt W p) (t5 : 0 < (slotsOf W p).length) (t6 : ∀ j, j < (slotsOf W p).length → rowB W (wd (slotsOf W p) j) = true) (hl : t.size ≤ 60) :
    Calls Try.prog 16 #[heapV (some ⟨b, off, none⟩) W.length cap, .int .i64 (2 * (p : Int)), .string t] w fun e w' => e = .returned (.tuple #[.int .i64 (findP W (2 * (p : Int)) (nums t)).1, .int .i64 (findP W (2 * (p : Int)) (nums t)).2]) ∧ Below w.heap.size w w' := by
  obtain ⟨hfr, hu⟩ := check_ok hc
  obtain ⟨_, hl2, _⟩ := front_out hfr
  have HS : Hid (∀ sv, seatI (seatP W p (nums t)) = sv → ∀ w0, Row w0 b off W → Calls Try.prog 29 #[heapV (some ⟨b, off, none⟩) W.length cap, .int .i64 (2 * (p : Int)), .string t] w0 fun e w' => e = .returned (.int .i64 sv) ∧ Below w0.heap.size w0 w') :=
    fun sv hsv w0 h0 => rseat_any W b off cap p t w0 h0 hc hcap t1 t2 t5 t6 hl sv hsv
  have HF0 : Hid (seatP W p (nums t) = none → findP W (2 * (p : Int)) (nums t) = (0, 10)) := fun e => by unfold findP; rw [begP_ref, e]
  have HF1 : Hid (∀ k, seatP W p (nums t) = some k → findP W (2 * (p : Int)) (nums t) = if wd W (p + 3 + k) = 0 then (0, 10) else (wd W (p + 3 + k), 0)) := fun k e => by unfold findP; rw [begP_ref, e]
  have HL : Hid (∀ k, seatP W p (nums t) = some k → k < (slotsOf W p).length ∧ wd W (p + 3 + k) = wd (slotsOf W p) k) := fun k hk => by
    have hk1 := (seat_lt (by omega) _ _ _ hk).1
    exact ⟨by omega, (slots_at hk1).symm⟩
  clear t4 t6 hc hfr
  cases hs : seatP W p (nums t) with
  | none =>
    rw [HF0.out hs]
    have HSS : Hid (∀ w0, Row w0 b off W → Calls Try.prog 29 #[heapV (some ⟨b, off, none⟩) W.length cap, .int .i64 (2 * (p : Int)), .string t] w0 fun e w' => e = .returned (.int .i64 (-1)) ∧ Below w0.heap.size w0 w') := HS.out (-1) (by rw [hs]; rfl)
    clear HS HF0 HF1 HL
    go_enter Try.func16, Try.ntmps16
    go_wp2_with (first | (go_at_call 27; refine (rlook_yes W b off cap p _ (hr.alloc _) hu hl2 hcap t1 t2).mono ?_; rintro e w1 ⟨⟨v1, rfl, ad1, c1, rfl, hs1⟩, hb1⟩; have k1 := box_one hb1; have z1 : w.heap.size < w1.heap.size := (by have := hb1.size; simp at this; omega)) | (go_at_call 29; refine (HSS.out _ (((hr.alloc _).same hb1).alloc _)).mono ?_; rintro e w2 ⟨rfl, hb2⟩; obtain ⟨u3, z2⟩ := box4v hb2))
    refine bodyPost_ret (v := .tuple #[.int .i64 0, .int .i64 10]) (by simp [results, Try.results16, go_sem]) rfl ⟨rfl, ?_⟩
    exact (below_call hb1).trans ((below_call hb2).mono (below_call hb1).size)
  | some k =>
    obtain ⟨hk, hwk⟩ := HL.out k hs
    have HSS : Hid (∀ w0, Row w0 b off W → Calls Try.prog 29 #[heapV (some ⟨b, off, none⟩) W.length cap, .int .i64 (2 * (p : Int)), .string t] w0 fun e w' => e = .returned (.int .i64 (k : Int)) ∧ Below w0.heap.size w0 w') := HS.out (k : Int) (by rw [hs]; rfl)
    have hF := HF1.out k hs
    rw [hwk] at hF
    have hki : (k : Int) < ((slotsOf W p).length : Int) := by omega
    have hk0 : ¬ (k : Int) < 0 := by omega
    clear HS HF0 HF1 HL hwk
    by_cases h0 : wd (slotsOf W p) k = 0
    · rw [if_pos h0] at hF
      rw [hF]
      have hb0 : (wd (slotsOf W p) k == 0) = true := by simpa using h0
      clear hF h0
      go_enter Try.func16, Try.ntmps16
      go_wp2_with (first | (go_at_call 27; refine (rlook_yes W b off cap p _ (hr.alloc _) hu hl2 hcap t1 t2).mono ?_; rintro e w1 ⟨⟨v1, rfl, ad1, c1, rfl, hs1⟩, hb1⟩; have k1 := box_one hb1; have z1 : w.heap.size < w1.heap.size := (by have := hb1.size; simp at this; omega); obtain ⟨g, hg, hgB, hown⟩ := hs1 t5; subst hg) | (go_at_call 29; refine (HSS.out _ (((hr.alloc _).same hb1).alloc _)).mono ?_; rintro e w2 ⟨rfl, hb2⟩; obtain ⟨u3, z2⟩ := box4v hb2; have hck := own_cell (ownsRow_below hown (below_call hb2) (own_lt hown)) hk))
      refine bodyPost_ret (v := .tuple #[.int .i64 0, .int .i64 10]) (by simp [results, Try.results16, go_sem]) rfl ⟨rfl, ?_⟩
      exact (below_call hb1).trans ((below_call hb2).mono (below_call hb1).size)
    · rw [if_neg h0] at hF
      rw [hF]
      have hb0 : (wd (slotsOf W p) k == 0) = false := by simpa using h0
      clear hF h0
      go_enter Try.func16, Try.ntmps16
      go_wp2_with (first | (go_at_call 27; refine (rlook_yes W b off cap p _ (hr.alloc _) hu hl2 hcap t1 t2).mono ?_; rintro e w1 ⟨⟨v1, rfl, ad1, c1, rfl, hs1⟩, hb1⟩; have k1 := box_one hb1; have z1 : w.heap.size < w1.heap.size := (by have := hb1.size; simp at this; omega); obtain ⟨g, hg, hgB, hown⟩ := hs1 t5; subst hg) | (go_at_call 29; refine (HSS.out _ (((hr.alloc _).same hb1).alloc _)).mono ?_; rintro e w2 ⟨rfl, hb2⟩; obtain ⟨u3, z2⟩ := box4v hb2; have hck := own_cell (ownsRow_below hown (below_call hb2) (own_lt hown)) hk))
      refine bodyPost_ret (v := .tuple #[.int .i64 (wd (slotsOf W p) k), .int .i64 0]) (by simp [results, Try.results16, go_sem]) rfl ⟨rfl, ?_⟩
      exact (below_call hb1).trans ((below_call hb2).mono (below_call hb1).size)

set_option maxRecDepth 20000 in
set_option maxHeartbeats 4000000 in
theorem rall_table (W : List Int) (b off cap p : Nat) (w : World) (hr : Row w b off W) (hc : (checkOf W).1 = 0) (hcap : W.length ≤ cap) (t1 : thingB W (2 * (p : Int)) = true) (t2 : p ∈ places W 2) (t5 : 0 < (slotsOf W p).length) (hrows : ∀ j, j < (slotsOf W p).length → rowB W (wd (slotsOf W p) j) = true) :
    Calls Try.prog 13 #[heapV (some ⟨b, off, none⟩) W.length cap, .int .i64 (2 * (p : Int))] w fun e w' => (∃ v, e = .returned v ∧ TextsOwn (allP W p) w.heap.size v w') ∧ Below w.heap.size w w' := by
  obtain ⟨hfr, hu⟩ := check_ok hc
  obtain ⟨_, hl, _⟩ := front_out hfr
  have h60 : (slotsOf W p).length ≤ 60 := by
    rw [slots_length (fits_out (place_fit hu t2).2.2.1).2.2.2.2]
    have := (fits_out (place_fit hu t2).2.2.1).2.2.2.1; unfold slotsAt; omega
  have HC : Hid ((checkOf W).1 = 0) := hc
  have HU : Hid (unfit W 2 = none) := hu
  have HR : Hid (∀ j, j < (slotsOf W p).length → rowB W (wd (slotsOf W p) j) = true) := hrows
  have HA : Hid (∀ i, (slotsOf W p).length ≤ i → allTo W p i = allP W p) := fun i hi => allTo_all hi
  have HX : Hid (∀ i, i < (slotsOf W p).length → wd (slotsOf W p) i ≠ 0 → allTo W p (i + 1) = allTo W p i ++ [textP W (begP (wd (slotsOf W p) i))]) := fun i hi h0 => allTo_next hi h0
  have HK : Hid (∀ i, i < (slotsOf W p).length → wd (slotsOf W p) i = 0 → allTo W p (i + 1) = allTo W p i) := fun i hi h0 => allTo_skip hi h0
  obtain ⟨i0, hi, hz0, hz1, hz2⟩ := info_parts infoS
  clear hc hrows hfr
  generalize hxs : slotsOf W p = xs at *
  go_enter Try.func13, Try.ntmps13
  go_wp2_with (go_at_call 27; refine (rlook_yes W b off cap p _ (hr.alloc _) hu hl hcap t1 t2).mono ?_; rintro e w1 ⟨⟨v1, rfl, ad1, c1, rfl, hs1'⟩, hb1⟩; rw [hxs] at hs1' ⊢; have HSl : Hid (SlotsAt ad1 xs w1) := (slots_at_own hs1'); clear hs1'; have z1 := hb1.size; simp only [World.size_alloc] at z1)
  obtain ⟨g, o, rfl, hbl, hcx⟩ := HSl.out t5
  have HCX : Hid (∀ k, k < xs.length → w1.cell? ⟨g, o + k, none⟩ = some (.int .i64 (wd xs k))) := hcx
  clear hcx hu
  have hB1 : Below (w1.heap.size + 1) (w1.alloc (.cells #[.int .i64 (wd W p), .int .i64 (wd W (p + 1)), .int .i64 (formAt W p), .slice (some ⟨g, o, none⟩) xs.length c1] 60)) (w1.alloc (.cells #[.int .i64 (wd W p), .int .i64 (wd W (p + 1)), .int .i64 (formAt W p), .slice (some ⟨g, o, none⟩) xs.length c1] 60)) := Below.refl _ _
  go_loopw [7, 8] (fun s7 s8 wr => ∃ (i : Nat) (ad' : Option Addr) (c' : Nat), s7 = .slice ad' (allTo W p i).length c' ∧ s8 = .int .i64 i ∧ i ≤ xs.length ∧ Hid (wr.ownsRow (w1.heap.size + 1) 9 1 (.slice ad' (allTo W p i).length c') (allTo W p i).length (strsV (allTo W p i))) ∧ Below (w1.heap.size + 1) (w1.alloc (.cells #[.int .i64 (wd W p), .int .i64 (wd W (p + 1)), .int .i64 (formAt W p), .slice (some ⟨g, o, none⟩) xs.length c1] 60)) wr) (fun _ s8 _ => xs.length - (intOf s8).toNat)
  case atStart => exact ⟨0, none, 0, by rw [allTo_zero]; rfl, rfl, Nat.zero_le _, by rw [allTo_zero]; exact World.ownsRow_nil _ _ _ _, hB1⟩
  case round =>
    rename_i wr
    obtain ⟨i, ad', c', rfl, rfl, hi', HO, hB⟩ := hrel
    clear hB1
    have hbz := hB.size
    simp only [World.size_alloc] at hbz
    have hbx : wr.cell? ⟨w1.heap.size, 3, none⟩ = some (.slice (some ⟨g, o, none⟩) xs.length c1) := by
      rw [hB.cell (p := ⟨w1.heap.size, 3, none⟩) (by simp)]; simp
    have hW : Below w.heap.size w wr := (below_call hb1).trans ((((Below.refl _ _).alloc (Nat.le_refl _) _).trans (hB.mono (by omega))).mono (below_call hb1).size)
    by_cases hlt : i < xs.length
    · have hil : (i : Int) < (xs.length : Int) := by omega
      have hcell : wr.cell? ⟨g, o + i, none⟩ = some (.int .i64 (wd xs i)) := by
        rw [hB.cell (p := ⟨g, o + i, none⟩) (by dsimp only; omega), cell_past _ (by exact hbl)]; exact HCX.out i hlt
      have hhx : wr.cell? ⟨w.heap.size, 0, none⟩ = some (.slice (some ⟨b, off, none⟩) W.length cap) := by
        rw [hB.cell (p := ⟨w.heap.size, 0, none⟩) (by dsimp only; omega), cell_past _ (by dsimp only; omega)]; exact box_one hb1
      have hrow : Row wr b off W := ((((hr.alloc _).same hb1).alloc _).below hB (by have := hr.lt; omega))
      have hrw := HR.out i hlt
      have HX' : Hid (wd xs i ≠ 0 → allTo W p (i + 1) = allTo W p i ++ [textP W (begP (wd xs i))]) := HX.out i hlt
      have HK' : Hid (wd xs i = 0 → allTo W p (i + 1) = allTo W p i) := HK.out i hlt
      have hal := allTo_length W p i
      obtain ⟨x, hx⟩ : ∃ x, wd xs i = x := ⟨_, rfl⟩
      rw [hx] at hcell hrw HX' HK'
      clear hx
      by_cases hx0 : x = 0
      · have hb0 : (x != 0) = false := by simpa using hx0
        have HE : Hid (allTo W p (i + 1) = allTo W p i) := HK'.out hx0
        clear hx0 hrw
        go_wp2_with fail
        go_roundw
        case rel => exact ⟨i + 1, ad', c', by rw [HE.out], by first | rfl | simp, by omega, by rw [HE.out]; exact HO, hB⟩
        case measure => simp [intOf]; omega
      · have hb0 : (x != 0) = true := by simpa using hx0
        obtain ⟨q', ex, eb, k1, k2, k3, k4, k5⟩ := row_text HC.out hrw hx0
        have HE : Hid (allTo W p (i + 1) = allTo W p i ++ [slotsOf W q']) := by have := HX'.out hx0; rw [eb] at this; exact this
        have K4 : Hid (∀ c ∈ slotsOf W q', 0 ≤ c ∧ c ≤ 255) := k4
        subst ex
        clear hx0 hrw eb k3 k4 HX' HK'
        obtain ⟨ts, hts⟩ : ∃ ts, allTo W p i = ts := ⟨_, rfl⟩
        rw [hts] at HO HE hal
        rw [hts]
        clear hts
        go_wp2_with fail
        go_region_held3 (fun w' => w'.cell? ⟨w.heap.size, 0, none⟩ = some (.slice (some ⟨b, off, none⟩) W.length cap) ∧ w'.cell? ⟨w1.heap.size, 3, none⟩ = some (.slice (some ⟨g, o, none⟩) xs.length c1) ∧ w'.cell? ⟨g, o + i, none⟩ = some (.int .i64 (2 * (q' : Int)))) (go_keep) (first | (go_at_call 28; refine (rtext_any W b off cap q' _ (hrow.same (Below.refl _ _).drew) HU.out hl hcap k1 k2 K4.out).mono ?_; rintro e w2 ⟨rfl, hb2⟩; have hb3 := below_drew hb2; have e1 := (hb3.cell (p := ⟨w.heap.size, 0, none⟩) (by dsimp only; omega)).trans hhx; have e2 := (hb3.cell (p := ⟨w1.heap.size, 3, none⟩) (by dsimp only; omega)).trans hbx; have e3 := (hb3.cell (p := ⟨g, o + i, none⟩) (by dsimp only; omega)).trans hcell; have hO3 := own_sameS HO.out hb3; have hB3 := hB.trans (hb3.mono (by omega)); have z5 := hB3.size; simp only [World.size_alloc] at z5))
        go_wp2_with (at_builtin; refine wpList_append_own _ rfl (.tmp 36) (.tmp 38) 30 rfl (w1.heap.size + 1) 9 i0 (.string ByteArray.empty) 1 16 tyStrs hi hz0 hz1 hz2 rfl (by decide) (.slice ad' ts.length c') ts.length (strsV ts) rfl (hO3.alloc _) ⟨w2.heap.size, 0, none⟩ 1 1 [.string (strOfNums (slotsOf W q'))] rfl rfl (cell_one_new _ _ _) (strsV_one [slotsOf W q']) (by unfold maxLen; omega) (by omega) (by simp; omega) ?_; intro v4 w4 hown4 hgrow4 hnil4; obtain ⟨ad4, c4, hv4, hO4⟩ := texts_own (n := ts.length + 1) (ts := ts ++ [slotsOf W q']) (by simp) (by rw [strsV_snoc]; exact hown4); subst hv4; have hb4 := (hB3.alloc (by omega) (.cells #[.string (strOfNums (slotsOf W q'))] 9)).grown hgrow4 (by simp; omega) (fun k hk => by have := (hO3.lt k hk).1; omega))
        go_roundw
        case rel => exact ⟨i + 1, ad4, c4, by rw [HE.out]; simp, by first | rfl | simp, by omega, by rw [HE.out]; exact hO4, hb4⟩
        case measure => simp [intOf]; omega
    · have e : i = xs.length := by omega
      subst e
      have HE : Hid (allTo W p xs.length = allP W p) := HA.out _ (Nat.le_refl _)
      rw [HE.out] at HO ⊢
      go_wp2_with fail
      go_ret
      exact ⟨⟨_, rfl, ad', c', rfl, own_mono (by omega) HO.out⟩, hW⟩

set_option maxHeartbeats 1000000 in
theorem rtexts_same (ts : List (List Int)) (v v' : Value) (w : World) (hx : ReadsS w v ts) (hy : ReadsS w v' ts) (hm : ts.length ≤ 1000000) :
    Calls Try.prog 14 #[v, v'] w fun e w' => e = .returned (.bool true) ∧ ∃ m, w' = w.drewN m := by
  obtain ⟨ad, c, rfl, hrx⟩ := hx
  obtain ⟨ad', c', rfl, hry⟩ := hy
  by_cases h0 : 0 < ts.length
  · obtain ⟨b, off, rfl, _, hcx⟩ := hrx h0
    obtain ⟨b', off', rfl, _, hcy⟩ := hry h0
    have Hx : Hid (∀ k, k < ts.length → w.cell? ⟨b, off + k, none⟩ = some (.string (strOfNums (ts.getD k [])))) := hcx
    have Hy : Hid (∀ k, k < ts.length → w.cell? ⟨b', off' + k, none⟩ = some (.string (strOfNums (ts.getD k [])))) := hcy
    clear hcx hcy hrx hry
    go_enter Try.func14, Try.ntmps14
    go_wp2
    go_loopw [5] (fun s wr => ∃ (k n : Nat), s = .int .i64 k ∧ k ≤ ts.length ∧ wr = w.drewN n) (fun s _ => ts.length - (intOf s).toNat)
    case atStart => exact ⟨0, 0, rfl, Nat.zero_le _, rfl⟩
    case round =>
      obtain ⟨k, n, rfl, hk, rfl⟩ := hrel
      by_cases hlt : k < ts.length
      · have hcx := Hx.out k hlt
        have hcy := Hy.out k hlt
        have hik : (k : Int) < (ts.length : Int) := by omega
        generalize strOfNums (ts.getD k []) = s at hcx hcy
        have heb : (s.toList == s.toList) = true := by simp
        go_wp2_with fail
        go_quiet (fail)
        go_wp2_with fail
        go_roundw
        case rel => exact ⟨k + 1, _, by first | rfl | simp, by omega, rfl⟩
        case measure => simp [intOf]; omega
      · go_wp2_with fail
        go_ret
        exact ⟨rfl, _, rfl⟩
  · have e0 : ts.length = 0 := by omega
    rw [e0]
    go_enter Try.func14, Try.ntmps14
    go_wp2
    refine wp_loop_rounds 1 ?_
    rw [rounds_succ]
    go_wp2
    go_ret
    exact ⟨rfl, 0, rfl⟩
end Go.Proofs.Ytmgmbgacdjebgaa
