/- names: all texts of a table. -/
import Derived.Test.YtmgmbgacdjebgaaNSeat
import Derived.Test.YtmgmbgacdjebgaaRSeat
namespace Go.Proofs.Ytmgmbgacdjebgaa
open Go.RowKit

/-- Strings in memory of their own. -/
def TextsOwn (ts : List (List Int)) (B : Nat) (v : Value) (w : World) : Prop := ∃ ad c, v = .slice ad ts.length c ∧ w.ownsRow B 9 1 (.slice ad ts.length c) ts.length (strsV ts)
theorem texts_own {w : World} {B n : Nat} {v : Value} {ts : List (List Int)} (hn : n = ts.length) (h : w.ownsRow B 9 1 v n (strsV ts)) : TextsOwn ts B v w := by
  subst hn
  rcases h.2 with ⟨rfl, h0⟩ | ⟨g, cap, cur, rfl, hg, r⟩
  · exact ⟨none, 0, by rw [h0], by rw [h0]; rw [h0] at h; exact h⟩
  · exact ⟨_, _, rfl, h⟩
theorem TextsOwn.reads {ts : List (List Int)} {B : Nat} {v : Value} {w : World} (h : TextsOwn ts B v w) : ReadsS w v ts := by
  obtain ⟨ad, c, rfl, h⟩ := h; exact ReadsS.of_own h
theorem TextsOwn.mono {ts : List (List Int)} {B B' : Nat} {v : Value} {w : World} (h : TextsOwn ts B v w) (hB : B' ≤ B) : TextsOwn ts B' v w := by
  obtain ⟨ad, c, rfl, h⟩ := h; exact ⟨ad, c, rfl, own_mono hB h⟩
theorem strsV_snoc (ts : List (List Int)) (xs : List Int) : strsV (ts ++ [xs]) = strsV ts ++ [.string (strOfNums xs)] := by simp
theorem own_sameS {w w' : World} {base n : Nat} {v : Value} {xs : List Value} (h : w.ownsRow base 9 1 v n xs) (hb : Below w.heap.size w w') : w'.ownsRow base 9 1 v n xs := by
  obtain ⟨h1, h2⟩ := h
  refine ⟨h1, ?_⟩
  rcases h2 with h2 | ⟨g, cap, cur, hv, hg, hh, r⟩
  · exact Or.inl h2
  · refine Or.inr ⟨g, cap, cur, hv, hg, ?_, r⟩
    rw [hb.block g (Array.getElem?_eq_some_iff.1 hh).1]; exact hh

set_option maxRecDepth 20000 in
set_option maxHeartbeats 4000000 in
theorem texts_any (W : List Int) (b cap bm p c : Nat) (ad : Option Addr) (w : World) (hv : IsView w b cap bm W) (hc : (checkOf W).1 = 0) (hmem : p ∈ places W 2) (hrows : ∀ j, j < (slotsOf W p).length → rowB W (wd (slotsOf W p) j) = true) (hs : SlotsAt ad (slotsOf W p) w) :
    Calls Try.prog 21 #[tabV' b W.length cap bm (.slice ad (slotsOf W p).length c)] w fun e w' => (∃ v, e = .returned v ∧ TextsOwn (allP W p) w.heap.size v w') ∧ Below w.heap.size w w' := by
  obtain ⟨hfr, hu⟩ := check_ok hc
  obtain ⟨_, hl, _⟩ := front_out hfr
  have hsl : (slotsOf W p).length = slotsAt W p := slots_length (fits_out (place_fit hu hmem).2.2.1).2.2.2.2
  have h60 : (slotsOf W p).length ≤ 60 := by rw [hsl]; have := (fits_out (place_fit hu hmem).2.2.1).2.2.2.1; unfold slotsAt; omega
  have HC : Hid ((checkOf W).1 = 0) := hc
  have HU : Hid (unfit W 2 = none) := hu
  have HR : Hid (∀ j, j < (slotsOf W p).length → rowB W (wd (slotsOf W p) j) = true) := hrows
  have HS : Hid (SlotsAt ad (slotsOf W p) w) := hs
  have HA : Hid (∀ i, (slotsOf W p).length ≤ i → allTo W p i = allP W p) := fun i hi => allTo_all hi
  have HX : Hid (∀ i, i < (slotsOf W p).length → wd (slotsOf W p) i ≠ 0 → allTo W p (i + 1) = allTo W p i ++ [textP W (begP (wd (slotsOf W p) i))]) := fun i hi h0 => allTo_next hi h0
  have HK : Hid (∀ i, i < (slotsOf W p).length → wd (slotsOf W p) i = 0 → allTo W p (i + 1) = allTo W p i) := fun i hi h0 => allTo_skip hi h0
  obtain ⟨i0, hi, hz0, hz1, hz2⟩ := info_parts infoS
  clear hsl hc hrows hfr hs hu
  generalize hxs : slotsOf W p = xs at *
  go_enter Try.func21, Try.ntmps21
  go_wp2
  go_loopw [3, 9] (fun s3 s9 wr => ∃ (i : Nat) (ad' : Option Addr) (c' : Nat), s3 = .slice ad' (allTo W p i).length c' ∧ s9 = .int .i64 i ∧ i ≤ xs.length ∧ Hid (wr.ownsRow (w.heap.size + 1) 9 1 (.slice ad' (allTo W p i).length c') (allTo W p i).length (strsV (allTo W p i))) ∧ Below (w.alloc (.cells #[sl b W.length cap, .map (some bm), .slice ad xs.length c] 48)).heap.size (w.alloc (.cells #[sl b W.length cap, .map (some bm), .slice ad xs.length c] 48)) wr) (fun _ s9 _ => xs.length - (intOf s9).toNat)
  case atStart => exact ⟨0, none, 0, by rw [allTo_zero]; rfl, rfl, Nat.zero_le _, by rw [allTo_zero]; exact World.ownsRow_nil _ _ _ _, Below.refl _ _⟩
  case round =>
    rename_i wr
    obtain ⟨i, ad', c', rfl, rfl, hi', HO, hB⟩ := hrel
    obtain ⟨u0, u1, u2, z3⟩ := box3v hB
    have hvr : IsView wr b cap bm W := (hv.alloc _).same hB
    by_cases hlt : i < xs.length
    · obtain ⟨g, o, rfl, hbl, hcx⟩ := HS.out (by omega)
      have hcell : wr.cell? ⟨g, o + i, none⟩ = some (.int .i64 (wd xs i)) := by
        rw [hB.cell (p := ⟨g, o + i, none⟩) (by simp; omega), cell_past _ (by exact hbl)]; exact hcx i hlt
      have hil : (i : Int) < (xs.length : Int) := by omega
      have hrw := HR.out i hlt
      have HX' : Hid (wd xs i ≠ 0 → allTo W p (i + 1) = allTo W p i ++ [textP W (begP (wd xs i))]) := HX.out i hlt
      have HK' : Hid (wd xs i = 0 → allTo W p (i + 1) = allTo W p i) := HK.out i hlt
      have hal := allTo_length W p i
      obtain ⟨x, hx⟩ : ∃ x, wd xs i = x := ⟨_, rfl⟩
      rw [hx] at hcell hrw HX' HK'
      clear hx hcx
      by_cases hx0 : x = 0
      · have hb0 : (x != 0) = false := by simpa using hx0
        have HE : Hid (allTo W p (i + 1) = allTo W p i) := HK'.out hx0
        clear hx0 hrw
        go_wp2_with fail
        go_roundw
        case rel => exact ⟨i + 1, ad', c', by rw [HE.out], by first | rfl | simp, by omega, by rw [HE.out]; exact HO, hB⟩
        case measure => simp [intOf]; omega
      · have hb0 : (x != 0) = true := by simpa using hx0
        obtain ⟨q', ex, eb, k1, k2, k3, k4, k5⟩ := row_text HC.out hrw hx0
        have HE : Hid (allTo W p (i + 1) = allTo W p i ++ [slotsOf W q']) := by have := HX'.out hx0; rw [eb] at this; exact this
        have K4 : Hid (∀ c ∈ slotsOf W q', 0 ≤ c ∧ c ≤ 255) := k4
        subst ex
        clear hx0 hrw eb k3 k4 HX' HK'
        obtain ⟨ts, hts⟩ : ∃ ts, allTo W p i = ts := ⟨_, rfl⟩
        rw [hts] at HO HE hal
        rw [hts]
        clear hts
        go_wp2_with (first | (go_at_call 35; refine (vlook_any W b cap bm q' _ hvr HU.out hl k1 k2).mono ?_; rintro e w2 ⟨⟨v2, rfl, ad2, c2, rfl, hs2⟩, hb2⟩; have HS2 := slots_at_own hs2) | (go_at_call 37; refine (htext_any (slotsOf W q') ad2 c2 _ _ _ _ HS2 K4.out k5).mono ?_; rintro e w3 ⟨rfl, hb3⟩; have hb5 := hb2.trans (hb3.mono hb2.size); have hO3 := own_sameS HO.out hb5; have hB3 := hB.trans (hb5.mono hB.size); have z5 := hB3.size; simp only [World.size_alloc] at z5) | (at_builtin; refine wpList_append_own _ rfl (.tmp 15) (.tmp 21) 30 rfl (w.heap.size + 1) 9 i0 (.string ByteArray.empty) 1 16 tyStrs hi hz0 hz1 hz2 rfl (by decide) (.slice ad' ts.length c') ts.length (strsV ts) rfl (hO3.alloc _) ⟨w3.heap.size, 0, none⟩ 1 1 [.string (strOfNums (slotsOf W q'))] rfl rfl (cell_one_new _ _ _) (strsV_one [slotsOf W q']) (by unfold maxLen; omega) (by omega) (by simp; omega) ?_; intro v4 w4 hown4 hgrow4 hnil4; obtain ⟨ad4, c4, hv4, hO4⟩ := texts_own (n := ts.length + 1) (ts := ts ++ [slotsOf W q']) (by simp) (by rw [strsV_snoc]; exact hown4); subst hv4; have hb4 := (hB3.alloc (by simp; omega) (.cells #[.string (strOfNums (slotsOf W q'))] 9)).grown hgrow4 (by simp; omega) (fun k hk => by have := (hO3.lt k hk).1; simp; omega)))
        go_roundw
        case rel => exact ⟨i + 1, ad4, c4, by rw [HE.out]; simp, by first | rfl | simp, by omega, by rw [HE.out]; exact hO4, hb4⟩
        case measure => simp [intOf]; omega
    · have e : i = xs.length := by omega
      subst e
      have HE : Hid (allTo W p xs.length = allP W p) := HA.out _ (Nat.le_refl _)
      rw [HE.out] at HO ⊢
      go_wp2_with fail
      go_ret
      exact ⟨⟨_, rfl, ad', c', rfl, own_mono (by omega) HO.out⟩, below_call hB⟩
end Go.Proofs.Ytmgmbgacdjebgaa
