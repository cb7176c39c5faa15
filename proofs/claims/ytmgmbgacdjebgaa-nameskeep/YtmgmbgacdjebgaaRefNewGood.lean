/- gessoref2.New where it makes a thing. -/
import Derived.Test.YtmgmbgacdjebgaaRefNew
import Derived.Test.YtmgmbgacdjebgaaNewGood
namespace Go.Proofs.Ytmgmbgacdjebgaa
open Go.RowKit

/-- The words with a thing more, k of its slots made. -/
def partWords (W : List Int) (cl fo : Int) (m k : Nat) : List Int := (W ++ [cl, wd W 1, 4 * (m : Int) + fo] ++ List.replicate k 0).set 1 (wd W 1 + 1)
theorem part_length (W : List Int) (cl fo : Int) (m k : Nat) : (partWords W cl fo m k).length = W.length + 3 + k := by
  simp [partWords]; omega
theorem part_all (W : List Int) (cl fo : Int) (m : Nat) : partWords W cl fo m m = newWords W cl fo m := by simp [partWords, newWords]
theorem part_none (W : List Int) (cl fo : Int) (m : Nat) : (vals (W ++ [cl, wd W 1, 4 * (m : Int) + fo])).set 1 (.int .i64 (wd W 1 + 1)) = vals (partWords W cl fo m 0) := by
  simp [partWords, vals, List.map_set]
theorem part_next (W : List Int) (cl fo : Int) (m k : Nat) (h2 : 2 ≤ W.length) : vals (partWords W cl fo m (k + 1)) = vals (partWords W cl fo m k) ++ [.int .i64 0] := by
  have e : partWords W cl fo m (k + 1) = partWords W cl fo m k ++ [0] := by
    unfold partWords
    rw [List.replicate_succ', ← List.append_assoc, List.set_append_left _ _ (by simp; omega)]
  rw [e]; simp [vals]

set_option maxRecDepth 100000 in
set_option maxHeartbeats 4000000 in
theorem rnew_from (W : List Int) (b off cap : Nat) (cl fo : Int) (m : Nat) (w : World) (hr : Row w b off W) (hu : unfit W 2 = none) (hl2 : 2 ≤ W.length) (hh : wd W 1 ≤ 10000) (hh1 : 1 ≤ wd W 1) (hc : nilB W cl = true) (h1 : formB fo = true) (h2 : sizeB m = true) (hfit : (W.length : Int) + 3 + m ≤ 2000) :
    Calls Try.prog 10 #[heapV (some ⟨b, off, none⟩) W.length cap, .int .i64 cl, .int .i64 fo, .int .i64 m] w fun e w' => NewFrom (newWords W cl fo m) (2 * (W.length : Int)) w.heap.size e w' ∧ Below w.heap.size w w' := by
  have hl : W.length ≤ 2000 := by omega
  have hr2 : Row ((w.alloc (.cells #[.slice (some ⟨b, off, none⟩) W.length cap] 24)).alloc (.cells #[.slice none 0 0] 24)) b off W := (hr.alloc _).alloc _
  have hc1 := hr.cell 1 (by omega)
  have hblt := hr.lt
  have hsi : (m : Int) ≤ 60 := by unfold sizeB at h2; exact (of_decide_eq_true h2).2
  have hfo : 0 ≤ fo ∧ fo ≤ 2 := by unfold formB at h1; exact of_decide_eq_true h1
  have hne : (wd W 1 == 10001) = false := by simp; omega
  obtain ⟨i0, hi, hz0, hz1, hz2⟩ := info_parts info3
  clear h1 h2
  rcases nil_ways.1 hc with hz | ⟨hz, ht⟩
  all_goals
    clear hc
    go_enter Try.func10, Try.ntmps10
    go_wp2_with (first | (go_at_call 24; refine (rthing_any W b off cap _ _ hr2 hu hl).mono ?_; rintro e w1 ⟨rfl, hw1⟩; rw [hw1]; clear hw1 w1) | (at_builtin; refine wpList_append_own _ rfl (.tmp 55) (.tmp 57) 22 rfl (w.heap.size + 2) 3 i0 (.int .i64 0) 1 8 ty30 hi hz0 hz1 hz2 rfl (by decide) (sl (w.heap.size + 1 + 1) 0 0) 0 [] rfl (by have := World.ownsRow_lit (base := w.heap.size + 2) (e := 3) (size := 1) ((w.alloc (.cells #[.slice (some ⟨b, off, none⟩) W.length cap] 24)).alloc (.cells #[.slice none 0 0] 24)) #[] 0 (by simp) (Nat.zero_le _) rfl; simpa using this) ⟨b, off, none⟩ W.length cap (vals W) rfl (by simp) (row_news (hr2.alloc _)) (ints_oneCell _ _) (by unfold maxLen; omega) (by omega) (by simp) ?_; intro v1 w1 hown1 hgrow1 hnil1; simp only [Nat.zero_add, List.nil_append] at hown1; obtain ⟨g1, c1, rfl, hg1, hown1'⟩ := own_shape hown1 (fun e => by have := (hnil1.1 e).1; cases this); have hcell1 := own_cell hown1' (k := 1) (by omega); have hb1 := (((Below.refl (w.heap.size + 2) ((w.alloc (.cells #[.slice (some ⟨b, off, none⟩) W.length cap] 24)).alloc (.cells #[.slice none 0 0] 24))).alloc (by simp) (.cells #[] 3)).grown hgrow1 (by simp) (fun k hk => by simp [Value.ownBlock] at hk; omega)); have hlt1 := own_lt hown1') | (at_builtin; refine wpList_append_own _ rfl (.tmp 59) (.tmp 68) 22 rfl (w.heap.size + 2) 3 i0 (.int .i64 0) 1 8 ty30 hi hz0 hz1 hz2 rfl (by decide) (sl g1 W.length c1) W.length (vals W) rfl ((own_base hown1' hg1).alloc _) ⟨w1.heap.size, 0, none⟩ 3 3 [.int .i64 cl, .int .i64 (wd W 1), .int .i64 (4 * (m : Int) + fo)] rfl rfl (cell_three_new w1 _ _ _ _) (ints_oneCell .i64 [cl, wd W 1, 4 * (m : Int) + fo]) (by unfold maxLen; omega) (by omega) (by have := hb1.size; simp at this ⊢; omega) ?_; intro v2 w2 hown2 hgrow2 hnil2; obtain ⟨g2, c2, rfl, hg2, hown2'⟩ := own_shape hown2 (fun e => by have := (hnil2.1 e).1; cases this); have hcell2 := cell_one_of (W := W) (t := []) (by simpa [vals] using hown2') hl2 (by omega); have hfz2 := hown2'.frozenAt 1; have hb2 := (hb1.alloc (by have := hb1.size; simp at this; omega) (.cells #[.int .i64 cl, .int .i64 (wd W 1), .int .i64 (4 * (m : Int) + fo)] 3)).grown hgrow2 (by have := hb1.size; simp at this ⊢; omega) (fun k hk => by simp [Value.ownBlock] at hk; omega)))
    have hst2 := (hown2'.stored 1 (.int .i64 (wd W 1 + 1))).1
    have hv2 : (vals W ++ [Value.int .i64 cl, Value.int .i64 (wd W 1), Value.int .i64 (4 * (m : Int) + fo)]).set 1 (Value.int .i64 (wd W 1 + 1)) = vals (partWords W cl fo m 0) := by rw [← part_none]; simp [vals]
    rw [hv2] at hst2
    have hb3 := hb2.setCell (p := ⟨g2, 1, none⟩) (by exact hg2) (.int .i64 (wd W 1 + 1))
    go_loopw [12, 13] (fun s12 s13 wr => ∃ (k g c : Nat), s12 = sl g (W.length + 3 + k) c ∧ s13 = .int .i64 k ∧ k ≤ m ∧ wr.ownsRow (w.heap.size + 2) 3 1 (sl g (W.length + 3 + k) c) (W.length + 3 + k) (vals (partWords W cl fo m k)) ∧ Below (w.heap.size + 2) ((w.alloc (.cells #[.slice (some ⟨b, off, none⟩) W.length cap] 24)).alloc (.cells #[.slice none 0 0] 24)) wr) (fun _ s13 _ => m - (intOf s13).toNat)
    case atStart => exact ⟨0, g2, c2, rfl, rfl, Nat.zero_le _, own_base hst2 hg2, hb3⟩
    case round =>
      rename_i wr
      obtain ⟨k, g, c, rfl, rfl, hk, hown, hbel⟩ := hrel
      have hzr : w.heap.size + 2 ≤ wr.heap.size := by have := hbel.size; simpa using this
      by_cases hlt : k < m
      · go_wp2_with (at_builtin; refine wpList_append_own _ rfl (.tmp 81) (.tmp 82) 22 rfl (w.heap.size + 2) 3 i0 (.int .i64 0) 1 8 ty30 hi hz0 hz1 hz2 rfl (by decide) (sl g (W.length + 3 + k) c) (W.length + 3 + k) (vals (partWords W cl fo m k)) rfl (hown.alloc _) ⟨wr.heap.size, 0, none⟩ 1 1 [.int .i64 0] rfl rfl (cell_one_new _ _ _) (ints_oneCell .i64 [0]) (by unfold maxLen; omega) (by omega) (by simp; omega) ?_; intro v4 w4 hown4 hgrow4 hnil4; obtain ⟨g4, c4, rfl, hg4, hown4'⟩ := own_shape hown4 (fun e => by have := (hnil4.1 e).1; cases this); have hb4 := (hbel.alloc (by omega) (.cells #[.int .i64 0] 3)).grown hgrow4 (by simp; omega) (fun k hk => by have := (hown.lt k hk).1; omega))
        rw [← part_next W cl fo m k hl2] at hown4'
        go_roundw
        case rel => exact ⟨k + 1, g4, c4, rfl, by first | rfl | simp, by omega, own_base hown4' hg4, hb4⟩
        case measure => simp [intOf]; omega
      · have e : k = m := by omega
        subst e
        obtain ⟨e0, e1, e2, ez⟩ := boxes11 (hbel.mono (by simp))
        have hgk := (hown.lt g rfl).1
        rw [part_all] at hown
        have hln := new_length W cl fo k
        rw [← hln] at hown
        go_wp2_with fail
        go_region
        all_goals go_wp2_with fail
        all_goals refine bodyPost_ret (v := .tuple #[.agg #[sl g (W.length + 3 + k) c], .int .i64 (2 * (W.length : Int)), .int .i64 0]) (by simp [results, Try.results10, go_sem, e1]) rfl ⟨⟨g, c, by rw [hln], by omega, ?_⟩, ?_⟩
        all_goals first | exact own_set (own_mono (Nat.zero_le _) hown) (by dsimp only; omega) _ | exact ((below2 (hbel.mono (by simp))).setCell (by dsimp only; omega) _).drew

theorem rnew_good (W : List Int) (b off cap : Nat) (cl fo : Int) (m : Nat) (w : World) (hr : Row w b off W) (hu : unfit W 2 = none) (hl2 : 2 ≤ W.length) (hh : wd W 1 ≤ 10000) (hh1 : 1 ≤ wd W 1) (hc : nilB W cl = true) (h1 : formB fo = true) (h2 : sizeB m = true) (hfit : (W.length : Int) + 3 + m ≤ 2000) :
    Calls Try.prog 10 #[heapV (some ⟨b, off, none⟩) W.length cap, .int .i64 cl, .int .i64 fo, .int .i64 m] w fun e w' => NewAns (newWords W cl fo m) (2 * (W.length : Int)) e w' ∧ Below w.heap.size w w' :=
  (rnew_from W b off cap cl fo m w hr hu hl2 hh hh1 hc h1 h2 hfit).mono fun _ _ h => ⟨let ⟨g, c, e, _, ho⟩ := h.1; ⟨g, c, e, ho⟩, h.2⟩
end Go.Proofs.Ytmgmbgacdjebgaa
