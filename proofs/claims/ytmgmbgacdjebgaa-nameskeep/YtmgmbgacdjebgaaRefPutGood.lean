/- gessoref2.Put where it puts. -/
import Derived.Test.YtmgmbgacdjebgaaRefPut
namespace Go.Proofs.Ytmgmbgacdjebgaa
open Go.RowKit

theorem own_base' {w : World} {B b n cap : Nat} {xs : List Value} (h : w.ownsRow B 3 1 (sl b n cap) n xs) : w.ownsRow 0 3 1 (sl b n cap) n xs := own_mono (Nat.zero_le _) h

/-- What Put answers, in memory of its own from block B on. -/
def PutFrom (W' : List Int) (B : Nat) (e : Ending) (w : World) : Prop := ∃ g cap, e = .returned (.tuple #[.agg #[sl g W'.length cap], .int .i64 0]) ∧ B ≤ g ∧ w.ownsRow 0 3 1 (sl g W'.length cap) W'.length (vals W')
set_option maxRecDepth 20000 in
set_option maxHeartbeats 4000000 in
theorem rput_from (W : List Int) (b off cap p k : Nat) (what : Int) (w : World) (hr : Row w b off W) (hu : unfit W 2 = none) (hl : W.length ≤ 2000) (hcap : W.length ≤ cap) (ho : thingB W (2 * (p : Int)) = true) (hmem : p ∈ places W 2) (hk : k < slotsAt W p) (hst : standB W (formAt W p) what = true) :
    Calls Try.prog 30 #[heapV (some ⟨b, off, none⟩) W.length cap, .int .i64 (2 * (p : Int)), .int .i64 k, .int .i64 what] w fun e w' => PutFrom (W.set (p + 3 + k) what) w.heap.size e w' ∧ Below w.heap.size w w' := by
  have hfo := fits_out (place_fit hu hmem).2.2.1
  have hpl := (place_fit hu hmem).2.1
  have hsl : (slotsOf W p).length = slotsAt W p := slots_length hfo.2.2.2.2
  have hr2 : Row ((w.alloc (.cells #[.slice (some ⟨b, off, none⟩) W.length cap] 24)).alloc (.cells #[.slice none 0 0] 24)) b off W := (hr.alloc _).alloc _
  have h2p : 2 * (p : Int) / 2 = (p : Int) := by omega
  have hik : (p : Int) + 3 + (k : Int) < (W.length : Int) := by omega
  obtain ⟨i0, hi, hz0, hz1, hz2⟩ := info_parts info3
  go_enter Try.func30, Try.ntmps30
  go_wp2_with (first | (go_at_call 27; refine (rlook_yes W b off cap p _ hr2 hu hl hcap ho hmem).mono ?_; rintro e w1 ⟨⟨v1, rfl, ad1, c1, rfl, hs1⟩, hb1⟩; obtain ⟨c0, d1, d2, hz⟩ := boxes11 hb1; have hz0' : w.heap.size < w1.heap.size := (by omega); have e1 := (fun o => (boxes11 (hb1.alloc (by simp; omega) o)).2.1); have e2 := (fun o => (boxes11 (hb1.alloc (by simp; omega) o)).2.2.1); have e3 := (fun o o' => (boxes11 ((hb1.alloc (by simp; omega) o).alloc (by simp; omega) o')).1)) | (go_at_call 25; refine (rstands_any W b off cap _ _ _ ((hr2.same hb1).alloc _) hu hl).mono ?_; rintro e w2 ⟨rfl, hw2⟩; rw [hw2]; clear hw2 w2) | (at_builtin; refine wpList_append_own _ rfl (.tmp 43) (.tmp 45) 22 rfl (w.heap.size + 2) 3 i0 (.int .i64 0) 1 8 ty30 hi hz0 hz1 hz2 rfl (by decide) (sl (w1.heap.size + 1) 0 0) 0 [] rfl (by have := World.ownsRow_lit (base := w.heap.size + 2) (e := 3) (size := 1) (w1.alloc (.cells #[.int .i64 (wd W p), .int .i64 (wd W (p + 1)), .int .i64 (formAt W p), .slice ad1 (slotsAt W p) c1] 60)) #[] 0 (by simp; omega) (Nat.zero_le _) rfl; simpa using this) ⟨b, off, none⟩ W.length cap (vals W) rfl (by simp) (row_news (((hr2.same hb1).alloc _).alloc _)) (ints_oneCell _ _) (by unfold maxLen; omega) (by omega) (by simp; omega) ?_; intro v3 w3 hown3 hgrow3 hnil3; simp only [Nat.zero_add, List.nil_append] at hown3; obtain ⟨g, c3, rfl, hg, hown⟩ := own_shape hown3 (fun e => by have := (hnil3.1 e).1; cases this); have hcw := own_cell hown (k := p + 3 + k) (by omega); have hfw := hown.frozenAt (p + 3 + k); have hb3 := ((hb1.alloc (by simp; omega) (.cells #[.int .i64 (wd W p), .int .i64 (wd W (p + 1)), .int .i64 (formAt W p), .slice ad1 (slotsAt W p) c1] 60)).alloc (by simp; omega) (.cells #[] 3)).grown hgrow3 (by simp; omega) (fun k hk => by simp [Value.ownBlock] at hk ⊢; omega); obtain ⟨f0, f1, f2, fz⟩ := boxes11 hb3; have hgn : ¬ g = w.heap.size + 1 := (by omega)))
  have hst3 := (hown.stored (p + 3 + k) (.int .i64 what)).1
  have hvs : (vals W).set (p + 3 + k) (.int .i64 what) = vals (W.set (p + 3 + k) what) := by simp [vals, List.map_set]
  rw [hvs] at hst3
  have hln : (W.set (p + 3 + k) what).length = W.length := by simp
  refine bodyPost_ret (v := .tuple #[.agg #[sl g W.length c3], .int .i64 0]) (by simp [results, Try.results30, go_sem, f1]) rfl ⟨⟨g, c3, by rw [hln], by omega, ?_⟩, ?_⟩
  · rw [hln]
    exact own_set' hst3 (by dsimp only; omega) _
  · exact ((below2 hb3).setCell (p := ⟨g, p + 3 + k, none⟩) (by dsimp only; omega) _).setCell (by dsimp only; omega) _

theorem rput_good (W : List Int) (b off cap p k : Nat) (what : Int) (w : World) (hr : Row w b off W) (hu : unfit W 2 = none) (hl : W.length ≤ 2000) (hcap : W.length ≤ cap) (ho : thingB W (2 * (p : Int)) = true) (hmem : p ∈ places W 2) (hk : k < slotsAt W p) (hst : standB W (formAt W p) what = true) :
    Calls Try.prog 30 #[heapV (some ⟨b, off, none⟩) W.length cap, .int .i64 (2 * (p : Int)), .int .i64 k, .int .i64 what] w fun e w' => PutAns (W.set (p + 3 + k) what) e w' ∧ Below w.heap.size w w' :=
  (rput_from W b off cap p k what w hr hu hl hcap ho hmem hk hst).mono fun _ _ h => ⟨let ⟨g, c, e, _, ho⟩ := h.1; ⟨g, c, e, ho⟩, h.2⟩
end Go.Proofs.Ytmgmbgacdjebgaa
