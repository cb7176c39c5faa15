/- names: what All and Table answer. -/
import Derived.Test.YtmgmbgacdjebgaaNTexts
import Derived.Test.YtmgmbgacdjebgaaNewGood
namespace Go.Proofs.Ytmgmbgacdjebgaa
open Go.RowKit

theorem fldF (a b : Int) (w : World) : (Instr.field 35 (.agg #[.int .i64 a, .int .i64 b]) 0).run Try.prog w = .ok (.int .i64 a) w := by kernel_rfl

set_option maxRecDepth 20000 in
set_option maxHeartbeats 1000000 in
theorem all_err (W : List Int) (ad : Option Addr) (cap : Nat) (o er : Int) (w : World) (hr : 2 ≤ W.length → ∃ b off, ad = some ⟨b, off, none⟩ ∧ Row w b off W) (he : (er != 0) = true)
    (hs : Hid (∀ w0, (2 ≤ W.length → ∃ b off, ad = some ⟨b, off, none⟩ ∧ Row w0 b off W) → Calls Try.prog 20 #[heapV ad W.length cap, .int .i64 o] w0 fun e w' => e = .returned (.tuple #[noTab, .int .i64 er]) ∧ Below w0.heap.size w0 w')) :
    Calls Try.prog 7 #[heapV ad W.length cap, .int .i64 o] w fun e w' => e = .returned (.tuple #[.slice none 0 0, .int .i64 er]) ∧ Below w.heap.size w w' := by
  have HR : Hid (2 ≤ W.length → ∃ b off, ad = some ⟨b, off, none⟩ ∧ Row w b off W) := hr
  clear hr
  go_enter Try.func7, Try.ntmps7
  go_wp2_with (go_at_call 20; refine (hs.out _ (reads1 HR.out)).mono ?_; rintro e w1 ⟨rfl, hb1⟩)
  refine bodyPost_ret (v := .tuple #[.slice none 0 0, .int .i64 er]) (by simp [results, Try.results7, go_sem]) rfl ⟨rfl, ?_⟩
  exact (below_call hb1).alloc (below_call hb1).size _

set_option maxRecDepth 20000 in
set_option maxHeartbeats 1000000 in
theorem all_table (W : List Int) (ad : Option Addr) (cap p : Nat) (w : World) (hr : 2 ≤ W.length → ∃ b off, ad = some ⟨b, off, none⟩ ∧ Row w b off W) (h : (checkOf W).1 = 0) (t1 : thingB W (2 * (p : Int)) = true) (t2 : p ∈ places W 2) (ht : tableB W (2 * (p : Int)) = true) (t6 : ∀ j, j < (slotsOf W p).length → rowB W (wd (slotsOf W p) j) = true) :
    Calls Try.prog 7 #[heapV ad W.length cap, .int .i64 (2 * (p : Int))] w fun e w' => (∃ v, e = .returned (.tuple #[v, .int .i64 0]) ∧ TextsOwn (allP W p) w.heap.size v w') ∧ Below w.heap.size w w' := by
  have HR : Hid (2 ≤ W.length → ∃ b off, ad = some ⟨b, off, none⟩ ∧ Row w b off W) := hr
  have HT : Hid (tableB W (2 * (p : Int)) = true) := ht
  have H6 : Hid (∀ j, j < (slotsOf W p).length → rowB W (wd (slotsOf W p) j) = true) := t6
  clear hr ht t6
  go_enter Try.func7, Try.ntmps7
  go_wp2_with (first | (go_at_call 20; refine (seating_yes W ad cap p _ (reads1 HR.out) h t1 t2 HT).mono ?_; rintro e w1 ⟨⟨b, cap', bm, ad2, c2, rfl, hv, hsl, hb, hbm⟩, hb1⟩; have hsa := (hsl.alloc (.cells #[sl b W.length cap', .map (some bm), .slice ad2 (slotsOf W p).length c2] 48)).at) | (go_at_call 21; refine (texts_any W b cap' bm p c2 ad2 _ (hv.alloc _) h t2 H6.out hsa).mono ?_; rintro e w2 ⟨⟨v2, rfl, ad3, c3, rfl, hown⟩, hb2⟩; have z1 := (below_call hb1).size))
  refine bodyPost_ret (v := .tuple #[.slice ad3 (allP W p).length c3, .int .i64 0]) (by simp [results, Try.results7, go_sem]) rfl ⟨⟨_, rfl, ad3, c3, rfl, own_mono (by simp; omega) hown⟩, ?_⟩
  exact (below_call hb1).trans ((below_call hb2).mono z1)

set_option maxRecDepth 20000 in
set_option maxHeartbeats 1000000 in
theorem table_heap (W : List Int) (ad : Option Addr) (cap : Nat) (si : Int) (w : World) (hm : W.length ≤ maxLen) (hr : 2 ≤ W.length → ∃ b off, ad = some ⟨b, off, none⟩ ∧ Row w b off W) (h : (checkOf W).1 ≠ 0) :
    Calls Try.prog 8 #[heapV ad W.length cap, .int .i64 si] w fun e w' => e = newErr 7 ∧ Below w.heap.size w w' := by
  have HR : Hid (2 ≤ W.length → ∃ b off, ad = some ⟨b, off, none⟩ ∧ Row w b off W) := hr
  have hs : Hid (∀ w0, (2 ≤ W.length → ∃ b off, ad = some ⟨b, off, none⟩ ∧ Row w0 b off W) → Calls Try.prog 22 #[heapV ad W.length cap] w0 fun e w' => e = .returned (.agg #[.int .i64 (checkOf W).1, .int .i64 (checkOf W).2]) ∧ Below w0.heap.size w0 w') := fun w0 h0 => check_any W ad cap w0 hm h0
  generalize checkOf W = F at h hs
  have hb : (F.1 != 0) = true := by simpa using h
  have hfd := fldF
  clear h hr
  go_enter Try.func8, Try.ntmps8
  go_wp2_with (go_at_call 22; refine (hs.out _ (reads2 HR.out)).mono ?_; rintro e w1 ⟨rfl, hb1⟩; obtain ⟨c0, d1, d2, hz⟩ := boxes11 hb1)
  refine bodyPost_ret (v := .tuple #[.agg #[.slice none 0 0], .int .i64 0, .int .i64 7]) (by simp [results, Try.results8, go_sem, d1]) rfl ⟨rfl, ?_⟩
  repeat (first | refine Below.setCell ?_ (by dsimp only; omega) _ | exact below2 hb1)

set_option maxRecDepth 20000 in
set_option maxHeartbeats 1000000 in
theorem table_small (W : List Int) (ad : Option Addr) (cap : Nat) (si : Int) (w : World) (hm : W.length ≤ maxLen) (hr : 2 ≤ W.length → ∃ b off, ad = some ⟨b, off, none⟩ ∧ Row w b off W) (h : (checkOf W).1 = 0) (hsi : si < 1) :
    Calls Try.prog 8 #[heapV ad W.length cap, .int .i64 si] w fun e w' => e = newErr 4 ∧ Below w.heap.size w w' := by
  have HR : Hid (2 ≤ W.length → ∃ b off, ad = some ⟨b, off, none⟩ ∧ Row w b off W) := hr
  have hs : Hid (∀ w0, (2 ≤ W.length → ∃ b off, ad = some ⟨b, off, none⟩ ∧ Row w0 b off W) → Calls Try.prog 22 #[heapV ad W.length cap] w0 fun e w' => e = .returned (.agg #[.int .i64 0, .int .i64 0]) ∧ Below w0.heap.size w0 w') := fun w0 h0 => by have := check_any W ad cap w0 hm h0; rw [see_fst h] at this; exact this
  have hfd := fldF
  clear h hr
  go_enter Try.func8, Try.ntmps8
  go_wp2_with (go_at_call 22; refine (hs.out _ (reads2 HR.out)).mono ?_; rintro e w1 ⟨rfl, hb1⟩; obtain ⟨c0, d1, d2, hz⟩ := boxes11 hb1)
  refine bodyPost_ret (v := .tuple #[.agg #[.slice none 0 0], .int .i64 0, .int .i64 4]) (by simp [results, Try.results8, go_sem, d1]) rfl ⟨rfl, ?_⟩
  repeat (first | refine Below.setCell ?_ (by dsimp only; omega) _ | exact below2 hb1)

set_option maxRecDepth 20000 in
set_option maxHeartbeats 1000000 in
theorem table_err (W : List Int) (ad : Option Addr) (cap : Nat) (si er : Int) (w : World) (hm : W.length ≤ maxLen) (hr : 2 ≤ W.length → ∃ b off, ad = some ⟨b, off, none⟩ ∧ Row w b off W) (h : (checkOf W).1 = 0) (hsi : 1 ≤ si)
    (hn : Hid (∀ w0, (2 ≤ W.length → ∃ b off, ad = some ⟨b, off, none⟩ ∧ Row w0 b off W) → Calls Try.prog 23 #[heapV ad W.length cap, .int .i64 0, .int .i64 0, .int .i64 si] w0 fun e w' => e = newErr er ∧ Below w0.heap.size w0 w')) :
    Calls Try.prog 8 #[heapV ad W.length cap, .int .i64 si] w fun e w' => e = newErr er ∧ Below w.heap.size w w' := by
  have HR : Hid (2 ≤ W.length → ∃ b off, ad = some ⟨b, off, none⟩ ∧ Row w b off W) := hr
  have hs : Hid (∀ w0, (2 ≤ W.length → ∃ b off, ad = some ⟨b, off, none⟩ ∧ Row w0 b off W) → Calls Try.prog 22 #[heapV ad W.length cap] w0 fun e w' => e = .returned (.agg #[.int .i64 0, .int .i64 0]) ∧ Below w0.heap.size w0 w') := fun w0 h0 => by have := check_any W ad cap w0 hm h0; rw [see_fst h] at this; exact this
  have hfd := fldF
  clear h hr
  go_enter Try.func8, Try.ntmps8
  go_wp2_with (first | (go_at_call 22; refine (hs.out _ (reads2 HR.out)).mono ?_; rintro e w1 ⟨rfl, hb1⟩; obtain ⟨c0, d1, d2, hz⟩ := boxes11 hb1) | (go_at_call 23; refine (hn.out _ (fun h2 => let ⟨b, off, e, r⟩ := reads2 HR.out h2; ⟨b, off, e, r.same hb1⟩)).mono ?_; rintro e w2 ⟨rfl, hb2⟩; have hB2 := hb1.trans (hb2.mono hb1.size); obtain ⟨c0', d1', d2', hz'⟩ := boxes11 hB2))
  refine bodyPost_ret (v := .tuple #[.agg #[.slice none 0 0], .int .i64 0, .int .i64 er]) (by simp [results, Try.results8, go_sem, d1']) rfl ⟨rfl, ?_⟩
  repeat (first | refine Below.setCell ?_ (by dsimp only; omega) _ | exact below2 hB2)

set_option maxRecDepth 20000 in
set_option maxHeartbeats 1000000 in
theorem table_good (W : List Int) (ad : Option Addr) (cap m : Nat) (w : World) (hm : W.length ≤ maxLen) (hr : 2 ≤ W.length → ∃ b off, ad = some ⟨b, off, none⟩ ∧ Row w b off W) (h : (checkOf W).1 = 0) (hsi : 1 ≤ m) (h60 : m ≤ 60) (hfit : (W.length : Int) + 3 + m ≤ 2000) (hh : wd W 1 ≤ 10000) :
    Calls Try.prog 8 #[heapV ad W.length cap, .int .i64 (m : Int)] w fun e w' => NewAns (newWords W 0 0 m) (2 * (W.length : Int)) e w' ∧ Below w.heap.size w w' := by
  have HR : Hid (2 ≤ W.length → ∃ b off, ad = some ⟨b, off, none⟩ ∧ Row w b off W) := hr
  have hs : Hid (∀ w0, (2 ≤ W.length → ∃ b off, ad = some ⟨b, off, none⟩ ∧ Row w0 b off W) → Calls Try.prog 22 #[heapV ad W.length cap] w0 fun e w' => e = .returned (.agg #[.int .i64 0, .int .i64 0]) ∧ Below w0.heap.size w0 w') := fun w0 h0 => by have := check_any W ad cap w0 hm h0; rw [see_fst h] at this; exact this
  have hn : Hid (∀ w0, (2 ≤ W.length → ∃ b off, ad = some ⟨b, off, none⟩ ∧ Row w0 b off W) → Calls Try.prog 23 #[heapV ad W.length cap, .int .i64 0, .int .i64 0, .int .i64 (m : Int)] w0 fun e w' => NewFrom (newWords W 0 0 m) (2 * (W.length : Int)) w0.heap.size e w' ∧ Below w0.heap.size w0 w') :=
    fun w0 h0 => new_from W ad cap 0 0 m w0 h0 h (by unfold nilB; rfl) (by decide) (decide_eq_true (by omega)) hfit hh
  have hfd := fldF
  have hmi : ¬ (m : Int) < 1 := by omega
  clear h hr
  generalize newWords W 0 0 m = K at *
  go_enter Try.func8, Try.ntmps8
  go_wp2_with (first | (go_at_call 22; refine (hs.out _ (reads2 HR.out)).mono ?_; rintro e w1 ⟨rfl, hb1⟩; obtain ⟨c0, d1, d2, hz⟩ := boxes11 hb1) | (go_at_call 23; refine (hn.out _ (fun h2 => let ⟨b, off, e, r⟩ := reads2 HR.out h2; ⟨b, off, e, r.same hb1⟩)).mono ?_; rintro e w2 ⟨⟨g, c, rfl, hg, hown⟩, hb2⟩; have hB2 := hb1.trans (hb2.mono hb1.size); obtain ⟨c0', d1', d2', hz'⟩ := boxes11 hB2))
  refine bodyPost_ret (v := .tuple #[.agg #[sl g K.length c], .int .i64 (2 * (W.length : Int)), .int .i64 0]) (by simp [results, Try.results8, go_sem, d1']) rfl ⟨⟨g, c, rfl, own_set' hown (by dsimp only; omega) _⟩, ?_⟩
  repeat (first | refine Below.setCell ?_ (by dsimp only; omega) _ | exact below2 hB2)
end Go.Proofs.Ytmgmbgacdjebgaa
