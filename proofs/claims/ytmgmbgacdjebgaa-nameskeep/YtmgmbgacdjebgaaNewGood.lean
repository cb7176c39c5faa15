/- heap.New where it makes a thing. -/
import Derived.Test.YtmgmbgacdjebgaaNew
namespace Go.Proofs.Ytmgmbgacdjebgaa
open Go.RowKit

/-- What New answers, in a block from B on. -/
def NewFrom (W' : List Int) (o : Int) (B : Nat) (e : Ending) (w : World) : Prop := ∃ g cap, e = .returned (.tuple #[.agg #[sl g W'.length cap], .int .i64 o, .int .i64 0]) ∧ B ≤ g ∧ w.ownsRow 0 3 1 (sl g W'.length cap) W'.length (vals W')

set_option maxRecDepth 20000 in
set_option maxHeartbeats 4000000 in
theorem new_from (W : List Int) (ad : Option Addr) (cap : Nat) (cl fo : Int) (m : Nat) (w : World) (hr : 2 ≤ W.length → ∃ b off, ad = some ⟨b, off, none⟩ ∧ Row w b off W) (h : (checkOf W).1 = 0) (hc : nilB W cl = true) (h1 : formB fo = true) (h2 : sizeB m = true) (hfit : (W.length : Int) + 3 + m ≤ 2000) (hh : wd W 1 ≤ 10000) :
    Calls Try.prog 23 #[heapV ad W.length cap, .int .i64 cl, .int .i64 fo, .int .i64 m] w fun e w' => NewFrom (newWords W cl fo m) (2 * (W.length : Int)) w.heap.size e w' ∧ Below w.heap.size w w' := by
  have hs : Hid (∀ w0, (2 ≤ W.length → ∃ b off, ad = some ⟨b, off, none⟩ ∧ Row w0 b off W) → Calls Try.prog 38 #[heapV ad W.length cap] w0 fun e w' => OpenAns W w0.heap.size e w' ∧ Below w0.heap.size w0 w') :=
    fun w0 hr0 => open_yes W ad cap w0 hr0 h
  have HR : Hid (2 ≤ W.length → ∃ b off, ad = some ⟨b, off, none⟩ ∧ Row w b off W) := hr
  have HA : Hid (∀ (Q b cap bm L : Nat) w0, InBox W Q b cap bm w0 → L ≤ b → Calls Try.prog 39 #[.pointer (some ⟨Q, 0, none⟩), .int .i64 cl, .int .i64 fo, .int .i64 m] w0 (AddAns W cl fo m Q b bm L w0)) :=
    fun Q b cap bm L w0 hB hL => vadd_good W Q b cap bm L cl fo m w0 hB hL h hc h1 h2 hfit hh
  clear h hr hc h1 h2 hfit hh
  go_enter Try.func23, Try.ntmps23
  go_wp2_with (first | (go_at_call 38; refine (hs.out _ (reads2 HR.out)).mono ?_; rintro e w1 ⟨⟨b, cap', bm, rfl, hv, hb, hbm, hne⟩, hb1⟩; have hz : w.heap.size + 1 < w1.heap.size := (boxes11 hb1).2.2.2; have hb' : w.heap.size + 2 ≤ b := (by simp at hb; omega); have hbm' : w.heap.size + 2 ≤ bm := (by simp at hbm; omega)) | (go_at_call 39; refine (HA.out _ b cap' bm (w.heap.size + 2) _ (InBox.new hv) hb').mono ?_; rintro e w2 ⟨g, c, rfl, hB2, hg, hk2, _, _⟩; have hb12 : Below (w.heap.size + 2) ((w.alloc _).alloc _) w2 := ((hb1.mono (by simp)).trans (((Below.refl _ _).alloc (by omega) _).trans (hk2.below (by simp; omega) hb' hbm' (by omega)))); obtain ⟨d0, d1, d2, hz2⟩ := boxes11 (hb12.mono (by simp)); have q0 := hB2.q0; have hq := hB2.lt))
  have hA : Below w.heap.size w w2 := (((Below.refl _ _).alloc (Nat.le_refl _) _).alloc (by simp) _).trans (hb12.mono (by omega))
  refine bodyPost_ret (v := .tuple #[.agg #[sl g (newWords W cl fo m).length c], .int .i64 (2 * (W.length : Int)), .int .i64 0]) (by simp [results, Try.results23, go_sem, d1]) rfl ⟨⟨g, c, rfl, by omega, own_set hB2.view.own (by dsimp only; omega) _⟩, hA.setCell (by dsimp only; omega) _⟩

theorem new_good (W : List Int) (ad : Option Addr) (cap : Nat) (cl fo : Int) (m : Nat) (w : World) (hr : 2 ≤ W.length → ∃ b off, ad = some ⟨b, off, none⟩ ∧ Row w b off W) (h : (checkOf W).1 = 0) (hc : nilB W cl = true) (h1 : formB fo = true) (h2 : sizeB m = true) (hfit : (W.length : Int) + 3 + m ≤ 2000) (hh : wd W 1 ≤ 10000) :
    Calls Try.prog 23 #[heapV ad W.length cap, .int .i64 cl, .int .i64 fo, .int .i64 m] w fun e w' => NewAns (newWords W cl fo m) (2 * (W.length : Int)) e w' ∧ Below w.heap.size w w' :=
  (new_from W ad cap cl fo m w hr h hc h1 h2 hfit hh).mono fun _ _ hp => ⟨let ⟨g, c, he, _, ho⟩ := hp.1; ⟨g, c, he, ho⟩, hp.2⟩

end Go.Proofs.Ytmgmbgacdjebgaa
