/- become.One, become.Two: some become others, one way or both, or what stands against it. -/
import Derived.Test.YtgggmdanpdggpacBecomeYes
namespace Go.Proofs.Ytgggmdanpdggpac
open Go.RowKit

/-- What stands against it first (E1). -/
def becFault (W roots F T : List Int) (both : Bool) : Int × Int := if (rootsOf W roots).1 = 0 then wrongOf W F T both else rootsOf W roots
theorem words_below {W : List Int} {ad : Option Addr} {w w' : World} (hr : WordsAt ad W w) (hb : Below w.heap.size w w') : WordsAt ad W w' :=
  fun h => let ⟨b, off, e, r⟩ := hr h; ⟨b, off, e, r.same hb⟩
theorem renamed_fault (W F T roots : List Int) (ad fad tad rad : Option Addr) (cap fc tc rcap : Nat) (both : Bool) (w : World) (hm : W.length ≤ maxLen) (hr : WordsAt ad W w) (hF : RootsAt fad F w) (hT : RootsAt tad T w) (hroots : RootsAt rad roots w) (hn : F.length ≤ 5000) (hrl : roots.length ≤ 5000) (h : (becFault W roots F T both).1 ≠ 0) :
    Calls Try.prog 8 #[heapV ad W.length cap, .slice fad F.length fc, .slice tad T.length tc, .slice rad roots.length rcap, .bool both] w fun e w' => FaultAns (becFault W roots F T both) e ∧ Below w.heap.size w w' := by
  unfold becFault at h ⊢
  by_cases h0 : (rootsOf W roots).1 = 0
  · rw [if_pos h0] at h ⊢
    by_cases hk : (kindsOf W F T).1 = 0
    · obtain ⟨hl, hodd⟩ := kinds_ok hk
      cases hf : (List.range F.length).find? (twAt both F T) with
      | some i =>
        rw [List.find?_range_eq_some] at hf
        obtain ⟨h1, h2, h3⟩ := hf
        have h2' := List.mem_range.1 h2
        have h3' : ∀ j, j < i → twAt both F T j = false := fun j hj => by simpa using h3 j hj
        rw [wrong_twice hl hodd h2' h1 h3']
        exact renamed_twice W F T roots ad fad tad rad cap fc tc rcap both w hr hF hT hroots hn hrl h0 (kinds_none hl hodd) hl i h2' h1 h3'
      | none => rw [wrong_none hl hodd (none_first hf)] at h; exact absurd rfl h
    · rw [wrong_kinds hk]
      exact renamed_lists W F T roots ad fad tad rad cap fc tc rcap both w hr hF hT hroots hn hrl h0 hk
  · rw [if_neg h0]
    exact renamed_no W F T roots ad fad tad rad cap fc tc rcap both w hm hr hroots hrl h0
theorem fault_ok {W roots F T : List Int} {both : Bool} (h : (becFault W roots F T both).1 = 0) : (rootsOf W roots).1 = 0 ∧ Pairs2 W F T both := by
  unfold becFault at h
  by_cases h0 : (rootsOf W roots).1 = 0
  · rw [if_pos h0] at h; exact ⟨h0, wrong_ok h⟩
  · rw [if_neg h0] at h; exact absurd h h0

set_option maxHeartbeats 2000000 in
theorem one_fault (W F T roots : List Int) (ad fad tad rad : Option Addr) (cap fc tc rcap : Nat) (w : World) (hm : W.length ≤ maxLen) (hr : WordsAt ad W w) (hF : RootsAt fad F w) (hT : RootsAt tad T w) (hroots : RootsAt rad roots w) (hn : F.length ≤ 5000) (hrl : roots.length ≤ 5000) (h : (becFault W roots F T false).1 ≠ 0) :
    Calls Try.prog 7 #[heapV ad W.length cap, .slice fad F.length fc, .slice tad T.length tc, .slice rad roots.length rcap] w fun e w' => FaultAns (becFault W roots F T false) e ∧ Below w.heap.size w w' := by
  have HC : Hid (∀ w0, Below w.heap.size w w0 → Calls Try.prog 8 #[heapV ad W.length cap, .slice fad F.length fc, .slice tad T.length tc, .slice rad roots.length rcap, .bool false] w0 fun e w' => FaultAns (becFault W roots F T false) e ∧ Below w0.heap.size w0 w') :=
    fun w0 hb => renamed_fault W F T roots ad fad tad rad cap fc tc rcap false w0 hm (words_below hr hb) (hF.below hb) (hT.below hb) (hroots.below hb) hn hrl h
  unfold FaultAns at *
  generalize becFault W roots F T false = G at *
  clear h hr hF hT hroots
  go_enter Try.func7, Try.ntmps7
  go_wp2_with (go_at_call 8; refine (HC.out _ ((((Below.refl _ _).alloc (Nat.le_refl _) _).alloc (by simp) _).alloc (by simp; omega) _)).mono ?_; rintro e w1 ⟨rfl, hb1⟩; obtain ⟨⟨c1, c2, c3⟩, ⟨f1, f2, f3⟩, hz⟩ := sweepBoxes hb1)
  have hend := below3 hb1
  refine bodyPost_ret (v := .tuple #[.agg #[.slice none 0 0], .slice none 0 0, .agg #[.int .i64 G.1, .int .i64 G.2]]) (by simp [results, Try.results7, go_sem, c1, c2, c3]) rfl ⟨rfl, ?_⟩
  repeat (first | refine Below.drew ?_ | refine Below.setCell ?_ (by dsimp only; omega) _ | exact hend)

set_option maxHeartbeats 2000000 in
theorem one_yes (W F T roots : List Int) (ad fad tad rad : Option Addr) (cap fc tc rcap : Nat) (w : World) (hr : WordsAt ad W w) (hF : RootsAt fad F w) (hT : RootsAt tad T w) (hroots : RootsAt rad roots w) (hn : F.length ≤ 5000) (hrl : roots.length ≤ 5000) (h : (becFault W roots F T false).1 = 0) :
    Calls Try.prog 7 #[heapV ad W.length cap, .slice fad F.length fc, .slice tad T.length tc, .slice rad roots.length rcap] w fun e w' => CollectAns (renW (otherP false (F.zip T)) W) (roots.map (otherP false (F.zip T))) w.heap.size e w' ∧ Below w.heap.size w w' := by
  have HC : Hid (∀ w0, Below w.heap.size w w0 → Calls Try.prog 8 #[heapV ad W.length cap, .slice fad F.length fc, .slice tad T.length tc, .slice rad roots.length rcap, .bool false] w0 fun e w' => CollectAns (renW (otherP false (F.zip T)) W) (roots.map (otherP false (F.zip T))) w0.heap.size e w' ∧ Below w0.heap.size w0 w') :=
    fun w0 hb => renamed_yes W F T roots ad fad tad rad cap fc tc rcap false w0 (words_below hr hb) (hF.below hb) (hT.below hb) (hroots.below hb) hn hrl (fault_ok h).1 (fault_ok h).2
  generalize renW (otherP false (F.zip T)) W = K at *
  generalize roots.map (otherP false (F.zip T)) = L at *
  clear h hr hF hT hroots
  go_enter Try.func7, Try.ntmps7
  go_wp2_with (go_at_call 8; refine (HC.out _ ((((Below.refl _ _).alloc (Nat.le_refl _) _).alloc (by simp) _).alloc (by simp; omega) _)).mono ?_; rintro e w1 ⟨⟨g, c, g', c', rfl, hg, hg', hownK, hownL⟩, hb1⟩; obtain ⟨⟨c1, c2, c3⟩, ⟨f1, f2, f3⟩, hz⟩ := sweepBoxes hb1)
  have hend := below3 hb1
  simp at hg hg'
  refine bodyPost_ret (v := .tuple #[.agg #[sl g K.length c], sl g' L.length c', .agg #[.int .i64 0, .int .i64 0]]) (by simp [results, Try.results7, go_sem, c1, c2, c3]) rfl ⟨⟨g, c, g', c', rfl, by omega, by omega, ?_, ?_⟩, ?_⟩
  · repeat (first | refine own_set' ?_ (by dsimp only; omega) _ | exact hownK)
  · repeat (first | refine own_set' ?_ (by dsimp only; omega) _ | exact hownL)
  · repeat (first | refine Below.drew ?_ | refine Below.setCell ?_ (by dsimp only; omega) _ | exact hend)

set_option maxHeartbeats 2000000 in
theorem two_fault (W F T roots : List Int) (ad fad tad rad : Option Addr) (cap fc tc rcap : Nat) (w : World) (hm : W.length ≤ maxLen) (hr : WordsAt ad W w) (hF : RootsAt fad F w) (hT : RootsAt tad T w) (hroots : RootsAt rad roots w) (hn : F.length ≤ 5000) (hrl : roots.length ≤ 5000) (h : (becFault W roots F T true).1 ≠ 0) :
    Calls Try.prog 4 #[heapV ad W.length cap, .slice fad F.length fc, .slice tad T.length tc, .slice rad roots.length rcap] w fun e w' => FaultAns (becFault W roots F T true) e ∧ Below w.heap.size w w' := by
  have HC : Hid (∀ w0, Below w.heap.size w w0 → Calls Try.prog 8 #[heapV ad W.length cap, .slice fad F.length fc, .slice tad T.length tc, .slice rad roots.length rcap, .bool true] w0 fun e w' => FaultAns (becFault W roots F T true) e ∧ Below w0.heap.size w0 w') :=
    fun w0 hb => renamed_fault W F T roots ad fad tad rad cap fc tc rcap true w0 hm (words_below hr hb) (hF.below hb) (hT.below hb) (hroots.below hb) hn hrl h
  unfold FaultAns at *
  generalize becFault W roots F T true = G at *
  clear h hr hF hT hroots
  go_enter Try.func4, Try.ntmps4
  go_wp2_with (go_at_call 8; refine (HC.out _ ((((Below.refl _ _).alloc (Nat.le_refl _) _).alloc (by simp) _).alloc (by simp; omega) _)).mono ?_; rintro e w1 ⟨rfl, hb1⟩; obtain ⟨⟨c1, c2, c3⟩, ⟨f1, f2, f3⟩, hz⟩ := sweepBoxes hb1)
  have hend := below3 hb1
  refine bodyPost_ret (v := .tuple #[.agg #[.slice none 0 0], .slice none 0 0, .agg #[.int .i64 G.1, .int .i64 G.2]]) (by simp [results, Try.results4, go_sem, c1, c2, c3]) rfl ⟨rfl, ?_⟩
  repeat (first | refine Below.drew ?_ | refine Below.setCell ?_ (by dsimp only; omega) _ | exact hend)

set_option maxHeartbeats 2000000 in
theorem two_yes (W F T roots : List Int) (ad fad tad rad : Option Addr) (cap fc tc rcap : Nat) (w : World) (hr : WordsAt ad W w) (hF : RootsAt fad F w) (hT : RootsAt tad T w) (hroots : RootsAt rad roots w) (hn : F.length ≤ 5000) (hrl : roots.length ≤ 5000) (h : (becFault W roots F T true).1 = 0) :
    Calls Try.prog 4 #[heapV ad W.length cap, .slice fad F.length fc, .slice tad T.length tc, .slice rad roots.length rcap] w fun e w' => CollectAns (renW (otherP true (F.zip T)) W) (roots.map (otherP true (F.zip T))) w.heap.size e w' ∧ Below w.heap.size w w' := by
  have HC : Hid (∀ w0, Below w.heap.size w w0 → Calls Try.prog 8 #[heapV ad W.length cap, .slice fad F.length fc, .slice tad T.length tc, .slice rad roots.length rcap, .bool true] w0 fun e w' => CollectAns (renW (otherP true (F.zip T)) W) (roots.map (otherP true (F.zip T))) w0.heap.size e w' ∧ Below w0.heap.size w0 w') :=
    fun w0 hb => renamed_yes W F T roots ad fad tad rad cap fc tc rcap true w0 (words_below hr hb) (hF.below hb) (hT.below hb) (hroots.below hb) hn hrl (fault_ok h).1 (fault_ok h).2
  generalize renW (otherP true (F.zip T)) W = K at *
  generalize roots.map (otherP true (F.zip T)) = L at *
  clear h hr hF hT hroots
  go_enter Try.func4, Try.ntmps4
  go_wp2_with (go_at_call 8; refine (HC.out _ ((((Below.refl _ _).alloc (Nat.le_refl _) _).alloc (by simp) _).alloc (by simp; omega) _)).mono ?_; rintro e w1 ⟨⟨g, c, g', c', rfl, hg, hg', hownK, hownL⟩, hb1⟩; obtain ⟨⟨c1, c2, c3⟩, ⟨f1, f2, f3⟩, hz⟩ := sweepBoxes hb1)
  have hend := below3 hb1
  simp at hg hg'
  refine bodyPost_ret (v := .tuple #[.agg #[sl g K.length c], sl g' L.length c', .agg #[.int .i64 0, .int .i64 0]]) (by simp [results, Try.results4, go_sem, c1, c2, c3]) rfl ⟨⟨g, c, g', c', rfl, by omega, by omega, ?_, ?_⟩, ?_⟩
  · repeat (first | refine own_set' ?_ (by dsimp only; omega) _ | exact hownK)
  · repeat (first | refine own_set' ?_ (by dsimp only; omega) _ | exact hownL)
  · repeat (first | refine Below.drew ?_ | refine Below.setCell ?_ (by dsimp only; omega) _ | exact hend)
end Go.Proofs.Ytgggmdanpdggpac
