/- gessoref2.Roots: the fault of a heap and roots. -/
import Derived.Test.YthdhaokjibfjdaaSeeRootsX
namespace Go.Proofs.Ythdhaokjibfjdaa
open Go.RowKit

set_option maxHeartbeats 2000000 in
theorem rroots_no (W roots : List Int) (ad rad : Option Addr) (cap rcap : Nat) (w : World) (hm : W.length ≤ maxLen) (hr : WordsAt ad W w) (h : (checkOf W).1 ≠ 0) :
    Calls Try.prog 12 #[heapV ad W.length cap, .slice rad roots.length rcap] w fun e w' => e = .returned (.agg #[.int .i64 (checkOf W).1, .int .i64 (checkOf W).2]) ∧ Below w.heap.size w w' := by
  have hs : Hid (∀ w0, WordsAt ad W w0 → Calls Try.prog 27 #[heapV ad W.length cap] w0 fun e w' => e = .returned (.agg #[.int .i64 (checkOf W).1, .int .i64 (checkOf W).2]) ∧ Below w0.heap.size w0 w') :=
    fun w0 hr0 => rcheck_any W ad cap w0 hm hr0
  have HR : Hid (WordsAt ad W w) := hr
  generalize checkOf W = F at *
  have hb : (F.1 != 0) = true := by simpa using h
  clear h hr
  go_enter Try.func12, Try.ntmps12
  go_wp2_with (go_at_call 27; refine (hs.out _ (reads2 HR.out)).mono ?_; rintro e w1 ⟨rfl, hb1⟩; obtain ⟨c0, c1, c2, c3, c4, hz⟩ := boxes1 hb1)
  refine bodyPost_ret (v := .agg #[.int .i64 F.1, .int .i64 F.2]) (by simp [results, Try.results12, go_sem, c1, c2, hz]) rfl ⟨rfl, ?_⟩
  repeat (first | refine Below.setCell ?_ (by dsimp only; omega) _ | refine Below.alloc ?_ (by first | omega | (simp [World.setCell]; omega)) _ | exact (below2 hb1))

set_option maxHeartbeats 4000000 in
theorem rroots_yes (W roots : List Int) (ad rad : Option Addr) (cap rcap : Nat) (w : World) (hr : WordsAt ad W w) (hroots : RootsAt rad roots w) (h : (checkOf W).1 = 0) (hrl : roots.length ≤ 900000) :
    Calls Try.prog 12 #[heapV ad W.length cap, .slice rad roots.length rcap] w fun e w' => e = .returned (.agg #[.int .i64 (rootsOf W roots).1, .int .i64 (rootsOf W roots).2]) ∧ Below w.heap.size w w' := by
  obtain ⟨hf, hu⟩ := check_ok h
  obtain ⟨h2, hl, _⟩ := front_out hf
  have hs : Hid (∀ w0, WordsAt ad W w0 → Calls Try.prog 27 #[heapV ad W.length cap] w0 fun e w' => e = .returned (.agg #[.int .i64 0, .int .i64 0]) ∧ Below w0.heap.size w0 w') :=
    fun w0 hr0 => by have := rcheck_any W ad cap w0 (by unfold maxLen; omega) hr0; rw [see_fst h] at this; exact this
  have HR : Hid (WordsAt ad W w) := hr
  have HO : Hid (RootsAt rad roots w) := hroots
  have HC : Hid ((checkOf W).1 = 0) := h
  generalize hF : rootsOf W roots = F
  have HF : Hid (rootsOf W roots = F) := hF
  clear h hr hroots hf hF
  obtain ⟨b, off, rfl, hrow⟩ := HR.out h2
  go_enter Try.func12, Try.ntmps12
  go_wp2_with (go_at_call 27; refine (hs.out _ (reads2 HR.out)).mono ?_; rintro e w1 ⟨rfl, hb1⟩; obtain ⟨c0, c1, c2, c3, c4, hz⟩ := boxes1 hb1; have hz0 : w.heap.size < w1.heap.size := (by omega))
  have hrow1 := hrow.same (below2 hb1)
  have hlw := hrow1.lt
  go_loopw [6] (fun s wr => ∃ (i n : Nat), s = .int .i64 i ∧ i ≤ roots.length ∧ Hid (badRoot W roots 0 roots.length = badRoot W roots i (roots.length - i)) ∧ wr = (w1.alloc (.cells #[.int .i64 0, .int .i64 0] 33)).drewN n) (fun s _ => roots.length - (intOf s).toNat)
  case atStart => exact ⟨0, 0, rfl, Nat.zero_le _, rfl, rfl⟩
  case round =>
    obtain ⟨i, n, rfl, hi, hbad, rfl⟩ := hrel
    by_cases hlt : i < roots.length
    · obtain ⟨rb, ro, hrad, hrr⟩ := HO.out (by omega)
      have hrr1 := hrr.same (below2 hb1)
      have hlr := hrr1.lt
      have hcr := hrr1.cell i hlt
      have hii : (i : Int) < (roots.length : Int) := by omega
      subst hrad
      have hn : roots.length - i = (roots.length - (i + 1)) + 1 := by omega
      cases hf : fitsRef W (wd roots i) with
      | true =>
        have Hb : Hid (badRoot W roots 0 roots.length = badRoot W roots (i + 1) (roots.length - (i + 1))) := by
          have := hbad.out
          rw [hn, root_yes hf] at this; exact this
        clear hbad
        go_wp2_with fail
        go_quiet ((go_at_call 28; exact quiet_same (rfits_any W b off cap _ _ ((hrow1.alloc _).drewN _) hu hl)))
        go_wp2_with fail
        go_roundw
        case rel => exact ⟨i + 1, _, by first | rfl | simp, by omega, Hb, rfl⟩
        case measure => simp [intOf]; omega
      | false =>
        have Hb : Hid (F = (3, (i : Int))) := by
          have := hbad.out
          rw [hn, root_no hf] at this
          exact HF.out.symm.trans (roots_bad HC.out this)
        clear hbad
        go_wp2_with fail
        go_quiet ((go_at_call 28; exact quiet_same (rfits_any W b off cap _ _ ((hrow1.alloc _).drewN _) hu hl)))
        go_wp2_with fail
        refine bodyPost_ret (v := .agg #[.int .i64 3, .int .i64 (i : Nat)]) (by simp [results, Try.results12, go_sem, c1, c2, hz]) rfl ⟨by rw [Hb.out], ?_⟩
        repeat (first | refine Below.setCell ?_ (by dsimp only; omega) _ | refine below_drewN ?_ _ | refine Below.alloc ?_ (by first | omega | (simp [World.setCell]; omega)) _ | exact below2 hb1)
    · have Hb : Hid (F = (0, 0)) := by
        have := hbad.out
        rw [show roots.length - i = 0 by omega] at this
        exact HF.out.symm.trans (roots_ok HC.out this)
      clear hbad
      go_wp2_with fail
      refine bodyPost_ret (v := .agg #[.int .i64 0, .int .i64 0]) (by simp [results, Try.results12, go_sem, c1, c2, hz]) rfl ⟨by rw [Hb.out], ?_⟩
      repeat (first | refine Below.setCell ?_ (by dsimp only; omega) _ | refine below_drewN ?_ _ | refine Below.alloc ?_ (by first | omega | (simp [World.setCell]; omega)) _ | exact below2 hb1)

theorem rroots_wide (W roots : List Int) (ad rad : Option Addr) (cap rcap : Nat) (w : World) (hm : W.length ≤ maxLen) (hr : WordsAt ad W w) (hroots : RootsAt rad roots w) (hrl : roots.length ≤ 900000) :
    Calls Try.prog 12 #[heapV ad W.length cap, .slice rad roots.length rcap] w fun e w' => e = .returned (.agg #[.int .i64 (rootsOf W roots).1, .int .i64 (rootsOf W roots).2]) ∧ Below w.heap.size w w' := by
  by_cases h : (checkOf W).1 = 0
  · exact rroots_yes W roots ad rad cap rcap w hr hroots h hrl
  · rw [roots_heap h]; exact rroots_no W roots ad rad cap rcap w hm hr h

theorem rroots_any (W roots : List Int) (ad rad : Option Addr) (cap rcap : Nat) (w : World) (hm : W.length ≤ maxLen) (hr : WordsAt ad W w) (hroots : RootsAt rad roots w) (hrl : roots.length ≤ 5000) :
    Calls Try.prog 12 #[heapV ad W.length cap, .slice rad roots.length rcap] w fun e w' => e = .returned (.agg #[.int .i64 (rootsOf W roots).1, .int .i64 (rootsOf W roots).2]) ∧ Below w.heap.size w w' :=
  rroots_wide W roots ad rad cap rcap w hm hr hroots (by omega)
end Go.Proofs.Ythdhaokjibfjdaa
