/- (side).kept, (*pairing).weaklyAlike, same and way. -/
import Derived.Test.YtpapaadclkdbkaaAlike2
import Derived.Deep.RegionHeld3
namespace Go.Proofs.Ytpapaadclkdbkaa
open Go.RowKit
open Go.Maps (Keyed keyOf_int_mk)

/-- One of two heaps, as a value. -/
abbrev sideV (b n cap bm m : Nat) : Value := .agg #[sl b n cap, .map (some bm), .map (some m)]
theorem box_three {w w' : World} {x0 x1 x2 : Value} {t : TypeId} (hb : Below (w.alloc (.cells #[x0, x1, x2] t)).heap.size (w.alloc (.cells #[x0, x1, x2] t)) w') :
    w'.cell? ⟨w.heap.size, 0, none⟩ = some x0 ∧ w'.cell? ⟨w.heap.size, 1, none⟩ = some x1 ∧ w'.cell? ⟨w.heap.size, 2, none⟩ = some x2 := by
  have A : ∀ j, w'.cell? ⟨w.heap.size, j, none⟩ = #[x0, x1, x2][j]? := fun j => by
    rw [hb.cell (p := ⟨w.heap.size, j, none⟩) (by simp)]; exact cell_at2 rfl
  exact ⟨A 0, A 1, A 2⟩

set_option maxHeartbeats 1000000 in
theorem kept_any (W : List Int) (b cap bm m n : Nat) (ks : List Int) (P : Pairs) (D : DataW Unit) (x : Int) (w : World) (hv : IsView w b cap bm W) (hg : Given w m ks n P D) (hwx : (Lit.int .i64 x).wf = true) :
    Calls Try.prog 103 #[sideV b W.length cap bm m, .int .i64 x] w fun e w' => e = .returned (.int .i64 (keptP W ks x)) ∧ Below w.heap.size w w' := by
  have hown := hg.own
  have LKown := hown.alloc (.cells #[sl b W.length cap, .map (some bm), .map (some m)] 76)
  by_cases hin : x ∈ ks
  · have hh : Go.Maps.has D (.int .i64 x) = true := by rw [hg.has]; exact List.contains_iff_mem.2 hin
    have er : keptP W ks x = x := by unfold keptP; rw [if_neg (fun hc => hc.1 hin)]
    rw [er]
    clear er hin
    go_enter Try.func103, Try.ntmps103
    go_wp2_with (at_lookup; refine wpList_lookup_own_ok_int _ rfl _ _ 52 rfl 3 3 .i64 key3 ty59 ty3 (zero3 _) m n D rfl LKown _ _ rfl (keyOf_int_mk ty3 hwx) ?_; intro k1 hat1 hwk1; clear hat1)
    go_ret
    exact ⟨rfl, (Below.refl _ _).alloc (Nat.le_refl _) _⟩
  · have hh : Go.Maps.has D (.int .i64 x) = false := by rw [hg.has, Bool.eq_false_iff]; exact fun hc => hin (List.contains_iff_mem.1 hc)
    cases ht : thingB W x with
    | true =>
      have er : keptP W ks x = 0 := by unfold keptP; rw [if_pos ⟨hin, ht⟩]
      rw [er]
      clear er hin
      go_enter Try.func103, Try.ntmps103
      go_wp2_with (first | (at_lookup; refine wpList_lookup_own_ok_int _ rfl _ _ 52 rfl 3 3 .i64 key3 ty59 ty3 (zero3 _) m n D rfl LKown _ _ rfl (keyOf_int_mk ty3 hwx) ?_; intro k1 hat1 hwk1; clear hat1) | (go_at_call 31; refine (has_any W b cap bm _ _ (hv.alloc _)).mono ?_; rintro e w1 ⟨rfl, hb1⟩))
      go_ret
      exact ⟨rfl, below_call hb1⟩
    | false =>
      have er : keptP W ks x = x := by unfold keptP; rw [if_neg (fun hc => by rw [ht] at hc; cases hc.2)]
      rw [er]
      clear er hin
      go_enter Try.func103, Try.ntmps103
      go_wp2_with (first | (at_lookup; refine wpList_lookup_own_ok_int _ rfl _ _ 52 rfl 3 3 .i64 key3 ty59 ty3 (zero3 _) m n D rfl LKown _ _ rfl (keyOf_int_mk ty3 hwx) ?_; intro k1 hat1 hwk1; clear hat1) | (go_at_call 31; refine (has_any W b cap bm _ _ (hv.alloc _)).mono ?_; rintro e w1 ⟨rfl, hb1⟩))
      go_ret
      exact ⟨rfl, below_call hb1⟩

theorem kept_wf {W D : List Int} {x : Int} (h : (Lit.int .i64 x).wf = true) : (Lit.int .i64 (keptP W D x)).wf = true := by
  unfold keptP; split
  · decide
  · exact h

theorem same_any (W V : List Int) (b cap bm b' cap' bm' L m1 m2 Q : Nat) (P : Pairs) (vp : Value) (D1 D2 : DataW Unit) (x y : Int) (w : World) (h : Pairing W V b cap bm b' cap' bm' L m1 m2 Q P vp D1 D2 w) :
    Calls Try.prog 95 #[.pointer (some ⟨Q, 0, none⟩), .int .i64 x, .int .i64 y] w (PairAns W V b cap bm b' cap' bm' L m1 m2 Q (sameP P x y) vp w) := by
  have er : sameP P x y = (x == y, P) := by unfold sameP; by_cases e : x = y <;> simp [e]
  rw [er]
  go_enter Try.func95, Try.ntmps95
  go_wp2
  go_ret
  exact ⟨rfl, vp, D1, D2, h, Moved.same (Below.refl _ _) h.big⟩

theorem way_bytes (Q : Nat) (w : World) : Calls Try.prog 80 #[.pointer (some ⟨Q, 0, none⟩), .int .i64 1] w fun e w' => e = .returned (.func (.func 95) #[.pointer (some ⟨Q, 0, none⟩)] #[]) ∧ w' = w := by
  go_enter Try.func80, Try.ntmps80
  go_wp2
  go_ret
  exact ⟨rfl, rfl⟩
theorem way_weak (Q : Nat) (w : World) : Calls Try.prog 80 #[.pointer (some ⟨Q, 0, none⟩), .int .i64 2] w fun e w' => e = .returned (.func (.func 96) #[.pointer (some ⟨Q, 0, none⟩)] #[]) ∧ w' = w := by
  go_enter Try.func80, Try.ntmps80
  go_wp2
  go_ret
  exact ⟨rfl, rfl⟩
theorem way_plain (Q : Nat) (w : World) : Calls Try.prog 80 #[.pointer (some ⟨Q, 0, none⟩), .int .i64 0] w fun e w' => e = .returned (.func (.func 69) #[.pointer (some ⟨Q, 0, none⟩)] #[]) ∧ w' = w := by
  go_enter Try.func80, Try.ntmps80
  go_wp2
  go_ret
  exact ⟨rfl, rfl⟩

/-- The six cells of a pairing that stay. -/
abbrev six (W V : List Int) (b cap bm b' cap' bm' m1 m2 Q : Nat) (w' : World) : Prop :=
  w'.cell? ⟨Q, 0, none⟩ = some (sl b W.length cap) ∧ w'.cell? ⟨Q, 1, none⟩ = some (.map (some bm)) ∧ w'.cell? ⟨Q, 2, none⟩ = some (.map (some m1)) ∧ w'.cell? ⟨Q, 3, none⟩ = some (sl b' V.length cap') ∧ w'.cell? ⟨Q, 4, none⟩ = some (.map (some bm')) ∧ w'.cell? ⟨Q, 5, none⟩ = some (.map (some m2))
theorem Pairing.six {W V : List Int} {b cap bm b' cap' bm' L m1 m2 Q : Nat} {P : Pairs} {vp : Value} {D1 D2 : DataW Unit} {w : World} (h : Pairing W V b cap bm b' cap' bm' L m1 m2 Q P vp D1 D2 w) : six W V b cap bm b' cap' bm' m1 m2 Q w := ⟨h.c0, h.c1, h.c2, h.c3, h.c4, h.c5⟩

set_option maxHeartbeats 4000000 in
theorem weak_still (W V : List Int) (b cap bm b' cap' bm' L m1 m2 Q : Nat) (P : Pairs) (vp : Value) (D1 D2 : DataW Unit) (x y : Int) (w : World) (h : Pairing W V b cap bm b' cap' bm' L m1 m2 Q P vp D1 D2 w) (hwx : (Lit.int .i64 x).wf = true) (hwy : (Lit.int .i64 y).wf = true) :
    Calls Try.prog 96 #[.pointer (some ⟨Q, 0, none⟩), .int .i64 x, .int .i64 y] w (StillAns (weakP W V P x y) w) := by
  have H : Hid (Pairing W V b cap bm b' cap' bm' L m1 m2 Q P vp D1 D2 w.drew) := h.same (Below.refl _ _).drew
  obtain ⟨c0, c1, c2, c3, c4, c5⟩ := H.out.six
  go_enter Try.func96, Try.ntmps96
  go_wp2_with fail
  go_region_held3 (fun w' => w'.cell? ⟨Q, 0, none⟩ = some (sl b W.length cap) ∧ w'.cell? ⟨Q, 1, none⟩ = some (.map (some bm)) ∧ w'.cell? ⟨Q, 2, none⟩ = some (.map (some m1)) ∧ w'.cell? ⟨Q, 3, none⟩ = some (sl b' V.length cap') ∧ w'.cell? ⟨Q, 4, none⟩ = some (.map (some bm')) ∧ w'.cell? ⟨Q, 5, none⟩ = some (.map (some m2))) (go_keep)
    (first
      | (go_at_call_of 103 (W.length); refine (kept_any W b cap bm m1 P.length (dom P) P D1 x _ (Pairing.view1 (Hid.out (by assumption))) (Pairing.one (Hid.out (by assumption))) hwx).mono ?_; rintro e w2 ⟨rfl, hb2⟩; have H2 : Hid (Pairing W V b cap bm b' cap' bm' L m1 m2 Q P vp D1 D2 w2) := Pairing.same (Hid.out (by assumption)) hb2; obtain ⟨e0, e1, e2, e3, e4, e5⟩ := H2.out.six)
      | (go_at_call_of 103 (V.length); refine (kept_any V b' cap' bm' m2 P.length (img P) (turn P) D2 y _ (Pairing.view2 (Hid.out (by assumption))) (Pairing.other (Hid.out (by assumption))) hwy).mono ?_; rintro e w3 ⟨rfl, hb3⟩; have H3 : Hid (Pairing W V b cap bm b' cap' bm' L m1 m2 Q P vp D1 D2 w3) := Pairing.same (Hid.out (by assumption)) hb3; obtain ⟨g0, g1, g2, g3, g4, g5⟩ := H3.out.six)
      | (go_at_call 69; refine (alike_still W V b cap bm b' cap' bm' L m1 m2 Q P vp D1 D2 _ _ _ (Hid.out (by assumption)) (kept_wf hwx) (kept_wf hwy) weakP_same.1).mono ?_; rintro e w4 ⟨rfl, hb4⟩; have H4 : Hid (Pairing W V b cap bm b' cap' bm' L m1 m2 Q P vp D1 D2 w4) := Pairing.same (Hid.out (by assumption)) hb4; obtain ⟨k0, k1, k2, k3, k4, k5⟩ := H4.out.six))
  all_goals
    first
      | (have hx : Below w.heap.size w w3 := (((Below.refl w.heap.size w).drew.trans hb2).trans (hb3.mono ((Below.refl w.heap.size w).drew.trans hb2).size))
         go_wp2_with fail
         go_ret
         exact ⟨rfl, hx.trans (hb4.mono hx.size)⟩)
      | (have hx : Below w.heap.size w w2 := (((Below.refl w.heap.size w).drew.trans hb3).trans (hb2.mono ((Below.refl w.heap.size w).drew.trans hb3).size))
         go_wp2_with fail
         go_ret
         exact ⟨rfl, hx.trans (hb4.mono hx.size)⟩)

end Go.Proofs.Ytpapaadclkdbkaa
