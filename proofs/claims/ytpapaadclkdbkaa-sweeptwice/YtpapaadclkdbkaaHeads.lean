/- (*pairing).headsAlike and slotsAlike. -/
import Derived.Test.YtpapaadclkdbkaaEqFunc
import Derived.Test.YtpapaadclkdbkaaLook
import Derived.Deep.RegionHeld3
namespace Go.Proofs.Ytpapaadclkdbkaa
open Go.RowKit

/-- What headsAlike answers. -/
def headsP (W V : List Int) (P : Pairs) (c1 h1 f1 c2 h2 f2 : Int) : Bool × Pairs := if h1 = h2 ∧ f1 = f2 then alikeP W V P c1 c2 else (false, P)

theorem fours {w w' : World} {x0 x1 x2 x3 z0 z1 z2 z3 : Value} {t t' : TypeId} (hb : Below ((w.alloc (.cells #[x0, x1, x2, x3] t)).alloc (.cells #[z0, z1, z2, z3] t')).heap.size ((w.alloc (.cells #[x0, x1, x2, x3] t)).alloc (.cells #[z0, z1, z2, z3] t')) w') : ∀ j, w'.cell? ⟨w.heap.size, j, none⟩ = #[x0, x1, x2, x3][j]? ∧ w'.cell? ⟨w.heap.size + 1, j, none⟩ = #[z0, z1, z2, z3][j]? := fun j => by
  constructor
  · rw [hb.cell (p := ⟨w.heap.size, j, none⟩) (by simp; omega), cell_past _ (by simp)]; exact cell_at2 rfl
  · rw [hb.cell (p := ⟨w.heap.size + 1, j, none⟩) (by simp)]; exact cell_at2 (by simp)

set_option maxHeartbeats 2000000 in
theorem heads_any (W V : List Int) (b cap bm b' cap' bm' L m1 m2 Q : Nat) (P : Pairs) (vp : Value) (D1 D2 : DataW Unit) (c1 h1 f1 c2 h2 f2 : Int) (v1 v2 : Value) (w : World) (h : Pairing W V b cap bm b' cap' bm' L m1 m2 Q P vp D1 D2 w) (hw1 : (Lit.int .i64 c1).wf = true) (hw2 : (Lit.int .i64 c2).wf = true) (hl : P.length ≤ 100000) :
    Calls Try.prog 71 #[.pointer (some ⟨Q, 0, none⟩), thingV c1 h1 f1 v1, thingV c2 h2 f2 v2] w (PairAns W V b cap bm b' cap' bm' L m1 m2 Q (headsP W V P c1 h1 f1 c2 h2 f2) vp w) := by
  have hbig := h.big
  have hb0 : Below w.heap.size w ((w.alloc (.cells #[.int .i64 c1, .int .i64 h1, .int .i64 f1, v1] 34)).alloc (.cells #[.int .i64 c2, .int .i64 h2, .int .i64 f2, v2] 34)) := ((Below.refl _ _).alloc (Nat.le_refl _) _).alloc (by simp) _
  by_cases hh : h1 = h2
  · subst hh
    by_cases hf : f1 = f2
    · subst hf
      have er : headsP W V P c1 h1 f1 c2 h1 f1 = alikeP W V P c1 c2 := by unfold headsP; rw [if_pos ⟨rfl, rfl⟩]
      rw [er]
      unfold PairAns
      go_enter Try.func71, Try.ntmps71
      go_wp2_with (go_at_call 69; refine (alike_any W V b cap bm b' cap' bm' L m1 m2 Q P vp D1 D2 _ _ _ (h.same hb0) hw1 hw2 hl).mono ?_; rintro e w2 ⟨rfl, vp2, D12, D22, hP2, hM2⟩)
      go_ret
      exact ⟨ret_bool (by simp), vp2, D12, D22, hP2, (Moved.same hb0 hbig).trans hM2⟩
    · have hfb : (f1 == f2) = false := by simpa using hf
      have er : headsP W V P c1 h1 f1 c2 h1 f2 = (false, P) := by unfold headsP; rw [if_neg (fun hc => hf hc.2)]
      rw [er]
      clear hf er
      go_enter Try.func71, Try.ntmps71
      go_wp2_with fail
      go_ret
      exact ⟨ret_bool (by simp), vp, D1, D2, h.same hb0, Moved.same hb0 hbig⟩
  · have hhb : (h1 == h2) = false := by simpa using hh
    have er : headsP W V P c1 h1 f1 c2 h2 f2 = (false, P) := by unfold headsP; rw [if_neg (fun hc => hh hc.1)]
    rw [er]
    clear hh er
    go_enter Try.func71, Try.ntmps71
    go_wp2_with fail
    go_ret
    exact ⟨ret_bool (by simp), vp, D1, D2, h.same hb0, Moved.same hb0 hbig⟩

set_option maxHeartbeats 4000000 in
theorem slots_plain (W V xs ys : List Int) (b cap bm b' cap' bm' L m1 m2 Q : Nat) (P : Pairs) (vp : Value) (D1 D2 : DataW Unit) (c1 h1 c2 h2 f2 : Int) (ad ad' : Option Addr) (k k' : Nat) (w : World) (h : Pairing W V b cap bm b' cap' bm' L m1 m2 Q P vp D1 D2 w) (hx : LiesApart m1 m2 Q vp ad xs w) (hy : LiesApart m1 m2 Q vp ad' ys w) (hl : P.length + xs.length ≤ 100000) :
    Calls Try.prog 72 #[.pointer (some ⟨Q, 0, none⟩), thingV c1 h1 0 (.slice ad xs.length k), thingV c2 h2 f2 (.slice ad' ys.length k')] w (PairAns W V b cap bm b' cap' bm' L m1 m2 Q (eqF (alikeP W V) P xs ys) vp w) := by
  have hbig := h.big
  have hb0 : Below w.heap.size w (((w.alloc (.cells #[.int .i64 c1, .int .i64 h1, .int .i64 0, .slice ad xs.length k] 34)).alloc (.cells #[.int .i64 c2, .int .i64 h2, .int .i64 f2, .slice ad' ys.length k'] 34)).drew) := (((Below.refl _ _).alloc (Nat.le_refl _) _).alloc (by simp) _).drew
  have H : Hid (Pairing W V b cap bm b' cap' bm' L m1 m2 Q P vp D1 D2 (((w.alloc (.cells #[.int .i64 c1, .int .i64 h1, .int .i64 0, .slice ad xs.length k] 34)).alloc (.cells #[.int .i64 c2, .int .i64 h2, .int .i64 f2, .slice ad' ys.length k'] 34)).drew)) := h.same hb0
  have HX : Hid (LiesApart m1 m2 Q vp ad xs (((w.alloc (.cells #[.int .i64 c1, .int .i64 h1, .int .i64 0, .slice ad xs.length k] 34)).alloc (.cells #[.int .i64 c2, .int .i64 h2, .int .i64 f2, .slice ad' ys.length k'] 34)).drew)) := fun h0 => let ⟨rb, ro, e, r, a⟩ := hx h0; ⟨rb, ro, e, r.same hb0, a⟩
  have HY : Hid (LiesApart m1 m2 Q vp ad' ys (((w.alloc (.cells #[.int .i64 c1, .int .i64 h1, .int .i64 0, .slice ad xs.length k] 34)).alloc (.cells #[.int .i64 c2, .int .i64 h2, .int .i64 f2, .slice ad' ys.length k'] 34)).drew)) := fun h0 => let ⟨rb, ro, e, r, a⟩ := hy h0; ⟨rb, ro, e, r.same hb0, a⟩
  have HE : Hid (∀ w0, w0 = (((w.alloc (.cells #[.int .i64 c1, .int .i64 h1, .int .i64 0, .slice ad xs.length k] 34)).alloc (.cells #[.int .i64 c2, .int .i64 h2, .int .i64 f2, .slice ad' ys.length k'] 34)).drew) → Calls Try.prog 68 #[.slice ad xs.length k, .slice ad' ys.length k', .func (.func 69) #[.pointer (some ⟨Q, 0, none⟩)] #[]] w0 fun e w' => (PairAns W V b cap bm b' cap' bm' L m1 m2 Q (eqF (alikeP W V) P xs ys) vp w0 e w') ∧ w'.cell? ⟨w.heap.size, 2, none⟩ = some (.int .i64 0) ∧ w'.cell? ⟨w.heap.size, 3, none⟩ = some (.slice ad xs.length k) ∧ w'.cell? ⟨w.heap.size + 1, 3, none⟩ = some (.slice ad' ys.length k')) := fun w0 hw0 => by
    subst hw0
    refine (eq_alike W V xs ys b cap bm b' cap' bm' L m1 m2 Q P vp D1 D2 ad ad' k k' _ H.out HX.out HY.out hl).mono fun e w2 hp => ⟨hp, ?_⟩
    obtain ⟨_, vp2, D12, D22, hP2, hM2⟩ := hp
    have hmid := h.mid
    have dm1 := h.one.own.lt
    have dm2 := h.other.own.lt
    have hQs := h.size
    have hb1 := hM2.block w.heap.size (by simp; omega) (by omega) (by omega) (by omega) (fun e => by have := (h.own.lt _ e).2; omega)
    have hb2 := hM2.block (w.heap.size + 1) (by simp) (by omega) (by omega) (by omega) (fun e => by have := (h.own.lt _ e).2; omega)
    exact ⟨by rw [World.cell?_of_block (a := ⟨w.heap.size, 2, none⟩) hb1]; simp, by rw [World.cell?_of_block (a := ⟨w.heap.size, 3, none⟩) hb1]; simp, by rw [World.cell?_of_block (a := ⟨w.heap.size + 1, 3, none⟩) hb2]; simp⟩
  unfold PairAns at HE ⊢
  go_enter Try.func72, Try.ntmps72
  go_wp2_with fail
  go_region_held3 (fun w' => w'.cell? ⟨w.heap.size, 2, none⟩ = some (.int .i64 0) ∧ w'.cell? ⟨w.heap.size, 3, none⟩ = some (.slice ad xs.length k) ∧ w'.cell? ⟨w.heap.size + 1, 3, none⟩ = some (.slice ad' ys.length k')) (go_keep)
    (first | (go_at_call 80; refine (way_plain Q _).mono ?_; rintro e w1 ⟨rfl, rfl⟩) | (go_at_call 68; refine (HE.out _ rfl).mono ?_; rintro e w2 ⟨⟨rfl, vp2, D12, D22, hP2, hM2⟩, q2, q3, q4⟩))
  all_goals
    go_wp2_with fail
    go_ret
    exact ⟨rfl, vp2, D12, D22, hP2, (Moved.same hb0 hbig).trans hM2⟩

set_option maxHeartbeats 4000000 in
theorem slots_bytes (W V xs ys : List Int) (b cap bm b' cap' bm' L m1 m2 Q : Nat) (P : Pairs) (vp : Value) (D1 D2 : DataW Unit) (c1 h1 c2 h2 f2 : Int) (ad ad' : Option Addr) (k k' : Nat) (w : World) (h : Pairing W V b cap bm b' cap' bm' L m1 m2 Q P vp D1 D2 w) (hx : LiesApart m1 m2 Q vp ad xs w) (hy : LiesApart m1 m2 Q vp ad' ys w) (hl : P.length + xs.length ≤ 100000) :
    Calls Try.prog 72 #[.pointer (some ⟨Q, 0, none⟩), thingV c1 h1 1 (.slice ad xs.length k), thingV c2 h2 f2 (.slice ad' ys.length k')] w (PairAns W V b cap bm b' cap' bm' L m1 m2 Q (eqF sameP P xs ys) vp w) := by
  have hbig := h.big
  have hb0 : Below w.heap.size w (((w.alloc (.cells #[.int .i64 c1, .int .i64 h1, .int .i64 1, .slice ad xs.length k] 34)).alloc (.cells #[.int .i64 c2, .int .i64 h2, .int .i64 f2, .slice ad' ys.length k'] 34)).drew) := (((Below.refl _ _).alloc (Nat.le_refl _) _).alloc (by simp) _).drew
  have H : Hid (Pairing W V b cap bm b' cap' bm' L m1 m2 Q P vp D1 D2 (((w.alloc (.cells #[.int .i64 c1, .int .i64 h1, .int .i64 1, .slice ad xs.length k] 34)).alloc (.cells #[.int .i64 c2, .int .i64 h2, .int .i64 f2, .slice ad' ys.length k'] 34)).drew)) := h.same hb0
  have HX : Hid (LiesApart m1 m2 Q vp ad xs (((w.alloc (.cells #[.int .i64 c1, .int .i64 h1, .int .i64 1, .slice ad xs.length k] 34)).alloc (.cells #[.int .i64 c2, .int .i64 h2, .int .i64 f2, .slice ad' ys.length k'] 34)).drew)) := fun h0 => let ⟨rb, ro, e, r, a⟩ := hx h0; ⟨rb, ro, e, r.same hb0, a⟩
  have HY : Hid (LiesApart m1 m2 Q vp ad' ys (((w.alloc (.cells #[.int .i64 c1, .int .i64 h1, .int .i64 1, .slice ad xs.length k] 34)).alloc (.cells #[.int .i64 c2, .int .i64 h2, .int .i64 f2, .slice ad' ys.length k'] 34)).drew)) := fun h0 => let ⟨rb, ro, e, r, a⟩ := hy h0; ⟨rb, ro, e, r.same hb0, a⟩
  have HE : Hid (∀ w0, w0 = (((w.alloc (.cells #[.int .i64 c1, .int .i64 h1, .int .i64 1, .slice ad xs.length k] 34)).alloc (.cells #[.int .i64 c2, .int .i64 h2, .int .i64 f2, .slice ad' ys.length k'] 34)).drew) → Calls Try.prog 68 #[.slice ad xs.length k, .slice ad' ys.length k', .func (.func 95) #[.pointer (some ⟨Q, 0, none⟩)] #[]] w0 fun e w' => (PairAns W V b cap bm b' cap' bm' L m1 m2 Q (eqF sameP P xs ys) vp w0 e w') ∧ w'.cell? ⟨w.heap.size, 2, none⟩ = some (.int .i64 1) ∧ w'.cell? ⟨w.heap.size, 3, none⟩ = some (.slice ad xs.length k) ∧ w'.cell? ⟨w.heap.size + 1, 3, none⟩ = some (.slice ad' ys.length k')) := fun w0 hw0 => by
    subst hw0
    refine (eq_same W V xs ys b cap bm b' cap' bm' L m1 m2 Q P vp D1 D2 ad ad' k k' _ H.out HX.out HY.out hl).mono fun e w2 hp => ⟨hp, ?_⟩
    obtain ⟨_, vp2, D12, D22, hP2, hM2⟩ := hp
    have hmid := h.mid
    have dm1 := h.one.own.lt
    have dm2 := h.other.own.lt
    have hQs := h.size
    have hb1 := hM2.block w.heap.size (by simp; omega) (by omega) (by omega) (by omega) (fun e => by have := (h.own.lt _ e).2; omega)
    have hb2 := hM2.block (w.heap.size + 1) (by simp) (by omega) (by omega) (by omega) (fun e => by have := (h.own.lt _ e).2; omega)
    exact ⟨by rw [World.cell?_of_block (a := ⟨w.heap.size, 2, none⟩) hb1]; simp, by rw [World.cell?_of_block (a := ⟨w.heap.size, 3, none⟩) hb1]; simp, by rw [World.cell?_of_block (a := ⟨w.heap.size + 1, 3, none⟩) hb2]; simp⟩
  unfold PairAns at HE ⊢
  go_enter Try.func72, Try.ntmps72
  go_wp2_with fail
  go_region_held3 (fun w' => w'.cell? ⟨w.heap.size, 2, none⟩ = some (.int .i64 1) ∧ w'.cell? ⟨w.heap.size, 3, none⟩ = some (.slice ad xs.length k) ∧ w'.cell? ⟨w.heap.size + 1, 3, none⟩ = some (.slice ad' ys.length k')) (go_keep)
    (first | (go_at_call 80; refine (way_bytes Q _).mono ?_; rintro e w1 ⟨rfl, rfl⟩) | (go_at_call 68; refine (HE.out _ rfl).mono ?_; rintro e w2 ⟨⟨rfl, vp2, D12, D22, hP2, hM2⟩, q2, q3, q4⟩))
  all_goals
    go_wp2_with fail
    go_ret
    exact ⟨rfl, vp2, D12, D22, hP2, (Moved.same hb0 hbig).trans hM2⟩

set_option maxHeartbeats 4000000 in
theorem slots_weak (W V xs ys : List Int) (b cap bm b' cap' bm' L m1 m2 Q : Nat) (P : Pairs) (vp : Value) (D1 D2 : DataW Unit) (c1 h1 c2 h2 f2 : Int) (ad ad' : Option Addr) (k k' : Nat) (w : World) (h : Pairing W V b cap bm b' cap' bm' L m1 m2 Q P vp D1 D2 w) (hx : RootsAt ad xs w) (hy : RootsAt ad' ys w) (hl : xs.length ≤ 100000) :
    Calls Try.prog 72 #[.pointer (some ⟨Q, 0, none⟩), thingV c1 h1 2 (.slice ad xs.length k), thingV c2 h2 f2 (.slice ad' ys.length k')] w (StillAns (eqF (weakP W V) P xs ys) w) := by
  have hb0 : Below w.heap.size w (((w.alloc (.cells #[.int .i64 c1, .int .i64 h1, .int .i64 2, .slice ad xs.length k] 34)).alloc (.cells #[.int .i64 c2, .int .i64 h2, .int .i64 f2, .slice ad' ys.length k'] 34)).drew) := (((Below.refl _ _).alloc (Nat.le_refl _) _).alloc (by simp) _).drew
  have HE : Hid (∀ w0, w0 = (((w.alloc (.cells #[.int .i64 c1, .int .i64 h1, .int .i64 2, .slice ad xs.length k] 34)).alloc (.cells #[.int .i64 c2, .int .i64 h2, .int .i64 f2, .slice ad' ys.length k'] 34)).drew) → Calls Try.prog 68 #[.slice ad xs.length k, .slice ad' ys.length k', .func (.func 96) #[.pointer (some ⟨Q, 0, none⟩)] #[]] w0 fun e w' => (StillAns (eqF (weakP W V) P xs ys) w0 e w') ∧ w'.cell? ⟨w.heap.size, 2, none⟩ = some (.int .i64 2) ∧ w'.cell? ⟨w.heap.size, 3, none⟩ = some (.slice ad xs.length k) ∧ w'.cell? ⟨w.heap.size + 1, 3, none⟩ = some (.slice ad' ys.length k')) := fun w0 hw0 => by
    subst hw0
    refine (eq_weak W V xs ys b cap bm b' cap' bm' L m1 m2 Q P vp D1 D2 ad ad' k k' _ (h.same hb0) (hx.below hb0) (hy.below hb0) hl).mono fun e w2 hp => ⟨hp, ?_⟩
    have hb2 := hp.2
    exact ⟨by rw [hb2.cell (p := ⟨w.heap.size, 2, none⟩) (by simp; omega)]; simp, by rw [hb2.cell (p := ⟨w.heap.size, 3, none⟩) (by simp; omega)]; simp, by rw [hb2.cell (p := ⟨w.heap.size + 1, 3, none⟩) (by simp)]; simp⟩
  unfold StillAns at HE ⊢
  go_enter Try.func72, Try.ntmps72
  go_wp2_with fail
  go_region_held3 (fun w' => w'.cell? ⟨w.heap.size, 2, none⟩ = some (.int .i64 2) ∧ w'.cell? ⟨w.heap.size, 3, none⟩ = some (.slice ad xs.length k) ∧ w'.cell? ⟨w.heap.size + 1, 3, none⟩ = some (.slice ad' ys.length k')) (go_keep)
    (first | (go_at_call 80; refine (way_weak Q _).mono ?_; rintro e w1 ⟨rfl, rfl⟩) | (go_at_call 68; refine (HE.out _ rfl).mono ?_; rintro e w2 ⟨⟨rfl, hb2⟩, q2, q3, q4⟩))
  all_goals
    go_wp2_with fail
    go_ret
    exact ⟨rfl, hb0.trans (hb2.mono hb0.size)⟩

end Go.Proofs.Ytpapaadclkdbkaa
