/- heap.Turned: a thing whose references are turned. -/
import Derived.Test.YtpapaadclkdbkaaLay
import Derived.Test.YtpapaadclkdbkaaSeeRoots
namespace Go.Proofs.Ytpapaadclkdbkaa
open Go.RowKit

theorem box44 {w w' : World} {a0 a1 a2 a3 z0 z1 z2 z3 : Value} {t t' : TypeId} (hb : Below ((w.alloc (.cells #[a0, a1, a2, a3] t)).alloc (.cells #[z0, z1, z2, z3] t')).heap.size ((w.alloc (.cells #[a0, a1, a2, a3] t)).alloc (.cells #[z0, z1, z2, z3] t')) w') :
    (w'.cell? ⟨w.heap.size, 0, none⟩ = some a0 ∧ w'.cell? ⟨w.heap.size, 1, none⟩ = some a1 ∧ w'.cell? ⟨w.heap.size, 2, none⟩ = some a2 ∧ w'.cell? ⟨w.heap.size, 3, none⟩ = some a3) ∧
      (w'.frozen? ⟨w.heap.size, 0, none⟩ = false ∧ w'.frozen? ⟨w.heap.size, 3, none⟩ = false) ∧ w.heap.size < w'.heap.size := by
  have hs := hb.size
  refine ⟨⟨?_, ?_, ?_, ?_⟩, ⟨?_, ?_⟩, by simp at hs; omega⟩
  · rw [hb.cell (p := ⟨w.heap.size, 0, none⟩) (by simp; omega), cell_past _ (by simp), cell_at2 rfl]; rfl
  · rw [hb.cell (p := ⟨w.heap.size, 1, none⟩) (by simp; omega), cell_past _ (by simp), cell_at2 rfl]; rfl
  · rw [hb.cell (p := ⟨w.heap.size, 2, none⟩) (by simp; omega), cell_past _ (by simp), cell_at2 rfl]; rfl
  · rw [hb.cell (p := ⟨w.heap.size, 3, none⟩) (by simp; omega), cell_past _ (by simp), cell_at2 rfl]; rfl
  · rw [hb.frozen (p := ⟨w.heap.size, 0, none⟩) (by simp; omega), frozen_past _ (by simp), frozen_at2 rfl]
  · rw [hb.frozen (p := ⟨w.heap.size, 3, none⟩) (by simp; omega), frozen_past _ (by simp), frozen_at2 rfl]

/-- What lies in the two boxes behind a store into the first. -/
theorem box44_set {w1 w2 : World} {N : Nat} {x a0 a1 a2 a3 z0 z1 z2 z3 : Value}
    (c : (w1.cell? ⟨N, 0, none⟩ = some a0 ∧ w1.cell? ⟨N, 1, none⟩ = some a1 ∧ w1.cell? ⟨N, 2, none⟩ = some a2 ∧ w1.cell? ⟨N, 3, none⟩ = some a3) ∧ (w1.frozen? ⟨N, 0, none⟩ = false ∧ w1.frozen? ⟨N, 3, none⟩ = false) ∧ N < w1.heap.size)
    (z : (w1.cell? ⟨N + 1, 0, none⟩ = some z0 ∧ w1.cell? ⟨N + 1, 1, none⟩ = some z1 ∧ w1.cell? ⟨N + 1, 2, none⟩ = some z2 ∧ w1.cell? ⟨N + 1, 3, none⟩ = some z3) ∧ (w1.frozen? ⟨N + 1, 0, none⟩ = false ∧ w1.frozen? ⟨N + 1, 1, none⟩ = false ∧ w1.frozen? ⟨N + 1, 2, none⟩ = false ∧ w1.frozen? ⟨N + 1, 3, none⟩ = false) ∧ N + 1 < w1.heap.size)
    (hb : Below (w1.setCell ⟨N, 0, none⟩ x).heap.size (w1.setCell ⟨N, 0, none⟩ x) w2) :
    ((w2.cell? ⟨N, 0, none⟩ = some x ∧ w2.cell? ⟨N, 1, none⟩ = some a1 ∧ w2.cell? ⟨N, 2, none⟩ = some a2 ∧ w2.cell? ⟨N, 3, none⟩ = some a3) ∧ w2.frozen? ⟨N, 3, none⟩ = false ∧ N < w2.heap.size) ∧
    ((w2.cell? ⟨N + 1, 0, none⟩ = some z0 ∧ w2.cell? ⟨N + 1, 1, none⟩ = some z1 ∧ w2.cell? ⟨N + 1, 2, none⟩ = some z2 ∧ w2.cell? ⟨N + 1, 3, none⟩ = some z3) ∧ (w2.frozen? ⟨N + 1, 0, none⟩ = false ∧ w2.frozen? ⟨N + 1, 1, none⟩ = false ∧ w2.frozen? ⟨N + 1, 2, none⟩ = false ∧ w2.frozen? ⟨N + 1, 3, none⟩ = false) ∧ N + 1 < w2.heap.size) := by
  obtain ⟨⟨c0, c1, c2, c3⟩, ⟨f0, f3⟩, hN⟩ := c
  obtain ⟨⟨d0, d1, d2, d3⟩, ⟨g0, g1, g2, g3⟩, hN1⟩ := z
  have hs := hb.size
  have hz : (w1.setCell ⟨N, 0, none⟩ x).heap.size = w1.heap.size := by simp [World.setCell]
  have cc : ∀ (b j : Nat) (v : Value), (⟨b, j, none⟩ : Addr) ≠ ⟨N, 0, none⟩ → b < w1.heap.size → w1.cell? ⟨b, j, none⟩ = some v → w2.cell? ⟨b, j, none⟩ = some v := fun b j v hne hlt h => by
    rw [hb.cell (p := ⟨b, j, none⟩) (by rw [hz]; exact hlt), World.cell?_setCell_other _ _ _ _ (Ne.symm hne)]; exact h
  have ff : ∀ (b j : Nat), b < w1.heap.size → w1.frozen? ⟨b, j, none⟩ = false → w2.frozen? ⟨b, j, none⟩ = false := fun b j hlt h => by
    rw [hb.frozen (p := ⟨b, j, none⟩) (by rw [hz]; exact hlt)]; simpa using h
  refine ⟨⟨⟨?_, cc _ _ _ (by simp) hN c1, cc _ _ _ (by simp) hN c2, cc _ _ _ (by simp) hN c3⟩, ff _ _ hN f3, by omega⟩, ⟨cc _ _ _ (by simp) hN1 d0, cc _ _ _ (by simp) hN1 d1, cc _ _ _ (by simp) hN1 d2, cc _ _ _ (by simp) hN1 d3⟩, ⟨ff _ _ hN1 g0, ff _ _ hN1 g1, ff _ _ hN1 g2, ff _ _ hN1 g3⟩, by omega⟩
  rw [hb.cell (p := ⟨N, 0, none⟩) (by rw [hz]; exact hN)]
  exact World.cell?_setCell_same' _ _ _ (by rw [c0]; rfl)

/-- A thing, its slots in memory of its own. -/
def TurnAns (c h f : Int) (xs : List Int) (B : Nat) (e : Ending) (w : World) : Prop := ∃ v, e = .returned (thingV c h f v) ∧ SlotsOwn B xs v w

theorem slots_set {B N j : Nat} {xs : List Int} {v x : Value} {w : World} (h : SlotsOwn B xs v w) (hN : N < B) : SlotsOwn B xs v (w.setCell ⟨N, j, none⟩ x) := by
  obtain ⟨ad, c, rfl, hr⟩ := h
  refine ⟨ad, c, rfl, fun h0 => ?_⟩
  obtain ⟨g, rfl, hg, hown⟩ := hr h0
  exact ⟨g, rfl, hg, own_set' hown (by dsimp only; omega) _⟩
theorem slots_roots {B : Nat} {xs : List Int} {ad : Option Addr} {c : Nat} {w : World} (h : SlotsOwn B xs (.slice ad xs.length c) w) (hw : ∀ k, (Lit.int .i64 (wd xs k)).wf = true) : RootsAt ad xs w := by
  intro h0
  obtain ⟨ad', c', e, hr⟩ := h
  simp only [Value.slice.injEq, true_and] at e
  obtain ⟨rfl, rfl⟩ := e
  obtain ⟨g, rfl, _, hown⟩ := hr h0
  exact ⟨g, 0, rfl, own_reads hown hw⟩
theorem slots_mono {B B' : Nat} {xs : List Int} {v : Value} {w : World} (h : SlotsOwn B xs v w) (hB : B' ≤ B) : SlotsOwn B' xs v w := by
  obtain ⟨ad, c, rfl, hr⟩ := h
  exact ⟨ad, c, rfl, fun h0 => by obtain ⟨g, e, hg, hown⟩ := hr h0; exact ⟨g, e, by omega, hown⟩⟩

set_option maxHeartbeats 4000000 in
theorem turned_else (K : Nat) (bs cs : Array Value) (t : Int → Int) (I : World → Prop) (T : TurnsB K bs cs t I) (c h f : Int) (xs : List Int) (B : Nat) (v : Value) (w : World) (hI : I w) (hs : SlotsOwn B xs v w) (hw : ∀ k, (Lit.int .i64 (wd xs k)).wf = true) (hwc : (Lit.int .i64 c).wf = true) (hl : xs.length ≤ 5000) (hf : f ≠ 1) :
    Calls Try.prog 67 #[thingV c h f v, .func (.func K) bs cs] w fun e w' => TurnAns (t c) h f (xs.map t) w.heap.size e w' ∧ Below w.heap.size w w' := by
  have hent := T.enters
  have hb : (f == 1) = false := by simpa using hf
  obtain ⟨ad, cc, rfl, hs'⟩ := hs
  have HR : Hid (RootsAt ad xs w) := slots_roots ⟨ad, cc, rfl, hs'⟩ hw
  clear hs' hf
  go_enter Try.func67, Try.ntmps67
  go_wp2_with (first | (refine (T.says _ _ (T.lasts _ _ hI (((Below.refl _ _).alloc (Nat.le_refl _) _).alloc (by simp) _)) hwc).mono ?_; rintro e w1 ⟨rfl, hb1⟩; obtain ⟨⟨p0, p1, p2, p3⟩, ⟨q0, q3⟩, hz⟩ := box44 hb1; have hW1 : Below w.heap.size w (w1.setCell ⟨w.heap.size, 0, none⟩ (.int .i64 (t c))) := ((below2 hb1).setCell (Nat.le_refl _) _)) | (go_at_call 38; refine (turnedAllB_any K bs cs t I T xs ad cc _ (T.lasts _ _ hI hW1) (HR.out.below hW1) hl).mono ?_; rintro e w2 ⟨⟨g2, k2, rfl, hg2, hown2⟩, hb2⟩; obtain ⟨⟨⟨r0, r1, r2, r3⟩, s3, hz2⟩, ⟨⟨y0, y1, y2, y3⟩, ⟨x0, x1, x2, x3⟩, hz3⟩⟩ := box44_set (box44 hb1) (box4 hb1) hb2))
  have hg2' : w.heap.size + 1 < g2 := by have := hb1.size; simp [World.setCell] at this hg2; omega
  have hA := hW1.trans (hb2.mono hW1.size)
  refine bodyPost_ret (v := thingV (t c) h f (sl g2 xs.length k2)) (by simp [results, Try.results67, go_sem, y0, y1, y2, y3]) rfl ⟨⟨_, rfl, some ⟨g2, 0, none⟩, k2, by simp, fun h0 => ⟨g2, rfl, by omega, ?_⟩⟩, ?_⟩
  · repeat (first | refine own_set' ?_ (by dsimp only; omega) _ | exact hown2)
  · repeat (first | refine Below.setCell ?_ (by dsimp only; omega) _ | exact hA)

set_option maxHeartbeats 4000000 in
theorem turned_bytes (K : Nat) (bs cs : Array Value) (t : Int → Int) (I : World → Prop) (T : TurnsB K bs cs t I) (c h : Int) (xs : List Int) (B : Nat) (v : Value) (w : World) (hI : I w) (hs : SlotsOwn B xs v w) (hw : ∀ k, (Lit.int .i64 (wd xs k)).wf = true) (hwc : (Lit.int .i64 c).wf = true) (hl : xs.length ≤ 2000) :
    Calls Try.prog 67 #[thingV c h 1 v, .func (.func K) bs cs] w fun e w' => TurnAns (t c) h 1 xs w.heap.size e w' ∧ Below w.heap.size w w' := by
  have hent := T.enters
  obtain ⟨ad, cc, rfl, hs'⟩ := hs
  have HR : Hid (RootsAt ad xs w) := slots_roots ⟨ad, cc, rfl, hs'⟩ hw
  have HC : Hid (∀ w', Below w.heap.size w w' → Calls Try.prog 57 #[.slice ad xs.length cc] w' fun e w'' => (∃ v, e = .returned v ∧ SlotsOwn w'.heap.size xs v w'') ∧ Below w'.heap.size w' w'') := fun w' hb => by
    by_cases h0 : 0 < xs.length
    · obtain ⟨rb, ro, e, hr⟩ := HR.out h0
      exact clone_all xs ad cc rb ro w' hl (fun _ => e) (hr.same hb)
    · have e0 : xs = [] := List.eq_nil_of_length_eq_zero (by omega)
      subst e0
      refine (clone_none ad cc w').mono fun e w'' hp => ⟨?_, hp.2⟩
      obtain ⟨ad', c', he⟩ := hp.1
      exact ⟨_, he, ad', c', rfl, fun h => by simp at h⟩
  clear hs' HR
  go_enter Try.func67, Try.ntmps67
  go_wp2_with (first | (refine (T.says _ _ (T.lasts _ _ hI (((Below.refl _ _).alloc (Nat.le_refl _) _).alloc (by simp) _)) hwc).mono ?_; rintro e w1 ⟨rfl, hb1⟩; obtain ⟨⟨p0, p1, p2, p3⟩, ⟨q0, q3⟩, hz⟩ := box44 hb1; have hW1 : Below w.heap.size w (w1.setCell ⟨w.heap.size, 0, none⟩ (.int .i64 (t c))) := ((below2 hb1).setCell (Nat.le_refl _) _)) | (go_at_call 57; refine (HC.out _ hW1).mono ?_; rintro e w2 ⟨⟨v2, rfl, ad2, k2, rfl, hown2⟩, hb2⟩; obtain ⟨⟨⟨r0, r1, r2, r3⟩, s3, hz2⟩, ⟨⟨y0, y1, y2, y3⟩, ⟨x0, x1, x2, x3⟩, hz3⟩⟩ := box44_set (box44 hb1) (box4 hb1) hb2))
  have hN : w.heap.size + 1 < w1.heap.size := by have := hb1.size; simp at this; omega
  have hA := hW1.trans (hb2.mono hW1.size)
  refine bodyPost_ret (v := thingV (t c) h 1 (.slice ad2 xs.length k2)) (by simp [results, Try.results67, go_sem, y0, y1, y2, y3]) rfl ⟨⟨_, rfl, ?_⟩, ?_⟩
  · refine slots_mono (B := w1.heap.size) ?_ (by omega)
    have hS : SlotsOwn w1.heap.size xs (.slice ad2 xs.length k2) w2 := slots_mono ⟨ad2, k2, rfl, hown2⟩ (by simp [World.setCell])
    repeat (first | refine slots_set ?_ (by omega) | exact hS)
  · repeat (first | refine Below.setCell ?_ (by dsimp only; omega) _ | exact hA)

/-- A thing of W, turned. -/
theorem turned_any (K : Nat) (bs cs : Array Value) (t : Int → Int) (I : World → Prop) (T : TurnsB K bs cs t I) (W : List Int) (p B : Nat) (v : Value) (w : World) (hI : I w) (hs : SlotsOwn B (slotsOf W p) v w) (hw : ∀ k, (Lit.int .i64 (wd W k)).wf = true) (hr : p + 3 + slotsAt W p ≤ W.length) (hl : W.length ≤ 2000) :
    Calls Try.prog 67 #[thingV (wd W p) (wd W (p + 1)) (formAt W p) v, .func (.func K) bs cs] w fun e w' => TurnAns (t (wd W p)) (wd W (p + 1)) (formAt W p) (slotsW t W p) w.heap.size e w' ∧ Below w.heap.size w w' := by
  have hsl := slots_length hr
  have hw' : ∀ k, (Lit.int .i64 (wd (slotsOf W p) k)).wf = true := fun k => by
    by_cases hk : k < slotsAt W p
    · rw [slots_at hk]; exact hw _
    · have : wd (slotsOf W p) k = 0 := by
        unfold wd
        rw [List.getD_eq_getElem?_getD, List.getElem?_eq_none (by rw [hsl]; omega)]; rfl
      rw [this]; decide
  by_cases hf : formAt W p = 1
  · have e : slotsW t W p = slotsOf W p := by unfold slotsW; rw [if_pos hf]; rfl
    rw [e, hf]
    exact turned_bytes K bs cs t I T _ _ _ B v w hI hs hw' (hw p) (by omega)
  · have e : slotsW t W p = (slotsOf W p).map t := by unfold slotsW; rw [if_neg hf]; rfl
    rw [e]
    exact turned_else K bs cs t I T _ _ _ _ B v w hI hs hw' (hw p) (by omega) hf

end Go.Proofs.Ytpapaadclkdbkaa
