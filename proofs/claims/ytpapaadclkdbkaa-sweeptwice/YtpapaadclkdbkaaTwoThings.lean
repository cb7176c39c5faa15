/- (*pairing).things: the two things of a pair. -/
import Derived.Test.YtpapaadclkdbkaaHeads
namespace Go.Proofs.Ytpapaadclkdbkaa
open Go.RowKit

/-- What things answers of a pair. -/
def TwoAns (W V : List Int) (p q B : Nat) (e : Ending) (w : World) : Prop := ∃ v1 v2, e = .returned (.tuple #[thingV (wd W p) (wd W (p + 1)) (formAt W p) v1, thingV (wd V q) (wd V (q + 1)) (formAt V q) v2]) ∧ SlotsOwn B (slotsOf W p) v1 w ∧ SlotsOwn B (slotsOf V q) v2 w

theorem SlotsOwn.same {B : Nat} {xs : List Int} {v : Value} {w w' : World} (h : SlotsOwn B xs v w) (hb : Below w.heap.size w w') : SlotsOwn B xs v w' := by
  obtain ⟨ad, c, rfl, hs⟩ := h
  exact ⟨ad, c, rfl, fun h0 => let ⟨g, e, hg, ho⟩ := hs h0; ⟨g, e, hg, ownsRow_below ho hb (own_lt ho)⟩⟩
theorem SlotsOwn.mono {B B' : Nat} {xs : List Int} {v : Value} {w : World} (h : SlotsOwn B xs v w) (hB : B' ≤ B) : SlotsOwn B' xs v w := by
  obtain ⟨ad, c, rfl, hs⟩ := h
  exact ⟨ad, c, rfl, fun h0 => let ⟨g, e, hg, ho⟩ := hs h0; ⟨g, e, Nat.le_trans hB hg, ho⟩⟩
theorem SlotsOwn.set {B : Nat} {xs : List Int} {v : Value} {w : World} (h : SlotsOwn B xs v w) {a : Addr} (ha : a.block < B) (u : Value) : SlotsOwn B xs v (w.setCell a u) := by
  obtain ⟨ad, c, rfl, hs⟩ := h
  exact ⟨ad, c, rfl, fun h0 => let ⟨g, e, hg, ho⟩ := hs h0; ⟨g, e, hg, own_set' ho (by omega) u⟩⟩

/-- The world in which the two things are looked up. -/
abbrev laid2 (w : World) (x y : Int) : World := ((w.alloc (.cells #[.int .i64 x, .int .i64 y] 100)).alloc (.cells #[.int .i64 0, .int .i64 0, .int .i64 0, .slice none 0 0] 34)).alloc (.cells #[.int .i64 0, .int .i64 0, .int .i64 0, .slice none 0 0] 34)
theorem laid2_below (w : World) (x y : Int) : Below w.heap.size w (laid2 w x y) := (((Below.refl _ _).alloc (Nat.le_refl _) _).alloc (by simp) _).alloc (by simp; omega) _
theorem laid2_cells {w w' : World} {x y : Int} (hb : Below (laid2 w x y).heap.size (laid2 w x y) w') :
    (w'.cell? ⟨w.heap.size, 0, none⟩ = some (.int .i64 x) ∧ w'.cell? ⟨w.heap.size, 1, none⟩ = some (.int .i64 y)) ∧
    (∀ j, w'.cell? ⟨w.heap.size + 1, j, none⟩ = #[Value.int .i64 0, .int .i64 0, .int .i64 0, .slice none 0 0][j]? ∧ w'.frozen? ⟨w.heap.size + 1, j, none⟩ = false) ∧
    (∀ j, w'.cell? ⟨w.heap.size + 1 + 1, j, none⟩ = #[Value.int .i64 0, .int .i64 0, .int .i64 0, .slice none 0 0][j]? ∧ w'.frozen? ⟨w.heap.size + 1 + 1, j, none⟩ = false) ∧ w.heap.size + 1 + 1 < w'.heap.size := by
  have hs := hb.size
  refine ⟨⟨?_, ?_⟩, fun j => ⟨?_, ?_⟩, fun j => ⟨?_, ?_⟩, by simp at hs; omega⟩
  · rw [hb.cell (p := ⟨w.heap.size, 0, none⟩) (by simp; omega), cell_past _ (by simp; omega), cell_past _ (by simp)]; simp
  · rw [hb.cell (p := ⟨w.heap.size, 1, none⟩) (by simp; omega), cell_past _ (by simp; omega), cell_past _ (by simp)]; simp
  · rw [hb.cell (p := ⟨w.heap.size + 1, j, none⟩) (by simp), cell_past _ (by simp), cell_at2 (by simp)]
  · rw [hb.frozen (p := ⟨w.heap.size + 1, j, none⟩) (by simp), frozen_past _ (by simp)]; exact frozen_at2 (by simp)
  · rw [hb.cell (p := ⟨w.heap.size + 1 + 1, j, none⟩) (by simp), cell_at2 (by simp)]
  · rw [hb.frozen (p := ⟨w.heap.size + 1 + 1, j, none⟩) (by simp)]; exact frozen_at2 (by simp)

set_option maxHeartbeats 8000000 in
theorem two_any (W V : List Int) (b cap bm b' cap' bm' L m1 m2 Q : Nat) (P : Pairs) (vp : Value) (D1 D2 : DataW Unit) (p q : Nat) (w : World) (h : Pairing W V b cap bm b' cap' bm' L m1 m2 Q P vp D1 D2 w) (fW : Fine W) (fV : Fine V) (hp : p ∈ places W 2) (hq : q ∈ places V 2) :
    Calls Try.prog 70 #[.pointer (some ⟨Q, 0, none⟩), .agg #[.int .i64 (2 * (p : Int)), .int .i64 (2 * (q : Int))]] w fun e w' => TwoAns W V p q w.heap.size e w' ∧ Below w.heap.size w w' := by
  have o1 := ref_thing fW.few hp
  have o2 := ref_thing fV.few hq
  have hQ := h.size
  have hq1 : ¬ Q = w.heap.size + 1 := by omega
  have hq2 : ¬ Q = w.heap.size + 1 + 1 := by omega
  have hq1' : ¬ w.heap.size + 1 = Q := by omega
  have hw1 : ¬ w.heap.size = w.heap.size + 1 + 1 := by omega
  have hw2 : ¬ w.heap.size + 1 + 1 = w.heap.size := by omega
  have hq2' : ¬ w.heap.size + 1 + 1 = Q := by omega
  have hB0 := laid2_below w (2 * (p : Int)) (2 * (q : Int))
  have H : Hid (Pairing W V b cap bm b' cap' bm' L m1 m2 Q P vp D1 D2 (laid2 w (2 * (p : Int)) (2 * (q : Int))).drew) := (h.same hB0).same (Below.refl _ _).drew
  have HB : Hid (Below (laid2 w (2 * (p : Int)) (2 * (q : Int))).heap.size (laid2 w (2 * (p : Int)) (2 * (q : Int))) (laid2 w (2 * (p : Int)) (2 * (q : Int))).drew) := (Below.refl _ _).drew
  obtain ⟨c0, c1, c2, c3, c4, c5⟩ := H.out.six
  obtain ⟨⟨x0, x1⟩, _, _, _⟩ := laid2_cells HB.out
  go_enter Try.func70, Try.ntmps70
  go_wp2_with fail
  go_region_held3 (fun w' => w'.cell? ⟨Q, 0, none⟩ = some (sl b W.length cap) ∧ w'.cell? ⟨Q, 1, none⟩ = some (.map (some bm)) ∧ w'.cell? ⟨Q, 3, none⟩ = some (sl b' V.length cap') ∧ w'.cell? ⟨Q, 4, none⟩ = some (.map (some bm')) ∧ w'.cell? ⟨w.heap.size, 0, none⟩ = some (.int .i64 (2 * (p : Int))) ∧ w'.cell? ⟨w.heap.size, 1, none⟩ = some (.int .i64 (2 * (q : Int)))) (go_keep)
    (first
      | (go_at_call_of 32 (W.length); refine (vlook_any W b cap bm p _ (Pairing.view1 (Hid.out (by assumption))) fW.fit fW.few o1 hp).mono ?_; rintro e w2 ⟨⟨v2, rfl, ad2, k2, rfl, hs2⟩, hb2⟩; have H2 : Hid (Pairing W V b cap bm b' cap' bm' L m1 m2 Q P vp D1 D2 w2) := Pairing.same (Hid.out (by assumption)) hb2; have HB2 : Hid (Below (laid2 w (2 * (p : Int)) (2 * (q : Int))).heap.size (laid2 w (2 * (p : Int)) (2 * (q : Int))) w2) := Below.trans (Hid.out (by assumption)) (hb2.mono (Below.size (Hid.out (by assumption)))); obtain ⟨e0, e1, e2, e3, e4, e5⟩ := H2.out.six; obtain ⟨⟨y0, y1⟩, n1, n2, nz⟩ := laid2_cells HB2.out)
      | (go_at_call_of 32 (V.length); refine (vlook_any V b' cap' bm' q _ (Pairing.view2 (Hid.out (by assumption))) fV.fit fV.few o2 hq).mono ?_; rintro e w3 ⟨⟨v3, rfl, ad3, k3, rfl, hs3⟩, hb3⟩; have H3 : Hid (Pairing W V b cap bm b' cap' bm' L m1 m2 Q P vp D1 D2 w3) := Pairing.same (Hid.out (by assumption)) hb3; have HB3 : Hid (Below (laid2 w (2 * (p : Int)) (2 * (q : Int))).heap.size (laid2 w (2 * (p : Int)) (2 * (q : Int))) w3) := Below.trans (Hid.out (by assumption)) (hb3.mono (Below.size (Hid.out (by assumption)))); obtain ⟨g0, g1, g2, g3, g4, g5⟩ := H3.out.six; obtain ⟨⟨z0, z1⟩, l1, l2, lz⟩ := laid2_cells HB3.out; obtain ⟨la0, la1⟩ := l1 0; obtain ⟨lb0, lb1⟩ := l1 1; obtain ⟨lc0, lc1⟩ := l1 2; obtain ⟨ld0, ld1⟩ := l1 3; obtain ⟨ma0, ma1⟩ := l2 0; obtain ⟨mb0, mb1⟩ := l2 1; obtain ⟨mc0, mc1⟩ := l2 2; obtain ⟨md0, md1⟩ := l2 3))
  go_wp2_with fail
  have hall : Below w.heap.size w w3 := hB0.trans (HB3.out.mono hB0.size)
  have t2 : SlotsOwn (laid2 w (2 * (p : Int)) (2 * (q : Int))).drew.heap.size (slotsOf W p) (.slice ad2 (slotsOf W p).length k2) w2 := ⟨ad2, k2, rfl, hs2⟩
  have t3 : SlotsOwn w2.heap.size (slotsOf V q) (.slice ad3 (slotsOf V q).length k3) w3 := ⟨ad3, k3, rfl, hs3⟩
  have hz2 := HB2.out.size
  have lek1 : w.heap.size ≤ w.heap.size + 1 := by omega
  have lek2 : w.heap.size ≤ w.heap.size + 1 + 1 := by omega
  have lek3 : w.heap.size + 1 < w.heap.size + 1 + 1 + 1 := by omega
  have lek4 : w.heap.size + 1 + 1 < w.heap.size + 1 + 1 + 1 := by omega
  have hs0 : (laid2 w (2 * (p : Int)) (2 * (q : Int))).heap.size = w.heap.size + 1 + 1 + 1 := by simp
  refine bodyPost_ret (v := .tuple #[thingV (wd W p) (wd W (p + 1)) (formAt W p) (.slice ad2 (slotsOf W p).length k2), thingV (wd V q) (wd V (q + 1)) (formAt V q) (.slice ad3 (slotsOf V q).length k3)]) (by simp [results, Try.results70, go_sem, la0, lb0, lc0, ld0, ma0, mb0, mc0, md0]) rfl ⟨⟨_, _, rfl, ?_, ?_⟩, ?_⟩
  · refine SlotsOwn.mono (B := w.heap.size + 1 + 1 + 1) ?_ (by omega)
    have := (t2.same hb3).mono (show w.heap.size + 1 + 1 + 1 ≤ _ by show _ ≤ (laid2 w (2 * (p : Int)) (2 * (q : Int))).heap.size; omega)
    exact ((((((((this.set (a := ⟨w.heap.size + 1, 0, none⟩) lek3 _).set (a := ⟨w.heap.size + 1, 1, none⟩) lek3 _).set (a := ⟨w.heap.size + 1, 2, none⟩) lek3 _).set (a := ⟨w.heap.size + 1, 3, none⟩) lek3 _).set (a := ⟨w.heap.size + 1 + 1, 0, none⟩) lek4 _).set (a := ⟨w.heap.size + 1 + 1, 1, none⟩) lek4 _).set (a := ⟨w.heap.size + 1 + 1, 2, none⟩) lek4 _).set (a := ⟨w.heap.size + 1 + 1, 3, none⟩) lek4 _)
  · refine SlotsOwn.mono (B := w.heap.size + 1 + 1 + 1) ?_ (by omega)
    have := t3.mono (show w.heap.size + 1 + 1 + 1 ≤ w2.heap.size by omega)
    exact ((((((((this.set (a := ⟨w.heap.size + 1, 0, none⟩) lek3 _).set (a := ⟨w.heap.size + 1, 1, none⟩) lek3 _).set (a := ⟨w.heap.size + 1, 2, none⟩) lek3 _).set (a := ⟨w.heap.size + 1, 3, none⟩) lek3 _).set (a := ⟨w.heap.size + 1 + 1, 0, none⟩) lek4 _).set (a := ⟨w.heap.size + 1 + 1, 1, none⟩) lek4 _).set (a := ⟨w.heap.size + 1 + 1, 2, none⟩) lek4 _).set (a := ⟨w.heap.size + 1 + 1, 3, none⟩) lek4 _)
  · exact ((((((((hall.setCell (p := ⟨w.heap.size + 1, 0, none⟩) lek1 _).setCell (p := ⟨w.heap.size + 1, 1, none⟩) lek1 _).setCell (p := ⟨w.heap.size + 1, 2, none⟩) lek1 _).setCell (p := ⟨w.heap.size + 1, 3, none⟩) lek1 _).setCell (p := ⟨w.heap.size + 1 + 1, 0, none⟩) lek2 _).setCell (p := ⟨w.heap.size + 1 + 1, 1, none⟩) lek2 _).setCell (p := ⟨w.heap.size + 1 + 1, 2, none⟩) lek2 _).setCell (p := ⟨w.heap.size + 1 + 1, 3, none⟩) lek2 _)

end Go.Proofs.Ytpapaadclkdbkaa
