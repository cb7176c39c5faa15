/- heap.Look: a thing, or what stands against it. -/
import Derived.Test.YthdhaokjibfjdaaCheckX
import Derived.Deep.RegionLaw
import Derived.Deep.RegionHeld3
import Derived.Deep.CutRange
import Derived.Deep.DeepCutAuto
namespace Go.Proofs.Ythdhaokjibfjdaa
open Go.RowKit

/-- The slots of the thing at p. -/
def slotsOf (W : List Int) (p : Nat) : List Int := (W.drop (p + 3)).take (slotsAt W p)
theorem slots_length {W : List Int} {p : Nat} (h : p + 3 + slotsAt W p ≤ W.length) : (slotsOf W p).length = slotsAt W p := by
  unfold slotsOf; rw [List.length_take, List.length_drop]; omega
theorem slots_at {W : List Int} {p k : Nat} (hk : k < slotsAt W p) : wd (slotsOf W p) k = wd W (p + 3 + k) := by
  unfold slotsOf wd
  rw [List.getD_eq_getElem?_getD, List.getElem?_take, if_pos hk, List.getElem?_drop, List.getD_eq_getElem?_getD]
theorem slots_row {w : World} {b : Nat} {W : List Int} {p : Nat} (h : Row w b 0 W) (hp : p + 3 + slotsAt W p ≤ W.length) : Row w b (p + 3) (slotsOf W p) := by
  refine ⟨h.lt, fun k hk => ?_, fun k => ?_⟩
  · rw [slots_length hp] at hk
    have := h.cell (p + 3 + k) (by omega)
    rw [Nat.zero_add] at this
    rw [slots_at hk, this]
  · by_cases hk : k < slotsAt W p
    · rw [slots_at hk]; exact h.wf _
    · have : wd (slotsOf W p) k = 0 := by
        unfold wd
        rw [List.getD_eq_getElem?_getD, List.getElem?_eq_none (by rw [slots_length hp]; omega)]; rfl
      rw [this]; decide

/-- A thing as a value. -/
abbrev thingV (c h f : Int) (v : Value) : Value := .agg #[.int .i64 c, .int .i64 h, .int .i64 f, v]
/-- No thing. -/
abbrev noThing : Value := thingV 0 0 0 (.slice none 0 0)

/-- Slots in memory of their own, from block B on. -/
def SlotsOwn (B : Nat) (xs : List Int) (v : Value) (w : World) : Prop := ∃ ad c, v = .slice ad xs.length c ∧ (0 < xs.length → ∃ g, ad = some ⟨g, 0, none⟩ ∧ B ≤ g ∧ w.ownsRow 0 3 1 (sl g xs.length c) xs.length (vals xs))
theorem SlotsOwn.reads {B : Nat} {xs : List Int} {v : Value} {w : World} (h : SlotsOwn B xs v w) : Reads w v xs := by
  obtain ⟨ad, c, rfl, hr⟩ := h
  refine ⟨ad, c, rfl, fun h0 => ?_⟩
  obtain ⟨g, rfl, _, hown⟩ := hr h0
  exact ⟨g, 0, rfl, own_lt hown, fun k hk => by rw [Nat.zero_add]; exact own_cell hown hk⟩

/-- Clone of whatever numbers. -/
theorem clone_all (xs : List Int) (ad : Option Addr) (c b off : Nat) (w : World) (hl : xs.length ≤ 2000) (had : 0 < xs.length → ad = some ⟨b, off, none⟩) (hr : Row w b off xs) :
    Calls Try.prog 33 #[.slice ad xs.length c] w fun e w' => (∃ v, e = .returned v ∧ SlotsOwn w.heap.size xs v w') ∧ Below w.heap.size w w' := by
  by_cases h0 : 0 < xs.length
  · rw [had h0]
    refine (clone_any xs b off c w hr h0 hl).mono fun e w' hp => ⟨?_, hp.2⟩
    obtain ⟨g, cap, he, hg, hown⟩ := hp.1
    exact ⟨_, he, _, _, rfl, fun _ => ⟨g, rfl, hg, hown⟩⟩
  · have e0 : xs = [] := List.eq_nil_of_length_eq_zero (by omega)
    subst e0
    refine (clone_none ad c w).mono fun e w' hp => ⟨?_, hp.2⟩
    obtain ⟨ad', c', he⟩ := hp.1
    exact ⟨_, he, ad', c', rfl, fun h => by simp at h⟩

/-- What View.Look answers. -/
def ThingAns (W : List Int) (p B : Nat) (e : Ending) (w : World) : Prop := ∃ v, e = .returned (thingV (wd W p) (wd W (p + 1)) (formAt W p) v) ∧ SlotsOwn B (slotsOf W p) v w

theorem thing_even {W : List Int} {o : Int} (h : thingB W o = true) : ∃ p : Nat, o = 2 * (p : Int) ∧ p ∈ places W 2 ∧ (o / 2).toNat = p := by
  obtain ⟨hk, hmem⟩ := thing_out h
  have hob := kind_three hk
  exact ⟨(o / 2).toNat, by omega, hmem, rfl⟩

/-- What is held of a world in which a view lies in a box: the box, and two words of a thing. -/
abbrev held4 (B b p n cap bm : Nat) (c h : Int) (w' : World) : Prop := w'.cell? ⟨B, 0, none⟩ = some (sl b n cap) ∧ w'.cell? ⟨B, 1, none⟩ = some (.map (some bm)) ∧ w'.cell? ⟨b, p, none⟩ = some (.int .i64 c) ∧ w'.cell? ⟨b, p + 1, none⟩ = some (.int .i64 h)
theorem held_below {B b p n cap bm : Nat} {c h : Int} {w w' : World} (hS : held4 B b p n cap bm c h w) (hb : Below w.heap.size w w') : held4 B b p n cap bm c h w' := by
  obtain ⟨h0, h1, h2, h3⟩ := hS
  exact ⟨by rw [hb.cell (World.block_lt_of_cell? _ _ h0)]; exact h0, by rw [hb.cell (World.block_lt_of_cell? _ _ h1)]; exact h1, by rw [hb.cell (World.block_lt_of_cell? _ _ h2)]; exact h2, by rw [hb.cell (World.block_lt_of_cell? _ _ h3)]; exact h3⟩

theorem own_set' {w : World} {b cap n : Nat} {xs : List Value} (h : w.ownsRow 0 3 1 (sl b n cap) n xs) {a : Addr} (hb : b ≠ a.block) (x : Value) : (w.setCell a x).ownsRow 0 3 1 (sl b n cap) n xs :=
  own_kept h ⟨rfl, rfl, rfl, by simp [World.setCell], fun k _ hk => Below.heap_setCell _ _ _ _ (fun e => hk (by rw [e]))⟩ hb
theorem box4 {w w' : World} {o : Obj} {x0 x1 x2 x3 : Value} {t : TypeId} (hb : Below ((w.alloc o).alloc (.cells #[x0, x1, x2, x3] t)).heap.size ((w.alloc o).alloc (.cells #[x0, x1, x2, x3] t)) w') :
    (w'.cell? ⟨w.heap.size + 1, 0, none⟩ = some x0 ∧ w'.cell? ⟨w.heap.size + 1, 1, none⟩ = some x1 ∧ w'.cell? ⟨w.heap.size + 1, 2, none⟩ = some x2 ∧ w'.cell? ⟨w.heap.size + 1, 3, none⟩ = some x3) ∧
      (w'.frozen? ⟨w.heap.size + 1, 0, none⟩ = false ∧ w'.frozen? ⟨w.heap.size + 1, 1, none⟩ = false ∧ w'.frozen? ⟨w.heap.size + 1, 2, none⟩ = false ∧ w'.frozen? ⟨w.heap.size + 1, 3, none⟩ = false) ∧ w.heap.size + 1 < w'.heap.size := by
  have hs := hb.size
  refine ⟨⟨?_, ?_, ?_, ?_⟩, ⟨?_, ?_, ?_, ?_⟩, by simp at hs; omega⟩
  · rw [hb.cell (p := ⟨w.heap.size + 1, 0, none⟩) (by simp), cell_at2 (by simp)]; rfl
  · rw [hb.cell (p := ⟨w.heap.size + 1, 1, none⟩) (by simp), cell_at2 (by simp)]; rfl
  · rw [hb.cell (p := ⟨w.heap.size + 1, 2, none⟩) (by simp), cell_at2 (by simp)]; rfl
  · rw [hb.cell (p := ⟨w.heap.size + 1, 3, none⟩) (by simp), cell_at2 (by simp)]; rfl
  · rw [hb.frozen (p := ⟨w.heap.size + 1, 0, none⟩) (by simp)]; exact frozen_at2 (by simp)
  · rw [hb.frozen (p := ⟨w.heap.size + 1, 1, none⟩) (by simp)]; exact frozen_at2 (by simp)
  · rw [hb.frozen (p := ⟨w.heap.size + 1, 2, none⟩) (by simp)]; exact frozen_at2 (by simp)
  · rw [hb.frozen (p := ⟨w.heap.size + 1, 3, none⟩) (by simp)]; exact frozen_at2 (by simp)

set_option maxHeartbeats 4000000 in
theorem vlook_any (W : List Int) (b cap bm p : Nat) (w : World) (hv : IsView w b cap bm W) (hu : unfit W 2 = none) (hl : W.length ≤ 2000) (ho : thingB W (2 * (p : Int)) = true) (hmem : p ∈ places W 2) :
    Calls Try.prog 44 #[viewV b W.length cap bm, .int .i64 (2 * (p : Int))] w fun e w' => ThingAns W p w.heap.size e w' ∧ Below w.heap.size w w' := by
  obtain ⟨hp2, hpl, hf, _⟩ := place_fit hu hmem
  have hfo := fits_out hf
  have h2p : 2 * (p : Int) / 2 = (p : Int) := by omega
  have hip : (p : Int) < (W.length : Int) := by omega
  have hip1 : (p : Int) + 1 < (W.length : Int) := by omega
  have h0p : (0 : Int) ≤ (p : Int) := by omega
  have h0p1 : (0 : Int) ≤ (p : Int) + 1 := by omega
  have hwr0 := wrap_id (x := (p : Int)) (by omega) (by omega)
  have hwr1 := wrap_id (x := (p : Int) + 1) (by omega) (by omega)
  clear hf
  go_enter Try.func44, Try.ntmps44
  go_upto_region 4 with (first | (go_at_call 42; refine (has_any W b cap bm _ _ ((hv.alloc _).alloc _)).mono ?_; rintro e w1 ⟨rfl, hb1⟩))
  have hv1 : IsView w1 b cap bm W := ((hv.alloc _).alloc _).same hb1
  have hbx : held4 w.heap.size b p W.length cap bm (wd W p) (wd W (p + 1)) w1 := by
    refine ⟨?_, ?_, hv1.cell (by omega), hv1.cell (by omega)⟩
    · rw [hb1.cell (p := ⟨w.heap.size, 0, none⟩) (by simp; omega)]; simp
    · rw [hb1.cell (p := ⟨w.heap.size, 1, none⟩) (by simp; omega)]; simp
  obtain ⟨c0, c1, c2, c3⟩ := hbx
  have hbne : ¬ b = w.heap.size + 1 := by have := hv.lt; omega
  have hbne' : ¬ w.heap.size + 1 = b := by have := hv.lt; omega
  go_region_held3 (fun w' => w'.cell? ⟨w.heap.size, 0, none⟩ = some (sl b W.length cap) ∧ w'.cell? ⟨w.heap.size, 1, none⟩ = some (.map (some bm)) ∧ w'.cell? ⟨b, p, none⟩ = some (.int .i64 (wd W p)) ∧ w'.cell? ⟨b, p + 1, none⟩ = some (.int .i64 (wd W (p + 1)))) (go_keep)
    (first
      | (go_at_call 66; refine (form_any W b cap bm p _ hv1.drew.row (by omega) hl).mono ?_; rintro e w2 ⟨rfl, hb2⟩; have hv2 := hv1.drew.same hb2; obtain ⟨e0, e1, e2, e3⟩ := held_below (w := w1.drew) ⟨c0, c1, c2, c3⟩ hb2)
      | (go_at_call 67; refine (slots_any W b cap bm p _ hv2 hu hl hmem).mono ?_; rintro e w3 ⟨⟨ad, cc, rfl, had, hac, hcm⟩, hb3⟩; have hv3 := hv2.same hb3; obtain ⟨f0, f1, f2, f3⟩ := held_below ⟨e0, e1, e2, e3⟩ hb3)
      | (go_at_call 33; refine (by rw [← slots_length hfo.2.2.2.2]; exact clone_all (slotsOf W p) ad cc b (p + 3) _ (by rw [slots_length hfo.2.2.2.2]; omega) (by rw [slots_length hfo.2.2.2.2]; exact had) (slots_row hv3.row hfo.2.2.2.2) : Calls Try.prog 33 #[.slice ad (slotsAt W p) cc] _ _).mono ?_; rintro e w4 ⟨⟨v4, rfl, ad4, c4, rfl, hs4⟩, hb4⟩; obtain ⟨g0, g1, g2, g3⟩ := held_below ⟨f0, f1, f2, f3⟩ hb4; have h12 : Below w1.heap.size w1 w2 := (Below.refl _ _).drew.trans hb2; have h13 := h12.trans (hb3.mono h12.size); have h14 := h13.trans (hb4.mono h13.size); have hA := hb1.trans (h14.mono hb1.size); obtain ⟨⟨r0, r1, r2, r3⟩, ⟨t0, t1, t2, t3⟩, hzz⟩ := box4 hA))
  go_wp2_with fail
  refine bodyPost_ret (v := thingV (wd W p) (wd W (p + 1)) (formAt W p) (.slice ad4 (slotsOf W p).length c4)) (by simp [results, Try.results44, go_sem, r0, r1, r2, r3]) rfl ⟨⟨_, rfl, ad4, c4, rfl, fun h0 => ?_⟩, ?_⟩
  · obtain ⟨g, hg, hge, hown⟩ := hs4 h0
    have hge' : w.heap.size + 1 < g := by have := h13.size; have := (below2 hb1).size; have := hb1.size; simp at this; omega
    refine ⟨g, hg, by omega, ?_⟩
    repeat (first | refine own_set' ?_ (by dsimp only; omega) _ | exact hown)
  · repeat (first | refine Below.setCell ?_ (by dsimp only; omega) _ | exact below2 hA)
end Go.Proofs.Ythdhaokjibfjdaa
