/- reach.From: the references of all things that are reached, rising. -/
import Derived.Test.YtpapaadclkdbkaaLeads
import Derived.Test.YtpapaadclkdbkaaShelf
import Derived.Sort.OwnSortedInts
import Derived.Deep.RegionWith
import Derived.Deep.CutRange
import Derived.Deep.DeepCutAuto
namespace Go.Proofs.Ytpapaadclkdbkaa
open Go.RowKit

/-- slices.Sort of a row of one's own. -/
theorem sort_any (zs : List Int) (B : Nat) (v : Value) (w : World) (hown : w.ownsRow B 3 1 v zs.length (vals zs)) (hl : zs.length ≤ 100000) :
    Calls Try.prog 63 #[v] w fun e w' => e = .returned (.tuple #[]) ∧ w'.ownsRow B 3 1 v zs.length (vals (zs.mergeSort fun x y => decide (x ≤ y))) ∧ w.grownBy w' v.ownBlock := by
  rcases hown.2 with ⟨rfl, h0⟩ | ⟨g, cap, cur, rfl, hg, hh, h1, h2, h3, h4⟩
  · have e0 : zs = [] := List.eq_nil_of_length_eq_zero h0
    subst e0
    refine (Try.slices_Sort_int_none none 0 w).mono fun e w' hp => ⟨hp.1, ?_, ?_⟩
    · rw [hp.2]; simpa using hown
    · rw [hp.2]; exact World.grownBy.refl _ _
  · have hH : Go.Sort.Holds (Value.int .i64) w g 0 zs.toArray := holds_of_blockI hh (by have := h4; rw [Nat.mul_one] at this; exact this)
    refine (Try.slices_Sort_int g 0 cap zs w hH (own_lt (own_mono (Nat.zero_le _) hown)) (by omega)).mono fun e w' hp => ⟨hp.1, ?_, ?_⟩
    · obtain ⟨n, os, hw⟩ := hp.2
      rw [hw]
      exact ownsRow_sortedI (List.length_mergeSort ..) hg hh h1 h2 h3
    · obtain ⟨n, os, hw⟩ := hp.2
      rw [hw]; exact grownBy_sortedI _

/-- The closure, whatever refs are. -/
theorem comeTo_any (W refs : List Int) (b cap bm N : Nat) (f : List Int) (vf : Value) (D : DataW Unit) (rad : Option Addr) (rc : Nat) (w : World) (hC : Come W b cap bm N f vf D w)
    (hr : 0 < refs.length → ∃ rb ro, rad = some ⟨rb, ro, none⟩ ∧ Row w rb ro refs ∧ (rb < N ∨ N + 4 ≤ rb) ∧ vf.ownBlock ≠ some rb) (hl : f.length + refs.length ≤ 100000) :
    Calls Try.prog 61 #[.slice rad refs.length rc, .pointer (some ⟨N + 2, 0, none⟩), .pointer (some ⟨N, 0, none⟩), .pointer (some ⟨N + 3, 0, none⟩)] w (ComeAns W b cap bm N (come W f refs) w) := by
  by_cases h0 : 0 < refs.length
  · obtain ⟨rb, ro, rfl, hrow, h1, h2⟩ := hr h0
    exact comeTo_some W refs b cap bm N f vf D rb ro rc w hC hrow h0 h1 h2 hl
  · have e0 : refs = [] := List.eq_nil_of_length_eq_zero (by omega)
    subst e0
    exact comeTo_none W b cap bm N f vf D rad rc w hC

theorem come_start (W : List Int) (b cap bm : Nat) (w : World) (hv : IsView w b cap bm W) :
    Come W b cap bm w.heap.size [] (.slice none 0 0) (.map []) ((((w.alloc (.cells #[sl b W.length cap, .map (some bm)] 54)).alloc (.map #[] 0)).alloc (.cells #[.map (some (w.heap.size + 1))] 88)).alloc (.cells #[.slice none 0 0] 22)) := by
  have hlb := hv.lt
  have hlm := hv.begun.lt
  refine ⟨(((hv.alloc _).alloc _).alloc _).alloc _, hlb, hlm, ?_, ?_, ?_, fun o => rfl, ?_, ?_, ?_, World.ownsRow_nil _ _ _ _, by simp⟩
  · rw [cell_past _ (by simp; omega), cell_past _ (by simp; omega), cell_past _ (by simp)]; simp
  · rw [cell_past _ (by simp; omega), cell_past _ (by simp; omega), cell_past _ (by simp)]; simp
  · have := World.ownsMap_made (H := Unit) (w.alloc (.cells #[sl b W.length cap, .map (some bm)] 54)) Try.prog 3 (unitElem (H := Unit))
    have h2 : ((w.alloc (.cells #[sl b W.length cap, .map (some bm)] 54)).alloc (.map #[] 0)).ownsMap Try.prog 3 (unitElem (H := Unit)) (w.heap.size + 1) 0 (.map []) := by simpa using this
    exact ownsMap_below (ownsMap_below h2 ((Below.refl _ _).alloc (Nat.le_refl _) _) (by simp)) ((Below.refl _ _).alloc (Nat.le_refl _) _) (by simp <;> omega)
  · rw [cell_past _ (by simp), cell_at2 (by simp)]; rfl
  · rw [cell_at2 (by simp)]; rfl
  · rw [frozen_at2 (by simp)]

set_option maxHeartbeats 4000000 in
theorem from_any (W roots : List Int) (b cap bm : Nat) (rad : Option Addr) (rc : Nat) (w : World) (hv : IsView w b cap bm W) (hroots : RootsAt rad roots w) (hu : unfit W 2 = none) (hl : W.length ≤ 2000) (hrl : roots.length ≤ 5000) :
    Calls Try.prog 35 #[viewV b W.length cap bm, .slice rad roots.length rc] w fun e w' => OwnedAny w.heap.size (reachList W roots) e w' ∧ Below w.heap.size w w' := by
  have hmm := @run_makeMap Try.prog
  have HO : Hid (RootsAt rad roots w) := hroots
  have hst := come_start W b cap bm w hv
  clear hroots
  go_enter Try.func35, Try.ntmps35
  go_wp2_with (go_at_call 61; refine (comeTo_any W roots b cap bm w.heap.size [] (.slice none 0 0) (.map []) rad rc _ hst (fun h0 => let ⟨rb, ro, e, r⟩ := HO.out h0; ⟨rb, ro, e, (((r.alloc _).alloc _).alloc _).alloc _, Or.inl r.lt, by simp [Value.ownBlock]⟩) (by simp; omega)).mono ?_; rintro e w1 ⟨rfl, ⟨vf1, D1, hC1⟩, hB1⟩)
  have hBw : Below w.heap.size w w1 := ((((((Below.refl _ _).alloc (Nat.le_refl _) _).alloc (by simp) _).alloc (by simp; omega) _).alloc (by simp; omega) _).trans hB1)
  go_loopw [8] (fun s wr => ∃ (n : Nat) (f : List Int) (vf : Value) (D : DataW Unit), s = .int .i64 n ∧ Along W roots f n ∧ Come W b cap bm w.heap.size f vf D wr ∧ Below w.heap.size w wr) (fun s _ => W.length + 1 - (intOf s).toNat)
  case atStart => exact ⟨0, _, vf1, D1, rfl, along_start W roots, hC1, hBw⟩
  case round =>
    clear hst hC1 hB1 hBw
    rename_i wr
    obtain ⟨n, f, vf, D, rfl, hA, hC, hB⟩ := hrel
    have hfl := hA.short
    have hnl := hA.le
    have hsz := hC.size
    have c3 := hC.f0
    have hn3 : w.heap.size + 3 < wr.heap.size := by omega
    obtain ⟨ad, cf, hvf⟩ := own_form hC.own
    subst hvf
    by_cases hlt : n < f.length
    · obtain ⟨p, hp, hmem, _, _⟩ := thing_ref (hA.all _ (wd_mem hlt)).thing
      have ho := ref_thing hl hmem
      obtain ⟨g, cg, hsh, hge, hown0⟩ := own_shape hC.own (fun e => by injection e with _ h0 _; omega)
      simp only [Value.slice.injEq, true_and] at hsh
      obtain ⟨rfl, rfl⟩ := hsh
      have hgl := own_lt hown0
      have hcn := own_cell hown0 hlt
      rw [hp] at hcn
      have HA : Hid (Along W roots (come W f (leadsAt W p)) (n + 1)) := by
        have := hA.next hlt
        rwa [hp, show (2 * (p : Int) / 2).toNat = p by omega] at this
      have c0 := hC.v0
      have c1 := hC.v1
      have hn0 : w.heap.size < wr.heap.size := by omega
      have hii : (n : Int) < (f.length : Int) := by omega
      have hsl : (slotsOf W p).length ≤ 2000 := by unfold slotsOf; rw [List.length_take, List.length_drop]; omega
      clear hA hp
      go_upto_region 8 with fail
      go_region_with (first | (go_at_call 32; refine (vlook_any W b cap bm p _ hC.view.drew hu hl ho hmem).mono ?_; rintro e w2 ⟨⟨v2, rfl, hs2⟩, hb2⟩) | (go_at_call 62; refine (leads_any W p _ v2 _ hs2 hsl).mono ?_; rintro e w3 ⟨⟨g3, c3', rfl, hg3, hown3⟩, hb3⟩) | (go_at_call 61; have hb13 : Below wr.heap.size wr w3 := ((Below.refl _ _).drew.trans hb2).trans (hb3.mono ((Below.refl wr.heap.size wr).drew.trans hb2).size); have hlw := leads_length (W := W) (p := p); refine (comeTo_some W (leadsAt W p) b cap bm w.heap.size f (sl g f.length cf) D g3 0 c3' _ (hC.below hb13) ⟨own_lt hown3, fun k hk => by rw [Nat.zero_add]; exact own_cell hown3 hk, leads_wf hC.view.wf⟩ leads_pos (Or.inr (by have := ((Below.refl wr.heap.size wr).drew.trans hb2).size; omega)) (fun e => by simp [Value.ownBlock] at e; have := ((Below.refl wr.heap.size wr).drew.trans hb2).size; omega) (by omega)).mono ?_; rintro e w4 ⟨rfl, hC4, hB4⟩))
      all_goals
        obtain ⟨vf', D', hC'⟩ := hC4
        go_wp2_with fail
        go_roundw
        case rel => exact ⟨n + 1, _, vf', D', by first | rfl | simp, HA.out, hC', hB.trans ((hb13.mono (by omega)).trans hB4)⟩
        case measure => simp [intOf]; omega
    · have hdone := hA.done (by omega)
      have hsort := sorted_reach hA.once hdone
      have HS : Hid (f.mergeSort (fun x y => decide (x ≤ y)) = reachList W roots) := hsort
      have hlen : (reachList W roots).length = f.length := by rw [← hsort, List.length_mergeSort]
      have HL : Hid ((reachList W roots).length = f.length) := hlen
      clear hsort hlen hdone
      go_wp2_with (go_at_call 63; refine (sort_any f (w.heap.size + 4) _ _ hC.own (by omega)).mono ?_; rintro e w2 ⟨rfl, hown2, hg2⟩; have hs2 := hg2.size; have d3 : w2.cell? ⟨w.heap.size + 3, 0, none⟩ = some (.slice ad f.length cf) := ((World.cell?_of_block (a := ⟨w.heap.size + 3, 0, none⟩) (hg2.block (w.heap.size + 3) (by omega) (fun e => by have := (hC.own.lt _ e.symm).1; omega))).trans c3))
      go_ret
      refine ⟨⟨ad, cf, by rw [HL.out]; rfl, ?_⟩, ?_⟩
      · have := own_mono (Nat.le_add_right _ 4) hown2
        rw [HS.out] at this
        rw [HL.out]; exact this
      · exact hB.grown hg2 (by omega) (fun k hk => by have := (hC.own.lt k hk).1; omega)

end Go.Proofs.Ytpapaadclkdbkaa
