/- Package count: leads, eachGiven. -/
import Derived.Test.YthdhaokjibfjdaaCtMem
import Derived.Deep.RegionWith
import Derived.Deep.CutRange
import Derived.Deep.DeepCutAuto
namespace Go.Proofs.Ythdhaokjibfjdaa
open Go.RowKit
open Go.Maps (Keyed keyOf_int_mk)

set_option maxHeartbeats 2000000 in
theorem ctleads_any (W : List Int) (b cap bm mm p : Nat) (w : World) (hv : IsView w b cap bm W) (hu : unfit W 2 = none) (hl : W.length ≤ 2000) (hmem : p ∈ places W 2) :
    Calls Try.prog 52 #[tallyV b W.length cap bm mm, .int .i64 (2 * (p : Int))] w fun e w' => NumsAns w.heap.size (leadsAt W p) e w' ∧ Below w.heap.size w w' := by
  have ho := ref_thing hl hmem
  have hsl : (slotsOf W p).length ≤ 2000 := by unfold slotsOf; rw [List.length_take, List.length_drop]; omega
  go_enter Try.func52, Try.ntmps52
  go_wp2_with (first | (go_at_call 44; refine (vlook_any W b cap bm p _ (hv.alloc _) hu hl ho hmem).mono ?_; rintro e w2 ⟨⟨v2, rfl, hs2⟩, hb2⟩; have hb02 := below_call hb2; have z02 := hb02.size) | (go_at_call 43; refine (leads_any W p _ v2 _ hs2 hsl).mono ?_; rintro e w3 ⟨⟨g3, c3, rfl, hg3, hown3⟩, hb3⟩))
  go_ret
  exact ⟨⟨g3, c3, rfl, by omega, hown3⟩, hb02.trans (hb3.mono z02)⟩

theorem leads_few {W : List Int} {p : Nat} (hu : unfit W 2 = none) (hp : p ∈ places W 2) : (leadsAt W p).length ≤ 100 := by
  have h := fits_out (place_fit hu hp).2.2.1
  have h2 := leads_lenC W p
  have : slotsAt W p ≤ 60 := by unfold slotsAt; omega
  omega

set_option maxHeartbeats 8000000 in
theorem cteachGiven_any {K : Nat} {cs : Array Value} {σ : Type} {st : σ → Int → σ} {L : Nat} {I : Nat → σ → (Nat → Prop) → World → Prop} (D : Does K cs st L I) (W : List Int) (b cap bm mm r : Nat) (s : σ) (G : Nat → Prop) (w : World) (hv : IsView w b cap bm W) (hb : b < L) (hbm : bm < L) (hu : unfit W 2 = none) (hl : W.length ≤ 2000)
    (hI : I (r + 100 * (places W 2).length) s G w) :
    Calls Try.prog 48 #[tallyV b W.length cap bm mm, .func (.func K) #[] cs] w (DoesAns I r ((thingsOf W (allLeads W)).foldl st s) G L w) := by
  generalize hX : (thingsOf W (allLeads W)).foldl st s = X
  have HX : Hid (X = (thingsOf W (((places W 2).drop 0).flatMap (leadsAt W))).foldl st s) := hX.symm
  clear hX
  have hls := D.low hI
  go_enter Try.func48, Try.ntmps48
  go_wp2_with (go_at_call 26; refine (things_any W b cap bm _ (hv.alloc _) hu hl).mono ?_; rintro e w1 ⟨⟨tad, tc, rfl, hown1⟩, hb1⟩)
  have hb01 := below_call hb1
  obtain ⟨t0, t1, t2, hz1⟩ := box3 hb1
  have hI1 : I (r + 100 * ((places W 2).length - 0)) s (fun k => G k ∨ (w.heap.size ≤ k ∧ k < w1.heap.size)) w1 :=
    D.fresh _ hI hb01 fun k hk => by
      rcases hk with hk | hk
      · exact ⟨Or.inl hk, Nat.lt_of_lt_of_le (D.out hI hk) hb01.size⟩
      · exact ⟨Or.inr hk.1, hk.2⟩
  have hB1 : Below L w w1 := hb01.mono hls
  have hK1 : KeptC G w w1 := fun k hk => hb01.block k (D.out hI hk)
  have hv1 := hv.same hb01
  have hln : (refs (places W 2)).length = (places W 2).length := refs_length _
  have hown2 : w1.ownsRow w.heap.size 3 1 (.slice tad (refs (places W 2)).length tc) (refs (places W 2)).length (vals (refs (places W 2))) := own_mono (by simp) hown1
  have HO : Hid (w1.ownsRow w.heap.size 3 1 (.slice tad (refs (places W 2)).length tc) (refs (places W 2)).length (vals (refs (places W 2)))) := hown2
  have HL : Hid ((refs (places W 2)).length = (places W 2).length) := hln
  have HGo : Hid (∀ k, G k → k < w.heap.size) := fun k hk => D.out hI hk
  clear hown1 hown2 hln hI hv hb01 hb1
  go_loopw [10] (fun s10 wr => ∃ (i : Nat) (s' : σ), s10 = .int .i64 i ∧ i ≤ (refs (places W 2)).length ∧ Hid (X = (thingsOf W (((places W 2).drop i).flatMap (leadsAt W))).foldl st s') ∧ Hid (I (r + 100 * ((places W 2).length - i)) s' (fun k => G k ∨ (w.heap.size ≤ k ∧ k < w1.heap.size)) wr) ∧ KeptC G w wr ∧ KeptC (fun k => w.heap.size ≤ k ∧ k < w1.heap.size) w1 wr ∧ Below L w wr ∧ IsView wr b cap bm W) (fun s10 _ => (refs (places W 2)).length - (intOf s10).toNat)
  case atStart => exact ⟨0, s, rfl, Nat.zero_le _, HX, hI1, hK1, fun _ _ => rfl, hB1, hv1⟩
  case round =>
    clear hI1 hK1 hB1 hv1 HX
    obtain ⟨i, s', rfl, hi, HX, HI, hK, hK', hB, hv⟩ := hrel
    by_cases hlt : i < (refs (places W 2)).length
    · have hi2 : i < (places W 2).length := by have := HL.out; omega
      have hmem : (places W 2)[i] ∈ places W 2 := List.getElem_mem hi2
      have hwdi : wd (refs (places W 2)) i = 2 * ((places W 2)[i] : Int) := by
        unfold wd refs; rw [List.getD_eq_getElem?_getD, List.getElem?_map, List.getElem?_eq_getElem hi2]; rfl
      obtain ⟨g, cg, hsh, hge, hown0⟩ := own_shape HO.out (fun e => by injection e with _ h1 _; omega)
      simp only [Value.slice.injEq, true_and] at hsh
      obtain ⟨rfl, rfl⟩ := hsh
      have hcl := hK'.cell ⟨hge, own_lt hown0⟩ (own_cell hown0 hlt)
      rw [hwdi] at hcl
      have x0 := hK'.cell ⟨Nat.le_refl _, hz1⟩ t0
      have x1 := hK'.cell ⟨Nat.le_refl _, hz1⟩ t1
      have x2 := hK'.cell ⟨Nat.le_refl _, hz1⟩ t2
      have HX' : Hid (X = (thingsOf W (((places W 2).drop (i + 1)).flatMap (leadsAt W))).foldl st ((thingsOf W (leadsAt W (places W 2)[i])).foldl st s')) := by
        have := HX.out
        rw [List.drop_eq_getElem_cons hi2, List.flatMap_cons, thingsOf_append, List.foldl_append] at this
        exact this
      have hll := leads_few hu hmem
      have HIe : Hid (I (r + 100 * ((places W 2).length - (i + 1)) + (leadsAt W (places W 2)[i]).length) s' (fun k => G k ∨ (w.heap.size ≤ k ∧ k < w1.heap.size)) wr) := D.less HI.out (by omega)
      have hii : (i : Int) < ((refs (places W 2)).length : Int) := by omega
      have hi9 : i ≤ 2000 := by
        have h4 := (places_nodup (W := W) _ 2 (Nat.le_refl _)).length_le_of_subset (l₂ := List.range W.length) fun p hp => List.mem_range.2 (place_ge hp).2
        rw [List.length_range] at h4; omega
      have hw1 := wrap_id (x := (i : Int) + 1) (by omega) (by omega)
      have hgw := World.block_lt_of_cell? _ _ hcl
      have hzb := World.block_lt_of_cell? _ _ x0
      have hls2 := D.low HI.out
      clear HX HI hwdi t0 t1 t2
      generalize (places W 2)[i] = p at *
      go_upto_region 4 with fail
      go_region_with (first | (go_at_call 52; refine (ctleads_any W b cap bm mm p _ (by first | exact hv | exact hv.drew) hu hl hmem).mono ?_; rintro e w3 ⟨⟨g3, c3, rfl, hg3, hown3⟩, hb3⟩; have hb13 : Below wr.heap.size wr w3 := (Below.refl wr.heap.size wr).drew.trans hb3; have y0 := through hb13 x0 hzb; have y1 := through hb13 x1 hzb; have y2 := through hb13 x2 hzb) | (go_at_call 47; refine (cteach_some D W (leadsAt W p) b cap bm mm g3 0 c3 _ s' (fun k => (G k ∨ (w.heap.size ≤ k ∧ k < w1.heap.size)) ∨ k = g3) _ (hv.same hb13) hb hbm (D.beside HIe.out hb13 (by simpa using hg3) (own_lt hown3)) (Or.inr rfl) ⟨own_lt hown3, fun k hk => by rw [Nat.zero_add]; exact own_cell hown3 hk, leads_wf hv.wf⟩ (by omega)).mono ?_; rintro e w4 ⟨rfl, hI4, hK4, hB4⟩))
      all_goals
        go_wp2_with fail
        go_roundw
        case rel => exact ⟨i + 1, _, by first | rfl | simp, by omega, HX', D.drop hI4, fun k hk => (hK4 k (Or.inl (Or.inl hk))).trans ((hb13.block k (D.out HIe.out (Or.inl hk))).trans (hK k hk)), fun k hk => (hK4 k (Or.inl (Or.inr hk))).trans ((hb13.block k (D.out HIe.out (Or.inr hk))).trans (hK' k hk)), hB.trans ((hb13.mono hls2).trans hB4), ctview_low hv ((hb13.mono hls2).trans hB4) hb hbm⟩
        case measure => simp [intOf]; omega
    · have HE : Hid (X = s') := by have := HX.out; rw [List.drop_eq_nil_of_le (by have := HL.out; omega)] at this; exact this
      have hii : ¬ (i : Int) < ((refs (places W 2)).length : Int) := by omega
      clear HX
      go_wp2_with fail
      go_end0
      have e := HE.out
      subst e
      exact ⟨rfl, D.fresh G (D.less HI.out (by omega)) (Below.refl _ _) fun k hk => ⟨Or.inl (Or.inl hk), D.out HI.out (Or.inl hk)⟩, hK, hB⟩
end Go.Proofs.Ythdhaokjibfjdaa
