/- gessoref2.Look of a thing. -/
import Derived.Test.YtmgmbgacdjebgaaRefLook
namespace Go.Proofs.Ytmgmbgacdjebgaa
open Go.RowKit

set_option maxHeartbeats 4000000 in
theorem rlook_yes (W : List Int) (b off cap p : Nat) (w : World) (hr : Row w b off W) (hu : unfit W 2 = none) (hl : W.length ≤ 2000) (hcap : W.length ≤ cap) (ho : thingB W (2 * (p : Int)) = true) (hmem : p ∈ places W 2) :
    Calls Try.prog 27 #[heapV (some ⟨b, off, none⟩) W.length cap, .int .i64 (2 * (p : Int))] w fun e w' => LookAns W p w.heap.size e w' ∧ Below w.heap.size w w' := by
  have hr2 : Row ((w.alloc (.cells #[.slice (some ⟨b, off, none⟩) W.length cap] 24)).alloc (.cells #[.int .i64 0, .int .i64 0, .int .i64 0, .slice none 0 0] 60)) b off W := (hr.alloc _).alloc _
  obtain ⟨hp2, hpl, hfit, _⟩ := place_fit hu hmem
  have hfo := fits_out hfit
  have h2p : 2 * (p : Int) / 2 = (p : Int) := by omega
  have h0p : (0 : Int) ≤ (p : Int) := by omega
  have h0p1 : (0 : Int) ≤ (p : Int) + 1 := by omega
  have h0p2 : (0 : Int) ≤ (p : Int) + 2 := by omega
  have hip : (p : Int) < (W.length : Int) := by omega
  have hip1 : (p : Int) + 1 < (W.length : Int) := by omega
  have hip2 : (p : Int) + 2 < (W.length : Int) := by omega
  have hwr0 := wrap_id (x := (p : Int)) (by omega) (by omega)
  have hwr1 := wrap_id (x := (p : Int) + 1) (by omega) (by omega)
  have hwr2 := wrap_id (x := (p : Int) + 2) (by omega) (by omega)
  have c0 := hr.cell p (by omega)
  have c1 := hr.cell (p + 1) (by omega)
  have c2 := hr.cell (p + 2) (by omega)
  have hblt := hr.lt
  obtain ⟨i0, hi, hz0, hz1, hz2⟩ := info_parts info3
  clear hfit
  go_enter Try.func27, Try.ntmps27
  go_upto_region 6 with (go_at_call 24; refine (rthing_any W b off cap _ _ hr2 hu hl).mono ?_; rintro e w1 ⟨rfl, hw1⟩; rw [hw1]; clear hw1 w1)
  have ht2 : ((p : Int) + 2).toNat = p + 2 := by omega
  have htm : (wd W (p + 2)).tmod 4 = formAt W p := Int.tmod_eq_emod_of_nonneg hfo.2.1
  have k0 := fun o => (hr2.alloc o).cell p (by omega)
  have k1 := fun o => (hr2.alloc o).cell (p + 1) (by omega)
  have k2 := fun o => (hr2.alloc o).cell (p + 2) (by omega)
  have hl1 : b < w.heap.size + 1 := by omega
  have hl2 : b < w.heap.size + 1 + 1 := by omega
  have hl3 : ¬ b = w.heap.size + 1 + 1 := by omega
  go_region_held3 (fun w' => w'.cell? ⟨b, off + p, none⟩ = some (.int .i64 (wd W p)) ∧ w'.cell? ⟨b, off + (p + 1), none⟩ = some (.int .i64 (wd W (p + 1))) ∧ w'.cell? ⟨b, off + (p + 2), none⟩ = some (.int .i64 (wd W (p + 2)))) (go_keep) (fail)
  go_wp2_with fail
  have hwr3 := wrap_id (x := (p : Int) + 3) (by omega) (by omega)
  have hsq : (wd W (p + 2)).tdiv 4 = (slotsAt W p : Nat) := by rw [Int.tdiv_eq_ediv_of_nonneg hfo.2.1]; unfold slotsAt; omega
  have hsq' : wd W (p + 2) / 4 = (slotsAt W p : Nat) := by unfold slotsAt; omega
  have hws := wrap_id (x := ((slotsAt W p : Nat) : Int)) (by omega) (by omega)
  have hwt := wrap_id (x := (p : Int) + 3 + ((slotsAt W p : Nat) : Int)) (by omega) (by omega)
  have ht3 : ((p : Int) + 3).toNat = p + 3 := by omega
  have hs0 : (0 : Int) ≤ (p : Int) + 3 := by omega
  have hs1 : (p : Int) + 3 ≤ (p : Int) + 3 + ((slotsAt W p : Nat) : Int) := by omega
  have hs2 : (p : Int) + 3 + ((slotsAt W p : Nat) : Int) ≤ (W.length : Int) := by omega
  have hA1 : (0 : Int) ≤ (p : Int) + 3 + ((slotsAt W p : Nat) : Int) := by omega
  have hA2 : (p : Int) + 3 + ((slotsAt W p : Nat) : Int) ≤ (cap : Int) := by omega
  have hA3 : (p : Int) + 3 ≤ max ((p : Int) + 3 + ((slotsAt W p : Nat) : Int)) 0 := by omega
  have ht4 : ((p : Int) + 3 + ((slotsAt W p : Nat) : Int)).toNat - (p + 3) = slotsAt W p := by omega
  have hsl := slots_length hfo.2.2.2.2
  have HSL : Hid ((slotsOf W p).length = slotsAt W p) := hsl
  clear hsl
  have hrS : Row (((w.alloc (.cells #[.slice (some ⟨b, off, none⟩) W.length cap] 24)).alloc (.cells #[.int .i64 0, .int .i64 0, .int .i64 0, .slice none 0 0] 60)).alloc (.cells #[.int .i64 (wd W p), .int .i64 (wd W (p + 1)), .int .i64 (formAt W p), .slice none 0 0] 60)) b (off + (p + 3)) (slotsOf W p) := slots_row' (hr2.alloc _) hfo.2.2.2.2
  obtain ⟨AD, hAD, hnews⟩ : ∃ AD : Addr, (if cap = p + 3 then some (⟨b, off, none⟩ : Addr) else some ⟨b, off + (p + 3), none⟩) = some AD ∧ Hid (∀ j u, (vals (slotsOf W p))[j]? = some u → ((((w.alloc (.cells #[.slice (some ⟨b, off, none⟩) W.length cap] 24)).alloc (.cells #[.int .i64 0, .int .i64 0, .int .i64 0, .slice none 0 0] 60)).alloc (.cells #[.int .i64 (wd W p), .int .i64 (wd W (p + 1)), .int .i64 (formAt W p), .slice none 0 0] 60))).cell? (AD.add j) = some u) := by
    by_cases hc : cap = p + 3
    · refine ⟨⟨b, off, none⟩, if_pos hc, ?_⟩
      have e0 : slotsOf W p = [] := List.eq_nil_of_length_eq_zero (by rw [HSL.out]; omega)
      intro j u hj
      rw [e0] at hj
      simp at hj
    · exact ⟨⟨b, off + (p + 3), none⟩, if_neg hc, row_news hrS⟩
  clear k0 k1 k2 c0 c1
  go_region_law (refine step_append_own rfl (.tmp 37) (.tmp 50) 22 rfl (w.heap.size + 3) 3 i0 (.int .i64 0) 1 8 ty30 hi hz0 hz1 hz2 rfl (by decide) (.slice none 0 0) 0 [] (by simp [Act.eval, Act.put]) (World.ownsRow_nil _ _ _ _) AD (slotsAt W p) (cap - (p + 3)) (vals (slotsOf W p)) (by simp [Act.eval, Act.put]) (by simp [HSL.out]) hnews.out (ints_oneCell _ _) (by unfold maxLen; omega) (by omega) (by simp) ?_; intro v' w3 hown3 hgrow3 hnil3; obtain ⟨ad3, c3, hv3, hs3⟩ := slots_own (xs := slotsOf W p) HSL.out hown3; subst hv3; have hb3 := (Below.refl (w.heap.size + 3) (((w.alloc (.cells #[.slice (some ⟨b, off, none⟩) W.length cap] 24)).alloc (.cells #[.int .i64 0, .int .i64 0, .int .i64 0, .slice none 0 0] 60)).alloc (.cells #[.int .i64 (wd W p), .int .i64 (wd W (p + 1)), .int .i64 (formAt W p), .slice none 0 0] 60))).drew.drew.grown hgrow3 (by simp) (fun k hk => by cases hk); obtain ⟨⟨r0, r1, r2, r3⟩, ⟨q0, q1, q2, q3⟩, ⟨s0, s1, s2, s3⟩, ⟨y0, y1, y2, y3⟩, hzz⟩ := twoBoxes hb3)
  all_goals
    clear hnews hrS hr2 hr
    go_wp2_with fail
    have hbf := (((((below3' hb3).setCell (p := ⟨w.heap.size + 1 + 1, 3, none⟩) (by dsimp only; omega) (.slice ad3 (slotsOf W p).length c3)).setCell (p := ⟨w.heap.size + 1, 0, none⟩) (by dsimp only; omega) (.int .i64 (wd W p))).setCell (p := ⟨w.heap.size + 1, 1, none⟩) (by dsimp only; omega) (.int .i64 (wd W (p + 1)))).setCell (p := ⟨w.heap.size + 1, 2, none⟩) (by dsimp only; omega) (.int .i64 (formAt W p))).setCell (p := ⟨w.heap.size + 1, 3, none⟩) (by dsimp only; omega) (.slice ad3 (slotsOf W p).length c3)
    refine bodyPost_ret (v := .tuple #[thingV (wd W p) (wd W (p + 1)) (formAt W p) (.slice ad3 (slotsOf W p).length c3), .int .i64 0]) (by simp [results, Try.results27, go_sem, r0, r1, r2, r3]) rfl ⟨⟨_, rfl, ad3, c3, rfl, fun h0 => ?_⟩, hbf⟩
    obtain ⟨g, hg, hge, hown⟩ := hs3 h0
    exact ⟨g, hg, by omega, own_set' (own_set' (own_set' (own_set' (own_set' hown (by dsimp only; omega) _) (by dsimp only; omega) _) (by dsimp only; omega) _) (by dsimp only; omega) _) (by dsimp only; omega) _⟩

end Go.Proofs.Ytmgmbgacdjebgaa
