/- become.listsFault: what stands against two lists, but for who is twice there. -/
import Derived.Test.YtgggmdanpdggpacSeeRoots
import Derived.Test.YtgggmdanpdggpacBecomePlain
import Derived.Deep.RegionHeld3
import Derived.Deep.RegionWith
namespace Go.Proofs.Ytgggmdanpdggpac
open Go.RowKit

/-- What is wrong with two lists first, but for who is twice there. -/
def kindsOf (W F T : List Int) : Int × Int :=
  if F.length = T.length then
    (match (List.range F.length).find? (oddAt W F T) with
    | some i => (3, (i : Int))
    | none => (0, 0))
  else (1, 0)
theorem kinds_size {W F T : List Int} (h : F.length ≠ T.length) : kindsOf W F T = (1, 0) := by unfold kindsOf; rw [if_neg h]
theorem kinds_odd {W F T : List Int} {i : Nat} (h : F.length = T.length) (hi : i < F.length) (hp : oddAt W F T i = true) (hb : ∀ j, j < i → oddAt W F T j = false) : kindsOf W F T = (3, (i : Int)) := by
  unfold kindsOf; rw [if_pos h, first_some hi hp hb]
theorem kinds_none {W F T : List Int} (h : F.length = T.length) (h0 : ∀ j, j < F.length → oddAt W F T j = false) : kindsOf W F T = (0, 0) := by
  unfold kindsOf; rw [if_pos h, first_none h0]
theorem kinds_ok {W F T : List Int} (h : (kindsOf W F T).1 = 0) : F.length = T.length ∧ ∀ j, j < F.length → oddAt W F T j = false := by
  unfold kindsOf at h
  by_cases hl : F.length = T.length
  · rw [if_pos hl] at h
    cases h1 : (List.range F.length).find? (oddAt W F T) with
    | some i => rw [h1] at h; cases h
    | none => exact ⟨hl, none_first h1⟩
  · rw [if_neg hl] at h; cases h
theorem wrong_kinds {W F T : List Int} {both : Bool} (h : (kindsOf W F T).1 ≠ 0) : wrongOf W F T both = kindsOf W F T := by
  unfold kindsOf at h ⊢
  unfold wrongOf
  by_cases hl : F.length = T.length
  · rw [if_pos hl] at h
    rw [if_pos hl, if_pos hl]
    cases h1 : (List.range F.length).find? (oddAt W F T) with
    | some i => rfl
    | none => rw [h1] at h; exact absurd rfl h
  · rw [if_neg hl, if_neg hl]

theorem undrew' {B : Nat} {w w' : World} (h : Below B w.drew w') : Below B w w' := ⟨h.os, h.tape, h.output, h.size, h.block⟩

set_option maxHeartbeats 4000000 in
theorem lists_any (W F T : List Int) (b cap bm : Nat) (fad tad : Option Addr) (fc tc : Nat) (w : World) (hv : IsView w b cap bm W) (hF : RootsAt fad F w) (hT : RootsAt tad T w) (hn : F.length ≤ 5000) :
    Calls Try.prog 10 #[viewV b W.length cap bm, .slice fad F.length fc, .slice tad T.length tc] w fun e w' => e = .returned (.agg #[.int .i64 (kindsOf W F T).1, .int .i64 (kindsOf W F T).2]) ∧ Below w.heap.size w w' := by
  have HF : Hid (RootsAt fad F w) := hF
  have HT : Hid (RootsAt tad T w) := hT
  clear hF hT
  by_cases hl : F.length = T.length
  · have HL : Hid (F.length = T.length) := hl
    have hne : ((F.length : Int) != (T.length : Int)) = false := by simp; omega
    clear hl
    generalize hWf : kindsOf W F T = wf
    have HW : Hid (kindsOf W F T = wf) := hWf
    clear hWf
    obtain ⟨w2, hw2⟩ : ∃ w2, w2 = ((w.alloc (.cells #[sl b W.length cap, .map (some bm)] 36)).alloc (.cells #[.int .i64 0, .int .i64 0] 27)) := ⟨_, rfl⟩
    have HB : Hid (w2 = ((w.alloc (.cells #[sl b W.length cap, .map (some bm)] 36)).alloc (.cells #[.int .i64 0, .int .i64 0] 27))) := hw2
    have hb02 : Below w.heap.size w w2 := by rw [hw2]; exact ((Below.refl _ _).alloc (Nat.le_refl _) _).alloc (by simp) _
    have hcs : (w2.cell? ⟨w.heap.size, 0, none⟩ = some (sl b W.length cap) ∧ w2.cell? ⟨w.heap.size, 1, none⟩ = some (.map (some bm))) ∧ (w2.cell? ⟨w.heap.size + 1, 0, none⟩ = some (.int .i64 0) ∧ w2.cell? ⟨w.heap.size + 1, 1, none⟩ = some (.int .i64 0)) ∧ (w2.frozen? ⟨w.heap.size + 1, 0, none⟩ = false ∧ w2.frozen? ⟨w.heap.size + 1, 1, none⟩ = false) ∧ w.heap.size + 1 < w2.heap.size := by
      rw [hw2]
      refine ⟨⟨?_, ?_⟩, ⟨?_, ?_⟩, ⟨?_, ?_⟩, by simp⟩
      · rw [cell_past _ (by simp), cell_at2 rfl]; rfl
      · rw [cell_past _ (by simp), cell_at2 rfl]; rfl
      · rw [cell_at2 (by simp)]; rfl
      · rw [cell_at2 (by simp)]; rfl
      · rw [frozen_at2 (by simp)]
      · rw [frozen_at2 (by simp)]
    obtain ⟨⟨c0, c1⟩, ⟨c2, c3⟩, ⟨f2, f3⟩, hz2⟩ := hcs
    have hv2 := hv.same hb02
    clear hw2
    go_enter Try.func10, Try.ntmps10
    go_wp2_with fail
    go_loopw [16] (fun s16 wr => ∃ (i : Nat), s16 = .int .i64 i ∧ i ≤ F.length ∧ Hid (∀ j, j < i → oddAt W F T j = false) ∧ Below w2.heap.size w2 wr) (fun s16 _ => F.length - (intOf s16).toNat)
    case atStart => exact ⟨0, rfl, Nat.zero_le _, fun j hj => by omega, by rw [HB.out]; exact Below.refl _ _⟩
    case round =>
      obtain ⟨i, rfl, hi, HO, hB⟩ := hrel
      have hvr := hv2.same hB
      have vd0 := through hB c0 (by dsimp only; omega)
      have vd1 := through hB c1 (by dsimp only; omega)
      have vd2 := through hB c2 (by dsimp only; omega)
      have vd3 := through hB c3 (by dsimp only; omega)
      have vf2 := throughF hB f2 (by dsimp only; omega)
      have vf3 := throughF hB f3 (by dsimp only; omega)
      have hzr := hB.size
      have hB0 := hb02.trans (hB.mono hb02.size)
      have hz1 : w.heap.size + 1 < wr.heap.size := by omega
      by_cases hlt : i < F.length
      · obtain ⟨fb, fq, hfad, hrF⟩ := HF.out (by omega)
        obtain ⟨tb, tq, htad, hrT⟩ := HT.out (by rw [← HL.out]; omega)
        subst hfad htad
        have hcF := (hrF.same hB0).cell i hlt
        have hcT := (hrT.same hB0).cell i (by rw [← HL.out]; exact hlt)
        have hlF : fb < wr.heap.size := by have := hrF.lt; omega
        have hlT : tb < wr.heap.size := by have := hrT.lt; omega
        have hii : (i : Int) < (F.length : Int) := by omega
        have hit : (i : Int) < (T.length : Int) := by rw [← HL.out]; exact hii
        clear hrF hrT c0 c1 c2 c3 f2 f3
        cases hta : thingB W (wd F i) with
        | false =>
          have H : Hid (wf = (3, (i : Int))) := by rw [← HW.out]; exact kinds_odd HL.out hlt (by unfold oddAt; rw [hta]; rfl) HO.out
          go_wp2_with fail
          first | go_region_with (first | (go_at_call_of 18 (wd F i); refine (has_any W b cap bm _ _ hvr.drew).mono ?_; rw [hta]; rintro e w5 ⟨rfl, hb5⟩; have hq5 : Below wr.heap.size wr w5 := undrew' hb5; have k0 := through hq5 vd0 (by dsimp only; omega); have k1 := through hq5 vd1 (by dsimp only; omega); have k2 := through hq5 vd2 (by dsimp only; omega); have k3 := through hq5 vd3 (by dsimp only; omega); have kF := through hq5 hcF (by dsimp only; omega); have kT := through hq5 hcT (by dsimp only; omega); have kg2 := throughF hq5 vf2 (by dsimp only; omega); have kg3 := throughF hq5 vf3 (by dsimp only; omega); have hv5 := hvr.same hq5; have hz5 : w.heap.size + 1 < w5.heap.size := (by have := hq5.size; omega); have hlF5 : fb < w5.heap.size := (by have := hq5.size; omega); have hlT5 : tb < w5.heap.size := (by have := hq5.size; omega))) | fail
          all_goals
            go_wp2_with fail
            refine bodyPost_ret (v := .agg #[.int .i64 3, .int .i64 (i : Nat)]) (by simp [results, Try.results10, go_sem, k2, k3]) rfl ⟨by rw [H.out], ?_⟩
            have hB5 := hB0.trans (hq5.mono hB0.size)
            repeat (first | refine Below.drew ?_ | refine Below.setCell ?_ (by dsimp only; omega) _ | exact hB5)
        | true =>
          cases htb : thingB W (wd T i) with
          | false =>
            have H : Hid (wf = (3, (i : Int))) := by rw [← HW.out]; exact kinds_odd HL.out hlt (by unfold oddAt; rw [hta, htb]; rfl) HO.out
            go_wp2_with fail
            go_region_held3 (fun w' => w'.cell? ⟨w.heap.size, 0, none⟩ = some (sl b W.length cap) ∧ w'.cell? ⟨w.heap.size, 1, none⟩ = some (.map (some bm)) ∧ w'.cell? ⟨fb, fq + i, none⟩ = some (.int .i64 (wd F i)) ∧ w'.cell? ⟨tb, tq + i, none⟩ = some (.int .i64 (wd T i))) (go_keep) (first | (go_at_call_of 18 (wd F i); refine (has_any W b cap bm _ _ hvr.drew).mono ?_; rw [hta]; rintro e w5 ⟨rfl, hb5⟩; have hq5 : Below wr.heap.size wr w5 := undrew' hb5; have k0 := through hq5 vd0 (by dsimp only; omega); have k1 := through hq5 vd1 (by dsimp only; omega); have k2 := through hq5 vd2 (by dsimp only; omega); have k3 := through hq5 vd3 (by dsimp only; omega); have kF := through hq5 hcF (by dsimp only; omega); have kT := through hq5 hcT (by dsimp only; omega); have kg2 := throughF hq5 vf2 (by dsimp only; omega); have kg3 := throughF hq5 vf3 (by dsimp only; omega); have hv5 := hvr.same hq5; have hz5 : w.heap.size + 1 < w5.heap.size := (by have := hq5.size; omega); have hlF5 : fb < w5.heap.size := (by have := hq5.size; omega); have hlT5 : tb < w5.heap.size := (by have := hq5.size; omega)) | (go_at_call_of 18 (wd T i); refine (has_any W b cap bm _ _ hv5).mono ?_; rw [htb]; rintro e w6 ⟨rfl, hb6⟩; have l0 := through hb6 k0 (by dsimp only; omega); have l1 := through hb6 k1 (by dsimp only; omega); have l2 := through hb6 k2 (by dsimp only; omega); have l3 := through hb6 k3 (by dsimp only; omega); have lF := through hb6 kF (by dsimp only; omega); have lT := through hb6 kT (by dsimp only; omega); have lg2 := throughF hb6 kg2 (by dsimp only; omega); have lg3 := throughF hb6 kg3 (by dsimp only; omega); have hz6 : w.heap.size + 1 < w6.heap.size := (by have := hb6.size; omega)))
            go_wp2_with fail
            refine bodyPost_ret (v := .agg #[.int .i64 3, .int .i64 (i : Nat)]) (by simp [results, Try.results10, go_sem, l2, l3]) rfl ⟨by rw [H.out], ?_⟩
            have hB5 := hB0.trans (hq5.mono hB0.size)
            have hB6 := hB5.trans (hb6.mono hB5.size)
            repeat (first | refine Below.drew ?_ | refine Below.setCell ?_ (by dsimp only; omega) _ | exact hB6)
          | true =>
            have H : Hid (∀ j, j < i + 1 → oddAt W F T j = false) := fun j hj => by
              by_cases e : j = i
              · rw [e]; unfold oddAt; rw [hta, htb]; rfl
              · exact HO.out j (by omega)
            go_wp2_with fail
            go_region_held3 (fun w' => w'.cell? ⟨w.heap.size, 0, none⟩ = some (sl b W.length cap) ∧ w'.cell? ⟨w.heap.size, 1, none⟩ = some (.map (some bm)) ∧ w'.cell? ⟨fb, fq + i, none⟩ = some (.int .i64 (wd F i)) ∧ w'.cell? ⟨tb, tq + i, none⟩ = some (.int .i64 (wd T i))) (go_keep) (first | (go_at_call_of 18 (wd F i); refine (has_any W b cap bm _ _ hvr.drew).mono ?_; rw [hta]; rintro e w5 ⟨rfl, hb5⟩; have hq5 : Below wr.heap.size wr w5 := undrew' hb5; have k0 := through hq5 vd0 (by dsimp only; omega); have k1 := through hq5 vd1 (by dsimp only; omega); have k2 := through hq5 vd2 (by dsimp only; omega); have k3 := through hq5 vd3 (by dsimp only; omega); have kF := through hq5 hcF (by dsimp only; omega); have kT := through hq5 hcT (by dsimp only; omega); have kg2 := throughF hq5 vf2 (by dsimp only; omega); have kg3 := throughF hq5 vf3 (by dsimp only; omega); have hv5 := hvr.same hq5; have hz5 : w.heap.size + 1 < w5.heap.size := (by have := hq5.size; omega); have hlF5 : fb < w5.heap.size := (by have := hq5.size; omega); have hlT5 : tb < w5.heap.size := (by have := hq5.size; omega)) | (go_at_call_of 18 (wd T i); refine (has_any W b cap bm _ _ hv5).mono ?_; rw [htb]; rintro e w6 ⟨rfl, hb6⟩; have l0 := through hb6 k0 (by dsimp only; omega); have l1 := through hb6 k1 (by dsimp only; omega); have l2 := through hb6 k2 (by dsimp only; omega); have l3 := through hb6 k3 (by dsimp only; omega); have lF := through hb6 kF (by dsimp only; omega); have lT := through hb6 kT (by dsimp only; omega); have lg2 := throughF hb6 kg2 (by dsimp only; omega); have lg3 := throughF hb6 kg3 (by dsimp only; omega); have hz6 : w.heap.size + 1 < w6.heap.size := (by have := hb6.size; omega)))
            go_wp2_with fail
            go_roundw
            case rel => exact ⟨i + 1, by first | rfl | simp, by omega, H, (hB.trans (hq5.mono hB.size)).trans (hb6.mono (hB.trans (hq5.mono hB.size)).size)⟩
            case measure => simp [intOf]; omega
      · have he : i = F.length := by omega
        subst he
        have H : Hid (wf = (0, 0)) := by rw [← HW.out]; exact kinds_none HL.out HO.out
        go_wp2_with fail
        refine bodyPost_ret (v := .agg #[.int .i64 0, .int .i64 0]) (by simp [results, Try.results10, go_sem, vd2, vd3]) rfl ⟨by rw [H.out], ?_⟩
        repeat (first | refine Below.drew ?_ | refine Below.setCell ?_ (by dsimp only; omega) _ | exact hB0)
  · have H : Hid (kindsOf W F T = (1, 0)) := kinds_size hl
    have hne : ((F.length : Int) != (T.length : Int)) = true := by simp; omega
    clear hl
    go_enter Try.func10, Try.ntmps10
    go_wp2_with fail
    refine bodyPost_ret (v := .agg #[.int .i64 1, .int .i64 0]) (by simp [results, Try.results10, go_sem]) rfl ⟨by rw [H.out], ?_⟩
    exact ((Below.refl _ _).alloc (Nat.le_refl _) _).alloc (by simp) _
end Go.Proofs.Ytgggmdanpdggpac
