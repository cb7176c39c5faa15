/- gessoref3.Reach: marks tell what is reached. -/
import Derived.Test.YthdhaokjibfjdaaRefMarkX
import Derived.Test.YthdhaokjibfjdaaGn
import Derived.Deep.QuietTactic
namespace Go.Proofs.Ythdhaokjibfjdaa
open Go.RowKit

theorem ty4 : Try.prog.underlying 4 = some .bool := by kernel_rfl
theorem tyBools : Try.prog.underlying 42 = some (.slice 4) := by kernel_rfl
theorem info4 : (Try.prog.info? 4).map (fun i => (i.zero, i.size, i.bytes)) = some (some (.bool false), 1, 1) := by kernel_rfl

/-- Roots where they lie. -/
abbrev RootsAt (rad : Option Addr) (roots : List Int) (w : World) : Prop := 0 < roots.length → ∃ rb ro, rad = some ⟨rb, ro, none⟩ ∧ Row w rb ro roots
theorem RootsAt.below {rad : Option Addr} {roots : List Int} {w w' : World} (h : RootsAt rad roots w) (hb : Below w.heap.size w w') : RootsAt rad roots w' :=
  fun h0 => let ⟨rb, ro, e, r⟩ := h h0; ⟨rb, ro, e, r.same hb⟩

/-- What reach.Reach of the document says. -/
def ReachAns (W roots : List Int) (B0 : Nat) (e : Ending) (w : World) : Prop :=
  ∃ ob B, e = .returned (sl ob W.length W.length) ∧ B0 ≤ ob ∧ Marks w ob W.length W.length B ∧ ∀ k, bt B k = true ↔ Reached W roots (2 * (k : Int))

theorem take_snoc {xs : List Int} {i : Nat} (h : i < xs.length) : xs.take (i + 1) = xs.take i ++ [wd xs i] := by
  rw [List.take_add_one, List.getElem?_eq_getElem h]
  simp [wd, List.getElem?_eq_getElem h]
/-- Some of what a thing leads to. -/
def leadTo (W : List Int) (p j : Nat) : List Int := wd W p :: (W.drop (p + 3)).take j
theorem leadTo_zero (W : List Int) (p : Nat) : leadTo W p 0 = [] ++ [wd W p] := by simp [leadTo]
theorem leadTo_succ {W : List Int} {p j : Nat} (h : p + 3 + j < W.length) : leadTo W p (j + 1) = leadTo W p j ++ [wd W (p + 3 + j)] := by
  unfold leadTo
  have hd : j < (W.drop (p + 3)).length := by rw [List.length_drop]; omega
  rw [take_snoc hd]
  have : wd (W.drop (p + 3)) j = wd W (p + 3 + j) := by
    unfold wd; rw [List.getD_eq_getElem?_getD, List.getD_eq_getElem?_getD, List.getElem?_drop]
  rw [this]; rfl
theorem leadTo_plain {W : List Int} {p : Nat} (h : formAt W p = 0) : leadTo W p (slotsAt W p) = leadsAt W p := by unfold leadTo leadsAt; rw [if_pos h]
theorem leadTo_else {W : List Int} {p : Nat} (h : formAt W p ≠ 0) : leadTo W p 0 = leadsAt W p := by unfold leadTo leadsAt; rw [if_neg h]; simp
theorem lead_reached {W roots : List Int} {B : List Bool} {p : Nat} {o : Int} (hs : Sound W roots B) (hb : bt B p = true) (ho : o ∈ leadsAt W p) : thingB W o = true → Reached W roots o := fun ht =>
  .step (hs p hb) (by rw [show (2 * (p : Int) / 2).toNat = p by omega]; exact ho) ht
theorem class_lead (W : List Int) (p : Nat) : wd W p ∈ leadsAt W p := by simp [leadsAt]
theorem slot_lead {W : List Int} {p j : Nat} (h : formAt W p = 0) (hj : j < slotsAt W p) (hl : p + 3 + slotsAt W p ≤ W.length) : wd W (p + 3 + j) ∈ leadsAt W p := by
  unfold leadsAt
  rw [if_pos h]
  refine List.mem_cons_of_mem _ ?_
  have h1 : j < ((W.drop (p + 3)).take (slotsAt W p)).length := by rw [List.length_take, List.length_drop]; omega
  have : ((W.drop (p + 3)).take (slotsAt W p))[j] = wd W (p + 3 + j) := by
    unfold wd
    rw [List.getElem_take, List.getElem_drop, List.getD_eq_getElem?_getD, List.getElem?_eq_getElem (by omega)]; rfl
  rw [← this]; exact List.getElem_mem h1
theorem bt_false (n k : Nat) : bt (List.replicate n false) k = false := by
  unfold bt; rw [List.getD_eq_getElem?_getD, List.getElem?_replicate]; split <;> rfl
theorem sound_none (W roots : List Int) (n : Nat) : Sound W roots (List.replicate n false) := fun k hk => by rw [bt_false] at hk; cases hk

set_option maxHeartbeats 4000000 in
set_option maxRecDepth 100000 in
theorem rreach_wide (W roots : List Int) (b off cap : Nat) (rad : Option Addr) (rcap : Nat) (w : World) (hr : Row w b off W) (hroots : RootsAt rad roots w) (hu : unfit W 2 = none) (h2 : 2 ≤ W.length) (hl : W.length ≤ 2000) (hrl : roots.length ≤ 900000) :
    Calls Try.prog 15 #[.agg #[.slice (some ⟨b, off, none⟩) W.length cap], .slice rad roots.length rcap] w fun e w' => ReachAns W roots w.heap.size e w' ∧ Below w.heap.size w w' := by
  obtain ⟨i0, hi, hz0, hz1, hz2⟩ := info_parts info4
  have HR : Hid (RootsAt rad roots w) := hroots
  clear hroots
  go_enter Try.func15, Try.ntmps15
  go_wp2_with (at_make; refine wpList_make_full _ rfl _ _ 42 rfl (w.heap.size + 1) 4 i0 (.bool false) 1 tyBools hi hz0 hz1 _ _ _ _ W.length rfl rfl rfl rfl (by rw [hz2]; omega) (by unfold maxLen; omega) (by simp) ?_; intro w1 hown1 hgrow1)
  have hM1 : Marks w1 (w.heap.size + 1) W.length W.length (List.replicate W.length false) := by
    have := own_mono (Nat.zero_le _) hown1
    unfold Marks
    simpa [toList_madeCells_one, bvals, Value.cells] using this
  have hB1 : Below (w.heap.size + 1) (w.alloc (.cells #[.slice (some ⟨b, off, none⟩) W.length cap] 24)) w1 := (Below.refl _ _).grown hgrow1 (by simp) (fun k hk => by cases hk)
  clear hown1 hgrow1
  go_loopw [7] (fun s wr => ∃ (i : Nat) (B : List Bool), s = .int .i64 i ∧ i ≤ roots.length ∧ Marks wr (w.heap.size + 1) W.length W.length B ∧ Sound W roots B ∧ Has W B (roots.take i) ∧ Below (w.heap.size + 1) (w.alloc (.cells #[.slice (some ⟨b, off, none⟩) W.length cap] 24)) wr) (fun s _ => roots.length - (intOf s).toNat)
  case atStart => exact ⟨0, _, rfl, Nat.zero_le _, hM1, sound_none _ _ _, has_nil _ _, hB1⟩
  case round =>
    obtain ⟨i, B, rfl, hir, hM, hS, hH, hB⟩ := hrel
    have hlW := hr.lt
    have hrow := (hr.alloc (.cells #[.slice (some ⟨b, off, none⟩) W.length cap] 24)).below hB (by omega)
    by_cases hlt : i < roots.length
    · obtain ⟨rb, ro, hrad, hrr⟩ := HR.out (by omega)
      have hlR := hrr.lt
      have hcr := ((hrr.alloc (.cells #[.slice (some ⟨b, off, none⟩) W.length cap] 24)).below hB (by omega)).cell i hlt
      have hMl := hM.length
      subst hrad
      go_wp2_with (go_at_call 30; refine (mark_any W B b off cap (w.heap.size + 1) W.length _ _ hrow hu hl hM).mono ?_; rintro e w2 ⟨rfl, hM2, hb2, hs2⟩)
      go_roundw
      case rel => exact ⟨i + 1, _, by first | rfl | simp, by omega, hM2, hS.mark fun ht => .root (wd_mem hlt) ht, by rw [take_snoc hlt]; exact hH.snoc hMl, hB.trans hb2⟩
      case measure => simp [intOf]; omega
    · have hroot : Has W B roots := by have := hH; rwa [List.take_of_length_le (by omega)] at this
      have hbt : Between W roots B true 0 := ⟨hM.length, hS, hroot, fun _ => Nat.zero_le _, fun h => by cases h⟩
      clear hH hS hroot hrow
      go_wp2_with fail
      go_loopw [8, 9] (fun s8 s9 wr => ∃ (again : Bool) (r : Nat) (B : List Bool), s8 = .bool again ∧ s9 = .int .i64 r ∧ r ≤ W.length + 1 ∧ Marks wr (w.heap.size + 1) W.length W.length B ∧ Between W roots B again r ∧ Below (w.heap.size + 1) (w.alloc (.cells #[.slice (some ⟨b, off, none⟩) W.length cap] 24)) wr) (fun _ s9 _ => W.length + 1 - (intOf s9).toNat)
      case atStart => exact ⟨true, 0, B, rfl, rfl, by omega, hM, hbt, hB⟩
      case round =>
        clear hM hbt hB
        obtain ⟨again, r, B, rfl, rfl, hr1, hM, hbt, hB⟩ := hrel
        by_cases hgo : r ≤ W.length ∧ again = true
        · obtain ⟨hrW, rfl⟩ := hgo
          have hrWi : (r : Int) ≤ (W.length : Int) := by omega
          go_wp2_with fail
          go_loopw [8, 10] (fun s8 s10 wr => ∃ (ag : Bool) (p : Nat) (pre : List Nat) (Bn : List Bool), s8 = .bool ag ∧ s10 = .int .i64 p ∧ 2 ≤ p ∧ p ≤ 2100 ∧ unfit W p = none ∧ pre ++ places W p = places W 2 ∧ Marks wr (w.heap.size + 1) W.length W.length Bn ∧ Round W roots B Bn ag pre ∧ Below (w.heap.size + 1) (w.alloc (.cells #[.slice (some ⟨b, off, none⟩) W.length cap] 24)) wr) (fun _ s10 _ => 3000 - (intOf s10).toNat)
          case atStart => exact ⟨false, 2, [], B, rfl, rfl, by omega, by omega, hu, rfl, hM, hbt.start, hB⟩
          case round =>
            clear hM hB
            obtain ⟨ag, p, pre, Bn, rfl, rfl, hp2, hpl, hup, hpre, hMn, hRn, hBn⟩ := hrel
            have hrow := (hr.alloc (.cells #[.slice (some ⟨b, off, none⟩) W.length cap] 24)).below hBn (by omega)
            by_cases hin : p < W.length
            · obtain ⟨hf, hun⟩ := unfit_head hin hup
              have hfo := fits_out hf
              have hnn := next_num hfo.2.1
              have hge : p + 3 ≤ nextAt W p := by unfold nextAt; omega
              have hn : nextAt W p ≤ W.length := by unfold nextAt; omega
              have hcp := hrow.cell p (by omega)
              have hcp2 := hrow.cell (p + 2) (by omega)
              have hbc := hMn.cell hin
              have hob := own_lt hMn
              clear hf hup
              cases hb : bt Bn p with
              | false =>
                rw [hb] at hbc
                go_wp2_with fail
                go_roundw
                case rel => exact ⟨ag, nextAt W p, pre ++ [p], Bn, rfl, by first | rfl | simp, by omega, by omega, hun, by rw [← hpre, places_in hin]; simp, hMn, hRn.skip hb, hBn⟩
                case measure => simp [intOf]; omega
              | true =>
                rw [hb] at hbc
                have hlead := lead_reached hRn.sound hb (class_lead W p)
                have hmid0 : Midst W roots B Bn ag pre [] := ⟨hRn, has_nil _ _⟩
                have HM : Hid (Midst W roots B (markOf W Bn (wd W p)) (ag || newB W Bn (wd W p)) pre (leadTo W p 0)) := by rw [leadTo_zero]; exact hmid0.mark hlead
                have hbm : bt (markOf W Bn (wd W p)) p = true := mark_mono hb
                clear hlead hmid0 hRn
                cases ag
                all_goals
                  go_wp2_with (go_at_call 30; refine (mark_any W Bn b off cap (w.heap.size + 1) W.length _ _ hrow hu hl hMn).mono ?_; rintro e w4 ⟨rfl, hM4, hb4, hs4⟩)
                  go_loopw [8, 12] (fun s8 s12 wr => ∃ (ag : Bool) (k : Nat) (Bm : List Bool), s8 = .bool ag ∧ s12 = .int .i64 k ∧ p + 3 ≤ k ∧ k ≤ nextAt W p ∧ (formAt W p ≠ 0 → k = p + 3) ∧ Marks wr (w.heap.size + 1) W.length W.length Bm ∧ bt Bm p = true ∧ Midst W roots B Bm ag pre (leadTo W p (k - (p + 3))) ∧ Below (w.heap.size + 1) (w.alloc (.cells #[.slice (some ⟨b, off, none⟩) W.length cap] 24)) wr) (fun _ s12 _ => 3000 - (intOf s12).toNat)
                  case atStart => exact ⟨_, p + 3, _, rfl, by first | rfl | simp, by omega, by omega, fun _ => rfl, hM4, hbm, by rw [Nat.sub_self]; exact HM.out, hBn.trans (hb4.mono (by omega))⟩
                  case round =>
                    clear hrow hcp hcp2 hbc hM4 hb4 hMn hBn HM hbm
                    obtain ⟨ag, k, Bm, rfl, rfl, hk1, hk2, hkf, hMm, hbp, hmid, hBm⟩ := hrel
                    have hrow := (hr.alloc (.cells #[.slice (some ⟨b, off, none⟩) W.length cap] 24)).below hBm (by omega)
                    have hcp2 := hrow.cell (p + 2) (by omega)
                    have hnx : nextAt W p = p + 3 + slotsAt W p := rfl
                    by_cases hgo : k < nextAt W p ∧ formAt W p = 0
                    · obtain ⟨hkn, hform⟩ := hgo
                      have hkni : (k : Int) < (p : Int) + 3 + wd W (p + 2) / 4 := by rw [hnn]; omega
                      have heb : (wd W (p + 2) % 4 == 0) = true := by unfold formAt at hform; simp [hform]
                      have hck := hrow.cell k (by omega)
                      have hlead : thingB W (wd W k) = true → Reached W roots (wd W k) := by
                        have := lead_reached hmid.round.sound hbp (slot_lead (j := k - (p + 3)) hform (by omega) (by omega))
                        rwa [show p + 3 + (k - (p + 3)) = k by omega] at this
                      have HM2 : Hid (Midst W roots B (markOf W Bm (wd W k)) (ag || newB W Bm (wd W k)) pre (leadTo W p (k + 1 - (p + 3)))) := by
                        have := hmid.mark hlead
                        have e := leadTo_succ (W := W) (p := p) (j := k - (p + 3)) (by omega)
                        rw [show p + 3 + (k - (p + 3)) = k by omega, show k - (p + 3) + 1 = k + 1 - (p + 3) by omega] at e
                        rw [← e] at this
                        exact this
                      have hbm : bt (markOf W Bm (wd W k)) p = true := mark_mono hbp
                      have HF : Hid (formAt W p = 0) := hform
                      clear hlead hmid hbp hkf hform
                      cases ag
                      all_goals
                        go_wp2_with (go_at_call 30; refine (mark_any W Bm b off cap (w.heap.size + 1) W.length _ _ hrow hu hl hMm).mono ?_; rintro e w5 ⟨rfl, hM5, hb5, hs5⟩)
                        go_roundw
                        case rel => exact ⟨_, k + 1, _, rfl, by first | rfl | simp, by omega, by omega, fun h => absurd HF.out h, hM5, hbm, HM2.out, hBm.trans (hb5.mono (by omega))⟩
                        case measure => simp [intOf]; omega
                    · have HL : Hid (Midst W roots B Bm ag pre (leadsAt W p)) := by
                        by_cases hform : formAt W p = 0
                        · have hk : k - (p + 3) = slotsAt W p := by
                            have : ¬ k < nextAt W p := fun h => hgo ⟨h, hform⟩
                            omega
                          rw [hk, leadTo_plain hform] at hmid; exact hmid
                        · have hk : k - (p + 3) = 0 := by have := hkf hform; omega
                          rw [hk, leadTo_else hform] at hmid; exact hmid
                      have hways : ¬ ((k : Int) < (p : Int) + 3 + wd W (p + 2) / 4) ∨ ((k : Int) < (p : Int) + 3 + wd W (p + 2) / 4 ∧ (wd W (p + 2) % 4 == 0) = false) := by
                        by_cases hkn : k < nextAt W p
                        · refine Or.inr ⟨by rw [hnn]; omega, ?_⟩
                          have hform : formAt W p ≠ 0 := fun h => hgo ⟨hkn, h⟩
                          unfold formAt at hform; simpa using hform
                        · exact Or.inl (by rw [hnn]; omega)
                      clear hgo hmid hkf hbp
                      rcases hways with hw1 | ⟨hw1, hw2⟩
                      all_goals
                        go_wp2_with fail
                        go_roundw
                        case rel => exact ⟨ag, nextAt W p, pre ++ [p], Bm, rfl, by first | rfl | simp, by omega, by omega, hun, by rw [← hpre, places_in hin]; simp, hMm, HL.out.close, hBm⟩
                        case measure => simp [intOf]; omega
            · have hfin : pre = places W 2 := by rw [← hpre, places_end hin, List.append_nil]
              subst hfin
              go_wp2_with fail
              go_roundw
              case rel => exact ⟨ag, r + 1, Bn, rfl, by first | rfl | simp, by omega, hMn, hbt.next hRn, hBn⟩
              case measure => simp [intOf]; omega
        · have HT : Hid (∀ k, bt B k = true ↔ Reached W roots (2 * (k : Int))) := hbt.tells hgo
          have hways : ¬ ((r : Int) ≤ (W.length : Int)) ∨ ((r : Int) ≤ (W.length : Int) ∧ again = false) := by
            by_cases hle : r ≤ W.length
            · refine Or.inr ⟨by omega, ?_⟩
              cases again with
              | false => rfl
              | true => exact absurd ⟨hle, rfl⟩ hgo
            · exact Or.inl (by omega)
          clear hbt hgo
          rcases hways with hw1 | ⟨hw1, rfl⟩
          all_goals
            go_wp2_with fail
            go_ret
            exact ⟨⟨w.heap.size + 1, B, rfl, by omega, hM, HT.out⟩, ((Below.refl _ _).alloc (Nat.le_refl _) _).trans (hB.mono (by omega))⟩

theorem rreach_any (W roots : List Int) (b off cap : Nat) (rad : Option Addr) (rcap : Nat) (w : World) (hr : Row w b off W) (hroots : RootsAt rad roots w) (hu : unfit W 2 = none) (h2 : 2 ≤ W.length) (hl : W.length ≤ 2000) (hrl : roots.length ≤ 5000) :
    Calls Try.prog 15 #[.agg #[.slice (some ⟨b, off, none⟩) W.length cap], .slice rad roots.length rcap] w fun e w' => ReachAns W roots w.heap.size e w' ∧ Below w.heap.size w w' :=
  rreach_wide W roots b off cap rad rcap w hr hroots hu h2 hl (by omega)
end Go.Proofs.Ythdhaokjibfjdaa
