/- gessoref3.Wrong: what stands against two lists, as the document says. -/
import Derived.Test.YtgggmdanpdggpabRefReach
import Derived.Test.YtgggmdanpdggpabRefLoop
import Derived.Test.YtgggmdanpdggpabSee2
import Derived.Test.YtgggmdanpdggpabBecomePlain
import Derived.BigQuiet
namespace Go.Proofs.Ytgggmdanpdggpab
open Go.RowKit

/-- Some pair of the first k is not new against a and b. -/
def anyTo (both : Bool) (F T : List Int) (a b : Int) (k : Nat) : Bool := (both && a == b) || ((F.zip T).take k).any fun q => q.1 == a || (both && (q.1 == b || q.2 == a || q.2 == b))
theorem any_zero (both : Bool) (F T : List Int) (a b : Int) : anyTo both F T a b 0 = (both && a == b) := by unfold anyTo; simp
theorem any_next {both : Bool} {F T : List Int} {a b : Int} {k : Nat} (hl : F.length = T.length) (hk : k < F.length) : anyTo both F T a b (k + 1) = (anyTo both F T a b k || (wd F k == a || (both && (wd F k == b || wd T k == a || wd T k == b)))) := by
  unfold anyTo; rw [zip_snoc hl hk, List.any_append]; simp [Bool.or_assoc]
theorem any_end (both : Bool) (F T : List Int) (i : Nat) : anyTo both F T (wd F i) (wd T i) i = twAt both F T i := rfl

set_option maxRecDepth 100000 in
set_option maxHeartbeats 8000000 in
theorem rwrong_any (W F T : List Int) (b off cap : Nat) (fad tad : Option Addr) (fc tc : Nat) (both : Bool) (w : World) (hr : Row w b off W) (hu : unfit W 2 = none) (hlW : W.length ≤ 2000) (hF : RootsAt fad F w) (hT : RootsAt tad T w) (hn : F.length ≤ 5000) :
    Calls Try.prog 23 #[heapV (some ⟨b, off, none⟩) W.length cap, .slice fad F.length fc, .slice tad T.length tc, .bool both] w fun e w' => e = .returned (.agg #[.int .i64 (wrongOf W F T both).1, .int .i64 (wrongOf W F T both).2]) ∧ Below w.heap.size w w' := by
  have HF : Hid (RootsAt fad F w) := hF
  have HT : Hid (RootsAt tad T w) := hT
  have HR : Hid (Row w b off W) := hr
  clear hF hT hr
  by_cases hl : F.length = T.length
  · have HL : Hid (F.length = T.length) := hl
    have hne : ((F.length : Int) != (T.length : Int)) = false := by simp; omega
    have hrow := ((HR.out.alloc (.cells #[.slice (some ⟨b, off, none⟩) W.length cap] 24)).alloc (.cells #[.int .i64 0, .int .i64 0] 28))
    have hbel : Hid (∀ n, Below w.heap.size w (((w.alloc (.cells #[.slice (some ⟨b, off, none⟩) W.length cap] 24)).alloc (.cells #[.int .i64 0, .int .i64 0] 28)).drewN n)) := fun n => below_drewN (((Below.refl _ _).alloc (Nat.le_refl _) _).alloc (by simp) _) n
    clear hl
    generalize hWf : wrongOf W F T both = wf
    have HW : Hid (wrongOf W F T both = wf) := hWf
    clear hWf
    go_enter Try.func23, Try.ntmps23
    go_wp2_with fail
    go_loopw [9] (fun s9 wr => ∃ (i n : Nat), s9 = .int .i64 i ∧ i ≤ F.length ∧ Hid (∀ j, j < i → oddAt W F T j = false) ∧ wr = ((w.alloc (.cells #[.slice (some ⟨b, off, none⟩) W.length cap] 24)).alloc (.cells #[.int .i64 0, .int .i64 0] 28)).drewN n) (fun s9 _ => F.length - (intOf s9).toNat)
    case atStart => exact ⟨0, 0, rfl, Nat.zero_le _, fun j hj => by omega, rfl⟩
    case round =>
      obtain ⟨i, n, rfl, hi, HO, rfl⟩ := hrel
      by_cases hlt : i < F.length
      · obtain ⟨fb, fq, hfad, hrF⟩ := HF.out (by omega)
        obtain ⟨tb, tq, htad, hrT⟩ := HT.out (by rw [← HL.out]; omega)
        subst hfad htad
        have hcF := hrF.cell i hlt
        have hcT := hrT.cell i (by rw [← HL.out]; exact hlt)
        have hii : (i : Int) < (F.length : Int) := by omega
        have hit : (i : Int) < (T.length : Int) := by rw [← HL.out]; exact hii
        have hlF := hrF.lt
        have hlT := hrT.lt
        clear hrF hrT
        cases hta : thingB W (wd F i) with
        | false =>
          have H : Hid (wf = (3, (i : Int))) := by rw [← HW.out]; exact wrong_kind HL.out hlt (by unfold oddAt; rw [hta]; rfl) HO.out
          go_wp2_with fail
          go_quiet ((go_at_call 40; exact quiet_same (rthing_any W b off cap _ _ (hrow.drewN _) hu hlW)))
          go_wp2_with fail
          go_quiet ((go_at_call 40; exact quiet_same (rthing_any W b off cap _ _ (hrow.drewN _) hu hlW)))
          go_wp2_with fail
          refine bodyPost_ret (v := .agg #[.int .i64 3, .int .i64 (i : Nat)]) (by simp [results, Try.results23, go_sem]) rfl ⟨by rw [H.out], ?_⟩
          repeat (first | refine Below.setCell ?_ (by dsimp only; omega) _ | exact hbel.out _)
        | true =>
          cases htb : thingB W (wd T i) with
          | false =>
            have H : Hid (wf = (3, (i : Int))) := by rw [← HW.out]; exact wrong_kind HL.out hlt (by unfold oddAt; rw [hta, htb]; rfl) HO.out
            go_wp2_with fail
            go_quiet ((go_at_call 40; exact quiet_same (rthing_any W b off cap _ _ (hrow.drewN _) hu hlW)))
            go_wp2_with fail
            go_quiet ((go_at_call 40; exact quiet_same (rthing_any W b off cap _ _ (hrow.drewN _) hu hlW)))
            go_wp2_with fail
            refine bodyPost_ret (v := .agg #[.int .i64 3, .int .i64 (i : Nat)]) (by simp [results, Try.results23, go_sem]) rfl ⟨by rw [H.out], ?_⟩
            repeat (first | refine Below.setCell ?_ (by dsimp only; omega) _ | exact hbel.out _)
          | true =>
            have H : Hid (∀ j, j < i + 1 → oddAt W F T j = false) := fun j hj => by
              by_cases e : j = i
              · rw [e]; unfold oddAt; rw [hta, htb]; rfl
              · exact HO.out j (by omega)
            go_wp2_with fail
            go_quiet ((go_at_call 40; exact quiet_same (rthing_any W b off cap _ _ (hrow.drewN _) hu hlW)))
            go_wp2_with fail
            go_quiet ((go_at_call 40; exact quiet_same (rthing_any W b off cap _ _ (hrow.drewN _) hu hlW)))
            go_wp2_with fail
            go_roundw
            case rel => exact ⟨i + 1, _, by first | rfl | simp, by omega, H, rfl⟩
            case measure => simp [intOf]; omega
      · have he : i = F.length := by omega
        subst he
        go_wp2_with fail
        go_loopw [12] (fun s12 wr => ∃ (i n : Nat), s12 = .int .i64 i ∧ i ≤ F.length ∧ Hid (∀ j, j < i → twAt both F T j = false) ∧ wr = ((w.alloc (.cells #[.slice (some ⟨b, off, none⟩) W.length cap] 24)).alloc (.cells #[.int .i64 0, .int .i64 0] 28)).drewN n) (fun s12 _ => F.length - (intOf s12).toNat)
        case atStart => exact ⟨0, n, rfl, Nat.zero_le _, fun j hj => by omega, rfl⟩
        case round =>
          obtain ⟨i, n, rfl, hi, HN, rfl⟩ := hrel
          by_cases hlt : i < F.length
          · obtain ⟨fb, fq, hfad, hrF⟩ := HF.out (by omega)
            obtain ⟨tb, tq, htad, hrT⟩ := HT.out (by rw [← HL.out]; omega)
            subst hfad htad
            have HrF : Hid (Row w fb fq F) := hrF
            have HrT : Hid (Row w tb tq T) := hrT
            have hii : (i : Int) < (F.length : Int) := by omega
            have hit : (i : Int) < (T.length : Int) := by rw [← HL.out]; exact hii
            have hlF := hrF.lt
            have hlT := hrT.lt
            clear hrF hrT
            go_upto_region 13 with fail
            go_cut [13] from 49 to 122 (fun s13 wr => ∃ m, s13 = .bool (both && wd F i == wd T i) ∧ wr = ((w.alloc (.cells #[.slice (some ⟨b, off, none⟩) W.length cap] 24)).alloc (.cells #[.int .i64 0, .int .i64 0] 28)).drewN m)
            case first =>
              have hcF := HrF.out.cell i hlt
              have hcT := HrT.out.cell i (by rw [← HL.out]; exact hlt)
              cases both with
              | false =>
                go_quiet (fail)
                go_wp2_with fail
                go_meet
                case rel => exact ⟨_, rfl, World.drewN_drewN _ _ _⟩
              | true =>
                go_quiet (fail)
                go_wp2_with fail
                go_meet
                case rel => exact ⟨_, by simp, World.drewN_drewN _ _ _⟩
            case rest =>
              obtain ⟨m0, rfl, rfl⟩ := hcut
              go_wp2_with fail
              go_loopw [13, 14] (fun s13 s14 wr => ∃ (t : Bool) (k n : Nat), s13 = .bool t ∧ s14 = .int .i64 k ∧ k ≤ i ∧ Hid (anyTo both F T (wd F i) (wd T i) k = t) ∧ wr = ((w.alloc (.cells #[.slice (some ⟨b, off, none⟩) W.length cap] 24)).alloc (.cells #[.int .i64 0, .int .i64 0] 28)).drewN n) (fun _ s14 _ => i - (intOf s14).toNat)
              case atStart => exact ⟨_, 0, m0, rfl, rfl, Nat.zero_le _, any_zero both F T _ _, rfl⟩
              case round =>
                obtain ⟨t, k, n2, rfl, rfl, hk, HT0, rfl⟩ := hrel
                by_cases hki : k < i
                · have hcF := HrF.out.cell i hlt
                  have hcT := HrT.out.cell i (by rw [← HL.out]; exact hlt)
                  have hdF := HrF.out.cell k (by omega)
                  have hdT := HrT.out.cell k (by rw [← HL.out]; omega)
                  have hkF : (k : Int) < (F.length : Int) := by omega
                  have hkT : (k : Int) < (T.length : Int) := by rw [← HL.out]; exact hkF
                  have hkk : (k : Int) < (i : Int) := by omega
                  cases t with
                  | true =>
                    have H : Hid (anyTo both F T (wd F i) (wd T i) (k + 1) = true) := by rw [any_next HL.out (by omega), HT0.out, Bool.true_or]; exact rfl
                    clear HT0
                    go_wp2_with fail
                    go_quiet (fail)
                    go_wp2_with fail
                    go_roundw
                    case rel => exact ⟨true, k + 1, _, rfl, by first | rfl | simp, by omega, H, by first | rfl | exact World.drewN_drewN _ _ _⟩
                    case measure => simp [intOf]; omega
                  | false =>
                    cases e1 : (wd F k == wd F i) with
                    | true =>
                      have H : Hid (anyTo both F T (wd F i) (wd T i) (k + 1) = true) := by rw [any_next HL.out (by omega), HT0.out, e1]; rfl
                      clear HT0
                      go_wp2_with fail
                      go_quiet (fail)
                      go_wp2_with fail
                      go_roundw
                      case rel => exact ⟨true, k + 1, _, rfl, by first | rfl | simp, by omega, H, by first | rfl | exact World.drewN_drewN _ _ _⟩
                      case measure => simp [intOf]; omega
                    | false =>
                      cases both with
                      | false =>
                        have H : Hid (anyTo false F T (wd F i) (wd T i) (k + 1) = false) := by rw [any_next HL.out (by omega), HT0.out, e1]; rfl
                        clear HT0
                        go_wp2_with fail
                        go_quiet (fail)
                        go_wp2_with fail
                        go_roundw
                        case rel => exact ⟨false, k + 1, _, rfl, by first | rfl | simp, by omega, H, by first | rfl | exact World.drewN_drewN _ _ _⟩
                        case measure => simp [intOf]; omega
                      | true =>
                        cases e2 : (wd F k == wd T i) with
                        | true =>
                          have H : Hid (anyTo true F T (wd F i) (wd T i) (k + 1) = true) := by rw [any_next HL.out (by omega), HT0.out, e1, e2]; rfl
                          clear HT0
                          go_wp2_with fail
                          go_quiet (fail)
                          go_wp2_with fail
                          go_roundw
                          case rel => exact ⟨true, k + 1, _, rfl, by first | rfl | simp, by omega, H, by first | rfl | exact World.drewN_drewN _ _ _⟩
                          case measure => simp [intOf]; omega
                        | false =>
                          cases e3 : (wd T k == wd F i) with
                          | true =>
                            have H : Hid (anyTo true F T (wd F i) (wd T i) (k + 1) = true) := by rw [any_next HL.out (by omega), HT0.out, e1, e2, e3]; rfl
                            clear HT0
                            go_wp2_with fail
                            go_quiet (fail)
                            go_wp2_with fail
                            go_roundw
                            case rel => exact ⟨true, k + 1, _, rfl, by first | rfl | simp, by omega, H, by first | rfl | exact World.drewN_drewN _ _ _⟩
                            case measure => simp [intOf]; omega
                          | false =>
                            cases e4 : (wd T k == wd T i) with
                            | true =>
                              have H : Hid (anyTo true F T (wd F i) (wd T i) (k + 1) = true) := by rw [any_next HL.out (by omega), HT0.out, e1, e2, e3, e4]; rfl
                              clear HT0
                              go_wp2_with fail
                              go_quiet (fail)
                              go_wp2_with fail
                              go_roundw
                              case rel => exact ⟨true, k + 1, _, rfl, by first | rfl | simp, by omega, H, by first | rfl | exact World.drewN_drewN _ _ _⟩
                              case measure => simp [intOf]; omega
                            | false =>
                              have H : Hid (anyTo true F T (wd F i) (wd T i) (k + 1) = false) := by rw [any_next HL.out (by omega), HT0.out, e1, e2, e3, e4]; rfl
                              clear HT0
                              go_wp2_with fail
                              go_quiet (fail)
                              go_wp2_with fail
                              go_roundw
                              case rel => exact ⟨false, k + 1, _, rfl, by first | rfl | simp, by omega, H, by first | rfl | exact World.drewN_drewN _ _ _⟩
                              case measure => simp [intOf]; omega
                · have hke : k = i := by omega
                  subst hke
                  cases t with
                  | true =>
                    have H : Hid (wf = (5, (k : Int))) := by rw [← HW.out]; exact wrong_twice HL.out HO.out hlt HT0.out HN.out
                    go_wp2_with fail
                    refine bodyPost_ret (v := .agg #[.int .i64 5, .int .i64 (k : Nat)]) (by simp [results, Try.results23, go_sem]) rfl ⟨by rw [H.out], ?_⟩
                    repeat (first | refine Below.setCell ?_ (by dsimp only; omega) _ | exact hbel.out _)
                  | false =>
                    have H : Hid (∀ j, j < k + 1 → twAt both F T j = false) := fun j hj => by
                      by_cases e : j = k
                      · rw [e]; exact HT0.out
                      · exact HN.out j (by omega)
                    go_wp2_with fail
                    go_roundw
                    case rel => exact ⟨k + 1, _, by first | rfl | simp, by omega, H, rfl⟩
                    case measure => simp [intOf]; omega
          · have he : i = F.length := by omega
            subst he
            have H : Hid (wf = (0, 0)) := by rw [← HW.out]; exact wrong_none HL.out HO.out HN.out
            go_wp2_with fail
            refine bodyPost_ret (v := .agg #[.int .i64 0, .int .i64 0]) (by simp [results, Try.results23, go_sem]) rfl ⟨by rw [H.out], ?_⟩
            repeat (first | refine Below.setCell ?_ (by dsimp only; omega) _ | exact hbel.out _)
  · have H : Hid (wrongOf W F T both = (1, 0)) := wrong_size hl
    have hne : ((F.length : Int) != (T.length : Int)) = true := by simp; omega
    clear hl
    go_enter Try.func23, Try.ntmps23
    go_wp2_with fail
    refine bodyPost_ret (v := .agg #[.int .i64 1, .int .i64 0]) (by simp [results, Try.results23, go_sem]) rfl ⟨by rw [H.out], ?_⟩
    exact ((Below.refl _ _).alloc (Nat.le_refl _) _).alloc (by simp) _
end Go.Proofs.Ytgggmdanpdggpab
