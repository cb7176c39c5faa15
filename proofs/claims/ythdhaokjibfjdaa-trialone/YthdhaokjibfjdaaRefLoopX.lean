/- What gessoref2.Check answers where the words ahead are right. -/
import Derived.Test.YthdhaokjibfjdaaRefCheckX
import Derived.Deep.CutRange
import Derived.Deep.DeepCutAuto
import Derived.WalkSmall
namespace Go.Proofs.Ythdhaokjibfjdaa
open Go.RowKit

theorem unfit_cases {W : List Int} {p : Nat} (hf : fitsB W p = false) :
    ((W.length : Int) < (p : Int) + 3) ∨ (((p : Int) + 3 ≤ (W.length : Int)) ∧ wd W (p + 2) < 0) ∨ (((p : Int) + 3 ≤ (W.length : Int)) ∧ 0 ≤ wd W (p + 2) ∧ 2 < wd W (p + 2) % 4) ∨
    (((p : Int) + 3 ≤ (W.length : Int)) ∧ 0 ≤ wd W (p + 2) ∧ wd W (p + 2) % 4 ≤ 2 ∧ 60 < wd W (p + 2) / 4) ∨
    (((p : Int) + 3 ≤ (W.length : Int)) ∧ 0 ≤ wd W (p + 2) ∧ wd W (p + 2) % 4 ≤ 2 ∧ wd W (p + 2) / 4 ≤ 60 ∧ (W.length : Int) < (p : Int) + 3 + wd W (p + 2) / 4) := by
  have h := fits_not hf
  unfold slotsAt at h
  omega

/-- The hashes of the things at those places. -/
def hashes (W : List Int) (ps : List Nat) : List Int := ps.map (fun q => wd W (q + 1))
theorem hashes_snoc (W : List Int) (ps : List Nat) (p : Nat) : hashes W (ps ++ [p]) = hashes W ps ++ [wd W (p + 1)] := by simp [hashes]
theorem hash_bool {W : List Int} {p : Nat} (h : 1 ≤ wd W (p + 1)) : decide (wd W 1 ≤ wd W (p + 1)) = decide (wd W (p + 1) < 1 ∨ wd W 1 ≤ wd W (p + 1)) := by
  have : ¬ wd W (p + 1) < 1 := by omega
  simp [this]
theorem tw_step {W : List Int} {t0 : Bool} {p q : Nat} {pre1 : List Nat} :
    (t0 || (hashes W (pre1 ++ [q])).contains (wd W (p + 1))) = ((t0 || (hashes W pre1).contains (wd W (p + 1))) || (wd W (q + 1) == wd W (p + 1))) := by
  rw [hashes_snoc, Bool.or_assoc, List.contains_append, BEq.comm (a := wd W (q + 1))]
  simp only [List.contains_cons, List.contains_nil, Bool.or_false]
theorem twice_step {W : List Int} {p q : Nat} {pre2 : List Nat} (hin : p < W.length) (hqp : q < p) (h : pre2 ++ places W p = places W q) :
    ∃ r, pre2 = q :: r ∧ r ++ places W p = places W (nextAt W q) ∧ q < W.length := by
  have hq : q < W.length := by omega
  rw [places_in hq] at h
  cases pre2 with
  | nil => rw [List.nil_append, places_in hin] at h; simp at h; omega
  | cons x r => simp at h; exact ⟨r, by rw [h.1], h.2, hq⟩
theorem twice_end {W : List Int} {p q : Nat} {pre2 : List Nat} (hin : p < W.length) (hqp : ¬ q < p) (h : pre2 ++ places W p = places W q) : pre2 = [] := by
  have hm : p ∈ places W q := by rw [← h, places_in hin]; simp
  have hge := place_ge hm
  have e : q = p := by omega
  subst e
  cases pre2 with
  | nil => rfl
  | cons x r =>
    have := congrArg List.length h
    simp at this
    omega
theorem Row.drewN {w : World} {b off : Nat} {xs : List Int} (h : Row w b off xs) (n : Nat) : Row (w.drewN n) b off xs :=
  h.same (below_drewN (Below.refl _ _) n)

/-- A callee that draws nothing, in a world that has drawn already. -/
theorem quiet_same {P : Program} {f : FuncId} {args : Array Value} {w : World} {n m : Nat} {v : Value}
    (h : Calls P f args (w.drewN (n + m)) fun e w' => e = .returned v ∧ w' = w.drewN (n + m)) : Calls P f args (w.drewN (n + m)) fun e w'' => e = .returned v ∧ ∃ m', w'' = w.drewN (n + m') :=
  h.mono fun _ _ ⟨he, hm⟩ => ⟨he, m, hm⟩

set_option maxRecDepth 100000 in
set_option maxHeartbeats 8000000 in
theorem rcheck_fit (W : List Int) (b off cap : Nat) (w : World) (hr : Row w b off W) (h : (frontOf W).1 = 0) :
    Calls Try.prog 27 #[.agg #[.slice (some ⟨b, off, none⟩) W.length cap]] w fun e w' => e = .returned (faultV (checkOf W)) ∧ Below w.heap.size w w' := by
  obtain ⟨h2, hl, h0, h1, h1'⟩ := front_out h
  have hlt := hr.lt
  have c0 := hr.cell 0 (by omega)
  have c1 := hr.cell 1 (by omega)
  rw [Nat.add_zero] at c0
  go_enter Try.func27, Try.ntmps27
  go_wp2
  go_loop [4] (fun i => ∃ p : Nat, i = .int .i64 p ∧ 2 ≤ p ∧ p ≤ 2100 ∧ Hid (unfit W p = unfit W 2)) (fun i => 3000 - (intOf i).toNat)
  case atStart => exact ⟨2, rfl, by omega, by omega, rfl⟩
  case round =>
    obtain ⟨p, rfl, hp2, hpl, hc⟩ := hrel
    by_cases hin : p < W.length
    · cases hf : fitsB W p with
      | true =>
        have hfo := fits_out hf
        have hcell := hr.cell (p + 2) (by omega)
        have hnn := next_num hfo.2.1
        have hn : nextAt W p ≤ W.length := by unfold nextAt; omega
        have hge : p + 3 ≤ nextAt W p := by unfold nextAt; omega
        have hu := unfit_in hin hf
        have Hu : Hid (unfit W (nextAt W p) = unfit W 2) := hu.symm.trans hc
        have hsl : (p : Int) + 3 + wd W (p + 2) / 4 ≤ (W.length : Int) := by rw [hnn]; omega
        clear hf hu hc
        go_wp2
        go_round
        case rel => exact ⟨nextAt W p, by first | rfl | simp, by omega, by omega, Hu⟩
        case measure => simp [intOf]; omega
      | false =>
        have Hu : Hid (checkOf W = (2, (p : Int))) := check_unfit h (hc.out.symm.trans (unfit_no hin hf))
        rcases unfit_cases hf with hx | hx | hx | hx | hx
        · clear hf hc
          go_wp2
          exact bodyPost_ret (v := faultV (2, p)) (by simp [results, Try.results27, go_sem]) rfl ⟨by rw [Hu.out], ((Below.refl _ _).alloc (Nat.le_refl _) _).alloc (by simp) _⟩
        all_goals
          have hcell := hr.cell (p + 2) (by omega)
          have hub := hr.ub (p + 2)
          clear hf hc
          go_wp2
          exact bodyPost_ret (v := faultV (2, p)) (by simp [results, Try.results27, go_sem]) rfl ⟨by rw [Hu.out], ((Below.refl _ _).alloc (Nat.le_refl _) _).alloc (by simp) _⟩
    · have hu : unfit W 2 = none := hc.out.symm.trans (unfit_end hin)
      clear hc
      go_wp2
      go_loopw [5] (fun i wr => ∃ (p : Nat) (pre : List Nat) (n : Nat), i = .int .i64 p ∧ 2 ≤ p ∧ p ≤ 2100 ∧ unfit W p = none ∧ pre ++ places W p = places W 2 ∧ Hid (checkOf W = faultOf W (hashes W pre) (places W p)) ∧ wr = ((w.alloc (Obj.cells #[Value.slice (some { block := b, off := off }) W.length cap] 24)).alloc (Obj.cells #[Value.int IntKind.i64 0, Value.int IntKind.i64 0] 33)).drewN n) (fun i _ => 3000 - (intOf i).toNat)
      case atStart => exact ⟨2, [], 0, rfl, by omega, by omega, hu, rfl, check_things h hu, rfl⟩
      case round =>
        obtain ⟨p, pre, n, rfl, hp2, hpl, hup, hpre, hck, rfl⟩ := hrel
        by_cases hin : p < W.length
        · obtain ⟨hf, hun⟩ := unfit_head hin hup
          have hfo := fits_out hf
          have hcp := hr.cell p (by omega)
          have hcp1 := hr.cell (p + 1) (by omega)
          have hcp2 := hr.cell (p + 2) (by omega)
          have hr2 : Row (((w.alloc (Obj.cells #[Value.slice (some { block := b, off := off }) W.length cap] 24)).alloc (Obj.cells #[Value.int IntKind.i64 0, Value.int IntKind.i64 0] 33)).drewN n) b off W := ((hr.alloc _).alloc _).drewN n
          rw [places_in hin] at hck
          cases hnil : nilB W (wd W p) with
          | false =>
            have H : Hid (checkOf W = (3, (p : Int))) := by have := hck.out; rw [fault_kind hnil] at this; exact this
            have hz : wd W p ≠ 0 := fun e => by rw [e] at hnil; cases hnil
            have hth : thingB W (wd W p) = false := by rw [← nil_else hz]; exact hnil
            have hb : (wd W p != 0) = true := by simpa using hz
            clear hck hnil hz hf hun hup hpre
            go_wp2_with (first | (go_at_call 53; refine (rthing_any W b off cap _ _ hr2 hu hl).mono ?_; rintro e w' ⟨rfl, rfl⟩))
            exact bodyPost_ret (v := faultV (3, p)) (by simp [results, Try.results27, go_sem]) rfl ⟨by rw [H.out], ((below_drewN (((Below.refl _ _).alloc (Nat.le_refl _) _).alloc (by simp) _) n).setCell (by simp) _).setCell (by simp) _⟩
          | true =>
            have hways : (wd W p != 0) = false ∨ ((wd W p != 0) = true ∧ thingB W (wd W p) = true) := by
              by_cases hz : wd W p = 0
              · exact Or.inl (by simp [hz])
              · exact Or.inr ⟨by simpa using hz, by rw [← nil_else hz]; exact hnil⟩
            have hub1 := hr.ub (p + 1)
            have hlb1 := hr.lb (p + 1)
            rcases hways with hb | ⟨hb, hth⟩
            all_goals
              go_upto_region 19 with (first | (go_at_call 53; refine (rthing_any W b off cap _ _ hr2 hu hl).mono ?_; rintro e w' ⟨rfl, rfl⟩))
              go_cut [7] from 98 to 204 (fun s7 wx => ∃ (t0 : Bool) (n1 : Nat), s7 = .bool t0 ∧ Hid (t0 = decide (wd W (p + 1) < 1 ∨ wd W 1 ≤ wd W (p + 1))) ∧ wx = ((w.alloc (Obj.cells #[Value.slice (some { block := b, off := off }) W.length cap] 24)).alloc (Obj.cells #[Value.int IntKind.i64 0, Value.int IntKind.i64 0] 33)).drewN n1)
              case first =>
                by_cases hh : wd W (p + 1) < 1
                · go_quiet (fail)
                  go_wp2_with fail
                  go_meet
                  case rel => exact ⟨_, _, rfl, (by rw [decide_eq_true (Or.inl hh)] : true = _), World.drewN_drewN _ _ _⟩
                · have hd : decide (wd W (p + 1) < 1) = false := by simpa using hh
                  go_quiet (fail)
                  go_wp2_with fail
                  go_meet
                  case rel => exact ⟨_, _, rfl, hash_bool hh, rfl⟩
              case rest =>
                obtain ⟨t0, n1, rfl, ht0, rfl⟩ := hcut
                go_wp2_with fail
                go_loopw [7, 8] (fun t s wr => ∃ (tw : Bool) (q n2 : Nat) (pre1 pre2 : List Nat), t = .bool tw ∧ s = .int .i64 q ∧ 2 ≤ q ∧ q ≤ 2100 ∧ unfit W q = none ∧ pre1 ++ pre2 = pre ∧ pre2 ++ places W p = places W q ∧ Hid (tw = (t0 || (hashes W pre1).contains (wd W (p + 1)))) ∧ wr = ((w.alloc (Obj.cells #[Value.slice (some { block := b, off := off }) W.length cap] 24)).alloc (Obj.cells #[Value.int IntKind.i64 0, Value.int IntKind.i64 0] 33)).drewN n2) (fun _ s _ => 3000 - (intOf s).toNat)
                case atStart => exact ⟨t0, 2, n1, [], pre, rfl, rfl, by omega, by omega, hu, rfl, hpre, (by simp [hashes] : t0 = _), rfl⟩
                case round =>
                  obtain ⟨tw, q, n2, pre1, pre2, rfl, rfl, hq2, hql, huq, hpp, hpq, htw, rfl⟩ := hrel
                  by_cases hqp : q < p
                  · obtain ⟨r, rfl, hr1, hqin⟩ := twice_step hin hqp hpq
                    obtain ⟨hfq, hunq⟩ := unfit_head hqin huq
                    have hfqo := fits_out hfq
                    have hcq1 := hr.cell (q + 1) (by omega)
                    have hcq2 := hr.cell (q + 2) (by omega)
                    have hnq := next_num hfqo.2.1
                    have hnl : nextAt W q ≤ W.length := by unfold nextAt; omega
                    have hng : q + 3 ≤ nextAt W q := by unfold nextAt; omega
                    have htw2 := tw_step (t0 := t0) (p := p) (q := q) (pre1 := pre1) (W := W)
                    cases tw with
                    | true =>
                      have HT : Hid (true = (t0 || (hashes W (pre1 ++ [q])).contains (wd W (p + 1)))) := by rw [htw2, ← htw.out]; rfl
                      clear htw htw2 hfq huq hck hpre hpq hnil
                      go_wp2_with fail
                      go_quiet (fail)
                      go_wp2_with fail
                      go_roundw
                      case rel => exact ⟨_, nextAt W q, _, pre1 ++ [q], r, rfl, by first | rfl | simp, by omega, by omega, hunq, by simpa using hpp, hr1, HT, rfl⟩
                      case measure => simp [intOf]; omega
                    | false =>
                      have HT : Hid ((wd W (q + 1) == wd W (p + 1)) = (t0 || (hashes W (pre1 ++ [q])).contains (wd W (p + 1)))) := by rw [htw2, ← htw.out]; rfl
                      clear htw htw2 hfq huq hck hpre hpq hnil
                      go_wp2_with fail
                      go_quiet (fail)
                      go_wp2_with fail
                      go_roundw
                      case rel => exact ⟨_, nextAt W q, _, pre1 ++ [q], r, rfl, by first | rfl | simp, by omega, by omega, hunq, by simpa using hpp, hr1, HT, rfl⟩
                      case measure => simp [intOf]; omega
                  · have hp0 := twice_end hin hqp hpq
                    subst hp0
                    rw [List.append_nil] at hpp
                    subst hpp
                    have ht : Hid (tw = twiceB W (hashes W pre1) p) := by rw [htw.out, ht0.out]; exact Bool.or_comm _ _
                    clear htw ht0 hpq
                    cases tw with
                    | true =>
                      have H : Hid (checkOf W = (5, (p : Int))) := by have := hck.out; rw [fault_twice hnil ht.out.symm] at this; exact this
                      clear hck hnil hf hun hup hpre ht huq
                      go_wp2_with fail
                      exact bodyPost_ret (v := faultV (5, p)) (by simp [results, Try.results27, go_sem]) rfl ⟨by rw [H.out], ((below_drewN (((Below.refl _ _).alloc (Nat.le_refl _) _).alloc (by simp) _) n2).setCell (by simp) _).setCell (by simp) _⟩
                    | false =>
                      have hsl : slotsAt W p = (wd W (p + 2) / 4).toNat := rfl
                      have hnn := next_num hfo.2.1
                      have hn : nextAt W p ≤ W.length := by unfold nextAt; omega
                      have hge : p + 3 ≤ nextAt W p := by unfold nextAt; omega
                      have hne : nextAt W p = p + 3 + slotsAt W p := rfl
                      have HS : Hid (nextAt W p = p + 3 + slotsAt W p) := hne
                      clear hsl hne huq
                      go_wp2_with fail
                      go_loopw [9] (fun s wr => ∃ (k n3 : Nat), s = .int .i64 k ∧ p + 3 ≤ k ∧ k ≤ nextAt W p ∧ Hid (badSlot W (formAt W p) (p + 3) (slotsAt W p) = badSlot W (formAt W p) k (nextAt W p - k)) ∧ wr = ((w.alloc (Obj.cells #[Value.slice (some { block := b, off := off }) W.length cap] 24)).alloc (Obj.cells #[Value.int IntKind.i64 0, Value.int IntKind.i64 0] 33)).drewN n3) (fun s _ => 3000 - (intOf s).toNat)
                      case atStart => exact ⟨p + 3, n2, by first | rfl | simp, by omega, by omega, by rw [HS.out]; simp [Hid], rfl⟩
                      case round =>
                        obtain ⟨k, n3, rfl, hk, hkl, hbad, rfl⟩ := hrel
                        have hr3 : Row (((w.alloc (Obj.cells #[Value.slice (some { block := b, off := off }) W.length cap] 24)).alloc (Obj.cells #[Value.int IntKind.i64 0, Value.int IntKind.i64 0] 33)).drewN n3) b off W := ((hr.alloc _).alloc _).drewN n3
                        by_cases hke : k < nextAt W p
                        · have hck' := hr.cell k (by omega)
                          have hi2 : (p : Int) + 2 < (W.length : Int) := by omega
                          have hik : (k : Int) < (W.length : Int) := by omega
                          have hkk : nextAt W p - k = (nextAt W p - (k + 1)) + 1 := by omega
                          cases hst : standB W (formAt W p) (wd W k) with
                          | true =>
                            have hb1 : Hid (badSlot W (formAt W p) (p + 3) (slotsAt W p) = badSlot W (formAt W p) (k + 1) (nextAt W p - (k + 1))) := by
                              have := hbad.out; rw [hkk, bad_yes hst] at this; exact this
                            have hst' : standB W (wd W (p + 2) % 4) (wd W k) = true := hst
                            clear hbad hst hkk hck hnil hf hup hpre ht
                            go_wp2_with fail
                            go_quiet ((go_at_call 54; exact quiet_same (rstands_any W b off cap _ _ _ (((hr.alloc _).alloc _).drewN _) hu hl)))
                            go_wp2_with fail
                            go_roundw
                            case rel => exact ⟨k + 1, _, by first | rfl | simp, by omega, by omega, hb1, rfl⟩
                            case measure => simp [intOf]; omega
                          | false =>
                            have H : Hid (checkOf W = (3, (k : Int))) := by
                              have hb1 := hbad.out
                              rw [hkk, bad_no hst] at hb1
                              have := hck.out; rw [fault_slot hnil ht.out.symm hb1] at this; exact this
                            have hst' : standB W (wd W (p + 2) % 4) (wd W k) = false := hst
                            clear hbad hst hkk hck hnil hf hup hpre ht
                            go_wp2_with fail
                            go_quiet ((go_at_call 54; exact quiet_same (rstands_any W b off cap _ _ _ (((hr.alloc _).alloc _).drewN _) hu hl)))
                            go_wp2_with fail
                            exact bodyPost_ret (v := faultV (3, k)) (by simp [results, Try.results27, go_sem]) rfl ⟨by rw [H.out], ((below_drewN (((Below.refl _ _).alloc (Nat.le_refl _) _).alloc (by simp) _) _).setCell (by simp) _).setCell (by simp) _⟩
                        · have hk0 : nextAt W p - k = 0 := by omega
                          have H : Hid (checkOf W = faultOf W (hashes W (pre1 ++ [p])) (places W (nextAt W p))) := by
                            have hb1 := hbad.out
                            rw [hk0] at hb1
                            have := hck.out
                            rw [fault_next hnil ht.out.symm hb1] at this
                            rw [hashes_snoc]; exact this
                          have hpre2 : (pre1 ++ [p]) ++ places W (nextAt W p) = places W 2 := by rw [← hpre, places_in hin]; simp
                          clear hbad hk0 hck hnil hf hup hpre ht
                          go_wp2_with fail
                          go_roundw
                          case rel => exact ⟨nextAt W p, pre1 ++ [p], n3, by first | rfl | simp, by omega, by omega, hun, hpre2, H, rfl⟩
                          case measure => simp [intOf]; omega
        · have hend : checkOf W = (0, 0) := by rw [hck.out, places_end hin]; rfl
          have Hend : Hid (checkOf W = (0, 0)) := hend
          clear hend hck
          go_wp2
          exact bodyPost_ret (v := faultV (0, 0)) (by simp [results, Try.results27, go_sem]) rfl ⟨by rw [Hend.out], ((below_drewN (((Below.refl _ _).alloc (Nat.le_refl _) _).alloc (by simp) _) n).setCell (by simp) _).setCell (by simp) _⟩

/-- gessoref2.Check of whatever words. -/
theorem rcheck_any (W : List Int) (ad : Option Addr) (cap : Nat) (w : World) (hm : W.length ≤ maxLen) (hr : 2 ≤ W.length → ∃ b off, ad = some ⟨b, off, none⟩ ∧ Row w b off W) :
    Calls Try.prog 27 #[.agg #[.slice ad W.length cap]] w fun e w' => e = .returned (faultV (checkOf W)) ∧ Below w.heap.size w w' := by
  by_cases h : W.length < 2 ∨ 2000 < W.length
  · have e : checkOf W = (1, 0) := by rw [check_front (by rw [front_size h]; decide), front_size h]
    rw [e]
    exact rcheck_size ad W.length cap w h hm
  · obtain ⟨b, off, rfl, hrow⟩ := hr (by omega)
    by_cases hf : (frontOf W).1 = 0
    · exact rcheck_fit W b off cap w hrow hf
    · exact rcheck_front W b off cap w hrow (by omega) (by omega) hf

end Go.Proofs.Ythdhaokjibfjdaa
