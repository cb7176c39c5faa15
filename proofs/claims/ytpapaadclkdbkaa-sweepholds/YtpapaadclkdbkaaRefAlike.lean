/- gessoref3.Alike: the document's answer. -/
import Derived.Test.YtpapaadclkdbkaaRefPair
import Derived.Test.YtpapaadclkdbkaaSeeRoots
import Derived.Deep.RegionWith
namespace Go.Proofs.Ytpapaadclkdbkaa
open Go.RowKit

theorem hold_unlike {W V R S : List Int} (h : R.length ≠ S.length) : holdP W V R S = false := by
  unfold holdP eqF; rw [if_neg h]; rfl
theorem ref_unlike {W : List Int} {A : List Bool} {V : List Int} {B : List Bool} {R S : List Int} (h : R.length = S.length) (hm : marks A ≠ marks B) : refB W A V B R S = false := by
  unfold refB; rw [if_pos h, if_neg hm]
theorem ref_roots {W : List Int} {A : List Bool} {V : List Int} {B : List Bool} {R S : List Int} (h : R.length = S.length) (hm : marks A = marks B) : refB W A V B R S = if rootsB W A V B R S 0 R.length = true then eachB W A V B 0 W.length else false := by
  unfold refB; rw [if_pos h, if_pos hm]
theorem roots_next {W : List Int} {A : List Bool} {V : List Int} {B : List Bool} {R S : List Int} {k n : Nat} {t : Bool} (h : sameB W A V B (wd R k) (wd S k) = t) : rootsB W A V B R S k (n + 1) = if t = true then rootsB W A V B R S (k + 1) n else false := by
  conv => lhs; unfold rootsB
  rw [h]
theorem take_count {A : List Bool} {i : Nat} (h : i < A.length) : (A.take (i + 1)).count true = (A.take i).count true + (if bt A i = true then 1 else 0) := by
  have hb : bt A i = A[i] := by unfold bt; rw [List.getD_eq_getElem?_getD, List.getElem?_eq_getElem h]; rfl
  rw [List.take_succ_eq_append_getElem h, List.count_append, ← hb]
  cases bt A i <;> simp

theorem two_boxes {w w' : World} {a c : Value} {t t' : TypeId} (hb : Below ((w.alloc (.cells #[a] t)).alloc (.cells #[c] t')).heap.size ((w.alloc (.cells #[a] t)).alloc (.cells #[c] t')) w') : w'.cell? ⟨w.heap.size, 0, none⟩ = some a ∧ w'.cell? ⟨w.heap.size + 1, 0, none⟩ = some c ∧ w.heap.size + 1 < w'.heap.size := by
  have hs := hb.size
  refine ⟨?_, ?_, by simp at hs; omega⟩
  · rw [hb.cell (p := ⟨w.heap.size, 0, none⟩) (by simp; omega), cell_past _ (by simp)]; simp
  · rw [hb.cell (p := ⟨w.heap.size + 1, 0, none⟩) (by simp), cell_at2 (by simp)]; rfl
theorem tells_of {W R : List Int} {A : List Bool} {w : World} {oa : Nat} (hM : Marks w oa W.length W.length A) (h : ∀ k, bt A k = true ↔ Reached W R (2 * (k : Int))) : Tells W R A ∧ ∀ k, bt A k = true → k ∈ places W 2 := by
  refine ⟨⟨hM.length, h⟩, fun k hk => ?_⟩
  have := (reached_place ((h k).1 hk)).1
  rwa [show pl2 (2 * (k : Int)) = k by unfold pl2; omega] at this

set_option maxHeartbeats 8000000 in
set_option maxRecDepth 100000 in
theorem ralike_any (W V R S : List Int) (b off cap b' off' cap' : Nat) (rad sad : Option Addr) (rc sc : Nat) (w : World) (hr : Row w b off W) (hr' : Row w b' off' V) (hR : RootsAt rad R w) (hS : RootsAt sad S w) (hW : (checkOf W).1 = 0) (hV : (checkOf V).1 = 0)
    (okR : ∀ x ∈ R, okRef W x) (okS : ∀ y ∈ S, okRef V y) (hRl : R.length ≤ 5000) (hSl : S.length ≤ 5000) :
    Calls Try.prog 24 #[.agg #[.slice (some ⟨b, off, none⟩) W.length cap], .slice rad R.length rc, .agg #[.slice (some ⟨b', off', none⟩) V.length cap'], .slice sad S.length sc] w fun e w' => e = .returned (.bool (holdP W V R S)) ∧ Below w.heap.size w w' := by
  obtain ⟨f1, u1⟩ := check_ok hW
  obtain ⟨g1, g2, _⟩ := front_out f1
  obtain ⟨f1', u1'⟩ := check_ok hV
  obtain ⟨g1', g2', _⟩ := front_out f1'
  have HO : Hid (RootsAt rad R w) := hR
  have HP : Hid (RootsAt sad S w) := hS
  clear f1 f1' hR hS
  by_cases hlen : R.length = S.length
  · have hb : (((R.length : Nat) : Int) != ((S.length : Nat) : Int)) = false := by simp [hlen]
    have HL : Hid (R.length = S.length) := hlen
    generalize hX : holdP W V R S = X
    have HX : Hid (holdP W V R S = X) := hX
    clear hX hlen
    go_enter Try.func24, Try.ntmps24
    go_wp2_with (first | (go_at_call_of 23 (W.length); refine (rreach_any W R b off cap rad rc _ ((hr.alloc _).alloc _) (HO.out.below (((Below.refl _ _).alloc (Nat.le_refl _) _).alloc (by simp) _)) u1 g1 g2 hRl).mono ?_; rintro e w1 ⟨⟨oa, A, rfl, hoa, hMA, hTA⟩, hb1⟩; obtain ⟨k0, k1, z1⟩ := two_boxes hb1; have z0 : w.heap.size < w1.heap.size := (by omega); have hB1 := below2 hb1; clear hoa) | (go_at_call_of 23 (V.length); refine (rreach_any V S b' off' cap' sad sc _ (hr'.same hB1) (HP.out.below hB1) u1' g1' g2' hSl).mono ?_; rintro e w2 ⟨⟨ob, B, rfl, hob, hMB, hTB⟩, hb2⟩; clear hob))
    have hB2 := hB1.trans (hb2.mono hB1.size)
    have q0 := through hb2 k0 z0
    have q1 := through hb2 k1 z1
    have y0 : w.heap.size < w2.heap.size := by have := hb2.size; omega
    have y1 : w.heap.size + 1 < w2.heap.size := by have := hb2.size; omega
    have hMA2 := hMA.below hb2 (own_lt hMA)
    obtain ⟨tA, mA⟩ := tells_of hMA hTA
    obtain ⟨tB, mB⟩ := tells_of hMB hTB
    have sA : Sits w2 b off oa W A := ⟨hr.same hB2, hMA2, fine_of hW, mA⟩
    have sB : Sits w2 b' off' ob V B := ⟨hr'.same hB2, hMB, fine_of hV, mB⟩
    have T : Two W V R S A B := ⟨fine_of hW, fine_of hV, okR, okS, tA, tB⟩
    have HT : Hid (X = refB W A V B R S) := HX.out.symm.trans T.one_mind
    have lA := hMA2.length
    have lB := hMB.length
    have oal := own_lt hMA2
    have obl := own_lt hMB
    have HMB : Hid (∀ k, bt B k = true → k ∈ places V 2) := mB
    have HMA : Hid (∀ k, bt A k = true → k ∈ places W 2) := mA
    clear hMA hTA hTB k0 k1 tA tB mA mB T hb1 hb2
    go_loop [11, 12] (fun s11 s12 => ∃ i : Nat, s11 = .int .i64 (((A.take i).count true : Nat) : Int) ∧ s12 = .int .i64 i ∧ i ≤ W.length) (fun _ s12 => W.length - (intOf s12).toNat)
    case atStart => exact ⟨0, by simp, rfl, Nat.zero_le _⟩
    case round =>
      obtain ⟨i, rfl, rfl, hi⟩ := hrel
      have hct : (A.take i).count true ≤ 2000 := by have := List.count_le_length (a := true) (l := A.take i); rw [List.length_take] at this; omega
      by_cases hlt : i < W.length
      · have hci := hMA2.cell hlt
        have htc := take_count (A := A) (i := i) (by omega)
        have HTC : Hid _ := htc
        clear htc
        cases hbt : bt A i with
        | true =>
          rw [hbt] at hci
          go_wp2
          go_round
          case rel => exact ⟨i + 1, by rw [HTC.out, hbt]; first | rfl | simp, by first | rfl | simp, by omega⟩
          case measure => simp [intOf]; omega
        | false =>
          rw [hbt] at hci
          go_wp2
          go_round
          case rel => exact ⟨i + 1, by rw [HTC.out, hbt]; first | rfl | simp, by first | rfl | simp, by omega⟩
          case measure => simp [intOf]; omega
      · have hAm : (A.take i).count true = marks A := by rw [List.take_of_length_le (by omega)]; rfl
        rw [hAm] at hct ⊢
        clear hAm
        go_wp2
        go_loop [11, 13] (fun s11 s13 => ∃ i : Nat, s11 = .int .i64 ((marks A : Int) - (((B.take i).count true : Nat) : Int)) ∧ s13 = .int .i64 i ∧ i ≤ V.length) (fun _ s13 => V.length - (intOf s13).toNat)
        case atStart => exact ⟨0, by simp, rfl, Nat.zero_le _⟩
        case round =>
          obtain ⟨j, rfl, rfl, hj⟩ := hrel
          have hcu : (B.take j).count true ≤ 2000 := by have := List.count_le_length (a := true) (l := B.take j); rw [List.length_take] at this; omega
          by_cases hltj : j < V.length
          · have hcj := hMB.cell hltj
            have HTC : Hid _ := take_count (A := B) (i := j) (by omega)
            cases hbt : bt B j with
            | true =>
              rw [hbt] at hcj
              go_wp2
              go_round
              case rel => exact ⟨j + 1, by rw [HTC.out, hbt]; simp; omega, by first | rfl | simp, by omega⟩
              case measure => simp [intOf]; omega
            | false =>
              rw [hbt] at hcj
              go_wp2
              go_round
              case rel => exact ⟨j + 1, by rw [HTC.out, hbt]; simp, by first | rfl | simp, by omega⟩
              case measure => simp [intOf]; omega
          · have hBm : (B.take j).count true = marks B := by rw [List.take_of_length_le (by omega)]; rfl
            rw [hBm] at hcu ⊢
            clear hBm
            by_cases hmk : marks A = marks B
            · have hz : (((marks A : Int) - (marks B : Int)) != 0) = false := by simp [hmk]
              have HR1 : Hid (X = if rootsB W A V B R S 0 R.length = true then eachB W A V B 0 W.length else false) := by have := HT.out; rw [ref_roots HL.out hmk] at this; exact this
              clear hmk HT
              go_wp2
              go_loopw [14] (fun s wr => ∃ (k n : Nat), s = .int .i64 k ∧ k ≤ R.length ∧ Hid (X = if rootsB W A V B R S k (R.length - k) = true then eachB W A V B 0 W.length else false) ∧ wr = w2.drewN n) (fun s _ => R.length - (intOf s).toNat)
              case atStart => exact ⟨0, 0, rfl, Nat.zero_le _, HR1, rfl⟩
              case round =>
                clear HR1
                obtain ⟨k, n, rfl, hk, hck, rfl⟩ := hrel
                by_cases hltk : k < R.length
                · have hltS : k < S.length := by have := HL.out; omega
                  obtain ⟨rb, ro, hrad, hrr⟩ := HO.out (by omega)
                  obtain ⟨sb, so, hsad, hss⟩ := HP.out (by omega)
                  have cr := (hrr.same hB2).cell k hltk
                  have cs := (hss.same hB2).cell k hltS
                  have blr := (hrr.same hB2).lt
                  have bls := (hss.same hB2).lt
                  have hkr : (k : Int) < (R.length : Int) := by omega
                  have hks : (k : Int) < (S.length : Int) := by omega
                  have hk0 : (0 : Int) ≤ (k : Int) := by omega
                  have o1 := okR _ (wd_mem hltk)
                  have o2 := okS _ (wd_mem hltS)
                  have hn : R.length - k = (R.length - (k + 1)) + 1 := by omega
                  subst hrad hsad
                  cases hv : sameB W A V B (wd R k) (wd S k) with
                  | true =>
                    have Hk : Hid (X = if rootsB W A V B R S (k + 1) (R.length - (k + 1)) = true then eachB W A V B 0 W.length else false) := by have := hck.out; rw [hn, roots_next hv] at this; exact this
                    clear hck
                    go_wp2_with fail
                    go_quiet ((go_at_call 42; exact quiet_more (rsame_any W V A B b off cap oa b' off' cap' ob _ _ _ (sA.drewN _) (sB.drewN _) o1 o2)))
                    go_wp2_with fail
                    go_roundw
                    case rel => exact ⟨k + 1, _, by first | rfl | simp, by omega, Hk, rfl⟩
                    case measure => simp [intOf]; omega
                  | false =>
                    have Hk : Hid (X = false) := by have := hck.out; rw [hn, roots_next hv] at this; exact this
                    clear hck
                    go_wp2_with fail
                    go_quiet ((go_at_call 42; exact quiet_more (rsame_any W V A B b off cap oa b' off' cap' ob _ _ _ (sA.drewN _) (sB.drewN _) o1 o2)))
                    go_wp2_with fail
                    go_ret
                    exact ⟨by rw [Hk.out]; rfl, below_drewN hB2 _⟩
                · have HR2 : Hid (X = eachB W A V B 0 W.length) := by have := hck.out; rw [show R.length - k = 0 by omega] at this; exact this
                  clear hck
                  go_wp2_with fail
                  go_loopw [16] (fun s wr => ∃ (i n : Nat), s = .int .i64 i ∧ i ≤ W.length ∧ Hid (X = eachB W A V B i (W.length - i)) ∧ wr = w2.drewN n) (fun s _ => W.length - (intOf s).toNat)
                  case atStart => exact ⟨0, _, rfl, Nat.zero_le _, HR2, rfl⟩
                  case round =>
                    clear HR2
                    obtain ⟨i, m, rfl, hi, hck, rfl⟩ := hrel
                    by_cases hlti : i < W.length
                    · have hci := hMA2.cell hlti
                      have hn : W.length - i = (W.length - (i + 1)) + 1 := by omega
                      have hii : (i : Int) < (W.length : Int) := by omega
                      have hi0 : (0 : Int) ≤ (i : Int) := by omega
                      cases hbt : bt A i with
                      | false =>
                        rw [hbt] at hci
                        have Hk : Hid (X = eachB W A V B (i + 1) (W.length - (i + 1))) := by have := hck.out; rw [hn, eachB_succ, if_neg (by rw [hbt]; simp)] at this; exact this
                        clear hck
                        go_wp2_with fail
                        go_roundw
                        case rel => exact ⟨i + 1, _, by first | rfl | simp, by omega, Hk, rfl⟩
                        case measure => simp [intOf]; omega
                      | true =>
                        rw [hbt] at hci
                        have hip := HMA.out i hbt
                        have hhd := sA.fine.head hip
                        have c1 := sA.row.cell (i + 1) (by omega)
                        have hb0 := sA.row.lt
                        have i1 : (i : Int) + 1 < (W.length : Int) := by omega
                        have i2 : (0 : Int) ≤ (i : Int) + 1 := by omega
                        have ti : ((i : Int) + 1).toNat = i + 1 := by omega
                        have wi := wrap_id (x := (i : Int) + 1) (by omega) (by omega)
                        cases hh : hashedB V B (wd W (i + 1)) 0 V.length with
                        | none =>
                          have Hk : Hid (X = false) := by have := hck.out; rw [hn, eachB_succ, if_pos hbt, hh] at this; exact this
                          have hfa : foundAt (hashedB V B (wd W (i + 1)) 0 V.length) = -1 := by rw [hh]; rfl
                          clear hck hh hbt
                          go_wp2_with fail
                          go_quiet ((go_at_call 43; exact quiet_same (rhashed_any V B b' off' cap' ob _ _ (sB.drewN _))))
                          go_wp2_with fail
                          go_ret
                          exact ⟨by rw [Hk.out]; rfl, below_drewN hB2 _⟩
                        | some q =>
                          have hqp := HMB.out q (hashedB_some _ _ hh).1
                          have HN : Hid (X = if thingsB W A V B i q = true then eachB W A V B (i + 1) (W.length - (i + 1)) else false) := by have := hck.out; rw [hn, eachB_succ, if_pos hbt, hh] at this; exact this
                          have hfa : foundAt (hashedB V B (wd W (i + 1)) 0 V.length) = (q : Int) := by rw [hh]; rfl
                          have hq0 : ¬ ((q : Int) < 0) := by omega
                          clear hck hh hbt
                          cases ht : thingsB W A V B i q with
                          | true =>
                            have Hk : Hid (X = eachB W A V B (i + 1) (W.length - (i + 1))) := by have := HN.out; rw [ht] at this; exact this
                            clear HN
                            go_wp2_with fail
                            go_quiet ((go_at_call 43; exact quiet_same (rhashed_any V B b' off' cap' ob _ _ (sB.drewN _))))
                            go_wp2_with (go_at_call 44; refine (rpair_any W V A B b off cap oa b' off' cap' ob i q _ (sA.drewN _) (sB.drewN _) hip hqp).mono ?_; rintro e w' ⟨rfl, m', rfl⟩)
                            go_roundw
                            case rel => exact ⟨i + 1, _, by first | rfl | simp, by omega, Hk, rfl⟩
                            case measure => simp [intOf]; omega
                          | false =>
                            have Hk : Hid (X = false) := by have := HN.out; rw [ht] at this; exact this
                            clear HN
                            go_wp2_with fail
                            go_quiet ((go_at_call 43; exact quiet_same (rhashed_any V B b' off' cap' ob _ _ (sB.drewN _))))
                            go_wp2_with (go_at_call 44; refine (rpair_any W V A B b off cap oa b' off' cap' ob i q _ (sA.drewN _) (sB.drewN _) hip hqp).mono ?_; rintro e w' ⟨rfl, m', rfl⟩)
                            go_ret
                            exact ⟨by rw [Hk.out]; rfl, below_drewN hB2 _⟩
                    · have Hk : Hid (X = true) := by have := hck.out; rw [show W.length - i = 0 by omega] at this; exact this
                      clear hck
                      go_wp2_with fail
                      go_ret
                      exact ⟨by rw [Hk.out]; rfl, below_drewN hB2 _⟩
            · have hz : (((marks A : Int) - (marks B : Int)) != 0) = true := by simp; omega
              have H : Hid (X = false) := by have := HT.out; rw [ref_unlike HL.out hmk] at this; exact this
              clear hmk HT
              go_wp2
              go_ret
              exact ⟨by rw [H.out]; rfl, hB2⟩
  · have hb : (((R.length : Nat) : Int) != ((S.length : Nat) : Int)) = true := by simp; omega
    rw [hold_unlike hlen]
    clear hlen
    go_enter Try.func24, Try.ntmps24
    go_wp2_with fail
    go_ret
    exact ⟨rfl, ((Below.refl _ _).alloc (Nat.le_refl _) _).alloc (by simp) _⟩

end Go.Proofs.Ytpapaadclkdbkaa
