/- gessoref3.Collect: what the document says of what stays. -/
import Derived.Test.YtpapaadclkdbkaaSweep
import Derived.Test.YtpapaadclkdbkaaRefRoots
import Derived.Test.YtpapaadclkdbkaaToPlain
namespace Go.Proofs.Ytpapaadclkdbkaa
open Go.RowKit

theorem rnow_any (T W : List Int) (ps : List Nat) (tb c : Nat) (o : Int) (w : World) (hr : ∀ k, k < W.length → w.cell? ⟨tb, k, none⟩ = some (.int .i64 (wd T k))) (hlt : tb < w.heap.size) (hT : TOk T W ps) (hs : 2 + roomSum W ps ≤ 2000) (ho : okRef W o) :
    Calls Try.prog 40 #[.slice (some ⟨tb, 0, none⟩) W.length c, .int .i64 o] w fun e w' => e = .returned (.int .i64 (turnP W ps o)) ∧ w' = w := by
  by_cases hk : kindOf o = 3
  · have ht := ok_thing ho hk
    obtain ⟨p, he, _, hpl, hp2⟩ := thing_ref ht
    have hkk := kind3 hk
    have h2p : 2 * (p : Int) / 2 = (p : Int) := by omega
    have HT : Hid (turnP W ps o = 2 * wd T p) := by
      unfold turnP; rw [if_pos ht, hT.2 p]
      have : pl2 o = p := hp2
      rw [this]; exact rfl
    have hcp := hr p hpl
    have hb := hT.bounds hs p
    have hii : (p : Int) < (W.length : Int) := by omega
    have hw0 := wrap_id (x := (p : Int)) (by omega) (by omega)
    subst he
    generalize wd T p = x at *
    clear ht ho hT hkk hr
    go_enter Try.func40, Try.ntmps40
    go_wp2_with (go_at_call 53; refine (rkind_any _ _).mono ?_; rintro e w' ⟨rfl, rfl⟩; rw [hk])
    go_ret
    exact ⟨by rw [HT.out]; rfl, rfl⟩
  · have HT : Hid (turnP W ps o = o) := by
      unfold turnP; rw [if_neg (fun h => hk (thing_kind h))]; exact rfl
    have hb : (kindOf o != 3) = true := by simpa using hk
    clear ho hT hk hr
    go_enter Try.func40, Try.ntmps40
    go_wp2_with (go_at_call 53; refine (rkind_any _ _).mono ?_; rintro e w' ⟨rfl, rfl⟩)
    go_ret
    exact ⟨by rw [HT.out]; rfl, rfl⟩


/-- Those of some places that are marked. -/
def seenOf (A : List Bool) (pre : List Nat) : List Nat := pre.filter fun p => bt A p
theorem seen_yes {A : List Bool} {pre : List Nat} {p : Nat} (h : bt A p = true) : seenOf A (pre ++ [p]) = seenOf A pre ++ [p] := by unfold seenOf; rw [List.filter_append]; simp [h]
theorem seen_no {A : List Bool} {pre : List Nat} {p : Nat} (h : bt A p = false) : seenOf A (pre ++ [p]) = seenOf A pre := by unfold seenOf; rw [List.filter_append]; simp [h]
/-- The words of some things, laid. -/
noncomputable def laidF (W : List Int) (ps : List Nat) (qs : List Nat) : List Int := wd W 0 :: wd W 1 :: qs.flatMap (thingW (turnP W ps) W)
theorem laidF_snoc (W : List Int) (ps qs : List Nat) (p : Nat) : laidF W ps (qs ++ [p]) = laidF W ps qs ++ thingW (turnP W ps) W p := by unfold laidF; simp
theorem seen_sum (W : List Int) (A : List Bool) : ∀ pre, roomSum W (seenOf A pre) ≤ roomSum W pre
  | [] => Nat.le_refl _
  | p :: r => by
    have ih := seen_sum W A r
    unfold seenOf at ih ⊢
    rw [List.filter_cons]
    split
    · rw [roomSum, roomSum]; omega
    · rw [roomSum]; omega
theorem seen_not {A : List Bool} {pre : List Nat} {p : Nat} (h : p ∉ pre) : p ∉ seenOf A pre := fun hm => h (List.mem_filter.1 hm).1

theorem slotsW_at {t : Int → Int} {W : List Int} {p q : Nat} (h : p + 3 + slotsAt W p ≤ W.length) (h1 : p + 3 ≤ q) (h2 : q < nextAt W p) : wd (slotsW t W p) (q - (p + 3)) = if formAt W p = 1 then wd W q else t (wd W q) := by
  have hk : q - (p + 3) < slotsAt W p := by unfold nextAt at h2; omega
  have e : p + 3 + (q - (p + 3)) = q := by omega
  have hs := slotList_at hk
  rw [e] at hs
  unfold slotsW
  split
  · exact hs
  · have hl := slotList_length h
    rw [← hs]
    unfold wd
    rw [List.getD_eq_getElem?_getD, List.getElem?_map, List.getElem?_eq_getElem (by omega), List.getD_eq_getElem?_getD, List.getElem?_eq_getElem (by omega)]; rfl
theorem slotsW_next {t : Int → Int} {W : List Int} {p q : Nat} (h : p + 3 + slotsAt W p ≤ W.length) (h1 : p + 3 ≤ q) (h2 : q < nextAt W p) : (slotsW t W p).take (q + 1 - (p + 3)) = (slotsW t W p).take (q - (p + 3)) ++ [if formAt W p = 1 then wd W q else t (wd W q)] := by
  rw [← slotsW_at h h1 h2, show q + 1 - (p + 3) = q - (p + 3) + 1 by omega]
  exact take_snoc (by rw [slotsW_length h]; unfold nextAt at h2; omega)
/-- The words of some things, and of one more up to q. -/
noncomputable def partF (W : List Int) (ps qs : List Nat) (p q : Nat) : List Int := laidF W ps qs ++ [turnP W ps (wd W p), wd W (p + 1), wd W (p + 2)] ++ (slotsW (turnP W ps) W p).take (q - (p + 3))
theorem partF_next {W : List Int} {ps qs : List Nat} {p q : Nat} (h : p + 3 + slotsAt W p ≤ W.length) (h1 : p + 3 ≤ q) (h2 : q < nextAt W p) : partF W ps qs p (q + 1) = partF W ps qs p q ++ [if formAt W p = 1 then wd W q else turnP W ps (wd W q)] := by
  unfold partF; rw [slotsW_next h h1 h2]; simp only [List.append_assoc]
theorem partF_start (W : List Int) (ps qs : List Nat) (p : Nat) : partF W ps qs p (p + 3) = laidF W ps qs ++ [turnP W ps (wd W p), wd W (p + 1), wd W (p + 2)] := by unfold partF; simp
theorem partF_end {W : List Int} {ps qs : List Nat} {p : Nat} (h : p + 3 + slotsAt W p ≤ W.length) : partF W ps qs p (nextAt W p) = laidF W ps (qs ++ [p]) := by
  rw [laidF_snoc]; unfold partF thingW
  rw [List.take_of_length_le (by rw [slotsW_length h]; unfold nextAt; omega)]; simp

theorem partF_length {W : List Int} {ps qs : List Nat} {p q : Nat} (h : p + 3 + slotsAt W p ≤ W.length) (h1 : p + 3 ≤ q) (h2 : q ≤ nextAt W p) : (partF W ps qs p q).length = (laidF W ps qs).length + (q - p) := by
  unfold partF
  unfold nextAt at h2
  simp only [List.length_append, List.length_take, slotsW_length h, List.length_cons, List.length_nil]; omega
/-- What the document's Collect says. -/
def RColAns (K L : List Int) (B : Nat) (e : Ending) (w : World) : Prop :=
  ∃ g c v, e = .returned (.tuple #[.agg #[sl g K.length c], v]) ∧ w.ownsRow 0 3 1 (sl g K.length c) K.length (vals K) ∧ w.ownsRow B 3 1 v L.length (vals L)

set_option maxHeartbeats 8000000 in
set_option maxRecDepth 100000 in
theorem rcollect_any (W roots : List Int) (b off cap : Nat) (rad : Option Addr) (rcap : Nat) (w : World) (hr : Row w b off W) (hroots : RootsAt rad roots w) (hrl : roots.length ≤ 5000) (M : Moves W roots (stayP W roots)) :
    Calls Try.prog 22 #[heapV (some ⟨b, off, none⟩) W.length cap, .slice rad roots.length rcap] w fun e w' => RColAns (sweptW W roots) (sweptR W roots) w.heap.size e w' ∧ Below w.heap.size w w' := by
  obtain ⟨i0, hi, hz0, hz1, hz2⟩ := info_parts info3
  have hu := M.fine.fit
  have hl := M.fine.few
  have h2 := M.two
  have hfine := M.fine
  have HO : Hid (RootsAt rad roots w) := hroots
  have HX : Hid (sweptW W roots = movedW W (stayP W roots) ∧ sweptR W roots = roots.map (turnP W (stayP W roots))) := ⟨rfl, rfl⟩
  have HF : Hid (∀ A, Tells W roots A → (places W 2).filter (fun p => bt A p) = stayP W roots) := fun A h => stay_filter h
  have hsum : 2 + roomSum W (stayP W roots) ≤ W.length := by have := M.short; rw [M.length] at this; exact this
  generalize stayP W roots = ps at *
  have hok := M.roots
  clear hroots
  go_enter Try.func22, Try.ntmps22
  go_wp2_with (first | (go_at_call 23; refine (rreach_any W roots b off cap rad rcap _ ((hr.alloc _).alloc _) (HO.out.below (((Below.refl _ _).alloc (Nat.le_refl _) _).alloc (by simp) _)) hu h2 hl hrl).mono ?_; rintro e w1 ⟨⟨ob, A, rfl, hob, hMk, hTl⟩, hb1⟩) | (at_make; refine wpList_make_full _ rfl _ _ 22 rfl w1.heap.size 3 i0 (.int .i64 0) 1 ty30 hi hz0 hz1 _ _ _ _ W.length rfl rfl rfl rfl (by rw [hz2]; omega) (by unfold maxLen; omega) (by simp) ?_; intro w2 hown2 hgrow2))
  have hobl := own_lt hMk
  have hB2 : Below w1.heap.size w1 w2 := (Below.refl _ _).grown hgrow2 (Nat.le_refl _) (fun k hk => by cases hk)
  have hT2 : w2.ownsRow 0 3 1 (sl w1.heap.size W.length W.length) W.length (vals (List.replicate W.length 0)) := by
    have := own_mono (Nat.zero_le _) hown2
    simpa [toList_madeCells_one, vals, Value.cells] using this
  have hr1 := ((hr.alloc _).alloc _).same hb1
  have hrlt := hr1.lt
  have HA : Hid ((places W 2).filter (fun p => bt A p) = ps) := HF.out A ⟨hMk.length, hTl⟩
  clear hown2 hgrow2 HF hTl
  go_loopw [9, 10] (fun s9 s10 wr => ∃ (p S : Nat) (pre : List Nat) (T : List Int), s10 = .int .i64 p ∧ s9 = .int .i64 S ∧ Hid (S = 2 + roomSum W (seenOf A pre)) ∧ AtPlace W A pre p ∧ TOk T W (seenOf A pre) ∧ wr.ownsRow 0 3 1 (sl w1.heap.size W.length W.length) W.length (vals T) ∧ Below w1.heap.size w1 wr) (fun _ s10 _ => 3000 - (intOf s10).toNat)
  case atStart => exact ⟨2, 2, [], _, rfl, rfl, rfl, ⟨rfl, hu, Nat.le_refl _, h2⟩, TOk.start W, hT2, hB2⟩
  case round =>
    clear hT2 hB2
    obtain ⟨p, S, pre, T, rfl, rfl, HS, hAt, hTk, hTo, hB⟩ := hrel
    have hrow := hr1.same hB
    have hbc := fun h => (hMk.below hB hobl).cell (k := p) h
    have hTl := own_lt hTo
    have hSp : S ≤ p := by have h1 := hAt.sum hu; have h3 := seen_sum W A pre; rw [HS.out]; omega
    have hp2 := hAt.two
    by_cases hin : p < W.length
    · have hnx := hAt.next hin
      obtain ⟨hmem, hnot⟩ := hAt.mem hin
      have hfo := fits_out (unfit_head hin hAt.fit).1
      have hnn := next_num hfo.2.1
      have hge : p + 3 ≤ nextAt W p := by unfold nextAt; omega
      have hn : nextAt W p ≤ W.length := by unfold nextAt; omega
      have hnS : (S : Int) + 3 + wd W (p + 2) / 4 = ((S + roomAt W p : Nat) : Int) := by unfold roomAt slotsAt; omega
      have hSr : S + roomAt W p ≤ W.length := by unfold roomAt; unfold nextAt at hn; omega
      have hcp2 := hrow.cell (p + 2) (by omega)
      have hbc' := hbc hin
      have hob : ob < w1.heap.size := hobl
      have hii : (p : Int) < (W.length : Int) := by omega
      have hrl2 := hrow.lt
      have hobr : ob < wr.heap.size := by have := hB.size; omega
      clear hbc
      cases hb : bt A p with
      | false =>
        rw [hb] at hbc'
        go_wp2_with fail
        go_roundw
        case rel => exact ⟨nextAt W p, S, pre ++ [p], T, by first | rfl | simp, rfl, by rw [seen_no hb]; exact HS, hnx, by rw [seen_no hb]; exact hTk, hTo, hB⟩
        case measure => simp [intOf]; omega
      | true =>
        rw [hb] at hbc'
        have hcw := own_some hTo hin
        have hfw := hTo.frozenAt p
        have HS' : Hid (S + roomAt W p = 2 + roomSum W (seenOf A (pre ++ [p]))) := by rw [seen_yes hb, roomSum_append, roomSum, roomSum, HS.out]; exact (by omega : 2 + roomSum W (seenOf A pre) + roomAt W p = 2 + (roomSum W (seenOf A pre) + (roomAt W p + 0)))
        have HT' : Hid (TOk (T.set p (S : Int)) W (seenOf A (pre ++ [p]))) := by
          have := hTk.set hin (seen_not hnot)
          rw [seen_yes hb, HS.out]; exact this
        have hst := (hTo.stored p (.int .i64 (S : Int))).1
        rw [show (vals T).set p (.int .i64 (S : Int)) = vals (T.set p (S : Int)) by simp [vals, List.map_set]] at hst
        go_wp2_with fail
        go_roundw
        case rel => exact ⟨nextAt W p, S + roomAt W p, pre ++ [p], T.set p (S : Int), by first | rfl | simp, by first | rfl | simp, HS', hnx, HT'.out, hst, hB.setCell (Nat.le_refl _) _⟩
        case measure => simp [intOf]; omega
    · have hpre : pre = places W 2 := by have := hAt.all; rwa [places_end hin, List.append_nil] at this
      have hTk' : TOk T W ps := by rw [hpre, show seenOf A (places W 2) = ps from HA.out] at hTk; exact hTk
      clear hTk hAt HS hbc hpre
      have hlB := hB.size
      have hs2000 : 2 + roomSum W ps ≤ 2000 := by omega
      have hc0 := hrow.cell 0 (by omega)
      have hc1 := hrow.cell 1 (by omega)
      rw [Nat.add_zero] at hc0
      have hl0 : 0 < W.length := by omega
      have hl1 : 1 < W.length := by omega
      have hrl3 := hrow.lt
      go_wp2_with fail
      go_region
      all_goals go_wp2_with fail
      obtain ⟨w3, e3⟩ : ∃ w3, w3 = wr := ⟨wr, rfl⟩
      subst e3
      have hown3 : (w3.alloc (.cells #[.int .i64 (wd W 0), .int .i64 (wd W 1)] 3)).drew.ownsRow w3.heap.size 3 1 (sl w3.heap.size 2 2) 2 (vals (laidF W ps [])) := by
        have := World.ownsRow_lit (base := w3.heap.size) (e := 3) (size := 1) w3 #[.int .i64 (wd W 0), .int .i64 (wd W 1)] 2 (Nat.le_refl _) (by decide) rfl
        exact this.drew
      have hB3 : Below w3.heap.size w3 (w3.alloc (.cells #[.int .i64 (wd W 0), .int .i64 (wd W 1)] 3)).drew := ((Below.refl _ _).alloc (Nat.le_refl _) _).drew
      have hMk3 := hMk.below hB hobl
      have hobl3 : ob < w3.heap.size := by omega
      clear hc0 hc1 hl0 hl1
      go_loopw [11, 12] (fun s11 s12 wr => ∃ (p g c n : Nat) (pre : List Nat), s12 = .int .i64 p ∧ s11 = sl g n c ∧ Hid (n = (laidF W ps (seenOf A pre)).length) ∧ AtPlace W A pre p ∧ wr.ownsRow w3.heap.size 3 1 (sl g n c) n (vals (laidF W ps (seenOf A pre))) ∧ Below w3.heap.size w3 wr) (fun _ s12 _ => 3000 - (intOf s12).toNat)
      case atStart => exact ⟨2, _, 2, 2, [], rfl, rfl, rfl, ⟨rfl, hu, Nat.le_refl _, h2⟩, hown3, hB3⟩
      case round =>
        clear hown3 hB3
        rename_i wr
        obtain ⟨p, g, c, n, pre, rfl, rfl, HN, hAt, hown, hBr⟩ := hrel
        have hrowr := hrow.same hBr
        have hrlr := hrowr.lt
        have hszr := hBr.size
        have hp2 := hAt.two
        have hTr := ownsRow_below hTo hBr hTl
        have hTc : ∀ k, k < W.length → wr.cell? ⟨w1.heap.size, k, none⟩ = some (.int .i64 (wd T k)) := fun k hk => own_some hTr hk
        have hTlr := own_lt hTr
        have hsp := seen_sum W A pre
        have hnp : n ≤ p := by
          have h1 := hAt.sum hu
          rw [HN.out]; unfold laidF
          simp only [List.length_cons, flat_length (seenOf A pre) fun q hq => hfine.room q (by rw [← hAt.all]; exact List.mem_append.2 (Or.inl (List.mem_filter.1 hq).1))]
          omega
        by_cases hin : p < W.length
        · have hnx := hAt.next hin
          obtain ⟨hmem, hnot⟩ := hAt.mem hin
          have hfo := fits_out (unfit_head hin hAt.fit).1
          have hnn := next_num hfo.2.1
          have hge : p + 3 ≤ nextAt W p := by unfold nextAt; omega
          have hn : nextAt W p ≤ W.length := by unfold nextAt; omega
          have hcp2 := hrowr.cell (p + 2) (by omega)
          have hcp1 := hrowr.cell (p + 1) (by omega)
          have hcp := hrowr.cell p (by omega)
          have hbc' := (hMk3.below hBr hobl3).cell hin
          have hobr : ob < wr.heap.size := by omega
          have hii : (p : Int) < (W.length : Int) := by omega
          cases hb : bt A p with
          | false =>
            rw [hb] at hbc'
            go_wp2_with fail
            go_roundw
            case rel => exact ⟨nextAt W p, g, c, n, pre ++ [p], by first | rfl | simp, rfl, by rw [seen_no hb]; exact HN, hnx, by rw [seen_no hb]; exact hown, hBr⟩
            case measure => simp [intOf]; omega
          | true =>
            rw [hb] at hbc'
            have hcls := hfine.cls p hmem
            have hii1 : (p : Int) + 1 < (W.length : Int) := by omega
            have hii2 : (p : Int) + 2 < (W.length : Int) := by omega
            have hiz : (0 : Int) ≤ (p : Int) + 1 := by omega
            have hiz2 : (0 : Int) ≤ (p : Int) + 2 := by omega
            have hwp1 := wrap_id (x := (p : Int) + 1) (by omega) (by omega)
            have hwp2 := wrap_id (x := (p : Int) + 2) (by omega) (by omega)
            go_upto_region 17 with (go_at_call 40; refine (rnow_any T W ps w1.heap.size W.length _ _ hTc hTlr hTk' hs2000 hcls).mono ?_; rintro e w4 ⟨rfl, hw4⟩; rw [hw4]; clear hw4 w4)
            go_cut [11] from 63 to 133 (fun s11 wx => ∃ g c, s11 = sl g (n + 3) c ∧ wx.ownsRow w3.heap.size 3 1 (sl g (n + 3) c) (n + 3) (vals (laidF W ps (seenOf A pre) ++ [turnP W ps (wd W p), wd W (p + 1), wd W (p + 2)])) ∧ Below w3.heap.size w3 wx)
            case first =>
              have ht1 : ((p : Int) + 1).toNat = p + 1 := by omega
              have ht2 : ((p : Int) + 2).toNat = p + 2 := by omega
              go_region_law (refine step_append_own rfl (.tmp 87) (.tmp 99) 22 rfl w3.heap.size 3 i0 (.int .i64 0) 1 8 ty30 hi hz0 hz1 hz2 rfl (by decide) (sl g n c) n (vals (laidF W ps (seenOf A pre))) (by simp [Act.eval]) (hown.drew.alloc _) ⟨wr.heap.size, 0, none⟩ 3 3 [.int .i64 (turnP W ps (wd W p)), .int .i64 (wd W (p + 1)), .int .i64 (wd W (p + 2))] (by simp [Act.eval]) rfl (cell_three_new wr.drew _ _ _ _) (ints_oneCell .i64 [turnP W ps (wd W p), wd W (p + 1), wd W (p + 2)]) (by unfold maxLen; omega) (by omega) (by simp; omega) ?_; intro v' w5 hown5 hgrow5 hnil5)
              all_goals
                obtain ⟨g5, c5, rfl, hg5, hown6⟩ := own_shape hown5 (fun e => by have := (hnil5.1 e).1; cases this)
                go_wp2_with fail
                go_meet
                case rel => exact ⟨g5, c5, rfl, own_mono' (by simpa [vals] using hown6) hg5, (hBr.drew.alloc (by simp; omega) _).grown hgrow5 (by simp; omega) (fun k hk => by simp [Value.ownBlock] at hk; have := (hown.lt g rfl).1; omega)⟩
            case rest =>
              obtain ⟨g5, c5, rfl, hown5, hB5⟩ := hcut
              have hroom : p + 3 + slotsAt W p ≤ W.length := hfo.2.2.2.2
              have hslot := hfine.slot p hmem
              have hnext : nextAt W p = p + 3 + slotsAt W p := rfl
              have HE : Hid (partF W ps (seenOf A pre) p (nextAt W p) = laidF W ps (seenOf A (pre ++ [p]))) := by rw [seen_yes hb]; exact partF_end hroom
              have HNn : Hid ((laidF W ps (seenOf A (pre ++ [p]))).length = n + (nextAt W p - p)) := by rw [← HE.out, partF_length hroom hge (Nat.le_refl _), HN.out]; exact rfl
              rw [← partF_start] at hown5
              clear hcp hcp1 hcp2 hbc' hcls hown HN hii1 hii2 hiz hiz2 hwp1 hwp2 hrowr hTr hTc hBr
              go_wp2_with fail
              go_loopw [11, 14] (fun s11 s14 wr => ∃ (q g c m : Nat), s14 = .int .i64 q ∧ s11 = sl g m c ∧ p + 3 ≤ q ∧ q ≤ nextAt W p ∧ Hid (m = n + (q - p)) ∧ wr.ownsRow w3.heap.size 3 1 (sl g m c) m (vals (partF W ps (seenOf A pre) p q)) ∧ Below w3.heap.size w3 wr) (fun _ s14 _ => 3000 - (intOf s14).toNat)
              case atStart => exact ⟨p + 3, g5, c5, n + 3, by first | rfl | simp, rfl, by omega, by omega, (by omega : n + 3 = n + (p + 3 - p)), hown5, hB5⟩
              case round =>
                clear hown5 hB5
                obtain ⟨q, g, c, m, rfl, rfl, hq1, hq2, Hm, hown, hBr⟩ := hrel
                have hmle : m ≤ W.length := by have := Hm.out; omega
                have Hm1 : Hid (m + 1 = n + (q + 1 - p)) := by have := Hm.out; exact (by omega : m + 1 = n + (q + 1 - p))
                have hrowr := hrow.same hBr
                have hrlq := hrowr.lt
                have hszq := hBr.size
                have hTr := ownsRow_below hTo hBr hTl
                have hTc : ∀ k, k < W.length → wr.cell? ⟨w1.heap.size, k, none⟩ = some (.int .i64 (wd T k)) := fun k hk => own_some hTr hk
                have hTlq := own_lt hTr
                have hcp2 := hrowr.cell (p + 2) (by omega)
                by_cases hgo : q < nextAt W p
                · have hkni : (q : Int) < (p : Int) + 3 + wd W (p + 2) / 4 := by rw [hnn]; omega
                  have hcq := hrowr.cell q (by omega)
                  have hqi : (q : Int) < (W.length : Int) := by omega
                  have HP := partF_next (ps := ps) (qs := seenOf A pre) hroom hq1 hgo
                  by_cases h1 : formAt W p = 1
                  · have heb : (wd W (p + 2) % 4 != 1) = false := by unfold formAt at h1; simp [h1]
                    rw [if_pos h1] at HP
                    have HP' : Hid (partF W ps (seenOf A pre) p (q + 1) = partF W ps (seenOf A pre) p q ++ [wd W q]) := HP
                    clear HP h1 hslot
                    go_wp2_with (at_builtin; go_must (refine wpList_append_own _ rfl (.tmp 130) (.tmp 132) 22 rfl w3.heap.size 3 i0 (.int .i64 0) 1 8 ty30 hi hz0 hz1 hz2 rfl (by decide) (sl g m c) m (vals (partF W ps (seenOf A pre) p q)) rfl (hown.alloc _) ⟨wr.heap.size, 0, none⟩ 1 1 [.int .i64 (wd W q)] rfl rfl (cell_one_new _ _ _) (ints_oneCell .i64 [wd W q]) (by unfold maxLen; omega) (by omega) (by simp; omega) ?_); intro v' w6 hown6 hgrow6 hnil6; obtain ⟨g6, c6, rfl, hg6, hown7⟩ := own_shape hown6 (fun e => by have := (hnil6.1 e).1; cases this))
                    go_roundw
                    case rel => exact ⟨q + 1, g6, c6, m + 1, by first | rfl | simp, rfl, by omega, by omega, Hm1, by rw [HP'.out]; simpa [vals] using hown6, (hBr.alloc (by omega) _).grown hgrow6 (by simp; omega) (fun k hk => (hown.lt k hk).1)⟩
                    case measure => simp [intOf]; omega
                  · have heb : (wd W (p + 2) % 4 != 1) = true := by unfold formAt at h1; simpa using h1
                    rw [if_neg h1] at HP
                    have HP' : Hid (partF W ps (seenOf A pre) p (q + 1) = partF W ps (seenOf A pre) p q ++ [turnP W ps (wd W q)]) := HP
                    have hokq := hslot h1 (q - (p + 3)) (by omega)
                    rw [show p + 3 + (q - (p + 3)) = q by omega] at hokq
                    clear HP h1 hslot
                    go_wp2_with (first | (go_at_call 40; refine (rnow_any T W ps w1.heap.size W.length _ _ hTc hTlq hTk' hs2000 hokq).mono ?_; rintro e w4 ⟨rfl, hw4⟩; rw [hw4]; clear hw4 w4) | (at_builtin; go_must (refine wpList_append_own _ rfl (.tmp 130) (.tmp 132) 22 rfl w3.heap.size 3 i0 (.int .i64 0) 1 8 ty30 hi hz0 hz1 hz2 rfl (by decide) (sl g m c) m (vals (partF W ps (seenOf A pre) p q)) rfl (hown.alloc _) ⟨wr.heap.size, 0, none⟩ 1 1 [.int .i64 (turnP W ps (wd W q))] rfl rfl (cell_one_new _ _ _) (ints_oneCell .i64 [turnP W ps (wd W q)]) (by unfold maxLen; omega) (by omega) (by simp; omega) ?_); intro v' w6 hown6 hgrow6 hnil6; obtain ⟨g6, c6, rfl, hg6, hown7⟩ := own_shape hown6 (fun e => by have := (hnil6.1 e).1; cases this)))
                    go_roundw
                    case rel => exact ⟨q + 1, g6, c6, m + 1, by first | rfl | simp, rfl, by omega, by omega, Hm1, by rw [HP'.out]; simpa [vals] using hown6, (hBr.alloc (by omega) _).grown hgrow6 (by simp; omega) (fun k hk => (hown.lt k hk).1)⟩
                    case measure => simp [intOf]; omega
                · have he : q = nextAt W p := by omega
                  have hkni : ¬ ((q : Int) < (p : Int) + 3 + wd W (p + 2) / 4) := by rw [hnn]; omega
                  rw [he, HE.out] at hown
                  have HNm : Hid (m = (laidF W ps (seenOf A (pre ++ [p]))).length) := by rw [HNn.out, Hm.out, he]; exact rfl
                  clear he
                  go_wp2_with fail
                  go_roundw
                  case rel => exact ⟨nextAt W p, g, c, m, pre ++ [p], by first | rfl | simp, rfl, HNm, hnx, hown, hBr⟩
                  case measure => simp [intOf]; omega
        · have hpre : pre = places W 2 := by have := hAt.all; rwa [places_end hin, List.append_nil] at this
          have hK : laidF W ps (seenOf A pre) = sweptW W roots := by rw [hpre, show seenOf A (places W 2) = ps from HA.out, HX.out.1]; rfl
          rw [hK] at hown HN
          have hgl := hown.lt g rfl
          have HOr : Hid (RootsAt rad roots wr) := ((HO.out.below (((Below.refl _ _).alloc (Nat.le_refl _) (.cells #[.slice (some ⟨b, off, none⟩) W.length cap] 24)).alloc (by simp) (.cells #[.slice none 0 0] 24))).below hb1).below (hB.trans (hBr.mono hB.size))
          obtain ⟨e0, e1, e2, ez⟩ := boxes11 (hb1.trans ((hB.trans (hBr.mono hB.size)).mono hb1.size))
          have hBw : Below w.heap.size w wr := (below2 hb1).trans ((hB.trans (hBr.mono hB.size)).mono (below2 hb1).size)
          clear hAt hpre hK hrowr hnp hsp
          go_wp2_with fail
          obtain ⟨w6, e6⟩ : ∃ w6, w6 = wr := ⟨wr, rfl⟩
          subst e6
          go_loopw [15, 16] (fun s15 s16 wr => ∃ (i : Nat), s16 = .int .i64 i ∧ i ≤ roots.length ∧ wr.ownsRow w6.heap.size 3 1 s15 i (vals ((roots.take i).map (turnP W ps))) ∧ Below w6.heap.size w6 wr) (fun _ s16 _ => roots.length - (intOf s16).toNat)
          case atStart => exact ⟨0, rfl, Nat.zero_le _, World.ownsRow_nil _ _ _ _, Below.refl _ _⟩
          case round =>
            obtain ⟨i, rfl, hir, hownl, hB6⟩ := hrel
            have hsz6 := hB6.size
            have hTq := ownsRow_below hTr hB6 hTlr
            have hTcq : ∀ k, k < W.length → wr.cell? ⟨w1.heap.size, k, none⟩ = some (.int .i64 (wd T k)) := fun k hk => own_some hTq hk
            have hTlq := own_lt hTq
            by_cases hlt : i < roots.length
            · obtain ⟨rb, ro, hrad, hrr⟩ := HOr.out (by omega)
              subst hrad
              have hcr := (hrr.same hB6).cell i hlt
              have hoki := hok _ (wd_mem hlt)
              have hii : (i : Int) < (roots.length : Int) := by omega
              have HL : Hid ((roots.take (i + 1)).map (turnP W ps) = (roots.take i).map (turnP W ps) ++ [turnP W ps (wd roots i)]) := by rw [take_snoc hlt, List.map_append]; exact rfl
              go_wp2_with (first | (go_at_call 40; refine (rnow_any T W ps w1.heap.size W.length _ _ hTcq hTlq hTk' hs2000 hoki).mono ?_; rintro e w4 ⟨rfl, hw4⟩; rw [hw4]; clear hw4 w4) | (at_builtin; go_must (refine wpList_append_own _ rfl (.tmp 146) (.tmp 148) 22 rfl w6.heap.size 3 i0 (.int .i64 0) 1 8 ty30 hi hz0 hz1 hz2 rfl (by decide) _ i (vals ((roots.take i).map (turnP W ps))) rfl (hownl.alloc _) ⟨wr.heap.size, 0, none⟩ 1 1 [.int .i64 (turnP W ps (wd roots i))] rfl rfl (cell_one_new _ _ _) (ints_oneCell .i64 [turnP W ps (wd roots i)]) (by unfold maxLen; omega) (by omega) (by simp; omega) ?_); intro v' w7 hown7 hgrow7 hnil7))
              go_roundw
              case rel => exact ⟨i + 1, by first | rfl | simp, by omega, by rw [HL.out]; simpa [vals] using hown7, (hB6.alloc (by omega) _).grown hgrow7 (by simp; omega) (fun k hk => (hownl.lt k hk).1)⟩
              case measure => simp [intOf]; omega
            · have he : i = roots.length := by omega
              subst he
              rw [List.take_length, ← HX.out.2] at hownl
              have hlR : (sweptR W roots).length = roots.length := by rw [HX.out.2, List.length_map]
              have hlK : (sweptW W roots).length = n := HN.out.symm
              have d1 := through hB6 e1 (by dsimp only; omega)
              have d2 := throughF hB6 e2 (by dsimp only; omega)
              have hownK : wr.ownsRow 0 3 1 (sl g n c) n (vals (sweptW W roots)) := own_mono (Nat.zero_le _) (own_same hown fun g' hg' => hB6.block g' (hown.lt g' hg').2)
              have hN6 : w.heap.size + 1 < w6.heap.size := ez
              have hgg : w.heap.size + 1 < g := by have := hb1.size; simp at this; omega
              have hnlt : ¬ ((roots.length : Int) < (roots.length : Int)) := by omega
              go_wp2_with fail
              refine bodyPost_ret (v := .tuple #[.agg #[sl g n c], u15]) (by simp [results, Try.results22, go_sem, d1]) rfl ⟨⟨g, c, u15, by rw [hlK], ?_, ?_⟩, ?_⟩
              · rw [hlK]; exact own_set' hownK (by dsimp only; omega) _
              · rw [hlR]
                have h3 := own_mono (show w.heap.size ≤ w6.heap.size by omega) hownl
                exact own_same h3 fun g' hg' => by
                  have := (hownl.lt g' hg').1
                  exact Below.heap_setCell _ _ _ _ (by dsimp only; omega)
              · exact (hBw.trans (hB6.mono hBw.size)).setCell (by dsimp only; omega) _
end Go.Proofs.Ytpapaadclkdbkaa
