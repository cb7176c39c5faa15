/- Several texts in one. -/
import Derived.Test.YthdhaokjibfjdaaGi
import Derived.Test.YthdhaokjibfjdaaRef17aX
import Derived.Test.YthdhaokjibfjdaaRefRootsX
import Derived.Test.YthdhaokjibfjdaaLawKitX
import Derived.Test.YthdhaokjibfjdaaGonePlainX
/- What chapter 19 says of counts, as plain functions on lists of numbers. No Go in sight. -/
namespace Go.Proofs.Ythdhaokjibfjdaa

/-- How many of some references are of the thing at k. -/
def cntL (L : List Int) (k : Nat) : Nat := (L.filter fun o => kindOf o == 3).count (2 * (k : Int))
/-- What all things lead to. -/
def allLeads (W : List Int) : List Int := (places W 2).flatMap (leadsAt W)
/-- By how many each thing is held. -/
def countsP (W R : List Int) : List Int := (places W 2).map fun p => (cntL (R ++ allLeads W) p : Int)
theorem cntL_nil (k : Nat) : cntL [] k = 0 := rfl
theorem cntL_append (L M : List Int) (k : Nat) : cntL (L ++ M) k = cntL L k + cntL M k := by
  unfold cntL; rw [List.filter_append, List.count_append]
theorem cntL_one (o : Int) (k : Nat) : cntL [o] k = if kindOf o = 3 ∧ pl2 o = k then 1 else 0 := by
  unfold cntL
  by_cases hk : kindOf o = 3
  · have := kind3 hk
    rw [List.filter_cons, if_pos (by simpa using hk), List.filter_nil, List.count_singleton]
    by_cases e : pl2 o = k
    · have : o = 2 * (k : Int) := by unfold pl2 at e; omega
      rw [if_pos (by simp [this]), if_pos ⟨hk, e⟩]
    · have : o ≠ 2 * (k : Int) := fun h => e (by unfold pl2; omega)
      rw [if_neg (by simpa using this), if_neg (fun h => e h.2)]
  · rw [List.filter_cons, if_neg (by simpa using hk), if_neg (fun h => hk h.1)]; rfl
theorem cntL_le (L : List Int) (k : Nat) : cntL L k ≤ L.length := by
  unfold cntL
  exact Nat.le_trans List.count_le_length (List.length_filter_le ..)
theorem cntL_pos {L : List Int} {k : Nat} : 0 < cntL L k ↔ kindOf (2 * (k : Int)) = 3 ∧ 2 * (k : Int) ∈ L := by
  unfold cntL
  rw [List.count_pos_iff, List.mem_filter]
  simp [and_comm]
/-- A list of counts. -/
def NOk (N W L : List Int) : Prop := N.length = W.length + 1 ∧ ∀ k, k ≤ W.length → wd N k = (cntL L k : Int)
theorem NOk.start (W : List Int) : NOk (List.replicate (W.length + 1) 0) W [] :=
  ⟨by simp, fun k _ => by unfold wd; rw [List.getD_eq_getElem?_getD, List.getElem?_replicate]; split <;> rfl⟩
theorem NOk.more {N W L : List Int} {o : Int} (h : NOk N W L) (hk : kindOf o = 3) (hp : pl2 o ≤ W.length) : NOk (N.set (pl2 o) (wd N (pl2 o) + 1)) W (L ++ [o]) := by
  refine ⟨by rw [List.length_set]; exact h.1, fun k hkl => ?_⟩
  rw [cntL_append, cntL_one]
  by_cases e : pl2 o = k
  · subst e
    rw [wd_set_same (by rw [h.1]; omega), if_pos ⟨hk, rfl⟩, h.2 _ hp]; omega
  · rw [wd_set_other e, if_neg (fun h => e h.2), h.2 k hkl]; omega
theorem NOk.pass {N W L : List Int} {o : Int} (h : NOk N W L) (hk : kindOf o ≠ 3) : NOk N W (L ++ [o]) := by
  refine ⟨h.1, fun k hkl => ?_⟩
  rw [cntL_append, cntL_one, if_neg (fun h => hk h.1), h.2 k hkl]; omega
theorem leads_lenC (W : List Int) (p : Nat) : (leadsAt W p).length ≤ 1 + slotsAt W p := by
  unfold leadsAt
  split
  · simp only [List.length_cons, List.length_take]; omega
  · simp
theorem leads_sum (W : List Int) : ∀ ps : List Nat, (ps.flatMap (leadsAt W)).length ≤ roomSum W ps
  | [] => Nat.le_refl _
  | p :: r => by
    have := leads_sum W r
    have := leads_lenC W p
    rw [List.flatMap_cons, List.length_append, roomSum, roomAt]; omega
end Go.Proofs.Ythdhaokjibfjdaa

/- gessoref17: one, Counts. -/
namespace Go.Proofs.Ythdhaokjibfjdaa
open Go.RowKit

/-- Where Counts stands: those of L are counted. -/
structure CtR (w : World) (W : List Int) (b off B nb : Nat) (L : List Int) : Prop where
  row : Row w b off W
  low : b < B
  own : ∃ N, NOk N W L ∧ w.ownsRow B 3 1 (sl nb (W.length + 1) (W.length + 1)) (W.length + 1) (vals N)
set_option maxRecDepth 20000 in
set_option maxHeartbeats 4000000 in
theorem rone_any (W : List Int) (b off B nb : Nat) (L : List Int) (o : Int) (w : World) (h : CtR w W b off B nb L) (hL : L.length ≤ 100000) (ho : okRef W o) :
    Calls Try.prog 29 #[sl nb (W.length + 1) (W.length + 1), .int .i64 o] w fun e w' => e = .returned (.tuple #[]) ∧ CtR w' W b off B nb (L ++ [o]) ∧ Below B w w' := by
  obtain ⟨N, hN, hown⟩ := id h.own
  have hnb := own_lt hown
  by_cases hk : kindOf o = 3
  · have ht := ok_thing ho hk
    obtain ⟨p, he, _, hpl, hp2⟩ := thing_ref ht
    have hpp : pl2 o = p := hp2
    have hkk := kind3 hk
    have h2p : 2 * (p : Int) / 2 = (p : Int) := by omega
    have hw0 := wrap_id (x := (p : Int)) (by omega) (by omega)
    have hii : (p : Int) < (W.length : Int) + 1 := by omega
    have hcp := own_wd hown (i := p) (by omega)
    have hb0 : 0 ≤ wd N p ∧ wd N p ≤ 100000 := by rw [hN.2 p (by omega)]; have := cntL_le L p; omega
    have hw1 := wrap_id (x := wd N p + 1) (by omega) (by omega)
    have hfw := hown.frozenAt p
    have HN : Hid (NOk (N.set p (wd N p + 1)) W (L ++ [o])) := by have := hN.more hk (by rw [hpp]; omega); rw [hpp] at this; exact this
    have hst := (hown.stored p (.int .i64 (wd N p + 1))).1
    rw [show (vals N).set p (.int .i64 (wd N p + 1)) = vals (N.set p (wd N p + 1)) by simp [vals, List.map_set]] at hst
    have hnB := (hown.lt nb rfl).1
    have HR : Hid (Row w b off W ∧ b < B) := ⟨h.row, h.low⟩
    subst he
    generalize hX : wd N p = X at *
    clear ht ho hN hkk hown h hpp hp2 hX
    go_enter Try.func29, Try.ntmps29
    go_wp2_with (go_at_call 55; refine (rkind_any _ _).mono ?_; rintro e w' ⟨rfl, rfl⟩; rw [hk])
    go_end0
    have hb := (Below.refl B w').setCell (p := ⟨nb, p, none⟩) hnB (.int .i64 (X + 1))
    exact ⟨rfl, ⟨HR.out.1.below hb HR.out.2, HR.out.2, _, HN.out, hst⟩, hb⟩
  · have HR : Hid (CtR w W b off B nb (L ++ [o])) := ⟨h.row, h.low, N, hN.pass hk, hown⟩
    have hb : (kindOf o == 3) = false := by simpa using hk
    clear ho hk h hN hown
    go_enter Try.func29, Try.ntmps29
    go_wp2_with (go_at_call 55; refine (rkind_any _ _).mono ?_; rintro e w' ⟨rfl, rfl⟩)
    go_end0
    exact ⟨rfl, HR.out, Below.refl _ _⟩
theorem CtR.below {w w' : World} {W L : List Int} {b off B nb : Nat} (h : CtR w W b off B nb L) (hb : Below w.heap.size w w') : CtR w' W b off B nb L := by
  obtain ⟨N, hN, ho⟩ := h.own
  exact ⟨h.row.same hb, h.low, N, hN, own_same ho fun g e => hb.block g (ho.lt g e).2⟩
set_option maxRecDepth 100000 in
set_option maxHeartbeats 8000000 in
theorem rcounts_any (W roots : List Int) (b off cap : Nat) (rad : Option Addr) (rcap : Nat) (w : World) (hr : Row w b off W) (hroots : RootsAt rad roots w) (hrl : roots.length ≤ 5000) (hc : (checkOf W).1 = 0) (hok : ∀ x ∈ roots, okRef W x) :
    Calls Try.prog 13 #[heapV (some ⟨b, off, none⟩) W.length cap, .slice rad roots.length rcap] w fun e w' => (∃ v, e = .returned v ∧ w'.ownsRow w.heap.size 3 1 v (countsP W roots).length (vals (countsP W roots))) ∧ Below w.heap.size w w' := by
  obtain ⟨i0, hi, hz0, hz1, hz2⟩ := info_parts info3
  have hf := fine_of hc
  have hl := hf.few
  have h2 : 2 ≤ W.length := (front_out (check_fine hc).1).1
  have HO : Hid (RootsAt rad roots w) := hroots
  have HK : Hid (∀ x ∈ roots, okRef W x) := hok
  have hrlt := hr.lt
  have hw1 := wrap_id (x := (W.length : Int) + 1) (by omega) (by omega)
  clear hroots hok
  go_enter Try.func13, Try.ntmps13
  go_wp2_with (at_make; refine wpList_make_full _ rfl _ _ 22 rfl (w.heap.size + 1) 3 i0 (.int .i64 0) 1 ty30 hi hz0 hz1 _ _ _ _ (W.length + 1) rfl rfl rfl rfl (by rw [hz2]; omega) (by unfold maxLen; omega) (by simp) ?_; intro w2 hown2 hgrow2)
  have hB2 : Below (w.heap.size + 1) (w.alloc (.cells #[.slice (some ⟨b, off, none⟩) W.length cap] 24)) w2 := (Below.refl _ _).grown hgrow2 (by simp) (fun k hk => by cases hk)
  have hT2 : w2.ownsRow (w.heap.size + 1) 3 1 (sl (w.heap.size + 1) (W.length + 1) (W.length + 1)) (W.length + 1) (vals (List.replicate (W.length + 1) 0)) := by
    have := hown2
    simpa [toList_madeCells_one, vals, Value.cells] using this
  have hC2 : CtR w2 W b off (w.heap.size + 1) (w.heap.size + 1) (roots.take 0) := ⟨(hr.alloc _).below hB2 (by omega), by omega, _, NOk.start W, hT2⟩
  have HB2 : Hid (Below w.heap.size w w2) := ((Below.refl _ w).alloc (Nat.le_refl _) _).trans (hB2.mono (by omega))
  have hs2 := own_lt hT2
  obtain ⟨B, hBe⟩ : ∃ B, B = w.heap.size + 1 := ⟨_, rfl⟩
  have HBe : Hid (B = w.heap.size + 1) := hBe
  rw [← hBe] at hC2 hs2 ⊢
  clear hown2 hgrow2 hB2 hr hT2 hBe
  go_loopw [7] (fun s7 wr => ∃ (i : Nat), s7 = .int .i64 i ∧ i ≤ roots.length ∧ Hid (CtR wr W b off B B (roots.take i)) ∧ Hid (Below B w2 wr)) (fun s7 _ => 6000 - (intOf s7).toNat)
  case atStart => exact ⟨0, rfl, Nat.zero_le _, hC2, Below.refl _ _⟩
  case round =>
    clear hC2
    obtain ⟨i, rfl, hi1, HM, HB⟩ := hrel
    have HBW : Hid (Below w.heap.size w wr) := HB2.out.trans (HB.out.mono (by have := HBe.out; omega))
    by_cases hlt : i < roots.length
    · obtain ⟨rb, ro, hrad, hrr⟩ := HO.out (by omega)
      subst hrad
      have hcr : wr.cell? ⟨rb, ro + i, none⟩ = some (.int .i64 (wd roots i)) := (hrr.same HBW.out).cell i hlt
      have hrbl := (hrr.same HBW.out).lt
      have hoki := HK.out _ (wd_mem hlt)
      have hir : (i : Int) < (roots.length : Int) := by omega
      have hwi := wrap_id (x := (i : Int) + 1) (by omega) (by omega)
      have HS : Hid (roots.take (i + 1) = roots.take i ++ [wd roots i]) := take_snoc hlt
      have hcl := rone_any W b off B B _ (wd roots i) wr HM.out (by rw [List.length_take]; omega) hoki
      clear hrr
      go_wp2_with (go_at_call 29; refine hcl.mono ?_; rintro e w4 ⟨rfl, hM4, hb4⟩)
      go_roundw
      case rel => exact ⟨i + 1, by first | rfl | simp, by omega, by rw [HS.out]; exact hM4, HB.out.trans hb4⟩
      case measure => simp [intOf]; first | omega | (unfold nextAt; omega)
    · have he : i = roots.length := by omega
      have hir : ¬ (i : Int) < (roots.length : Int) := by omega
      have HM0 : Hid (CtR wr W b off B B (roots ++ ([] : List Nat).flatMap (leadsAt W))) := by have := HM.out; rw [he, List.take_length] at this; rw [List.flatMap_nil, List.append_nil]; exact this
      obtain ⟨w5, ew5⟩ : ∃ w5, w5 = wr := ⟨_, rfl⟩
      subst ew5
      clear HM he
      go_wp2_with fail
      go_loopw [8] (fun s8 wr => ∃ (p : Nat) (pre : List Nat), s8 = .int .i64 p ∧ Hid (AtPlace W [] pre p) ∧ Hid (CtR wr W b off B B (roots ++ pre.flatMap (leadsAt W))) ∧ Hid (Below B w5 wr)) (fun s8 _ => 3000 - (intOf s8).toNat)
      case atStart => exact ⟨2, [], rfl, ⟨rfl, hf.fit, Nat.le_refl _, h2⟩, HM0.out, Below.refl _ _⟩
      case round =>
        clear HM0
        rename_i wr
        obtain ⟨p, pre, rfl, HA, HM, HB5⟩ := hrel
        have hrow := HM.out.row
        have hbl := hrow.lt
        by_cases hin : p < W.length
        · have hii : (p : Int) < (W.length : Int) := by omega
          obtain ⟨hmem, hnot⟩ := HA.out.mem hin
          have hroom := hf.room p hmem
          have hfo := fits_out (place_fit hf.fit hmem).2.2.1
          have HNX : Hid (AtPlace W [] (pre ++ [p]) (nextAt W p)) := HA.out.next hin
          have hnx : nextAt W p = p + 3 + slotsAt W p := rfl
          have hc0 := hrow.cell p hin
          have hokc := hf.cls p hmem
          have hslot := hf.slot p hmem
          have hps := HA.out.sum hf.fit
          have hln : (roots ++ pre.flatMap (leadsAt W)).length ≤ 7000 := by have := leads_sum W pre; rw [List.length_append]; omega
          have hcl := rone_any W b off B B _ (wd W p) wr HM.out (by omega) hokc
          have hw3 := wrap_id (x := (p : Int) + 3) (by omega) (by omega)
          clear hps
          go_wp2_with (go_at_call 29; refine hcl.mono ?_; rintro e w6 ⟨rfl, hM6, hb6⟩)
          have hsq : (wd W (p + 2)).tdiv 4 = (slotsAt W p : Nat) := by rw [Int.tdiv_eq_ediv_of_nonneg hfo.2.1]; unfold slotsAt; omega
          have htm : (wd W (p + 2)).tmod 4 = formAt W p := Int.tmod_eq_emod_of_nonneg hfo.2.1
          have hws := wrap_id (x := ((slotsAt W p : Nat) : Int)) (by omega) (by omega)
          have hwt := wrap_id (x := (p : Int) + 3 + ((slotsAt W p : Nat) : Int)) (by omega) (by omega)
          have hw2 := wrap_id (x := (p : Int) + 2) (by omega) (by omega)
          have hfr : 0 ≤ formAt W p ∧ formAt W p ≤ 2 := by unfold formAt; omega
          have hwf := wrap_id (x := formAt W p) (by omega) (by omega)
          have hta2 : ((p : Int) + 2).toNat = p + 2 := by omega
          have hi2 : (p : Int) + 2 < (W.length : Int) := by omega
          have HM6 : Hid (CtR w6 W b off B B (roots ++ pre.flatMap (leadsAt W) ++ wd W p :: (slotList W p).take 0)) := by rw [List.take_zero]; exact hM6
          have HB6 : Hid (Below B w5 w6) := HB5.out.trans hb6
          clear hcl hM6 hb6 hc0 hrow hbl hii HM HB5
          go_loopw [9] (fun s9 wr => ∃ (j q : Nat), s9 = .int .i64 q ∧ Hid (q = p + 3 + j) ∧ Hid (j ≤ slotsAt W p) ∧ Hid (formAt W p ≠ 0 → j = 0) ∧ Hid (CtR wr W b off B B (roots ++ pre.flatMap (leadsAt W) ++ wd W p :: (slotList W p).take j)) ∧ Hid (Below B w5 wr)) (fun s9 _ => 9000 - (intOf s9).toNat)
          case atStart => exact ⟨0, p + 3, by first | rfl | simp, rfl, Nat.zero_le _, fun _ => rfl, HM6.out, HB6.out⟩
          case round =>
            clear HM6 HB6
            rename_i wr
            obtain ⟨j, q, rfl, HQ, HJ, HJ0, HM, HB7⟩ := hrel
            have hrow := HM.out.row
            have hbl := hrow.lt
            have hc2 := hrow.cell (p + 2) (by omega)
            have hq2 : q ≤ 2000 := by have := HQ.out; have := HJ.out; omega
            have HSU : Hid ((p : Int) + 3 + ((slotsAt W p : Nat) : Int) = ((nextAt W p : Nat) : Int)) := by exact (by omega : (p : Int) + 3 + ((slotsAt W p : Nat) : Int) = ((nextAt W p : Nat) : Int))
            by_cases hgo : j < slotsAt W p ∧ formAt W p = 0
            · obtain ⟨hjs, hf0⟩ := hgo
              have hkni : (q : Int) < (p : Int) + 3 + ((slotsAt W p : Nat) : Int) := by have := HQ.out; omega
              have haq : wr.cell? ⟨b, off + q, none⟩ = some (.int .i64 (wd W (p + 3 + j))) := by
                have := hrow.cell (p + 3 + j) (by omega)
                rw [show off + (p + 3 + j) = off + q by have := HQ.out; omega] at this
                exact this
              have hqn : (q : Int) < (W.length : Int) := by have := HQ.out; omega
              have hokj := hslot (by rw [hf0]; decide) j hjs
              have hwq := wrap_id (x := (q : Int) + 1) (by omega) (by omega)
              have hcl := rone_any W b off B B _ (wd W (p + 3 + j)) wr HM.out (by simp only [List.length_append, List.length_cons, List.length_take] at hln ⊢; omega) hokj
              have HS : Hid (roots ++ pre.flatMap (leadsAt W) ++ wd W p :: (slotList W p).take (j + 1) = roots ++ pre.flatMap (leadsAt W) ++ wd W p :: (slotList W p).take j ++ [wd W (p + 3 + j)]) := by
                rw [take_snoc (by rw [slotList_length hroom]; exact hjs), slotList_at hjs, ← List.cons_append, List.append_assoc, List.append_assoc, List.append_assoc]; exact rfl
              have HQ' : Hid (q + 1 = p + 3 + (j + 1)) := by have := HQ.out; exact (by omega : q + 1 = p + 3 + (j + 1))
              have HJ' : Hid (j + 1 ≤ slotsAt W p ∧ formAt W p = 0) := ⟨hjs, hf0⟩
              rw [hf0] at htm hwf
              clear hjs hf0 hslot hokj hrow
              clear hnx
              go_wp2_with (go_at_call 29; refine hcl.mono ?_; rintro e w8 ⟨rfl, hM8, hb8⟩)
              go_roundw
              case rel => exact ⟨j + 1, q + 1, by first | rfl | simp, HQ', HJ'.out.1, fun h => absurd HJ'.out.2 h, by rw [HS.out]; exact hM8, HB7.out.trans hb8⟩
              case measure => simp [intOf]; first | omega | (unfold nextAt; omega)
            · have HLE : Hid (CtR wr W b off B B (roots ++ (pre ++ [p]).flatMap (leadsAt W))) := by
                have e : wd W p :: (slotList W p).take j = leadsAt W p := by
                  unfold leadsAt
                  by_cases h0 : formAt W p = 0
                  · have e : j = slotsAt W p := by have := HJ.out; have : ¬ j < slotsAt W p := fun h => hgo ⟨h, h0⟩; omega
                    have e3 : (slotList W p).take j = slotList W p := List.take_of_length_le (by rw [slotList_length hroom]; omega)
                    rw [if_pos h0, e3]; rfl
                  · rw [if_neg h0, HJ0.out h0, List.take_zero]
                have := HM.out
                rw [e, List.append_assoc] at this
                rw [List.flatMap_append, List.flatMap_cons, List.flatMap_nil, List.append_nil]; exact this
              by_cases hjs : j < slotsAt W p
              · have hf0 : formAt W p ≠ 0 := fun h => hgo ⟨hjs, h⟩
                have hkni : (q : Int) < (p : Int) + 3 + ((slotsAt W p : Nat) : Int) := by have := HQ.out; omega
                have hbe : (formAt W p == 0) = false := by simpa using hf0
                clear hgo hjs hf0 hslot hrow HM hnx
                go_wp2_with fail
                go_roundw
                case rel => exact ⟨nextAt W p, pre ++ [p], by first | rfl | (rw [HSU.out]) | simp [HSU.out], HNX.out, HLE.out, HB7.out⟩
                case measure => simp [intOf]; first | omega | (unfold nextAt; omega)
              · have hkni : ¬ (q : Int) < (p : Int) + 3 + ((slotsAt W p : Nat) : Int) := by have := HQ.out; omega
                clear hgo hjs hslot hrow HM hnx
                go_wp2_with fail
                go_roundw
                case rel => exact ⟨nextAt W p, pre ++ [p], by first | rfl | (rw [HSU.out]) | simp [HSU.out], HNX.out, HLE.out, HB7.out⟩
                case measure => simp [intOf]; first | omega | (unfold nextAt; omega)
        · have hii : ¬ (p : Int) < (W.length : Int) := by omega
          have hpre : pre = places W 2 := by have := HA.out.all; rwa [places_end hin, List.append_nil] at this
          obtain ⟨N, hN, hNo⟩ := HM.out.own
          have HN : Hid (∀ k, k < W.length → wd N k = (cntL (roots ++ allLeads W) k : Int)) := fun k hk => by have := hN.2 k (by omega); rw [hpre] at this; exact this
          have HNO : Hid (wr.ownsRow B 3 1 (sl B (W.length + 1) (W.length + 1)) (W.length + 1) (vals N)) := hNo
          have HBE : Hid (Below w.heap.size w wr) := HBW.out.trans (HB5.out.mono (by have := HBe.out; omega))
          have HRW : Hid (Row wr b off W) := hrow
          obtain ⟨w9, ew9⟩ : ∃ w9, w9 = wr := ⟨_, rfl⟩
          subst ew9
          clear HA HM hrow hpre hN hNo HB HB5 HBW HB2 hbl
          go_wp2_with fail
          go_loopw [10, 11] (fun s10 s11 wr => ∃ (p : Nat) (pre : List Nat), s11 = .int .i64 p ∧ Hid (AtPlace W [] pre p) ∧ Hid (wr.ownsRow w9.heap.size 3 1 s10 pre.length (vals (pre.map fun p => (cntL (roots ++ allLeads W) p : Int)))) ∧ Hid (Below w9.heap.size w9 wr)) (fun _ s11 _ => 3000 - (intOf s11).toNat)
          case atStart => exact ⟨2, [], rfl, ⟨rfl, hf.fit, Nat.le_refl _, h2⟩, World.ownsRow_nil _ _ _ _, Below.refl _ _⟩
          case round =>
            rename_i wr
            obtain ⟨p, pre, rfl, HA, HOW, HBL⟩ := hrel
            have hszl := HBL.out.size
            have hrow := HRW.out.same HBL.out
            have hbl := hrow.lt
            by_cases hin : p < W.length
            · have hii : (p : Int) < (W.length : Int) := by omega
              have hii1 : (p : Int) < (W.length : Int) + 1 := by omega
              obtain ⟨hmem, hnot⟩ := HA.out.mem hin
              have hfo := fits_out (place_fit hf.fit hmem).2.2.1
              have HNX : Hid (AtPlace W [] (pre ++ [p]) (nextAt W p)) := HA.out.next hin
              have hnx : nextAt W p = p + 3 + slotsAt W p := rfl
              have hc2 := hrow.cell (p + 2) (by omega)
              have hno := ownsRow_below HNO.out HBL.out (own_lt HNO.out)
              have hcn := own_wd hno (i := p) (by omega)
              rw [HN.out p hin] at hcn
              have hnl := own_lt hno
              have hsq : (wd W (p + 2)).tdiv 4 = (slotsAt W p : Nat) := by rw [Int.tdiv_eq_ediv_of_nonneg hfo.2.1]; unfold slotsAt; omega
              have hws := wrap_id (x := ((slotsAt W p : Nat) : Int)) (by omega) (by omega)
              have hwt := wrap_id (x := (p : Int) + 3 + ((slotsAt W p : Nat) : Int)) (by omega) (by omega)
              have hw2 := wrap_id (x := (p : Int) + 2) (by omega) (by omega)
              have hw3 := wrap_id (x := (p : Int) + 3) (by omega) (by omega)
              have hta2 : ((p : Int) + 2).toNat = p + 2 := by omega
              have hi2 : (p : Int) + 2 < (W.length : Int) := by omega
              have hpl : pre.length ≤ 2000 := by
                have h1 := HA.out.sum hf.fit
                have h3 : ∀ l : List Nat, l.length ≤ roomSum W l := fun l => by
                  induction l with
                  | nil => exact Nat.zero_le _
                  | cons a r ih => rw [roomSum, roomAt, List.length_cons]; omega
                have := h3 pre; omega
              have HSU : Hid ((p : Int) + 3 + ((slotsAt W p : Nat) : Int) = ((nextAt W p : Nat) : Int)) := by exact (by omega : (p : Int) + 3 + ((slotsAt W p : Nat) : Int) = ((nextAt W p : Nat) : Int))
              have HMP : Hid (vals ((pre ++ [p]).map fun p => (cntL (roots ++ allLeads W) p : Int)) = vals (pre.map fun p => (cntL (roots ++ allLeads W) p : Int)) ++ [.int .i64 (cntL (roots ++ allLeads W) p : Int)]) := by simp [vals, Hid]
              generalize cntL (roots ++ allLeads W) p = X at *
              clear hno hrow hnx
              go_wp2_with (at_builtin; go_must (refine wpList_append_own _ rfl (.tmp 92) (.tmp 97) 22 rfl w9.heap.size 3 i0 (.int .i64 0) 1 8 ty30 hi hz0 hz1 hz2 rfl (by decide) _ pre.length (vals (pre.map fun p => (cntL (roots ++ allLeads W) p : Int))) rfl (HOW.out.alloc _) ⟨wr.heap.size, 0, none⟩ 1 1 [.int .i64 (X : Int)] rfl rfl (cell_one_new _ _ _) (ints_oneCell .i64 [(X : Int)]) (by unfold maxLen; omega) (by omega) (by simp; omega) ?_); intro v' w7 hown7 hgrow7 hnil7; have hb7 : Below w9.heap.size w9 w7 := (HBL.out.alloc (by omega) _).grown hgrow7 (by simp; omega) (fun k hk => (HOW.out.lt k hk).1); have hc7 : w7.cell? ⟨b, off + (p + 2), none⟩ = some (.int .i64 (wd W (p + 2))) := (HRW.out.same hb7).cell (p + 2) (by omega); have hbl7 := (HRW.out.same hb7).lt)
              go_roundw
              case rel => exact ⟨nextAt W p, pre ++ [p], by first | rfl | (rw [HSU.out]) | simp [HSU.out], HNX.out, by rw [HMP.out, List.length_append]; exact hown7, hb7⟩
              case measure => simp [intOf]; first | omega | (unfold nextAt; omega)
            · have hii : ¬ (p : Int) < (W.length : Int) := by omega
              have hpre : pre = places W 2 := by have := HA.out.all; rwa [places_end hin, List.append_nil] at this
              have HE : Hid (wr.ownsRow w9.heap.size 3 1 u10 (countsP W roots).length (vals (countsP W roots))) := by have := HOW.out; rw [hpre] at this; unfold countsP; rw [List.length_map]; exact this
              clear hpre HA HOW hrow
              go_wp2_with fail
              go_ret
              exact ⟨⟨_, rfl, own_mono HBE.out.size HE.out⟩, HBE.out.trans (HBL.out.mono HBE.out.size)⟩
end Go.Proofs.Ythdhaokjibfjdaa

/- What CountTells asks: who is held by nobody. -/
namespace Go.Proofs.Ythdhaokjibfjdaa
open Go.RowKit

/-- What Counts and Trial answer. -/
def CtAns (L : List Int) (e : Ending) (w : World) : Prop := ∃ ad c, e = .returned (.tuple #[.slice ad L.length c, .agg #[.int .i64 0, .int .i64 0]]) ∧ Reads w (.slice ad L.length c) L
theorem box2c {w w' : World} {x y : Value} {t : TypeId} (hb : Below (w.alloc (.cells #[x, y] t)).heap.size (w.alloc (.cells #[x, y] t)) w') : w'.cell? ⟨w.heap.size, 0, none⟩ = some x ∧ w'.cell? ⟨w.heap.size, 1, none⟩ = some y ∧ w.heap.size < w'.heap.size := by
  have hs := hb.size
  simp at hs
  exact ⟨by rw [hb.cell (p := ⟨w.heap.size, 0, none⟩) (by simp)]; simp, by rw [hb.cell (p := ⟨w.heap.size, 1, none⟩) (by simp)]; simp, by omega⟩
theorem reads_at {w : World} {ad : Option Addr} {c : Nat} {xs : List Int} (h : Reads w (.slice ad xs.length c) xs) {k : Nat} (hk : k < xs.length) : ∃ b off, ad = some ⟨b, off, none⟩ ∧ b < w.heap.size ∧ w.cell? ⟨b, off + k, none⟩ = some (.int .i64 (wd xs k)) := by
  obtain ⟨ad', c', e, h2⟩ := h
  injection e with e1 _ e3
  subst e1
  obtain ⟨b, off, e, hl, hc⟩ := h2 (by omega)
  exact ⟨b, off, e, hl, hc k hk⟩
theorem gone_snoc {A : List Bool} {pre : List Nat} {p : Nat} (h : bt A p = false) : (pre ++ [p]).filter (fun q => !bt A q) = pre.filter (fun q => !bt A q) ++ [p] := by rw [List.filter_append]; simp [h]
theorem gone_skip {A : List Bool} {pre : List Nat} {p : Nat} (h : bt A p = true) : (pre ++ [p]).filter (fun q => !bt A q) = pre.filter (fun q => !bt A q) := by rw [List.filter_append]; simp [h]
/-- Where the next one stands. -/
theorem gone_next {W : List Int} {A : List Bool} {pre : List Nat} {p : Nat} (hall : pre ++ places W p = places W 2) (hp : p < W.length) (hb : bt A p = false) :
    (pre.filter fun q => !bt A q).length < ((places W 2).filter fun q => !bt A q).length ∧ wd (((places W 2).filter fun q => !bt A q).map fun q : Nat => 2 * (q : Int)) (pre.filter fun q => !bt A q).length = 2 * (p : Int) := by
  have e : (places W 2).filter (fun q => !bt A q) = pre.filter (fun q => !bt A q) ++ p :: (places W (nextAt W p)).filter (fun q => !bt A q) := by
    rw [← hall, places_in hp, List.filter_append, List.filter_cons, if_pos (by rw [hb]; rfl)]
  rw [e]
  refine ⟨by rw [List.length_append, List.length_cons]; omega, ?_⟩
  rw [List.map_append, List.map_cons]
  unfold wd
  rw [List.getD_eq_getElem?_getD, List.getElem?_append_right (by rw [List.length_map]; omega), List.length_map, Nat.sub_self]
  rfl
end Go.Proofs.Ythdhaokjibfjdaa
