/- gessoref17: Do, of OpScan. -/
import Derived.Test.YtabniplgibfgeaaRef18a
namespace Go.Proofs.Ytabniplgibfgeaa
open Go.RowKit

theorem words_wf {W : List Int} (h : (checkOf W).1 = 0) (k : Nat) : (Lit.int .i64 (wd W k)).wf = true := by
  obtain ⟨c1, hu, c3⟩ := check_fine h
  obtain ⟨f1, f2, f3, f4, f5⟩ := front_out c1
  have F := fine_of h
  have e : W = wd W 0 :: wd W 1 :: (places W 2).flatMap (thingW id W) := by
    rw [flat_same (t := id) (fun _ => rfl) _ 2 (Nat.le_refl _) f1 hu, ← drop_wd (show 1 < W.length by omega), ← drop_wd (show 0 < W.length by omega), List.drop_zero]
  have key : ∀ x ∈ W, (Lit.int .i64 x).wf = true := by
    intro x hx
    rw [e] at hx
    rcases List.mem_cons.1 hx with rfl | hx
    · rw [f3]; decide
    rcases List.mem_cons.1 hx with rfl | hx
    · go_wf
    obtain ⟨p, hp, hx⟩ := List.mem_flatMap.1 hx
    obtain ⟨a1, a2, a3, a4, a5⟩ := fault_all _ _ c3 p hp
    have hfo := fits_out (place_fit hu hp).2.2.1
    unfold thingW at hx
    rcases List.mem_cons.1 hx with rfl | hx
    · exact ok_wf (F.cls p hp)
    rcases List.mem_cons.1 hx with rfl | hx
    · go_wf
    rcases List.mem_cons.1 hx with rfl | hx
    · go_wf
    rw [slotsW_same (t := id) (fun _ => rfl)] at hx
    obtain ⟨k, hk, rfl⟩ := wd_index hx
    rw [slotList_length (F.room p hp)] at hk
    rw [slotList_at hk]
    have hst := (bad_none _ _).1 a2 k hk
    unfold standB at hst
    split at hst
    · have := of_decide_eq_true hst; go_wf
    · exact ok_wf hst
  by_cases hk : k < W.length
  · exact key _ (wd_mem hk)
  · rw [wd_past (by omega)]; decide
theorem row_own {w : World} {B g n c : Nat} {W : List Int} (h : w.ownsRow B 3 1 (sl g n c) n (vals W)) (hc : (checkOf W).1 = 0) : Row w g 0 W := by
  have hl : W.length = n := by have := h.1; simpa using this
  exact ⟨own_lt h, fun k hk => by rw [Nat.zero_add]; exact own_wd h (by omega), words_wf hc⟩
/-- An op as a value. -/
abbrev opV (p : OpT) : Value := .agg #[.int .i64 p.kind, .int .i64 p.o, .int .i64 p.pos, .int .i64 p.what, .int .i64 p.form, .int .i64 p.size]
theorem TsA.setC {w : World} {B Sg b off cap gr cr gc cc : Nat} {W R C : List Int} (h : TsA w B Sg b off cap gr cr gc cc ⟨W, R, C⟩) (p : Nat) (x : Int) : TsA (w.setCell ⟨gc, p, none⟩ (.int .i64 x)) B Sg b off cap gr cr gc cc ⟨W, R, C.set p x⟩ := by
  obtain ⟨n0, n1, n2, n3, n4, n5⟩ := h.ne
  have hst := (h.cols.stored p (.int .i64 x)).1
  rw [show (vals (⟨W, R, C⟩ : Tri).C).set p (.int .i64 x) = vals (C.set p x) by simp [vals, List.map_set]] at hst
  refine ⟨?_, ?_, ownsRow_setCell_other h.roots (a := ⟨gc, p, none⟩) (fun e => n2 (by injection e)) _, ?_, h.ne, h.low, h.room⟩
  · rw [Below.heap_setCell _ _ _ _ n1, show (⟨W, R, C.set p x⟩ : Tri).C.length = C.length from List.length_set]; exact h.box
  · exact ⟨by have := h.row.lt; simpa using this, fun k hk => by rw [World.cell?_of_block (Below.heap_setCell _ _ _ _ n5)]; exact h.row.cell k hk, h.row.wf⟩
  · rw [show (⟨W, R, C.set p x⟩ : Tri).C.length = C.length from List.length_set]; exact hst
theorem scan_at {W C : List Int} {pre rest : List Nat} {p : Nat} (h : pre ++ p :: rest = places W 2) (hn : ∀ q ∈ pre, wd C q ≠ 1) (hp : wd C p = 1) : scanC W C = shadeL (C.set p 2) (leadsAt W p) := by
  unfold scanC
  rw [← h, List.find?_append, List.find?_eq_none.2 (fun q hq => by simpa using hn q hq), List.find?_cons, Option.none_or]
  simp [hp]
theorem scan_none {W C : List Int} (hn : ∀ q ∈ places W 2, wd C q ≠ 1) : scanC W C = C := by
  unfold scanC
  rw [List.find?_eq_none.2 (fun q hq => by simpa using hn q hq)]
set_option maxRecDepth 100000 in
set_option maxHeartbeats 8000000 in
theorem rdo_scan (B Sg b off cap gr cr gc cc : Nat) (W R C : List Int) (op : OpT) (w : World) (h : TsA w B Sg b off cap gr cr gc cc ⟨W, R, C⟩) (hc : (checkOf W).1 = 0) (hC : C.length = W.length + 1) (hB : B ≤ w.heap.size) (hop : op.kind = 1) :
    Calls Try.prog 23 #[.pointer (some ⟨Sg, 0, none⟩), opV op] w fun e w' => e = .returned (.tuple #[]) ∧ TsA w' B Sg b off cap gr cr gc cc ⟨W, R, scanC W C⟩ ∧ Below B w w' := by
  obtain ⟨kind, oo, pos, what, form, size⟩ := op
  simp only at hop
  subst hop
  have hf := fine_of hc
  have hl := hf.few
  have h2 : 2 ≤ W.length := (front_out (check_fine hc).1).1
  obtain ⟨wb, ewb⟩ : ∃ wb, wb = w.alloc (.cells #[.int .i64 1, .int .i64 oo, .int .i64 pos, .int .i64 what, .int .i64 form, .int .i64 size] 50) := ⟨_, rfl⟩
  have hbb : Below w.heap.size w wb := by rw [ewb]; exact (Below.refl _ _).alloc (Nat.le_refl _) _
  have hb1 : Below B w wb := hbb.mono hB
  have h1 := h.same hbb
  have hk0 : wb.cell? ⟨w.heap.size, 0, none⟩ = some (.int .i64 1) := by rw [ewb, cell_of_row _ _ _ _ _ _ (heap_alloc_new w _)]; rfl
  obtain ⟨⟨k0, k1, k2⟩, kf⟩ := h1.cells
  have hSl := h1.lt
  have HH : Hid (TsA wb B Sg b off cap gr cr gc cc ⟨W, R, C⟩) := h1
  have HB1 : Hid (Below B w wb) := hb1
  have hzb : w.heap.size < wb.heap.size := by rw [ewb]; simp
  clear h h1 hbb hb1
  go_enter Try.func23, Try.ntmps23
  go_upto_region 1 with fail
  rw [← ewb]
  clear ewb
  go_wp2_with fail
  go_loopw [5] (fun s5 wr => ∃ (p : Nat) (pre : List Nat), s5 = .int .i64 p ∧ Hid (AtPlace W [] pre p) ∧ Hid (∀ q ∈ pre, wd C q ≠ 1) ∧ wr = wb) (fun s5 _ => 3000 - (intOf s5).toNat)
  case atStart => exact ⟨2, [], rfl, ⟨rfl, hf.fit, Nat.le_refl _, h2⟩, (by intro q hq; cases hq), rfl⟩
  case round =>
    obtain ⟨p, pre, rfl, HA, HN, rfl⟩ := hrel
    have hrow : Row wr b off W := HH.out.row
    have hbl : b < wr.heap.size := hrow.lt
    have hgl := own_lt HH.out.cols
    by_cases hin : p < W.length
    · have hii : (p : Int) < (W.length : Int) := by omega
      have hiC : (p : Int) < (C.length : Int) := by omega
      obtain ⟨hmem, hnot⟩ := HA.out.mem hin
      have hroom := hf.room p hmem
      have hfo := fits_out (place_fit hf.fit hmem).2.2.1
      have hnx : nextAt W p = p + 3 + slotsAt W p := rfl
      have hcp := own_wd HH.out.cols (i := p) (by show p < C.length; omega)
      have hsq : (wd W (p + 2)).tdiv 4 = (slotsAt W p : Nat) := by rw [Int.tdiv_eq_ediv_of_nonneg hfo.2.1]; unfold slotsAt; omega
      have htm : (wd W (p + 2)).tmod 4 = formAt W p := Int.tmod_eq_emod_of_nonneg hfo.2.1
      have hws := wrap_id (x := ((slotsAt W p : Nat) : Int)) (by omega) (by omega)
      have hwt := wrap_id (x := (p : Int) + 3 + ((slotsAt W p : Nat) : Int)) (by omega) (by omega)
      have hw2 := wrap_id (x := (p : Int) + 2) (by omega) (by omega)
      have hw3 := wrap_id (x := (p : Int) + 3) (by omega) (by omega)
      have hta2 : ((p : Int) + 2).toNat = p + 2 := by omega
      have hi2 : (p : Int) + 2 < (W.length : Int) := by omega
      have HSU : Hid ((p : Int) + 3 + ((slotsAt W p : Nat) : Int) = ((nextAt W p : Nat) : Int)) := by exact (by omega : (p : Int) + 3 + ((slotsAt W p : Nat) : Int) = ((nextAt W p : Nat) : Int))
      by_cases hg : wd C p = 1
      · have hfr : 0 ≤ formAt W p ∧ formAt W p ≤ 2 := by unfold formAt; omega
        have hwf := wrap_id (x := formAt W p) (by omega) (by omega)
        have HSC : Hid (scanC W C = shadeL (C.set p 2) (leadsAt W p)) := scan_at (pre := pre) (rest := places W (nextAt W p)) (by rw [← places_in hin]; exact HA.out.all) HN.out hg
        have hcp1 : wr.cell? ⟨gc, p, none⟩ = some (.int .i64 1) := by rw [← hg]; exact hcp
        have hfz := HH.out.cols.frozenAt p
        have h1 : Hid (TsA (wr.setCell ⟨gc, p, none⟩ (.int .i64 2)) B Sg b off cap gr cr gc cc ⟨W, R, C.set p 2⟩) := HH.out.setC p 2
        have hb1 : Hid (Below B w (wr.setCell ⟨gc, p, none⟩ (.int .i64 2))) := HB1.out.setCell (p := ⟨gc, p, none⟩) (HH.out.cols.lt gc rfl).1 _
        have hplC : ∀ o, okRef W o → kindOf o = 3 → pl2 o < (C.set p 2).length := fun o ho hk => by
          have := (place_ge (thing_at (ok_thing ho hk)).1).2
          rw [List.length_set]; omega
        have hsh := rshade_any B Sg b off cap gr cr gc cc W R (C.set p 2) (wd W p) _ h1.out (hplC _ (hf.cls p hmem))
        have hc0 := hrow.cell p hin
        have hbne : b ≠ gc := HH.out.ne.2.2.2.2.2
        have hslot := hf.slot p hmem
        clear hcp hg hrow HN HA HB1 HH
        go_wp2_with (go_at_call 22; refine hsh.mono ?_; rintro e w6 ⟨rfl, hM6, hb6⟩)
        have HM6 : Hid (TsA w6 B Sg b off cap gr cr gc cc ⟨W, R, shadeL (C.set p 2) (wd W p :: (slotList W p).take 0)⟩) := by rw [List.take_zero]; exact hM6
        have HB6 : Hid (Below B w w6) := hb1.out.trans hb6
        clear hsh hM6 hb6 hc0 hcp1 hfz h1 hb1 hii hiC hSl hbl hgl hbne k0 k1 k2 kf hk0
        go_loopw [6] (fun s6 wr => ∃ (j q : Nat), s6 = .int .i64 q ∧ Hid (q = p + 3 + j) ∧ Hid (j ≤ slotsAt W p) ∧ Hid (formAt W p ≠ 0 → j = 0) ∧ Hid (TsA wr B Sg b off cap gr cr gc cc ⟨W, R, shadeL (C.set p 2) (wd W p :: (slotList W p).take j)⟩) ∧ Hid (Below B w wr)) (fun s6 _ => 9000 - (intOf s6).toNat)
        case atStart => exact ⟨0, p + 3, by first | rfl | simp, rfl, Nat.zero_le _, fun _ => rfl, HM6.out, HB6.out⟩
        case round =>
          clear HM6 HB6
          rename_i wr
          obtain ⟨j, q, rfl, HQ, HJ, HJ0, HM, HB7⟩ := hrel
          have hrow : Row wr b off W := HM.out.row
          have hbl : b < wr.heap.size := hrow.lt
          have hc2 := hrow.cell (p + 2) (by omega)
          have hq2 : q ≤ 2000 := by have := HQ.out; have := HJ.out; omega
          by_cases hgo : j < slotsAt W p ∧ formAt W p = 0
          · obtain ⟨hjs, hf0⟩ := hgo
            have hkni : (q : Int) < (p : Int) + 3 + ((slotsAt W p : Nat) : Int) := by have := HQ.out; omega
            have haq : wr.cell? ⟨b, off + q, none⟩ = some (.int .i64 (wd W (p + 3 + j))) := by
              have := hrow.cell (p + 3 + j) (by omega)
              rw [show off + (p + 3 + j) = off + q by have := HQ.out; omega] at this
              exact this
            have hqn : (q : Int) < (W.length : Int) := by have := HQ.out; omega
            have hokj := hslot (by rw [hf0]; decide) j hjs
            have hwq := wrap_id (x := (q : Int) + 1) (by omega) (by omega)
            have hsh := rshade_any B Sg b off cap gr cr gc cc W R _ (wd W (p + 3 + j)) wr HM.out (fun hk => by rw [shadeL_length]; exact hplC _ hokj hk)
            have HS : Hid (shadeL (C.set p 2) (wd W p :: (slotList W p).take (j + 1)) = shadeC (shadeL (C.set p 2) (wd W p :: (slotList W p).take j)) (wd W (p + 3 + j))) := by
              rw [take_snoc (by rw [slotList_length hroom]; exact hjs), slotList_at hjs, ← List.cons_append, shadeL_snoc]; exact rfl
            have HQ' : Hid (q + 1 = p + 3 + (j + 1)) := by have := HQ.out; exact (by omega : q + 1 = p + 3 + (j + 1))
            have HJ' : Hid (j + 1 ≤ slotsAt W p ∧ formAt W p = 0) := ⟨hjs, hf0⟩
            rw [hf0] at htm hwf
            clear hjs hf0 hslot hokj hrow hnx
            go_wp2_with (go_at_call 22; refine hsh.mono ?_; rintro e w8 ⟨rfl, hM8, hb8⟩)
            go_roundw
            case rel => exact ⟨j + 1, q + 1, by first | rfl | simp, HQ', HJ'.out.1, fun h => absurd HJ'.out.2 h, by rw [HS.out]; exact hM8, HB7.out.trans hb8⟩
            case measure => simp [intOf]; omega
          · have HLE : Hid (TsA wr B Sg b off cap gr cr gc cc ⟨W, R, scanC W C⟩) := by
              have e : wd W p :: (slotList W p).take j = leadsAt W p := by
                unfold leadsAt
                by_cases h0 : formAt W p = 0
                · have e : j = slotsAt W p := by have := HJ.out; have : ¬ j < slotsAt W p := fun h => hgo ⟨h, h0⟩; omega
                  have e3 : (slotList W p).take j = slotList W p := List.take_of_length_le (by rw [slotList_length hroom]; omega)
                  rw [if_pos h0, e3]; rfl
                · rw [if_neg h0, HJ0.out h0, List.take_zero]
              have := HM.out
              rw [e, ← HSC.out] at this
              exact this
            by_cases hjs : j < slotsAt W p
            · have hf0 : formAt W p ≠ 0 := fun h => hgo ⟨hjs, h⟩
              have hkni : (q : Int) < (p : Int) + 3 + ((slotsAt W p : Nat) : Int) := by have := HQ.out; omega
              have hbe : (formAt W p == 0) = false := by simpa using hf0
              clear hgo hjs hf0 hslot hrow HM hnx
              go_wp2_with fail
              refine bodyPost_ret (results_none rfl _ _ _) rfl ?_
              exact ⟨rfl, HLE.out, HB7.out⟩
            · have hkni : ¬ (q : Int) < (p : Int) + 3 + ((slotsAt W p : Nat) : Int) := by have := HQ.out; omega
              clear hgo hjs hslot hrow HM hnx
              go_wp2_with fail
              refine bodyPost_ret (results_none rfl _ _ _) rfl ?_
              exact ⟨rfl, HLE.out, HB7.out⟩
      · have hbe : (wd C p == 1) = false := by simpa using hg
        have HA' : Hid (AtPlace W [] (pre ++ [p]) (nextAt W p)) := HA.out.next hin
        have HN' : Hid (∀ q ∈ pre ++ [p], wd C q ≠ 1) := fun q hq => by
          rcases List.mem_append.1 hq with e | e
          · exact HN.out q e
          · rw [List.mem_singleton] at e; subst e; exact hg
        have hc2 := hrow.cell (p + 2) (by omega)
        generalize wd C p = X at *
        clear hrow HN HA hnx hg
        go_wp2_with fail
        go_roundw
        case rel => exact ⟨nextAt W p, pre ++ [p], by first | rfl | (rw [HSU.out]) | simp [HSU.out], HA'.out, HN'.out, by first | rfl | trivial⟩
        case measure => simp [intOf]; first | omega | (unfold nextAt; omega)
    · have hii : ¬ (p : Int) < (W.length : Int) := by omega
      have HSC : Hid (scanC W C = C) := scan_none (fun q hq => HN.out q (by have := HA.out.all; rw [places_end hin, List.append_nil] at this; rw [this]; exact hq))
      clear HN HA hrow
      go_wp2_with fail
      go_end0
      exact ⟨rfl, by rw [HSC.out]; exact HH.out, HB1.out⟩
end Go.Proofs.Ytabniplgibfgeaa
