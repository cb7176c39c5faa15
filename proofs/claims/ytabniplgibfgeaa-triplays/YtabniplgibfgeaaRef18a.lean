/- gessoref17: a State in memory; shade, reached. -/
import Derived.Test.YtabniplgibfgeaaTriInv
import Derived.Test.YtabniplgibfgeaaRef17a
import Derived.Test.YtabniplgibfgeaaRefReach
namespace Go.Proofs.Ytabniplgibfgeaa
open Go.RowKit

/-- A State, where it lies. -/
structure TsA (w : World) (B Sg b off cap gr cr gc cc : Nat) (s : Tri) : Prop where
  box : w.heap[Sg]? = some (.cells #[.slice (some ⟨b, off, none⟩) s.W.length cap, sl gr s.R.length cr, sl gc s.C.length cc] 58 (0, 0))
  row : Row w b off s.W
  roots : w.ownsRow B 3 1 (sl gr s.R.length cr) s.R.length (vals s.R)
  cols : w.ownsRow B 3 1 (sl gc s.C.length cc) s.C.length (vals s.C)
  ne : Sg ≠ gr ∧ Sg ≠ gc ∧ gr ≠ gc ∧ b ≠ Sg ∧ b ≠ gr ∧ b ≠ gc
  low : B ≤ Sg
  room : s.W.length ≤ cap
theorem TsA.lt {w : World} {B Sg b off cap gr cr gc cc : Nat} {s : Tri} (h : TsA w B Sg b off cap gr cr gc cc s) : Sg < w.heap.size := (Array.getElem?_eq_some_iff.1 h.box).1
theorem TsA.cells {w : World} {B Sg b off cap gr cr gc cc : Nat} {s : Tri} (h : TsA w B Sg b off cap gr cr gc cc s) :
    (w.cell? ⟨Sg, 0, none⟩ = some (.slice (some ⟨b, off, none⟩) s.W.length cap) ∧ w.cell? ⟨Sg, 1, none⟩ = some (sl gr s.R.length cr) ∧ w.cell? ⟨Sg, 2, none⟩ = some (sl gc s.C.length cc)) ∧ (∀ k, w.frozen? ⟨Sg, k, none⟩ = false) :=
  ⟨⟨cell_of_row _ _ _ _ _ _ h.box, cell_of_row _ _ _ _ _ _ h.box, cell_of_row _ _ _ _ _ _ h.box⟩, fun _ => frozen_of_row _ _ _ _ _ h.box⟩
theorem TsA.same {w w' : World} {B Sg b off cap gr cr gc cc : Nat} {s : Tri} (h : TsA w B Sg b off cap gr cr gc cc s) (hb : Below w.heap.size w w') : TsA w' B Sg b off cap gr cr gc cc s :=
  ⟨(hb.block Sg h.lt).trans h.box, h.row.same hb, own_same h.roots fun g e => hb.block g (h.roots.lt g e).2, own_same h.cols fun g e => hb.block g (h.cols.lt g e).2, h.ne, h.low, h.room⟩
theorem ok_wf {W : List Int} {x : Int} (h : okRef W x) : (Lit.int .i64 x).wf = true := by
  have hb : -9223372036854775808 ≤ x ∧ x ≤ 9223372036854775807 := by
    unfold okRef nilB at h
    simp only [Bool.or_eq_true, beq_iff_eq] at h
    rcases h with h | h | h
    · unfold kindOf at h
      split at h
      · omega
      · split at h
        · rename_i hs; unfold smallB at hs; simp only [decide_eq_true_eq] at hs; omega
        · split at h <;> cases h
    · unfold kindOf at h
      split at h
      · omega
      · split at h
        · cases h
        · split at h <;> cases h
    · have := kind3 (thing_kind h); omega
  go_wf
theorem roots_at {w : World} {B g c : Nat} {W R : List Int} (h : w.ownsRow B 3 1 (sl g R.length c) R.length (vals R)) (hr : ∀ x ∈ R, okRef W x) : RootsAt (some ⟨g, 0, none⟩) R w := fun _ =>
  ⟨g, 0, rfl, own_lt h, fun k hk => by rw [Nat.zero_add]; exact own_wd h hk, fun k => by
    by_cases hk : k < R.length
    · exact ok_wf (hr _ (wd_mem hk))
    · rw [wd_past (by omega)]; decide⟩
set_option maxRecDepth 20000 in
set_option maxHeartbeats 4000000 in
theorem rshade_keep (B Sg b off cap gr cr gc cc : Nat) (W R C : List Int) (o : Int) (w : World) (h : TsA w B Sg b off cap gr cr gc cc ⟨W, R, C⟩) (ho : kindOf o = 3 → pl2 o < C.length) :
    Calls Try.prog 22 #[.pointer (some ⟨Sg, 0, none⟩), .int .i64 o] w fun e w' => e = .returned (.tuple #[]) ∧ TsA w' B Sg b off cap gr cr gc cc ⟨W, R, shadeC C o⟩ ∧ Below B w w' ∧ (∀ k, k ≠ gc → w'.heap[k]? = w.heap[k]?) ∧ w.heap.size ≤ w'.heap.size := by
  obtain ⟨⟨k0, k1, k2⟩, kf⟩ := h.cells
  have hSl := h.lt
  have hcl := own_lt h.cols
  by_cases hk : kindOf o = 3
  · have hpl := ho hk
    have hkk := kind3 hk
    obtain ⟨p, he⟩ : ∃ p : Nat, o = 2 * (p : Int) := ⟨pl2 o, by unfold pl2; omega⟩
    have hpp : pl2 o = p := by rw [he, pl2_two]
    rw [hpp] at hpl
    have h2p : 2 * (p : Int) / 2 = (p : Int) := by omega
    have hw0 := wrap_id (x := (p : Int)) (by omega) (by omega)
    have hii : (p : Int) < (C.length : Int) := by omega
    have hcp := own_wd h.cols (i := p) hpl
    have hfw := h.cols.frozenAt p
    by_cases hz : wd C p = 0
    · have HS : Hid (shadeC C o = C.set p 1) := by unfold shadeC; rw [hpp, if_pos ⟨hk, hz⟩]; exact rfl
      have HH : Hid (TsA w B Sg b off cap gr cr gc cc ⟨W, R, C⟩) := h
      have hcp0 : w.cell? ⟨gc, p, none⟩ = some (.int .i64 0) := by rw [← hz]; exact hcp
      have HB : Hid (B ≤ gc) := (h.cols.lt gc rfl).1
      have HNE : Hid (Sg ≠ gc ∧ gr ≠ gc ∧ b ≠ gc) := ⟨h.ne.2.1, h.ne.2.2.1, h.ne.2.2.2.2.2⟩
      subst he
      clear ho hkk hcp h hpp hz
      go_enter Try.func22, Try.ntmps22
      go_wp2_with (go_at_call 20; refine (rkind_any _ _).mono ?_; rintro e w' ⟨rfl, rfl⟩; rw [hk])
      go_end0
      obtain ⟨n1, n2, n3⟩ := HNE.out
      have hh := HH.out
      rw [HS.out]
      have hst := (hh.cols.stored p (.int .i64 1)).1
      rw [show (vals C).set p (.int .i64 1) = vals (C.set p 1) by simp [vals, List.map_set]] at hst
      refine ⟨rfl, ⟨?_, ?_, ownsRow_setCell_other hh.roots (a := ⟨gc, p, none⟩) (fun e => n2 (by injection e)) _, ?_, hh.ne, hh.low, hh.room⟩, (Below.refl B w').setCell (p := ⟨gc, p, none⟩) HB.out _, fun k hk => Below.heap_setCell _ _ _ _ hk, by simp⟩
      · rw [Below.heap_setCell _ _ _ _ n1, show (⟨W, R, C.set p 1⟩ : Tri).C.length = C.length from List.length_set]; exact hh.box
      · exact ⟨by have := hh.row.lt; simpa using this, fun k hk => by rw [World.cell?_of_block (Below.heap_setCell _ _ _ _ n3)]; exact hh.row.cell k hk, hh.row.wf⟩
      · rw [show (⟨W, R, C.set p 1⟩ : Tri).C.length = C.length from List.length_set]; exact hst
    · have HS : Hid (shadeC C o = C) := by unfold shadeC; rw [hpp, if_neg (fun x => hz x.2)]; exact rfl
      have HH : Hid (TsA w B Sg b off cap gr cr gc cc ⟨W, R, C⟩) := h
      have hbz : (wd C p == 0) = false := by simpa using hz
      subst he
      generalize wd C p = X at *
      clear ho hkk h hpp hz
      go_enter Try.func22, Try.ntmps22
      go_wp2_with (go_at_call 20; refine (rkind_any _ _).mono ?_; rintro e w' ⟨rfl, rfl⟩; rw [hk])
      go_end0
      exact ⟨rfl, by rw [HS.out]; exact HH.out, Below.refl _ _, fun _ _ => rfl, Nat.le_refl _⟩
  · have HS : Hid (shadeC C o = C) := by unfold shadeC; rw [if_neg (fun x => hk x.1)]; exact rfl
    have HH : Hid (TsA w B Sg b off cap gr cr gc cc ⟨W, R, C⟩) := h
    have hb : (kindOf o == 3) = false := by simpa using hk
    clear ho hk h
    go_enter Try.func22, Try.ntmps22
    go_wp2_with (go_at_call 20; refine (rkind_any _ _).mono ?_; rintro e w' ⟨rfl, rfl⟩)
    go_end0
    exact ⟨rfl, by rw [HS.out]; exact HH.out, Below.refl _ _, fun _ _ => rfl, Nat.le_refl _⟩
theorem rshade_any (B Sg b off cap gr cr gc cc : Nat) (W R C : List Int) (o : Int) (w : World) (h : TsA w B Sg b off cap gr cr gc cc ⟨W, R, C⟩) (ho : kindOf o = 3 → pl2 o < C.length) :
    Calls Try.prog 22 #[.pointer (some ⟨Sg, 0, none⟩), .int .i64 o] w fun e w' => e = .returned (.tuple #[]) ∧ TsA w' B Sg b off cap gr cr gc cc ⟨W, R, shadeC C o⟩ ∧ Below B w w' :=
  (rshade_keep B Sg b off cap gr cr gc cc W R C o w h ho).mono fun _ _ h => ⟨h.1, h.2.1, h.2.2.1⟩
set_option maxRecDepth 20000 in
set_option maxHeartbeats 4000000 in
theorem rreached_any (B Sg b off cap gr cr gc cc : Nat) (W R C : List Int) (o : Int) (w : World) (h : TsA w B Sg b off cap gr cr gc cc ⟨W, R, C⟩) (hc : (checkOf W).1 = 0) (hr : ∀ x ∈ R, okRef W x) (hR : R.length ≤ 900000) :
    Calls Try.prog 38 #[.pointer (some ⟨Sg, 0, none⟩), .int .i64 o] w fun e w' => e = .returned (.bool (nowB W R o)) ∧ Below w.heap.size w w' := by
  obtain ⟨⟨k0, k1, k2⟩, kf⟩ := h.cells
  have hSl := h.lt
  have hf := fine_of hc
  have h2 : 2 ≤ W.length := (front_out (check_fine hc).1).1
  have hrow : Row w b off W := h.row
  have hro : RootsAt (some ⟨gr, 0, none⟩) R w := roots_at (W := W) h.roots hr
  have hfi := rfits_any W b off cap o w hrow hf.fit hf.few
  by_cases hok : okRef W o
  · have hfr : fitsRef W o = true := hok
    by_cases hk : kindOf o = 3
    · have ht := ok_thing hok hk
      obtain ⟨p, he, _, hpl, hp2⟩ := thing_ref ht
      have h2p : 2 * (p : Int) / 2 = (p : Int) := by omega
      have hkk := kind3 hk
      have hw0 := wrap_id (x := (p : Int)) (by omega) (by omega)
      have hii : (p : Int) < (W.length : Int) := by omega
      have HD : Hid (∀ x : Bool, (x = true ↔ Reached W R (2 * (p : Int))) → nowB W R o = x) := fun x hx => by
        rw [Bool.eq_iff_iff, nowB_iff, hx]
        exact ⟨fun h => by rw [← he]; exact h.2 hk, fun h => ⟨hok, fun _ => by rw [he]; exact h⟩⟩
      have hre : Hid (∀ w0, Below w.heap.size w w0 → Calls Try.prog 8 #[.agg #[.slice (some ⟨b, off, none⟩) W.length cap], .slice (some ⟨gr, 0, none⟩) R.length cr] w0 fun e w' => ReachAns W R w0.heap.size e w' ∧ Below w0.heap.size w0 w') :=
        fun w0 hb0 => rreach_wide W R b off cap (some ⟨gr, 0, none⟩) cr w0 (hrow.same hb0) (hro.below hb0) hf.fit h2 hf.few hR
      subst he
      clear ht hkk hr hok h hp2 hrow hro
      go_enter Try.func38, Try.ntmps38
      go_upto_region 7 with (first | (go_at_call 18; refine hfi.mono ?_; rintro e w1 ⟨rfl, hw1⟩; rw [hw1, hfr]; clear hw1 w1) | (go_at_call 20; refine (rkind_any _ _).mono ?_; rintro e w' ⟨rfl, rfl⟩; rw [hk]))
      go_region_held3 (fun w' => w'.cell? ⟨Sg, 0, none⟩ = some (.slice (some ⟨b, off, none⟩) W.length cap) ∧ w'.cell? ⟨Sg, 1, none⟩ = some (sl gr R.length cr)) (go_keep) (first | (go_at_call 8; refine (hre.out _ (by first | exact Below.refl _ _ | exact (Below.refl _ _).drew | exact (Below.refl _ _).drew.drew)).mono ?_; rintro e w5 ⟨⟨ob, A, rfl, hob, hMk, hTl⟩, hb5⟩; have hq5 : Below w'.heap.size w' w5 := ((Below.refl _ w').drew).trans hb5; have kk0 : w5.cell? ⟨Sg, 0, none⟩ = some (.slice (some ⟨b, off, none⟩) W.length cap) := (hq5.cell (p := ⟨Sg, 0, none⟩) hSl).trans k0; have kk1 : w5.cell? ⟨Sg, 1, none⟩ = some (sl gr R.length cr) := (hq5.cell (p := ⟨Sg, 1, none⟩) hSl).trans k1; have hcA := hMk.cell hpl; have hol := own_lt hMk))
      have HD2 := HD.out (bt A p) (hTl p)
      go_wp2_with fail
      go_ret
      exact ⟨by rw [HD2]; rfl, hq5⟩
    · have HD : Hid (nowB W R o = true) := nowB_iff.2 ⟨hok, fun h => absurd h hk⟩
      have hb : (kindOf o != 3) = true := by simpa using hk
      clear hr h hrow hro hk hok
      go_enter Try.func38, Try.ntmps38
      go_wp2_with (first | (go_at_call 18; refine hfi.mono ?_; rintro e w1 ⟨rfl, hw1⟩; rw [hw1, hfr]; clear hw1 w1) | (go_at_call 20; refine (rkind_any _ _).mono ?_; rintro e w' ⟨rfl, rfl⟩))
      go_ret
      exact ⟨by rw [HD.out]; rfl, Below.refl _ _⟩
  · have hfr : fitsRef W o = false := Bool.eq_false_iff.2 hok
    have HD : Hid (nowB W R o = false) := Bool.eq_false_iff.2 fun h => hok (nowB_iff.1 h).1
    clear hr h hrow hro hok
    go_enter Try.func38, Try.ntmps38
    go_wp2_with (go_at_call 18; refine hfi.mono ?_; rintro e w1 ⟨rfl, hw1⟩; rw [hw1, hfr]; clear hw1 w1)
    go_ret
    exact ⟨by rw [HD.out]; rfl, Below.refl _ _⟩
end Go.Proofs.Ytabniplgibfgeaa
