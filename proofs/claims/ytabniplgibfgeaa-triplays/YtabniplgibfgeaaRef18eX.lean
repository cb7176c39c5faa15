/- gessoref17: Do, of OpRoot and of no op; Do whole. -/
import Derived.Test.YtabniplgibfgeaaRef18dX
namespace Go.Proofs.Ytabniplgibfgeaa
open Go.RowKit

theorem TsA.setR {w : World} {B Sg b off cap gr cr gc cc : Nat} {W R C : List Int} (h : TsA w B Sg b off cap gr cr gc cc ⟨W, R, C⟩) (p : Nat) (x : Int) : TsA (w.setCell ⟨gr, p, none⟩ (.int .i64 x)) B Sg b off cap gr cr gc cc ⟨W, R.set p x, C⟩ := by
  obtain ⟨n0, n1, n2, n3, n4, n5⟩ := h.ne
  have hst := (h.roots.stored p (.int .i64 x)).1
  rw [show (vals (⟨W, R, C⟩ : Tri).R).set p (.int .i64 x) = vals (R.set p x) by simp [vals, List.map_set]] at hst
  refine ⟨?_, ?_, ?_, ownsRow_setCell_other h.cols (a := ⟨gr, p, none⟩) (fun e => n2 (by injection e with e; exact e.symm)) _, h.ne, h.low, h.room⟩
  · rw [Below.heap_setCell _ _ _ _ n0, show (⟨W, R.set p x, C⟩ : Tri).R.length = R.length from List.length_set]; exact h.box
  · exact ⟨by have := h.row.lt; simpa using this, fun k hk => by rw [World.cell?_of_block (Below.heap_setCell _ _ _ _ n4)]; exact h.row.cell k hk, h.row.wf⟩
  · rw [show (⟨W, R.set p x, C⟩ : Tri).R.length = R.length from List.length_set]; exact hst
set_option maxRecDepth 100000 in
set_option maxHeartbeats 8000000 in
theorem rdo_else (B Sg b off cap gr cr gc cc : Nat) (W R C : List Int) (op : OpT) (w : World) (h : TsA w B Sg b off cap gr cr gc cc ⟨W, R, C⟩) (hB : B ≤ w.heap.size) (h1 : op.kind ≠ 1) (h2 : op.kind ≠ 2) (h3 : op.kind ≠ 3) (h4 : op.kind ≠ 4) :
    Calls Try.prog 23 #[.pointer (some ⟨Sg, 0, none⟩), opV op] w fun e w' => e = .returned (.tuple #[]) ∧ TsA w' B Sg b off cap gr cr gc cc ⟨W, R, C⟩ ∧ Below B w w' := by
  obtain ⟨kind, oo, pos, what, form, size⟩ := op
  have b1 : (kind == 1) = false := by simpa using h1
  have b2 : (kind == 2) = false := by simpa using h2
  have b3 : (kind == 3) = false := by simpa using h3
  have b4 : (kind == 4) = false := by simpa using h4
  have hbb : Below w.heap.size w (w.alloc (.cells #[.int .i64 kind, .int .i64 oo, .int .i64 pos, .int .i64 what, .int .i64 form, .int .i64 size] 50)) := (Below.refl _ _).alloc (Nat.le_refl _) _
  have HH : Hid (TsA (w.alloc (.cells #[.int .i64 kind, .int .i64 oo, .int .i64 pos, .int .i64 what, .int .i64 form, .int .i64 size] 50)) B Sg b off cap gr cr gc cc ⟨W, R, C⟩) := h.same hbb
  have HB1 : Hid (Below B w (w.alloc (.cells #[.int .i64 kind, .int .i64 oo, .int .i64 pos, .int .i64 what, .int .i64 form, .int .i64 size] 50))) := hbb.mono hB
  clear h h1 h2 h3 h4 hbb
  go_enter Try.func23, Try.ntmps23
  go_wp2_with fail
  go_end0
  exact ⟨rfl, HH.out, HB1.out⟩
set_option maxRecDepth 100000 in
set_option maxHeartbeats 8000000 in
theorem rdo_root (B Sg b off cap gr cr gc cc : Nat) (W R C : List Int) (op : OpT) (w : World) (h : TsA w B Sg b off cap gr cr gc cc ⟨W, R, C⟩) (hc : (checkOf W).1 = 0) (hr : ∀ x ∈ R, okRef W x) (hR : R.length ≤ 900000) (hC : C.length = W.length + 1) (hB : B ≤ w.heap.size) (hop : op.kind = 4) :
    Calls Try.prog 23 #[.pointer (some ⟨Sg, 0, none⟩), opV op] w fun e w' => e = .returned (.tuple #[]) ∧ TsA w' B Sg b off cap gr cr gc cc (doT ⟨W, R, C⟩ op) ∧ Below B w w' := by
  obtain ⟨kind, oo, pos, what, form, size⟩ := op
  simp only at hop
  subst hop
  obtain ⟨wb, ewb⟩ : ∃ wb, wb = w.alloc (.cells #[.int .i64 4, .int .i64 oo, .int .i64 pos, .int .i64 what, .int .i64 form, .int .i64 size] 50) := ⟨_, rfl⟩
  have hbb : Below w.heap.size w wb := by rw [ewb]; exact (Below.refl _ _).alloc (Nat.le_refl _) _
  have h1 := h.same hbb
  have q0 : wb.cell? ⟨w.heap.size, 0, none⟩ = some (.int .i64 4) := by rw [ewb, cell_of_row _ _ _ _ _ _ (heap_alloc_new w _)]; rfl
  have q2 : wb.cell? ⟨w.heap.size, 2, none⟩ = some (.int .i64 pos) := by rw [ewb, cell_of_row _ _ _ _ _ _ (heap_alloc_new w _)]; rfl
  have q3 : wb.cell? ⟨w.heap.size, 3, none⟩ = some (.int .i64 what) := by rw [ewb, cell_of_row _ _ _ _ _ _ (heap_alloc_new w _)]; rfl
  have hzb : w.heap.size < wb.heap.size := by rw [ewb]; simp
  have HB1 : Hid (Below B w wb) := hbb.mono hB
  have hBz : B ≤ wb.heap.size := by omega
  have HRE := (rreached_any B Sg b off cap gr cr gc cc W R C what wb h1 hc hr hR)
  have HDN : Hid (¬ (nowB W R what = true ∧ 0 ≤ pos ∧ pos < (R.length : Int)) → doT ⟨W, R, C⟩ ⟨4, oo, pos, what, form, size⟩ = ⟨W, R, C⟩) := fun a => by
    unfold doT
    rw [if_neg (show ¬ (4 : Int) = 1 by decide), if_neg (show ¬ (4 : Int) = 2 by decide), if_neg (show ¬ (4 : Int) = 3 by decide), if_pos rfl, if_neg fun ho => a ⟨nowB_iff.2 ho.1, ho.2.1, ho.2.2⟩]
  have HDY : Hid (nowB W R what = true ∧ 0 ≤ pos ∧ pos < (R.length : Int) → doT ⟨W, R, C⟩ ⟨4, oo, pos, what, form, size⟩ = ⟨W, R.set pos.toNat what, shadeC C (wd R pos.toNat)⟩) := fun a => by
    unfold doT
    rw [if_neg (show ¬ (4 : Int) = 1 by decide), if_neg (show ¬ (4 : Int) = 2 by decide), if_neg (show ¬ (4 : Int) = 3 by decide), if_pos rfl, if_pos (show RootOk ⟨W, R, C⟩ ⟨4, oo, pos, what, form, size⟩ from ⟨nowB_iff.1 a.1, a.2.1, a.2.2⟩)]
    rfl
  have HHB : Hid (∀ w', Below wb.heap.size wb w' → TsA w' B Sg b off cap gr cr gc cc ⟨W, R, C⟩ ∧ Below B w w' ∧ w'.cell? ⟨w.heap.size, 2, none⟩ = some (.int .i64 pos) ∧ w'.cell? ⟨w.heap.size, 3, none⟩ = some (.int .i64 what) ∧ w.heap.size < w'.heap.size) := fun w' hw' =>
    ⟨h1.same hw', HB1.out.trans (hw'.mono hBz), (hw'.cell (p := ⟨w.heap.size, 2, none⟩) hzb).trans q2, (hw'.cell (p := ⟨w.heap.size, 3, none⟩) hzb).trans q3, Nat.lt_of_lt_of_le hzb hw'.size⟩
  have HOK : Hid (∀ x ∈ R, kindOf x = 3 → pl2 x < C.length) := fun x hx hk => by
    have := (place_ge (thing_at (ok_thing (hr x hx) hk)).1).2
    omega
  have HNW : Hid (gc < w.heap.size ∧ gr < w.heap.size ∧ Sg < w.heap.size) := ⟨h.lt_all.2.1, h.lt_all.1, h.lt⟩
  generalize nowB W R what = r at *
  clear h h1 hbb hr hc hC
  go_enter Try.func23, Try.ntmps23
  go_upto_region 1 with fail
  rw [← ewb]
  clear ewb
  go_upto_region 34 with (go_at_call 38; refine HRE.mono ?_; rintro e w6 ⟨rfl, hq6⟩; obtain ⟨hT6, hB6, u2, u3, hz6⟩ := HHB.out w6 hq6)
  obtain ⟨⟨m0, m1, m2⟩, mf⟩ := hT6.cells
  have hS6 := hT6.lt
  by_cases hneg : pos < 0
  · have HD : Hid (doT ⟨W, R, C⟩ ⟨4, oo, pos, what, form, size⟩ = ⟨W, R, C⟩) := HDN.out (fun a => by omega)
    go_quiet (fail)
    go_wp2_with fail
    refine bodyPost_ret (results_none rfl _ _ _) rfl ?_
    have hbn := below_drewN (Below.refl w6.heap.size w6) nq
    exact ⟨rfl, by rw [HD.out]; exact hT6.same hbn, below_drewN hB6 nq⟩
  · by_cases hge : (R.length : Int) ≤ pos
    · have HD : Hid (doT ⟨W, R, C⟩ ⟨4, oo, pos, what, form, size⟩ = ⟨W, R, C⟩) := HDN.out (fun a => by omega)
      go_quiet (fail)
      go_wp2_with fail
      refine bodyPost_ret (results_none rfl _ _ _) rfl ?_
      have hbn := below_drewN (Below.refl w6.heap.size w6) nq
      exact ⟨rfl, by rw [HD.out]; exact hT6.same hbn, below_drewN hB6 nq⟩
    · cases r with
      | false =>
        have HD : Hid (doT ⟨W, R, C⟩ ⟨4, oo, pos, what, form, size⟩ = ⟨W, R, C⟩) := HDN.out (fun a => by cases a.1)
        go_quiet (fail)
        go_wp2_with fail
        refine bodyPost_ret (results_none rfl _ _ _) rfl ?_
        have hbn := below_drewN (Below.refl w6.heap.size w6) nq
        exact ⟨rfl, by rw [HD.out]; exact hT6.same hbn, below_drewN hB6 nq⟩
      | true =>
        obtain ⟨k, rfl⟩ : ∃ k : Nat, pos = (k : Int) := ⟨pos.toNat, by omega⟩
        have HD : Hid (doT ⟨W, R, C⟩ ⟨4, oo, (k : Int), what, form, size⟩ = ⟨W, R.set k what, shadeC C (wd R k)⟩) := HDY.out ⟨rfl, by omega, by omega⟩
        have hkR : (k : Int) < (R.length : Int) := by omega
        go_quiet (fail)
        go_wp2_with fail
        obtain ⟨wd', ewd⟩ : ∃ wd', wd' = w6.drewN nq := ⟨_, rfl⟩
        rw [← ewd]
        have hq7 : Below wb.heap.size wb wd' := by rw [ewd]; exact below_drewN hq6 nq
        obtain ⟨hT7, hB7, v2, v3, hz7⟩ := HHB.out wd' hq7
        obtain ⟨⟨l0, l1, l2⟩, lf⟩ := hT7.cells
        have hS7 := hT7.lt
        have hkr : k < R.length := by omega
        have lk : wd'.cell? ⟨gr, k, none⟩ = some (.int .i64 (wd R k)) := own_wd hT7.roots hkr
        have hgr7 := own_lt hT7.roots
        have hok : kindOf (wd R k) = 3 → pl2 (wd R k) < C.length := HOK.out _ (wd_mem hkr)
        obtain ⟨n0, n1, n2, n3, n4, n5⟩ := hT7.ne
        have hgcl := hT7.lt_all.2.1
        have hwgc : w.heap.size ≠ gc ∧ w.heap.size ≠ gr ∧ w.heap.size ≠ Sg := by
          have := HNW.out
          exact ⟨by omega, by omega, by omega⟩
        have hsh := rshade_keep B Sg b off cap gr cr gc cc W R C (wd R k) wd'.drew (hT7.same (Below.refl _ _).drew) hok
        generalize hX : wd R k = x at *
        clear ewd HRE HDY HDN m0 m1 m2 mf u2 u3
        go_region_held3 (fun w' => w'.cell? ⟨Sg, 1, none⟩ = some (sl gr R.length cr) ∧ w'.cell? ⟨w.heap.size, 2, none⟩ = some (.int .i64 (k : Int)) ∧ w'.cell? ⟨gr, k, none⟩ = some (.int .i64 x)) (go_keep) (first | (go_at_call 22; refine hsh.mono ?_; rintro e w8 ⟨rfl, hT8, hb8, hk8, hz8⟩; have a1 : w8.cell? ⟨Sg, 1, none⟩ = some (sl gr R.length cr) := (World.cell?_of_block (hk8 Sg n1)).trans l1; have a2 : w8.cell? ⟨w.heap.size, 2, none⟩ = some (.int .i64 (k : Int)) := (World.cell?_of_block (hk8 _ hwgc.1)).trans v2; have a3 : w8.cell? ⟨gr, k, none⟩ = some (.int .i64 x) := (World.cell?_of_block (hk8 gr n2)).trans lk; have a4 : w8.cell? ⟨w.heap.size, 3, none⟩ = some (.int .i64 what) := (World.cell?_of_block (hk8 _ hwgc.1)).trans v3; have hz81 : Sg < w8.heap.size := hT8.lt; have hz82 : gr < w8.heap.size := hT8.lt_all.1; have hz83 : w.heap.size < w8.heap.size := Nat.lt_of_lt_of_le hz7 hz8; have a5 := hT8.roots.frozenAt k))
        go_wp2_with fail
        go_region
        all_goals go_wp2_with fail
        all_goals go_end0
        all_goals rw [HD.out]
        all_goals
          have hgB := (hT8.roots.lt gr rfl).1
          first
            | exact ⟨rfl, (hT8.setR k what).same (Below.refl _ _).drew, (((hB7.drew).trans hb8).setCell (p := ⟨gr, k, none⟩) hgB _).drew⟩
            | exact ⟨rfl, (hT8.same (Below.refl _ _).drew).setR k what, (((hB7.drew).trans hb8).drew).setCell (p := ⟨gr, k, none⟩) hgB _⟩
            | exact ⟨rfl, hT8.setR k what, ((hB7.drew).trans hb8).setCell (p := ⟨gr, k, none⟩) hgB _⟩
/-- A State, wherever it lies. -/
def TsR (w : World) (B Sg : Nat) (s : Tri) : Prop := ∃ b off cap gr cr gc cc, TsA w B Sg b off cap gr cr gc cc s
theorem rdo_any (B Sg : Nat) (W0 R0 : List Int) (s : Tri) (op : OpT) (w : World) (h : TsR w B Sg s) (hi : TInv W0 R0 s) (hR : s.R.length ≤ 900000) (hB : B ≤ w.heap.size) :
    Calls Try.prog 23 #[.pointer (some ⟨Sg, 0, none⟩), opV op] w fun e w' => e = .returned (.tuple #[]) ∧ TsR w' B Sg (doT s op) ∧ Below B w w' := by
  obtain ⟨W, R, C⟩ := s
  obtain ⟨b, off, cap, gr, cr, gc, cc, h⟩ := h
  have hc : (checkOf W).1 = 0 := hi.may
  have hr : ∀ x ∈ R, okRef W x := hi.roots
  have hC : C.length = W.length + 1 := hi.len
  by_cases k1 : op.kind = 1
  · refine (rdo_scan B Sg b off cap gr cr gc cc W R C op w h hc hC hB k1).mono fun e w' hh => ⟨hh.1, ⟨b, off, cap, gr, cr, gc, cc, ?_⟩, hh.2.2⟩
    unfold doT; rw [if_pos k1]; exact hh.2.1
  by_cases k2 : op.kind = 2
  · by_cases hp : PutFit W op.o op.pos op.what
    · exact (rdo_put_yes B Sg b off cap gr cr gc cc W R C op w h hc hr hR hC hB k2 hp).mono fun e w' hh => ⟨hh.1, let ⟨b', o', c', ht⟩ := hh.2.1; ⟨b', o', c', gr, cr, gc, cc, ht⟩, hh.2.2⟩
    · refine (rdo_put_no B Sg b off cap gr cr gc cc W R C op w h hc hB k2 hp).mono fun e w' hh => ⟨hh.1, ⟨b, off, cap, gr, cr, gc, cc, ?_⟩, hh.2.2⟩
      unfold doT; rw [if_neg k1, if_pos k2, if_neg fun ho => hp ⟨ho.1, ho.2.1, ho.2.2.1, ho.2.2.2.1⟩]; exact hh.2.1
  by_cases k3 : op.kind = 3
  · by_cases hp : NewFit W op.form op.size
    · refine (rdo_new_yes B Sg b off cap gr cr gc cc W R C op w h hc hR hC hB k3 hp).mono fun e w' hh => ⟨hh.1, ?_, hh.2.2⟩
      unfold doT; rw [if_neg k1, if_neg k2, if_pos k3, if_pos (show NewOk ⟨W, R, C⟩ op from hp)]; exact hh.2.1
    · refine (rdo_new_no B Sg b off cap gr cr gc cc W R C op w h hc hB k3 hp).mono fun e w' hh => ⟨hh.1, ⟨b, off, cap, gr, cr, gc, cc, ?_⟩, hh.2.2⟩
      unfold doT; rw [if_neg k1, if_neg k2, if_pos k3, if_neg (show ¬ NewOk ⟨W, R, C⟩ op from hp)]; exact hh.2.1
  by_cases k4 : op.kind = 4
  · exact (rdo_root B Sg b off cap gr cr gc cc W R C op w h hc hr hR hC hB k4).mono fun e w' hh => ⟨hh.1, ⟨b, off, cap, gr, cr, gc, cc, hh.2.1⟩, hh.2.2⟩
  · refine (rdo_else B Sg b off cap gr cr gc cc W R C op w h hB k1 k2 k3 k4).mono fun e w' hh => ⟨hh.1, ⟨b, off, cap, gr, cr, gc, cc, ?_⟩, hh.2.2⟩
    unfold doT; rw [if_neg k1, if_neg k2, if_neg k3, if_neg k4]; exact hh.2.1
end Go.Proofs.Ytabniplgibfgeaa
