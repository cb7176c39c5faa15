/- gessoref17: Do, of OpPut. -/
import Derived.Test.YtabniplgibfgeaaRef18b
import Derived.Test.YtabniplgibfgeaaGb
namespace Go.Proofs.Ytabniplgibfgeaa
open Go.RowKit

/-- Put takes it. -/
def PutFit (W : List Int) (o pos what : Int) : Prop := thingB W o = true ∧ 0 ≤ pos ∧ pos < (slotsAt W (pl2 o) : Int) ∧ standB W (formAt W (pl2 o)) what = true
theorem rput_no (W : List Int) (b off cap : Nat) (o pos what : Int) (w : World) (hr : Row w b off W) (hc : (checkOf W).1 = 0) (hcap : W.length ≤ cap) (h : ¬ PutFit W o pos what) :
    Calls Try.prog 36 #[heapV (some ⟨b, off, none⟩) W.length cap, .int .i64 o, .int .i64 pos, .int .i64 what] w fun e w' => (∃ c : Int, c ≠ 0 ∧ e = putErr c) ∧ Below w.heap.size w w' := by
  have hf := fine_of hc
  cases ht : thingB W o with
  | false => exact (rput_kind W b off cap o pos what w hr hf.fit hf.few ht).mono fun e w' h => ⟨⟨3, by decide, h.1⟩, h.2⟩
  | true =>
    obtain ⟨hm, e⟩ := thing_at ht
    rw [e] at ht ⊢
    by_cases hp : pos < 0 ∨ (slotsAt W (pl2 o) : Int) ≤ pos
    · exact (rput_range W b off cap (pl2 o) pos what w hr hf.fit hf.few hcap ht hm hp).mono fun e w' h => ⟨⟨4, by decide, h.1⟩, h.2⟩
    · obtain ⟨k, rfl⟩ : ∃ k : Nat, pos = (k : Int) := ⟨pos.toNat, by omega⟩
      have hs : standB W (formAt W (pl2 o)) what = false := Bool.eq_false_iff.2 fun hs => h ⟨by rw [e]; exact ht, by omega, by omega, hs⟩
      exact (rput_form W b off cap (pl2 o) k what w hr hf.fit hf.few hcap ht hm (by omega) hs).mono fun e w' h => ⟨⟨2, by decide, h.1⟩, h.2⟩
theorem rput_yes (W : List Int) (b off cap : Nat) (o pos what : Int) (w : World) (hr : Row w b off W) (hc : (checkOf W).1 = 0) (hcap : W.length ≤ cap) (h : PutFit W o pos what) :
    Calls Try.prog 36 #[heapV (some ⟨b, off, none⟩) W.length cap, .int .i64 o, .int .i64 pos, .int .i64 what] w fun e w' => PutFrom (W.set (pl2 o + 3 + pos.toNat) what) w.heap.size e w' ∧ Below w.heap.size w w' := by
  have hf := fine_of hc
  obtain ⟨ht, h1, h2, h3⟩ := h
  obtain ⟨hm, e⟩ := thing_at ht
  obtain ⟨k, rfl⟩ : ∃ k : Nat, pos = (k : Int) := ⟨pos.toNat, by omega⟩
  have := rput_from W b off cap (pl2 o) k what w hr hf.fit hf.few hcap (by rw [← e]; exact ht) hm (by omega) h3
  rw [← e] at this; exact this
set_option maxRecDepth 100000 in
set_option maxHeartbeats 8000000 in
theorem rdo_put_no (B Sg b off cap gr cr gc cc : Nat) (W R C : List Int) (op : OpT) (w : World) (h : TsA w B Sg b off cap gr cr gc cc ⟨W, R, C⟩) (hc : (checkOf W).1 = 0) (hB : B ≤ w.heap.size) (hop : op.kind = 2) (hno : ¬ PutFit W op.o op.pos op.what) :
    Calls Try.prog 23 #[.pointer (some ⟨Sg, 0, none⟩), opV op] w fun e w' => e = .returned (.tuple #[]) ∧ TsA w' B Sg b off cap gr cr gc cc ⟨W, R, C⟩ ∧ Below B w w' := by
  obtain ⟨kind, oo, pos, what, form, size⟩ := op
  simp only at hop
  subst hop
  obtain ⟨wb, ewb⟩ : ∃ wb, wb = w.alloc (.cells #[.int .i64 2, .int .i64 oo, .int .i64 pos, .int .i64 what, .int .i64 form, .int .i64 size] 50) := ⟨_, rfl⟩
  have hbb : Below w.heap.size w wb := by rw [ewb]; exact (Below.refl _ _).alloc (Nat.le_refl _) _
  have h1 := h.same hbb
  have q0 : wb.cell? ⟨w.heap.size, 0, none⟩ = some (.int .i64 2) := by rw [ewb, cell_of_row _ _ _ _ _ _ (heap_alloc_new w _)]; rfl
  have q1 : wb.cell? ⟨w.heap.size, 1, none⟩ = some (.int .i64 oo) := by rw [ewb, cell_of_row _ _ _ _ _ _ (heap_alloc_new w _)]; rfl
  have q2 : wb.cell? ⟨w.heap.size, 2, none⟩ = some (.int .i64 pos) := by rw [ewb, cell_of_row _ _ _ _ _ _ (heap_alloc_new w _)]; rfl
  have q3 : wb.cell? ⟨w.heap.size, 3, none⟩ = some (.int .i64 what) := by rw [ewb, cell_of_row _ _ _ _ _ _ (heap_alloc_new w _)]; rfl
  obtain ⟨⟨k0, _, _⟩, _⟩ := h1.cells
  have hSl := h1.lt
  have hzb : w.heap.size < wb.heap.size := by rw [ewb]; simp
  have HH : Hid (TsA wb B Sg b off cap gr cr gc cc ⟨W, R, C⟩) := h1
  have HB1 : Hid (Below B w wb) := hbb.mono hB
  have HP : Hid (∀ w0, Below wb.heap.size wb w0 → Calls Try.prog 36 #[.agg #[.slice (some ⟨b, off, none⟩) W.length cap], .int .i64 oo, .int .i64 pos, .int .i64 what] w0 fun e w' => (∃ c : Int, c ≠ 0 ∧ e = putErr c) ∧ Below wb.heap.size wb w' ∧ Below w0.heap.size w0 w') :=
    fun w0 hb0 => (rput_no W b off cap oo pos what w0 (h1.row.same hb0) hc h1.room hno).mono fun e w' h => ⟨h.1, hb0.trans (h.2.mono hb0.size), h.2⟩
  have hBz : B ≤ wb.heap.size := by omega
  clear h h1 hbb hno hc
  go_enter Try.func23, Try.ntmps23
  go_upto_region 1 with fail
  rw [← ewb]
  clear ewb
  go_upto_region 15 with fail
  have hn1 : ¬ Sg = wb.heap.size := by omega
  have hn2 : ¬ w.heap.size = wb.heap.size := by omega
  have hn1' : ¬ wb.heap.size = Sg := by omega
  have hn2' : ¬ wb.heap.size = w.heap.size := by omega
  go_cut [7, 8] from 91 to 104 (fun s7 s8 wx => ∃ (X : Nat) (c : Int), s7 = .pointer (some ⟨X, 0, none⟩) ∧ s8 = .int .i64 c ∧ c ≠ 0 ∧ Hid (Below wb.heap.size wb wx))
  case first =>
    go_region_held3 (fun w' => w'.cell? ⟨Sg, 0, none⟩ = some (.slice (some ⟨b, off, none⟩) W.length cap) ∧ w'.cell? ⟨w.heap.size, 1, none⟩ = some (.int .i64 oo) ∧ w'.cell? ⟨w.heap.size, 2, none⟩ = some (.int .i64 pos) ∧ w'.cell? ⟨w.heap.size, 3, none⟩ = some (.int .i64 what)) (go_keep) (first | (go_at_call 36; refine (HP.out wb.drew (Below.refl _ wb).drew).mono ?_; rintro e w5 ⟨⟨c, hcn, rfl⟩, hq5, hb5⟩; have kk0 : w5.cell? ⟨Sg, 0, none⟩ = some (.slice (some ⟨b, off, none⟩) W.length cap) := (hq5.cell (p := ⟨Sg, 0, none⟩) hSl).trans k0; have kk1 : w5.cell? ⟨w.heap.size, 1, none⟩ = some (.int .i64 oo) := (hq5.cell (p := ⟨w.heap.size, 1, none⟩) hzb).trans q1; have kk2 : w5.cell? ⟨w.heap.size, 2, none⟩ = some (.int .i64 pos) := (hq5.cell (p := ⟨w.heap.size, 2, none⟩) hzb).trans q2; have kk3 : w5.cell? ⟨w.heap.size, 3, none⟩ = some (.int .i64 what) := (hq5.cell (p := ⟨w.heap.size, 3, none⟩) hzb).trans q3; have hz5 := hq5.size; have hz51 : Sg < w5.heap.size := (by omega); have hz52 : w.heap.size < w5.heap.size := (by omega); have hn3 : ¬ Sg = w5.heap.size := (by omega); have hn4 : ¬ w.heap.size = w5.heap.size := (by omega); have hn3' : ¬ w5.heap.size = Sg := (by omega); have hn4' : ¬ w5.heap.size = w.heap.size := (by omega)) | (go_at_call 36; refine (HP.out (wb.alloc (.cells #[.slice none 0 0] 24)).drew ((Below.refl _ wb).alloc (Nat.le_refl _) _).drew).mono ?_; rintro e w5 ⟨⟨c, hcn, rfl⟩, hq5, hb5⟩; have kb : w5.cell? ⟨wb.heap.size, 0, none⟩ = some (.slice none 0 0) := (by rw [hb5.cell (p := ⟨wb.heap.size, 0, none⟩) (by simp)]; simp); have kbf : w5.frozen? ⟨wb.heap.size, 0, none⟩ = false := (by rw [hb5.frozen (p := ⟨wb.heap.size, 0, none⟩) (by simp)]; simp); have hz53 : wb.heap.size < w5.heap.size := (by have := hb5.size; simp at this; omega); have kk0 : w5.cell? ⟨Sg, 0, none⟩ = some (.slice (some ⟨b, off, none⟩) W.length cap) := (hq5.cell (p := ⟨Sg, 0, none⟩) hSl).trans k0; have kk1 : w5.cell? ⟨w.heap.size, 1, none⟩ = some (.int .i64 oo) := (hq5.cell (p := ⟨w.heap.size, 1, none⟩) hzb).trans q1; have kk2 : w5.cell? ⟨w.heap.size, 2, none⟩ = some (.int .i64 pos) := (hq5.cell (p := ⟨w.heap.size, 2, none⟩) hzb).trans q2; have kk3 : w5.cell? ⟨w.heap.size, 3, none⟩ = some (.int .i64 what) := (hq5.cell (p := ⟨w.heap.size, 3, none⟩) hzb).trans q3; have hz5 := hq5.size; have hz51 : Sg < w5.heap.size := (by omega); have hz52 : w.heap.size < w5.heap.size := (by omega)))
    all_goals
      go_wp2_with fail
      go_meet
      case rel => exact ⟨_, c, rfl, rfl, hcn, by first | exact hq5.alloc (by omega) _ | exact hq5.setCell (p := ⟨wb.heap.size, 0, none⟩) (Nat.le_refl _) _⟩
  case rest =>
    obtain ⟨X, c, rfl, rfl, hcn, HQ⟩ := hcut
    have hbn : (c != 0) = true := by simpa using hcn
    go_wp2_with fail
    refine bodyPost_ret (results_none rfl _ _ _) rfl ?_
    exact ⟨rfl, HH.out.same HQ.out, HB1.out.trans (HQ.out.mono hBz)⟩
theorem box4d {w w' : World} {x0 x1 x2 x3 : Value} {t : TypeId} (hb : Below (w.alloc (.cells #[x0, x1, x2, x3] t)).drew.heap.size (w.alloc (.cells #[x0, x1, x2, x3] t)).drew w') :
    (w'.cell? ⟨w.heap.size, 0, none⟩ = some x0 ∧ w'.cell? ⟨w.heap.size, 1, none⟩ = some x1 ∧ w'.cell? ⟨w.heap.size, 2, none⟩ = some x2 ∧ w'.cell? ⟨w.heap.size, 3, none⟩ = some x3) ∧ (w'.frozen? ⟨w.heap.size, 0, none⟩ = false ∧ w'.frozen? ⟨w.heap.size, 1, none⟩ = false ∧ w'.frozen? ⟨w.heap.size, 2, none⟩ = false ∧ w'.frozen? ⟨w.heap.size, 3, none⟩ = false) ∧ w.heap.size < w'.heap.size := by
  have hs := hb.size
  simp at hs
  refine ⟨⟨?_, ?_, ?_, ?_⟩, ⟨?_, ?_, ?_, ?_⟩, by omega⟩
  · rw [hb.cell (p := ⟨w.heap.size, 0, none⟩) (by simp)]; simp
  · rw [hb.cell (p := ⟨w.heap.size, 1, none⟩) (by simp)]; simp
  · rw [hb.cell (p := ⟨w.heap.size, 2, none⟩) (by simp)]; simp
  · rw [hb.cell (p := ⟨w.heap.size, 3, none⟩) (by simp)]; simp
  · rw [hb.frozen (p := ⟨w.heap.size, 0, none⟩) (by simp)]; simp
  · rw [hb.frozen (p := ⟨w.heap.size, 1, none⟩) (by simp)]; simp
  · rw [hb.frozen (p := ⟨w.heap.size, 2, none⟩) (by simp)]; simp
  · rw [hb.frozen (p := ⟨w.heap.size, 3, none⟩) (by simp)]; simp
theorem own_room {w : World} {B g n c : Nat} {xs : List Value} (h : w.ownsRow B 3 1 (sl g n c) n xs) : n ≤ c := by
  rcases h.2 with ⟨e, _⟩ | ⟨g', cap, cur, e, _, _, hc, _⟩
  · cases e
  · injection e with _ _ e; omega
theorem below_drew {w w' : World} (hb : Below w.drew.heap.size w.drew w') : Below w.heap.size w w' := ((Below.refl _ w).drew).trans hb
theorem TsA.setW {w : World} {B Sg b off cap gr cr gc cc g c : Nat} {W W' R C : List Int} (h : TsA w B Sg b off cap gr cr gc cc ⟨W, R, C⟩) (hr : Row w g 0 W') (hg : g ≠ Sg ∧ g ≠ gr ∧ g ≠ gc) (hc : W'.length ≤ c) : TsA (w.setCell ⟨Sg, 0, none⟩ (sl g W'.length c)) B Sg g 0 c gr cr gc cc ⟨W', R, C⟩ := by
  obtain ⟨n0, n1, n2, n3, n4, n5⟩ := h.ne
  refine ⟨heap_setCell_same _ _ _ _ _ _ h.box, ?_, ownsRow_setCell_other h.roots (a := ⟨Sg, 0, none⟩) (fun e => n0 (by injection e with e; exact e.symm)) _, ownsRow_setCell_other h.cols (a := ⟨Sg, 0, none⟩) (fun e => n1 (by injection e with e; exact e.symm)) _, ⟨n0, n1, n2, hg.1, hg.2.1, hg.2.2⟩, h.low, hc⟩
  exact ⟨by have := hr.lt; simpa using this, fun k hk => by rw [World.cell?_of_block (Below.heap_setCell _ _ _ _ hg.1)]; exact hr.cell k hk, hr.wf⟩
theorem TsA.lt_all {w : World} {B Sg b off cap gr cr gc cc : Nat} {s : Tri} (h : TsA w B Sg b off cap gr cr gc cc s) : gr < w.heap.size ∧ gc < w.heap.size ∧ b < w.heap.size := ⟨own_lt h.roots, own_lt h.cols, h.row.lt⟩
set_option maxRecDepth 100000 in
set_option maxHeartbeats 8000000 in
theorem rdo_put_yes (B Sg b off cap gr cr gc cc : Nat) (W R C : List Int) (op : OpT) (w : World) (h : TsA w B Sg b off cap gr cr gc cc ⟨W, R, C⟩) (hc : (checkOf W).1 = 0) (hr : ∀ x ∈ R, okRef W x) (hR : R.length ≤ 900000) (hC : C.length = W.length + 1) (hB : B ≤ w.heap.size) (hop : op.kind = 2) (hno : PutFit W op.o op.pos op.what) :
    Calls Try.prog 23 #[.pointer (some ⟨Sg, 0, none⟩), opV op] w fun e w' => e = .returned (.tuple #[]) ∧ (∃ b' off' cap', TsA w' B Sg b' off' cap' gr cr gc cc (doT ⟨W, R, C⟩ op)) ∧ Below B w w' := by
  obtain ⟨kind, oo, pos, what, form, size⟩ := op
  simp only at hop
  subst hop
  obtain ⟨k, rfl⟩ : ∃ k : Nat, pos = (k : Int) := ⟨pos.toNat, by have := hno.2.1; simp only at this; omega⟩
  obtain ⟨wb, ewb⟩ : ∃ wb, wb = w.alloc (.cells #[.int .i64 2, .int .i64 oo, .int .i64 (k : Int), .int .i64 what, .int .i64 form, .int .i64 size] 50) := ⟨_, rfl⟩
  have hbb : Below w.heap.size w wb := by rw [ewb]; exact (Below.refl _ _).alloc (Nat.le_refl _) _
  have h1 := h.same hbb
  have q0 : wb.cell? ⟨w.heap.size, 0, none⟩ = some (.int .i64 2) := by rw [ewb, cell_of_row _ _ _ _ _ _ (heap_alloc_new w _)]; rfl
  have q1 : wb.cell? ⟨w.heap.size, 1, none⟩ = some (.int .i64 oo) := by rw [ewb, cell_of_row _ _ _ _ _ _ (heap_alloc_new w _)]; rfl
  have q2 : wb.cell? ⟨w.heap.size, 2, none⟩ = some (.int .i64 (k : Int)) := by rw [ewb, cell_of_row _ _ _ _ _ _ (heap_alloc_new w _)]; rfl
  have q3 : wb.cell? ⟨w.heap.size, 3, none⟩ = some (.int .i64 what) := by rw [ewb, cell_of_row _ _ _ _ _ _ (heap_alloc_new w _)]; rfl
  obtain ⟨⟨k0, _, _⟩, _⟩ := h1.cells
  have hSl := h1.lt
  have hzb : w.heap.size < wb.heap.size := by rw [ewb]; simp
  have HH : Hid (TsA wb B Sg b off cap gr cr gc cc ⟨W, R, C⟩) := h1
  have HB1 : Hid (Below B w wb) := hbb.mono hB
  obtain ⟨hpm, hoe⟩ := thing_at hno.1
  obtain ⟨p, hp⟩ : ∃ p, p = pl2 oo := ⟨_, rfl⟩
  have hks : k < slotsAt W p := by have := hno.2.2.1; simp only at this; rw [hp]; omega
  obtain ⟨W', hW'⟩ : ∃ W', W' = W.set (p + 3 + k) what := ⟨_, rfl⟩
  have HP : Hid (∀ w0, Below wb.heap.size wb w0 → Calls Try.prog 36 #[.agg #[.slice (some ⟨b, off, none⟩) W.length cap], .int .i64 oo, .int .i64 (k : Int), .int .i64 what] w0 fun e w' => PutFrom W' w0.heap.size e w' ∧ Below wb.heap.size wb w' ∧ Below w0.heap.size w0 w') :=
    fun w0 hb0 => (rput_yes W b off cap oo k what w0 (h1.row.same hb0) hc h1.room hno).mono fun e w' h => ⟨by rw [hW', hp]; exact h.1, hb0.trans (h.2.mono hb0.size), h.2⟩
  have HL : Hid (∀ w0, Below wb.heap.size wb w0 → Calls Try.prog 37 #[.agg #[.slice (some ⟨b, off, none⟩) W.length cap], .int .i64 oo] w0 fun e w' => LookAns W p w0.heap.size e w' ∧ Below wb.heap.size wb w' ∧ Below w0.heap.size w0 w') :=
    fun w0 hb0 => by
      have hf := fine_of hc
      have := rlook_yes W b off cap p w0 (h1.row.same hb0) hf.fit hf.few h1.room (by rw [hp, ← hoe]; exact hno.1) (by rw [hp]; exact hpm)
      rw [hp, ← hoe] at this
      rw [hp]
      exact this.mono fun e w' h => ⟨h.1, hb0.trans (h.2.mono hb0.size), h.2⟩
  have HRE : Hid (∀ w0 x, Below wb.heap.size wb w0 → Calls Try.prog 38 #[.pointer (some ⟨Sg, 0, none⟩), .int .i64 x] w0 fun e w' => e = .returned (.bool (nowB W R x)) ∧ Below wb.heap.size wb w' ∧ Below w0.heap.size w0 w') :=
    fun w0 x hb0 => (rreached_any B Sg b off cap gr cr gc cc W R C x w0 (h1.same hb0) hc hr hR).mono fun e w' h => ⟨h.1, hb0.trans (h.2.mono hb0.size), h.2⟩
  have hBz : B ≤ wb.heap.size := by omega
  have HSL : Hid ((slotsOf W p).length = slotsAt W p) := slots_length (fine_of hc |>.room p (by rw [hp]; exact hpm))
  have hn1 : ¬ Sg = wb.heap.size := by omega
  have hn2 : ¬ w.heap.size = wb.heap.size := by omega
  have hn1' : ¬ wb.heap.size = Sg := by omega
  have hn2' : ¬ wb.heap.size = w.heap.size := by omega
  have HW : Hid (W' = W.set (p + 3 + k) what ∧ p = pl2 oo ∧ oo = 2 * (pl2 oo : Int)) := ⟨hW', hp, hoe⟩
  have HDY : Hid (nowB W R oo = true → (formAt W p ≠ 1 → nowB W R what = true) → doT ⟨W, R, C⟩ ⟨2, oo, (k : Int), what, form, size⟩ = ⟨W', R, if formAt W p = 0 then shadeC C (wd W (p + 3 + k)) else C⟩) := fun a1 a2 => by
    have hok : PutOk ⟨W, R, C⟩ ⟨2, oo, (k : Int), what, form, size⟩ := ⟨hno.1, hno.2.1, hno.2.2.1, hno.2.2.2, nowB_iff.1 a1, fun hn => nowB_iff.1 (a2 (by rw [hp]; exact hn))⟩
    unfold doT
    rw [if_neg (show ¬ (2 : Int) = 1 by decide), if_pos rfl, if_pos hok, hW', hp]
    rfl
  have HDN : Hid ((nowB W R oo = false ∨ (formAt W p ≠ 1 ∧ nowB W R what = false)) → doT ⟨W, R, C⟩ ⟨2, oo, (k : Int), what, form, size⟩ = ⟨W, R, C⟩) := fun a => by
    have hok : ¬ PutOk ⟨W, R, C⟩ ⟨2, oo, (k : Int), what, form, size⟩ := fun ho => by
      rcases a with a | ⟨a1, a2⟩
      · rw [nowB_iff.2 ho.2.2.2.2.1] at a; cases a
      · rw [nowB_iff.2 (ho.2.2.2.2.2 (by rw [← hp]; exact a1))] at a2; cases a2
    unfold doT
    rw [if_neg (show ¬ (2 : Int) = 1 by decide), if_pos rfl, if_neg hok]
  have HNO : Hid (PutFit W oo (k : Int) what) := hno
  have HCK : Hid ((checkOf W).1 = 0) := hc
  have HM : Hid (p ∈ places W 2) := by rw [hp]; exact hpm
  clear h h1 hbb hW' hp hoe hno hpm hc
  go_enter Try.func23, Try.ntmps23
  go_upto_region 1 with fail
  rw [← ewb]
  clear ewb
  go_upto_region 15 with fail
  go_cut [7, 8] from 91 to 104 (fun s7 s8 wx => ∃ (X g c : Nat), s7 = .pointer (some ⟨X, 0, none⟩) ∧ s8 = .int .i64 0 ∧ Hid (wx.cell? ⟨X, 0, none⟩ = some (sl g W'.length c) ∧ X < wx.heap.size ∧ wb.heap.size ≤ X) ∧ Hid (wx.ownsRow 0 3 1 (sl g W'.length c) W'.length (vals W') ∧ wb.heap.size ≤ g) ∧ Hid (Below wb.heap.size wb wx))
  case first =>
    go_region_held3 (fun w' => w'.cell? ⟨Sg, 0, none⟩ = some (.slice (some ⟨b, off, none⟩) W.length cap) ∧ w'.cell? ⟨w.heap.size, 1, none⟩ = some (.int .i64 oo) ∧ w'.cell? ⟨w.heap.size, 2, none⟩ = some (.int .i64 (k : Int)) ∧ w'.cell? ⟨w.heap.size, 3, none⟩ = some (.int .i64 what)) (go_keep) (first | (go_at_call 36; refine (HP.out wb.drew (Below.refl _ wb).drew).mono ?_; rintro e w5 ⟨⟨g, c, rfl, hg, hown⟩, hq5, hb5⟩; have kk0 : w5.cell? ⟨Sg, 0, none⟩ = some (.slice (some ⟨b, off, none⟩) W.length cap) := (hq5.cell (p := ⟨Sg, 0, none⟩) hSl).trans k0; have kk1 : w5.cell? ⟨w.heap.size, 1, none⟩ = some (.int .i64 oo) := (hq5.cell (p := ⟨w.heap.size, 1, none⟩) hzb).trans q1; have kk2 : w5.cell? ⟨w.heap.size, 2, none⟩ = some (.int .i64 (k : Int)) := (hq5.cell (p := ⟨w.heap.size, 2, none⟩) hzb).trans q2; have kk3 : w5.cell? ⟨w.heap.size, 3, none⟩ = some (.int .i64 what) := (hq5.cell (p := ⟨w.heap.size, 3, none⟩) hzb).trans q3; have hz5 := hq5.size; have hz51 : Sg < w5.heap.size := (by omega); have hz52 : w.heap.size < w5.heap.size := (by omega); have hn3 : ¬ Sg = w5.heap.size := (by omega); have hn4 : ¬ w.heap.size = w5.heap.size := (by omega); have hn3' : ¬ w5.heap.size = Sg := (by omega); have hn4' : ¬ w5.heap.size = w.heap.size := (by omega)) | (go_at_call 36; refine (HP.out (wb.alloc (.cells #[.slice none 0 0] 24)).drew ((Below.refl _ wb).alloc (Nat.le_refl _) _).drew).mono ?_; rintro e w5 ⟨⟨g, c, rfl, hg, hown⟩, hq5, hb5⟩; have kb : w5.cell? ⟨wb.heap.size, 0, none⟩ = some (.slice none 0 0) := (by rw [hb5.cell (p := ⟨wb.heap.size, 0, none⟩) (by simp)]; simp); have kbf : w5.frozen? ⟨wb.heap.size, 0, none⟩ = false := (by rw [hb5.frozen (p := ⟨wb.heap.size, 0, none⟩) (by simp)]; simp); have hz53 : wb.heap.size < w5.heap.size := (by have := hb5.size; simp at this; omega); have hg2 : wb.heap.size + 1 ≤ g := (by simp at hg; omega); have kk0 : w5.cell? ⟨Sg, 0, none⟩ = some (.slice (some ⟨b, off, none⟩) W.length cap) := (hq5.cell (p := ⟨Sg, 0, none⟩) hSl).trans k0; have kk1 : w5.cell? ⟨w.heap.size, 1, none⟩ = some (.int .i64 oo) := (hq5.cell (p := ⟨w.heap.size, 1, none⟩) hzb).trans q1; have kk2 : w5.cell? ⟨w.heap.size, 2, none⟩ = some (.int .i64 (k : Int)) := (hq5.cell (p := ⟨w.heap.size, 2, none⟩) hzb).trans q2; have kk3 : w5.cell? ⟨w.heap.size, 3, none⟩ = some (.int .i64 what) := (hq5.cell (p := ⟨w.heap.size, 3, none⟩) hzb).trans q3; have hz5 := hq5.size; have hz51 : Sg < w5.heap.size := (by omega); have hz52 : w.heap.size < w5.heap.size := (by omega)))
    all_goals
      go_wp2_with fail
      go_meet
      first
        | exact ⟨_, g, c, rfl, rfl, ⟨by simp, by simp, by omega⟩, ⟨hown.alloc _, hg⟩, hq5.alloc (by omega) _⟩
        | exact ⟨_, g, c, rfl, rfl, ⟨by simp [go_sem, kb], by simpa using hz53, Nat.le_refl _⟩, ⟨own_set' hown (by dsimp only; omega) _, by omega⟩, hq5.setCell (p := ⟨wb.heap.size, 0, none⟩) (Nat.le_refl _) _⟩
  case rest =>
    obtain ⟨X, g, c, rfl, rfl, HX, HG, HQ⟩ := hcut
    obtain ⟨wo, ewo⟩ : ∃ wo, wo = wc := ⟨_, rfl⟩
    subst ewo
    have hzo := HQ.out.size
    have c0 : wo.cell? ⟨Sg, 0, none⟩ = some (.slice (some ⟨b, off, none⟩) W.length cap) := (HQ.out.cell (p := ⟨Sg, 0, none⟩) hSl).trans k0
    have c1 : wo.cell? ⟨w.heap.size, 1, none⟩ = some (.int .i64 oo) := (HQ.out.cell (p := ⟨w.heap.size, 1, none⟩) hzb).trans q1
    have hSo : Sg < wo.heap.size := by omega
    have hzo1 : w.heap.size < wo.heap.size := by omega
    have hm1 : ¬ Sg = wo.heap.size := by omega
    have hm2 : ¬ w.heap.size = wo.heap.size := by omega
    have hm1' : ¬ wo.heap.size = Sg := by omega
    have hm2' : ¬ wo.heap.size = w.heap.size := by omega
    go_upto_region 17 with fail
    go_cut [9, 10] from 105 to 116 (fun s9 s10 wx => ∃ (Y gs cs : Nat), s9 = .pointer (some ⟨Y, 0, none⟩) ∧ s10 = .int .i64 0 ∧ Hid (wx.cell? ⟨Y, 2, none⟩ = some (.int .i64 (formAt W p)) ∧ wx.cell? ⟨Y, 3, none⟩ = some (sl gs (slotsOf W p).length cs) ∧ wx.cell? ⟨gs, k, none⟩ = some (.int .i64 (wd W (p + 3 + k))) ∧ Y < wx.heap.size ∧ gs < wx.heap.size) ∧ Hid (Below wo.heap.size wo wx))
    case first =>
      go_region_held3 (fun w' => w'.cell? ⟨Sg, 0, none⟩ = some (.slice (some ⟨b, off, none⟩) W.length cap) ∧ w'.cell? ⟨w.heap.size, 1, none⟩ = some (.int .i64 oo)) (go_keep) (first | (go_at_call 37; refine (HL.out wo.drew HQ.out.drew).mono ?_; rintro e w5 ⟨⟨v5, rfl, ad5, c5, rfl, hs5⟩, hq5, hb5⟩; have kk0 : w5.cell? ⟨Sg, 0, none⟩ = some (.slice (some ⟨b, off, none⟩) W.length cap) := (hb5.cell (p := ⟨Sg, 0, none⟩) (by show Sg < wo.heap.size; omega)).trans c0; have kk1 : w5.cell? ⟨w.heap.size, 1, none⟩ = some (.int .i64 oo) := (hb5.cell (p := ⟨w.heap.size, 1, none⟩) (by show w.heap.size < wo.heap.size; omega)).trans c1; have hz5 := hb5.size; have hz51 : Sg < w5.heap.size := (by simp at hz5; omega); have hz52 : w.heap.size < w5.heap.size := (by simp at hz5; omega); have hn3 : ¬ Sg = w5.heap.size := (by omega); have hn4 : ¬ w.heap.size = w5.heap.size := (by omega); have hn3' : ¬ w5.heap.size = Sg := (by omega); have hn4' : ¬ w5.heap.size = w.heap.size := (by omega)) | (go_at_call 37; refine (HL.out (wo.alloc (.cells #[.int .i64 0, .int .i64 0, .int .i64 0, .slice none 0 0] 75)).drew (HQ.out.alloc (by omega) _).drew).mono ?_; rintro e w5 ⟨⟨v5, rfl, ad5, c5, rfl, hs5⟩, hq5, hb5⟩; obtain ⟨⟨r0, r1, r2, r3⟩, ⟨z0, z1, z2, z3⟩, hz53⟩ := box4d hb5; have kk0 : w5.cell? ⟨Sg, 0, none⟩ = some (.slice (some ⟨b, off, none⟩) W.length cap) := (hb5.cell (p := ⟨Sg, 0, none⟩) (by simp; omega)).trans (by rw [World.cell?_drew]; exact (cell_past _ (by show Sg < wo.heap.size; omega)).trans c0); have kk1 : w5.cell? ⟨w.heap.size, 1, none⟩ = some (.int .i64 oo) := (hb5.cell (p := ⟨w.heap.size, 1, none⟩) (by simp; omega)).trans (by rw [World.cell?_drew]; exact (cell_past _ (by show w.heap.size < wo.heap.size; omega)).trans c1); have hz5 := hb5.size; have hz51 : Sg < w5.heap.size := (by simp at hz5; omega); have hz52 : w.heap.size < w5.heap.size := (by simp at hz5; omega); have hn3 : ¬ Sg = w5.heap.size := (by omega); have hn4 : ¬ w.heap.size = w5.heap.size := (by omega); have hn3' : ¬ w5.heap.size = Sg := (by omega); have hn4' : ¬ w5.heap.size = w.heap.size := (by omega)))
      · go_wp2_with fail
        go_meet
        obtain ⟨gs, rfl, hgs, hos⟩ := hs5 (by rw [HSL.out]; omega)
        have hgl := own_lt hos
        refine ⟨_, gs, c5, rfl, rfl, ⟨by simp, by simp, ?_, by simp, by simp; omega⟩, (below_drew hb5).alloc (show wo.heap.size ≤ w5.heap.size from hz5) _⟩
        rw [cell_past _ hgl, own_wd hos (by rw [HSL.out]; exact hks), slots_at hks]
      · go_wp2_with fail
        go_meet
        obtain ⟨gs, rfl, hgs, hos⟩ := hs5 (by rw [HSL.out]; omega)
        have hgl := own_lt hos
        have hgs' : wo.heap.size + 1 ≤ gs := by simp at hgs; omega
        have hbo : Below wo.heap.size wo w5 := (((Below.refl _ wo).alloc (Nat.le_refl _) _).drew).trans (hb5.mono (by simp))
        refine ⟨_, gs, c5, rfl, rfl, ⟨by simp [go_sem, r2], by simp [go_sem, r3], ?_, by simpa using hz53, by simpa using hgl⟩, (((hbo.setCell (p := ⟨wo.heap.size, 0, none⟩) (Nat.le_refl _) _).setCell (p := ⟨wo.heap.size, 1, none⟩) (Nat.le_refl _) _).setCell (p := ⟨wo.heap.size, 2, none⟩) (Nat.le_refl _) _).setCell (p := ⟨wo.heap.size, 3, none⟩) (Nat.le_refl _) _⟩
        rw [own_wd (own_set' (own_set' (own_set' (own_set' hos (by dsimp only; omega) _) (by dsimp only; omega) _) (by dsimp only; omega) _) (by dsimp only; omega) _) (by rw [HSL.out]; exact hks), slots_at hks]
    case rest =>
      obtain ⟨Y, gs, cs, rfl, rfl, HY, HQ2⟩ := hcut
      obtain ⟨wq, ewq⟩ : ∃ wq, wq = wc := ⟨_, rfl⟩
      subst ewq
      have hzq := HQ2.out.size
      have HQB : Hid (Below wb.heap.size wb wq) := HQ.out.trans (HQ2.out.mono HQ.out.size)
      obtain ⟨x1, x2, x3⟩ := HX.out
      obtain ⟨y2, y3, yk, yl, ygl⟩ := HY.out
      have xq : wq.cell? ⟨X, 0, none⟩ = some (sl g W'.length c) := (HQ2.out.cell (p := ⟨X, 0, none⟩) x2).trans x1
      have p1 : wq.cell? ⟨w.heap.size, 1, none⟩ = some (.int .i64 oo) := (HQB.out.cell (p := ⟨w.heap.size, 1, none⟩) hzb).trans q1
      have p2 : wq.cell? ⟨w.heap.size, 2, none⟩ = some (.int .i64 (k : Int)) := (HQB.out.cell (p := ⟨w.heap.size, 2, none⟩) hzb).trans q2
      have p3 : wq.cell? ⟨w.heap.size, 3, none⟩ = some (.int .i64 what) := (HQB.out.cell (p := ⟨w.heap.size, 3, none⟩) hzb).trans q3
      have hXq : X < wq.heap.size := by omega
      have hzq1 : w.heap.size < wq.heap.size := by omega
      have hr1 := HRE.out wq oo HQB.out
      have HHB : Hid (∀ w', Below wb.heap.size wb w' → TsA w' B Sg b off cap gr cr gc cc ⟨W, R, C⟩ ∧ Below B w w') := fun w' hw' => ⟨HH.out.same hw', HB1.out.trans (hw'.mono hBz)⟩
      generalize hb1 : nowB W R oo = r1 at *
      generalize hb2 : nowB W R what = r2 at *
      clear hb1 k0 q0 q1 q2 q3 c0 c1 HP HL
      cases r1 with
      | false =>
        have HD : Hid (doT ⟨W, R, C⟩ ⟨2, oo, (k : Int), what, form, size⟩ = ⟨W, R, C⟩) := HDN.out (Or.inl rfl)
        go_wp2_with (first | (go_at_call_of 38 (Value.int IntKind.i64 oo); refine hr1.mono ?_; rintro e w6 ⟨rfl, hq6, hb6⟩; have u3 : w6.cell? ⟨w.heap.size, 3, none⟩ = some (.int .i64 what) := (hb6.cell (p := ⟨w.heap.size, 3, none⟩) hzq1).trans p3; have hz6 := hb6.size; have hz61 : w.heap.size < w6.heap.size := (by omega)) | (go_at_call_of 38 (Value.int IntKind.i64 what); refine (HRE.out w6 what hq6).mono ?_; rw [hb2]; rintro e w7 ⟨rfl, hq7, hb7⟩; have hz7 := hb7.size; have hbq : Below wq.heap.size wq w7 := hb6.trans (hb7.mono hb6.size); have v2 : w7.cell? ⟨w.heap.size, 2, none⟩ = some (.int .i64 (k : Int)) := (hbq.cell (p := ⟨w.heap.size, 2, none⟩) hzq1).trans p2; have vX : w7.cell? ⟨X, 0, none⟩ = some (sl g W'.length c) := (hbq.cell (p := ⟨X, 0, none⟩) hXq).trans xq; have v72 : w7.cell? ⟨Y, 2, none⟩ = some (.int .i64 (formAt W p)) := (hbq.cell (p := ⟨Y, 2, none⟩) yl).trans y2; have v73 : w7.cell? ⟨Y, 3, none⟩ = some (sl gs (slotsOf W p).length cs) := (hbq.cell (p := ⟨Y, 3, none⟩) yl).trans y3; have v7k : w7.cell? ⟨gs, k, none⟩ = some (.int .i64 (wd W (p + 3 + k))) := (hbq.cell (p := ⟨gs, k, none⟩) ygl).trans yk; obtain ⟨HT7, HB7⟩ := HHB.out w7 hq7; obtain ⟨⟨m0, m1, m2⟩, mf⟩ := HT7.cells; have hS7 := HT7.lt; have hX7 : X < w7.heap.size := (by omega); have hY7 : Y < w7.heap.size := (by omega); have hg7 : gs < w7.heap.size := (by omega); have hw7 : w.heap.size < w7.heap.size := (by omega)))
        refine bodyPost_ret (results_none rfl _ _ _) rfl ?_
        exact ⟨rfl, ⟨b, off, cap, by rw [HD.out]; exact HT7⟩, HB7⟩
      | true =>
        obtain ⟨hla, hlb, hlc⟩ := HH.out.lt_all
        have hgo := HG.out.2
        have HRW : Hid (∀ w', Below wo.heap.size wo w' → w'.ownsRow 0 3 1 (sl g W'.length c) W'.length (vals W')) := fun w' hw' => own_same HG.out.1 fun e he => hw'.block e (HG.out.1.lt e he).2
        have HCW : Hid ((checkOf W').1 = 0) := by
          rw [HW.out.1]
          exact (put_keeps HCK.out HM.out hks (by have := HNO.out.2.2.2; rw [← HW.out.2.1] at this; exact this)).2
        have HGN : Hid (g ≠ Sg ∧ g ≠ gr ∧ g ≠ gc ∧ X ≠ gc ∧ X ≠ Sg) := ⟨by omega, by omega, by omega, by omega, by omega⟩
        have hXg : X ≠ gc := HGN.out.2.2.2.1
        have hfr : 0 ≤ formAt W p ∧ formAt W p ≤ 2 := by rcases (fine_of HCK.out).form p HM.out with e | e | e <;> rw [e] <;> decide
        have HEND : Hid (∀ (w' : World) (C' : List Int), TsA w' B Sg b off cap gr cr gc cc ⟨W, R, C'⟩ → w'.ownsRow 0 3 1 (sl g W'.length c) W'.length (vals W') → TsA (w'.setCell ⟨Sg, 0, none⟩ (sl g W'.length c)) B Sg g 0 c gr cr gc cc ⟨W', R, C'⟩) := fun w' C' hT ho =>
          hT.setW (row_own ho HCW.out) ⟨HGN.out.1, HGN.out.2.1, HGN.out.2.2.1⟩ (own_room ho)
        by_cases hf1 : formAt W p = 1
        · have HD : Hid (doT ⟨W, R, C⟩ ⟨2, oo, (k : Int), what, form, size⟩ = ⟨W', R, C⟩) := by
            have := HDY.out rfl (fun h => absurd hf1 h)
            rw [if_neg (by rw [hf1]; decide)] at this; exact this
          rw [hf1] at y2
          go_wp2_with (first | (go_at_call_of 38 (Value.int IntKind.i64 oo); refine hr1.mono ?_; rintro e w6 ⟨rfl, hq6, hb6⟩; have u3 : w6.cell? ⟨w.heap.size, 3, none⟩ = some (.int .i64 what) := (hb6.cell (p := ⟨w.heap.size, 3, none⟩) hzq1).trans p3; have hz6 := hb6.size; have hz61 : w.heap.size < w6.heap.size := (by omega)) | (go_at_call_of 38 (Value.int IntKind.i64 what); refine (HRE.out w6 what hq6).mono ?_; rw [hb2]; rintro e w7 ⟨rfl, hq7, hb7⟩; have hz7 := hb7.size; have hbq : Below wq.heap.size wq w7 := hb6.trans (hb7.mono hb6.size); have v2 : w7.cell? ⟨w.heap.size, 2, none⟩ = some (.int .i64 (k : Int)) := (hbq.cell (p := ⟨w.heap.size, 2, none⟩) hzq1).trans p2; have vX : w7.cell? ⟨X, 0, none⟩ = some (sl g W'.length c) := (hbq.cell (p := ⟨X, 0, none⟩) hXq).trans xq; have v72 : w7.cell? ⟨Y, 2, none⟩ = some (.int .i64 1) := (hbq.cell (p := ⟨Y, 2, none⟩) yl).trans y2; have v73 : w7.cell? ⟨Y, 3, none⟩ = some (sl gs (slotsOf W p).length cs) := (hbq.cell (p := ⟨Y, 3, none⟩) yl).trans y3; have v7k : w7.cell? ⟨gs, k, none⟩ = some (.int .i64 (wd W (p + 3 + k))) := (hbq.cell (p := ⟨gs, k, none⟩) ygl).trans yk; obtain ⟨HT7, HB7⟩ := HHB.out w7 hq7; obtain ⟨⟨m0, m1, m2⟩, mf⟩ := HT7.cells; have hS7 := HT7.lt; have hX7 : X < w7.heap.size := (by omega); have hY7 : Y < w7.heap.size := (by omega); have hg7 : gs < w7.heap.size := (by omega); have hw7 : w.heap.size < w7.heap.size := (by omega)))
          go_end0
          have hwo : Below wo.heap.size wo w7 := HQ2.out.trans (hbq.mono HQ2.out.size)
          exact ⟨rfl, ⟨g, 0, c, by rw [HD.out]; exact HEND.out w7 C HT7 (HRW.out w7 hwo)⟩, HB7.setCell (p := ⟨Sg, 0, none⟩) HH.out.low _⟩
        · cases r2 with
          | false =>
            have HD : Hid (doT ⟨W, R, C⟩ ⟨2, oo, (k : Int), what, form, size⟩ = ⟨W, R, C⟩) := HDN.out (Or.inr ⟨hf1, rfl⟩)
            have hbn : (formAt W p != 1) = true := by simpa using hf1
            go_wp2_with (first | (go_at_call_of 38 (Value.int IntKind.i64 oo); refine hr1.mono ?_; rintro e w6 ⟨rfl, hq6, hb6⟩; have u3 : w6.cell? ⟨w.heap.size, 3, none⟩ = some (.int .i64 what) := (hb6.cell (p := ⟨w.heap.size, 3, none⟩) hzq1).trans p3; have hz6 := hb6.size; have hz61 : w.heap.size < w6.heap.size := (by omega)) | (go_at_call_of 38 (Value.int IntKind.i64 what); refine (HRE.out w6 what hq6).mono ?_; rw [hb2]; rintro e w7 ⟨rfl, hq7, hb7⟩; have hz7 := hb7.size; have hbq : Below wq.heap.size wq w7 := hb6.trans (hb7.mono hb6.size); have v2 : w7.cell? ⟨w.heap.size, 2, none⟩ = some (.int .i64 (k : Int)) := (hbq.cell (p := ⟨w.heap.size, 2, none⟩) hzq1).trans p2; have vX : w7.cell? ⟨X, 0, none⟩ = some (sl g W'.length c) := (hbq.cell (p := ⟨X, 0, none⟩) hXq).trans xq; have v72 : w7.cell? ⟨Y, 2, none⟩ = some (.int .i64 (formAt W p)) := (hbq.cell (p := ⟨Y, 2, none⟩) yl).trans y2; have v73 : w7.cell? ⟨Y, 3, none⟩ = some (sl gs (slotsOf W p).length cs) := (hbq.cell (p := ⟨Y, 3, none⟩) yl).trans y3; have v7k : w7.cell? ⟨gs, k, none⟩ = some (.int .i64 (wd W (p + 3 + k))) := (hbq.cell (p := ⟨gs, k, none⟩) ygl).trans yk; obtain ⟨HT7, HB7⟩ := HHB.out w7 hq7; obtain ⟨⟨m0, m1, m2⟩, mf⟩ := HT7.cells; have hS7 := HT7.lt; have hX7 : X < w7.heap.size := (by omega); have hY7 : Y < w7.heap.size := (by omega); have hg7 : gs < w7.heap.size := (by omega); have hw7 : w.heap.size < w7.heap.size := (by omega)))
            refine bodyPost_ret (results_none rfl _ _ _) rfl ?_
            exact ⟨rfl, ⟨b, off, cap, by rw [HD.out]; exact HT7⟩, HB7⟩
          | true =>
            have hbn : (formAt W p != 1) = true := by simpa using hf1
            by_cases hf0 : formAt W p = 0
            · have HD : Hid (doT ⟨W, R, C⟩ ⟨2, oo, (k : Int), what, form, size⟩ = ⟨W', R, shadeC C (wd W (p + 3 + k))⟩) := by
                have := HDY.out rfl (fun _ => rfl)
                rw [if_pos hf0] at this; exact this
              have hplc : kindOf (wd W (p + 3 + k)) = 3 → pl2 (wd W (p + 3 + k)) < C.length := fun hk3 => by
                have := (place_ge (thing_at (ok_thing ((fine_of HCK.out).slot p HM.out hf1 k hks) hk3)).1).2
                omega
              have hks' : (k : Int) < ((slotsOf W p).length : Int) := by rw [HSL.out]; omega
              rw [hf0] at y2 hbn
              go_wp2_with (first | (go_at_call_of 38 (Value.int IntKind.i64 oo); refine hr1.mono ?_; rintro e w6 ⟨rfl, hq6, hb6⟩; have u3 : w6.cell? ⟨w.heap.size, 3, none⟩ = some (.int .i64 what) := (hb6.cell (p := ⟨w.heap.size, 3, none⟩) hzq1).trans p3; have hz6 := hb6.size; have hz61 : w.heap.size < w6.heap.size := (by omega)) | (go_at_call_of 38 (Value.int IntKind.i64 what); refine (HRE.out w6 what hq6).mono ?_; rw [hb2]; rintro e w7 ⟨rfl, hq7, hb7⟩; have hz7 := hb7.size; have hbq : Below wq.heap.size wq w7 := hb6.trans (hb7.mono hb6.size); have v2 : w7.cell? ⟨w.heap.size, 2, none⟩ = some (.int .i64 (k : Int)) := (hbq.cell (p := ⟨w.heap.size, 2, none⟩) hzq1).trans p2; have vX : w7.cell? ⟨X, 0, none⟩ = some (sl g W'.length c) := (hbq.cell (p := ⟨X, 0, none⟩) hXq).trans xq; have v72 : w7.cell? ⟨Y, 2, none⟩ = some (.int .i64 0) := (hbq.cell (p := ⟨Y, 2, none⟩) yl).trans y2; have v73 : w7.cell? ⟨Y, 3, none⟩ = some (sl gs (slotsOf W p).length cs) := (hbq.cell (p := ⟨Y, 3, none⟩) yl).trans y3; have v7k : w7.cell? ⟨gs, k, none⟩ = some (.int .i64 (wd W (p + 3 + k))) := (hbq.cell (p := ⟨gs, k, none⟩) ygl).trans yk; obtain ⟨HT7, HB7⟩ := HHB.out w7 hq7; obtain ⟨⟨m0, m1, m2⟩, mf⟩ := HT7.cells; have hS7 := HT7.lt; have hX7 : X < w7.heap.size := (by omega); have hY7 : Y < w7.heap.size := (by omega); have hg7 : gs < w7.heap.size := (by omega); have hw7 : w.heap.size < w7.heap.size := (by omega)) | (go_at_call 22; refine (rshade_keep B Sg b off cap gr cr gc cc W R C _ w7 HT7 hplc).mono ?_; rintro e w8 ⟨rfl, hT8, hb8, hk8, hz8⟩; have vX8 : w8.cell? ⟨X, 0, none⟩ = some (sl g W'.length c) := (World.cell?_of_block (hk8 X hXg)).trans vX; obtain ⟨⟨m80, m81, m82⟩, mf8⟩ := hT8.cells; have hS8 := hT8.lt; have hX8 : X < w8.heap.size := (by omega)))
              go_end0
              have hwo : Below wo.heap.size wo w7 := HQ2.out.trans (hbq.mono HQ2.out.size)
              have ho8 : w8.ownsRow 0 3 1 (sl g W'.length c) W'.length (vals W') := own_same (HRW.out w7 hwo) fun e he => hk8 e (by injection he with he; rw [← he]; exact HGN.out.2.2.1)
              exact ⟨rfl, ⟨g, 0, c, by rw [HD.out]; exact HEND.out w8 _ hT8 ho8⟩, (HB7.trans hb8).setCell (p := ⟨Sg, 0, none⟩) HH.out.low _⟩
            · have HD : Hid (doT ⟨W, R, C⟩ ⟨2, oo, (k : Int), what, form, size⟩ = ⟨W', R, C⟩) := by
                have := HDY.out rfl (fun _ => rfl)
                rw [if_neg hf0] at this; exact this
              have hb0 : (formAt W p == 0) = false := by simpa using hf0
              go_wp2_with (first | (go_at_call_of 38 (Value.int IntKind.i64 oo); refine hr1.mono ?_; rintro e w6 ⟨rfl, hq6, hb6⟩; have u3 : w6.cell? ⟨w.heap.size, 3, none⟩ = some (.int .i64 what) := (hb6.cell (p := ⟨w.heap.size, 3, none⟩) hzq1).trans p3; have hz6 := hb6.size; have hz61 : w.heap.size < w6.heap.size := (by omega)) | (go_at_call_of 38 (Value.int IntKind.i64 what); refine (HRE.out w6 what hq6).mono ?_; rw [hb2]; rintro e w7 ⟨rfl, hq7, hb7⟩; have hz7 := hb7.size; have hbq : Below wq.heap.size wq w7 := hb6.trans (hb7.mono hb6.size); have v2 : w7.cell? ⟨w.heap.size, 2, none⟩ = some (.int .i64 (k : Int)) := (hbq.cell (p := ⟨w.heap.size, 2, none⟩) hzq1).trans p2; have vX : w7.cell? ⟨X, 0, none⟩ = some (sl g W'.length c) := (hbq.cell (p := ⟨X, 0, none⟩) hXq).trans xq; have v72 : w7.cell? ⟨Y, 2, none⟩ = some (.int .i64 (formAt W p)) := (hbq.cell (p := ⟨Y, 2, none⟩) yl).trans y2; have v73 : w7.cell? ⟨Y, 3, none⟩ = some (sl gs (slotsOf W p).length cs) := (hbq.cell (p := ⟨Y, 3, none⟩) yl).trans y3; have v7k : w7.cell? ⟨gs, k, none⟩ = some (.int .i64 (wd W (p + 3 + k))) := (hbq.cell (p := ⟨gs, k, none⟩) ygl).trans yk; obtain ⟨HT7, HB7⟩ := HHB.out w7 hq7; obtain ⟨⟨m0, m1, m2⟩, mf⟩ := HT7.cells; have hS7 := HT7.lt; have hX7 : X < w7.heap.size := (by omega); have hY7 : Y < w7.heap.size := (by omega); have hg7 : gs < w7.heap.size := (by omega); have hw7 : w.heap.size < w7.heap.size := (by omega)))
              go_end0
              have hwo : Below wo.heap.size wo w7 := HQ2.out.trans (hbq.mono HQ2.out.size)
              exact ⟨rfl, ⟨g, 0, c, by rw [HD.out]; exact HEND.out w7 C HT7 (HRW.out w7 hwo)⟩, HB7.setCell (p := ⟨Sg, 0, none⟩) HH.out.low _⟩
end Go.Proofs.Ytabniplgibfgeaa
