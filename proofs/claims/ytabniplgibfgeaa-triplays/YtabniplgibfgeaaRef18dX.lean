/- gessoref17: Do, of OpNew. -/
import Derived.Test.YtabniplgibfgeaaRef18cX
import Derived.Test.YtabniplgibfgeaaGa
namespace Go.Proofs.Ytabniplgibfgeaa
open Go.RowKit

/-- New takes it. -/
def NewFit (W : List Int) (form size : Int) : Prop := 0 ≤ form ∧ form ≤ 2 ∧ 0 ≤ size ∧ size ≤ 60 ∧ (W.length : Int) + 3 + size ≤ 2000 ∧ wd W 1 ≤ 10000
theorem rnew_no (W : List Int) (b off cap : Nat) (form size : Int) (w : World) (hr : Row w b off W) (hc : (checkOf W).1 = 0) (h : ¬ NewFit W form size) :
    Calls Try.prog 39 #[heapV (some ⟨b, off, none⟩) W.length cap, .int .i64 0, .int .i64 form, .int .i64 size] w fun e w' => (∃ c : Int, c ≠ 0 ∧ e = newErr c) ∧ Below w.heap.size w w' := by
  have hf := fine_of hc
  obtain ⟨f1, f2, f3, f4, f5⟩ := front_out (check_fine hc).1
  by_cases hfs : (formB form && sizeB size) = true
  · rw [Bool.and_eq_true] at hfs
    have h1 := of_decide_eq_true (show decide (0 ≤ form ∧ form ≤ 2) = true from hfs.1)
    have h2 := of_decide_eq_true (show decide (0 ≤ size ∧ size ≤ 60) = true from hfs.2)
    exact (rnew_full W b off cap 0 form size w hr hf.fit f1 hf.few f5 nil_zero hfs.1 hfs.2 (by
      by_cases hx : 2000 < (W.length : Int) + 3 + size
      · exact Or.inl hx
      · exact Or.inr (by
          refine Int.not_le.1 fun hh => h ⟨h1.1, h1.2, h2.1, h2.2, by omega, hh⟩))).mono fun e w' h => ⟨⟨6, by decide, h.1⟩, h.2⟩
  · exact (rnew_range W b off cap 0 form size w hr hf.fit hf.few nil_zero (Bool.eq_false_iff.2 hfs)).mono fun e w' h => ⟨⟨4, by decide, h.1⟩, h.2⟩
theorem rnew_yes (W : List Int) (b off cap : Nat) (form : Int) (m : Nat) (w : World) (hr : Row w b off W) (hc : (checkOf W).1 = 0) (h : NewFit W form (m : Int)) :
    Calls Try.prog 39 #[heapV (some ⟨b, off, none⟩) W.length cap, .int .i64 0, .int .i64 form, .int .i64 (m : Int)] w fun e w' => NewFrom (newWords W 0 form m) (2 * (W.length : Int)) w.heap.size e w' ∧ Below w.heap.size w w' := by
  have hf := fine_of hc
  obtain ⟨f1, f2, f3, f4, f5⟩ := front_out (check_fine hc).1
  obtain ⟨h1, h2, h3, h4, h5, h6⟩ := h
  exact rnew_from W b off cap 0 form m w hr hf.fit f1 h6 f4 nil_zero (decide_eq_true ⟨h1, h2⟩) (decide_eq_true ⟨h3, h4⟩) h5
/-- A colour more. -/
theorem TsA.growC {w w2 : World} {o : Obj} {B Sg b off cap gr cr gc cc g' c' : Nat} {W R C : List Int} {x : Int} (h : TsA w B Sg b off cap gr cr gc cc ⟨W, R, C⟩) (hB : B ≤ w.heap.size) (hown : w2.ownsRow B 3 1 (sl g' (C.length + 1) c') (C.length + 1) (vals (C ++ [x]))) (hgrow : (w.alloc o).grownBy w2 (some gc)) (hat : g' = gc ∨ g' = w.heap.size + 1) :
    TsA (w2.setCell ⟨Sg, 2, none⟩ (sl g' (C.length + 1) c')) B Sg b off cap gr cr g' c' ⟨W, R, C ++ [x]⟩ ∧ (∀ k, k < w.heap.size → k ≠ gc → k ≠ Sg → (w2.setCell ⟨Sg, 2, none⟩ (sl g' (C.length + 1) c')).heap[k]? = w.heap[k]?) ∧ Below B w (w2.setCell ⟨Sg, 2, none⟩ (sl g' (C.length + 1) c')) := by
  obtain ⟨n0, n1, n2, n3, n4, n5⟩ := h.ne
  obtain ⟨l1, l2, l3⟩ := h.lt_all
  have hS := h.lt
  have hsz := hgrow.size
  simp at hsz
  have hk : ∀ k, k < w.heap.size → k ≠ gc → w2.heap[k]? = w.heap[k]? := fun k hk hg => (hgrow.block k (by simp; omega) (fun e => hg (by injection e))).trans (Below.heap_alloc _ _ _ hk)
  have hk2 : ∀ k, k < w.heap.size → k ≠ gc → k ≠ Sg → (w2.setCell ⟨Sg, 2, none⟩ (sl g' (C.length + 1) c')).heap[k]? = w.heap[k]? := fun k h1 h2 h3 => (Below.heap_setCell _ _ _ _ h3).trans (hk k h1 h2)
  have hne : g' ≠ Sg ∧ g' ≠ gr ∧ g' ≠ b := by rcases hat with e | e <;> refine ⟨?_, ?_, ?_⟩ <;> omega
  have hl : (C ++ [x]).length = C.length + 1 := by simp
  have hbox := heap_setCell_same w2 Sg 2 _ _ (sl g' (C.length + 1) c') ((hk Sg hS n1).trans h.box)
  refine ⟨⟨?_, ?_, ?_, ?_, ⟨n0, fun e => hne.1 e.symm, fun e => hne.2.1 e.symm, n3, n4, fun e => hne.2.2 e.symm⟩, h.low, h.room⟩, hk2, ?_⟩
  · rw [show (⟨W, R, C ++ [x]⟩ : Tri).C.length = C.length + 1 from hl]; exact hbox
  · exact ⟨by show b < (w2.setCell _ _).heap.size; simp; omega, fun k hk' => by rw [World.cell?_of_block (hk2 b l3 n5 n3)]; exact h.row.cell k hk', h.row.wf⟩
  · exact own_same h.roots fun e he => by injection he with he; subst he; exact hk2 gr l1 n2 (fun e => n0 e.symm)
  · rw [show (⟨W, R, C ++ [x]⟩ : Tri).C.length = C.length + 1 from hl]
    exact ownsRow_setCell_other hown (a := ⟨Sg, 2, none⟩) (fun e => hne.1 (by injection e)) _
  · have hgB := (h.cols.lt gc rfl).1
    exact (((Below.refl B w).alloc hB o).grown hgrow (by simp; omega) (fun k e => by have e' : gc = k := (by injection e); omega)).setCell (p := ⟨Sg, 2, none⟩) h.low _
/-- A root more. -/
theorem TsA.growR {w w2 : World} {o : Obj} {B Sg b off cap gr cr gc cc g' c' : Nat} {W R C : List Int} {x : Int} (h : TsA w B Sg b off cap gr cr gc cc ⟨W, R, C⟩) (hB : B ≤ w.heap.size) (hown : w2.ownsRow B 3 1 (sl g' (R.length + 1) c') (R.length + 1) (vals (R ++ [x]))) (hgrow : (w.alloc o).grownBy w2 (some gr)) (hat : g' = gr ∨ g' = w.heap.size + 1) :
    TsA (w2.setCell ⟨Sg, 1, none⟩ (sl g' (R.length + 1) c')) B Sg b off cap g' c' gc cc ⟨W, R ++ [x], C⟩ ∧ Below B w (w2.setCell ⟨Sg, 1, none⟩ (sl g' (R.length + 1) c')) := by
  obtain ⟨n0, n1, n2, n3, n4, n5⟩ := h.ne
  obtain ⟨l1, l2, l3⟩ := h.lt_all
  have hS := h.lt
  have hsz := hgrow.size
  simp at hsz
  have hk : ∀ k, k < w.heap.size → k ≠ gr → w2.heap[k]? = w.heap[k]? := fun k hk hg => (hgrow.block k (by simp; omega) (fun e => hg (by injection e))).trans (Below.heap_alloc _ _ _ hk)
  have hk2 : ∀ k, k < w.heap.size → k ≠ gr → k ≠ Sg → (w2.setCell ⟨Sg, 1, none⟩ (sl g' (R.length + 1) c')).heap[k]? = w.heap[k]? := fun k h1 h2 h3 => (Below.heap_setCell _ _ _ _ h3).trans (hk k h1 h2)
  have hne : g' ≠ Sg ∧ g' ≠ gc ∧ g' ≠ b := by rcases hat with e | e <;> refine ⟨?_, ?_, ?_⟩ <;> omega
  have hl : (R ++ [x]).length = R.length + 1 := by simp
  have hbox := heap_setCell_same w2 Sg 1 _ _ (sl g' (R.length + 1) c') ((hk Sg hS n0).trans h.box)
  refine ⟨⟨?_, ?_, ?_, ?_, ⟨fun e => hne.1 e.symm, n1, hne.2.1, n3, fun e => hne.2.2 e.symm, n5⟩, h.low, h.room⟩, ?_⟩
  · rw [show (⟨W, R ++ [x], C⟩ : Tri).R.length = R.length + 1 from hl]; exact hbox
  · exact ⟨by show b < (w2.setCell _ _).heap.size; simp; omega, fun k hk' => by rw [World.cell?_of_block (hk2 b l3 n4 n3)]; exact h.row.cell k hk', h.row.wf⟩
  · rw [show (⟨W, R ++ [x], C⟩ : Tri).R.length = R.length + 1 from hl]
    exact ownsRow_setCell_other hown (a := ⟨Sg, 1, none⟩) (fun e => hne.1 (by injection e)) _
  · exact own_same h.cols fun e he => by injection he with he; subst he; exact hk2 gc l2 (fun e => n2 e.symm) (fun e => n1 e.symm)
  · have hgB := (h.roots.lt gr rfl).1
    exact (((Below.refl B w).alloc hB o).grown hgrow (by simp; omega) (fun k e => by have e' : gr = k := (by injection e); omega)).setCell (p := ⟨Sg, 1, none⟩) h.low _
set_option maxRecDepth 100000 in
set_option maxHeartbeats 8000000 in
theorem rdo_new_no (B Sg b off cap gr cr gc cc : Nat) (W R C : List Int) (op : OpT) (w : World) (h : TsA w B Sg b off cap gr cr gc cc ⟨W, R, C⟩) (hc : (checkOf W).1 = 0) (hB : B ≤ w.heap.size) (hop : op.kind = 3) (hno : ¬ NewFit W op.form op.size) :
    Calls Try.prog 23 #[.pointer (some ⟨Sg, 0, none⟩), opV op] w fun e w' => e = .returned (.tuple #[]) ∧ TsA w' B Sg b off cap gr cr gc cc ⟨W, R, C⟩ ∧ Below B w w' := by
  obtain ⟨kind, oo, pos, what, form, size⟩ := op
  simp only at hop
  subst hop
  obtain ⟨wb, ewb⟩ : ∃ wb, wb = w.alloc (.cells #[.int .i64 3, .int .i64 oo, .int .i64 pos, .int .i64 what, .int .i64 form, .int .i64 size] 50) := ⟨_, rfl⟩
  have hbb : Below w.heap.size w wb := by rw [ewb]; exact (Below.refl _ _).alloc (Nat.le_refl _) _
  have h1 := h.same hbb
  have q0 : wb.cell? ⟨w.heap.size, 0, none⟩ = some (.int .i64 3) := by rw [ewb, cell_of_row _ _ _ _ _ _ (heap_alloc_new w _)]; rfl
  have q4 : wb.cell? ⟨w.heap.size, 4, none⟩ = some (.int .i64 form) := by rw [ewb, cell_of_row _ _ _ _ _ _ (heap_alloc_new w _)]; rfl
  have q5 : wb.cell? ⟨w.heap.size, 5, none⟩ = some (.int .i64 size) := by rw [ewb, cell_of_row _ _ _ _ _ _ (heap_alloc_new w _)]; rfl
  obtain ⟨⟨k0, _, _⟩, _⟩ := h1.cells
  have hSl := h1.lt
  have hzb : w.heap.size < wb.heap.size := by rw [ewb]; simp
  have HH : Hid (TsA wb B Sg b off cap gr cr gc cc ⟨W, R, C⟩) := h1
  have HB1 : Hid (Below B w wb) := hbb.mono hB
  have hBz : B ≤ wb.heap.size := by omega
  have hn1 : ¬ Sg = wb.heap.size := by omega
  have hn2 : ¬ w.heap.size = wb.heap.size := by omega
  have hn1' : ¬ wb.heap.size = Sg := by omega
  have hn2' : ¬ wb.heap.size = w.heap.size := by omega
  have HP : Hid (∀ w0, Below wb.heap.size wb w0 → Calls Try.prog 39 #[.agg #[.slice (some ⟨b, off, none⟩) W.length cap], .int .i64 0, .int .i64 form, .int .i64 size] w0 fun e w' => (∃ c : Int, c ≠ 0 ∧ e = newErr c) ∧ Below wb.heap.size wb w' ∧ Below w0.heap.size w0 w') :=
    fun w0 hb0 => (rnew_no W b off cap form size w0 (h1.row.same hb0) hc hno).mono fun e w' h => ⟨h.1, hb0.trans (h.2.mono hb0.size), h.2⟩
  clear h h1 hbb hno hc
  go_enter Try.func23, Try.ntmps23
  go_upto_region 1 with fail
  rw [← ewb]
  clear ewb
  go_upto_region 25 with fail
  go_cut [13, 14, 15] from 153 to 165 (fun s13 s14 s15 wx => ∃ (X : Nat) (c : Int), s13 = .pointer (some ⟨X, 0, none⟩) ∧ s14 = .int .i64 0 ∧ s15 = .int .i64 c ∧ c ≠ 0 ∧ Hid (Below wb.heap.size wb wx))
  case first =>
    go_region_held3 (fun w' => w'.cell? ⟨Sg, 0, none⟩ = some (.slice (some ⟨b, off, none⟩) W.length cap) ∧ w'.cell? ⟨w.heap.size, 4, none⟩ = some (.int .i64 form) ∧ w'.cell? ⟨w.heap.size, 5, none⟩ = some (.int .i64 size)) (go_keep) (first | (go_at_call 39; refine (HP.out wb.drew (Below.refl _ wb).drew).mono ?_; rintro e w5 ⟨⟨c, hcn, rfl⟩, hq5, hb5⟩; have kk0 : w5.cell? ⟨Sg, 0, none⟩ = some (.slice (some ⟨b, off, none⟩) W.length cap) := (hq5.cell (p := ⟨Sg, 0, none⟩) hSl).trans k0; have kk4 : w5.cell? ⟨w.heap.size, 4, none⟩ = some (.int .i64 form) := (hq5.cell (p := ⟨w.heap.size, 4, none⟩) hzb).trans q4; have kk5 : w5.cell? ⟨w.heap.size, 5, none⟩ = some (.int .i64 size) := (hq5.cell (p := ⟨w.heap.size, 5, none⟩) hzb).trans q5; have hz5 := hq5.size; have hz51 : Sg < w5.heap.size := (by omega); have hz52 : w.heap.size < w5.heap.size := (by omega); have hn3 : ¬ Sg = w5.heap.size := (by omega); have hn4 : ¬ w.heap.size = w5.heap.size := (by omega); have hn3' : ¬ w5.heap.size = Sg := (by omega); have hn4' : ¬ w5.heap.size = w.heap.size := (by omega)) | (go_at_call 39; refine (HP.out (wb.alloc (.cells #[.slice none 0 0] 24)).drew ((Below.refl _ wb).alloc (Nat.le_refl _) _).drew).mono ?_; rintro e w5 ⟨⟨c, hcn, rfl⟩, hq5, hb5⟩; have kb : w5.cell? ⟨wb.heap.size, 0, none⟩ = some (.slice none 0 0) := (by rw [hb5.cell (p := ⟨wb.heap.size, 0, none⟩) (by simp)]; simp); have kbf : w5.frozen? ⟨wb.heap.size, 0, none⟩ = false := (by rw [hb5.frozen (p := ⟨wb.heap.size, 0, none⟩) (by simp)]; simp); have hz53 : wb.heap.size < w5.heap.size := (by have := hb5.size; simp at this; omega); have kk0 : w5.cell? ⟨Sg, 0, none⟩ = some (.slice (some ⟨b, off, none⟩) W.length cap) := (hq5.cell (p := ⟨Sg, 0, none⟩) hSl).trans k0; have kk4 : w5.cell? ⟨w.heap.size, 4, none⟩ = some (.int .i64 form) := (hq5.cell (p := ⟨w.heap.size, 4, none⟩) hzb).trans q4; have kk5 : w5.cell? ⟨w.heap.size, 5, none⟩ = some (.int .i64 size) := (hq5.cell (p := ⟨w.heap.size, 5, none⟩) hzb).trans q5; have hz5 := hq5.size; have hz51 : Sg < w5.heap.size := (by omega); have hz52 : w.heap.size < w5.heap.size := (by omega)))
    all_goals
      go_wp2_with fail
      go_meet
      case rel => exact ⟨_, c, rfl, rfl, rfl, hcn, by first | exact hq5.alloc (by omega) _ | exact hq5.setCell (p := ⟨wb.heap.size, 0, none⟩) (Nat.le_refl _) _⟩
  case rest =>
    obtain ⟨X, c, rfl, rfl, rfl, hcn, HQ⟩ := hcut
    have hbn : (c != 0) = true := by simpa using hcn
    go_wp2_with fail
    refine bodyPost_ret (results_none rfl _ _ _) rfl ?_
    exact ⟨rfl, HH.out.same HQ.out, HB1.out.trans (HQ.out.mono hBz)⟩
/-- How long a slice in a cell is. -/
def lenCell : Option Value → Nat
  | some (.slice _ n _) => n
  | _ => 0
set_option maxRecDepth 100000 in
set_option maxHeartbeats 8000000 in
theorem rdo_new_yes (B Sg b off cap gr cr gc cc : Nat) (W R C : List Int) (op : OpT) (w : World) (h : TsA w B Sg b off cap gr cr gc cc ⟨W, R, C⟩) (hc : (checkOf W).1 = 0) (hR : R.length ≤ 900000) (hC : C.length = W.length + 1) (hB : B ≤ w.heap.size) (hop : op.kind = 3) (hno : NewFit W op.form op.size) :
    Calls Try.prog 23 #[.pointer (some ⟨Sg, 0, none⟩), opV op] w fun e w' => e = .returned (.tuple #[]) ∧ (∃ b' off' cap' gr' cr' gc' cc', TsA w' B Sg b' off' cap' gr' cr' gc' cc' (newT ⟨W, R, C⟩ op)) ∧ Below B w w' := by
  obtain ⟨kind, oo, pos, what, form, size⟩ := op
  simp only at hop
  subst hop
  obtain ⟨m, rfl⟩ : ∃ m : Nat, size = (m : Int) := ⟨size.toNat, by have := hno.2.2.1; simp only at this; omega⟩
  obtain ⟨wb, ewb⟩ : ∃ wb, wb = w.alloc (.cells #[.int .i64 3, .int .i64 oo, .int .i64 pos, .int .i64 what, .int .i64 form, .int .i64 (m : Int)] 50) := ⟨_, rfl⟩
  have hbb : Below w.heap.size w wb := by rw [ewb]; exact (Below.refl _ _).alloc (Nat.le_refl _) _
  have h1 := h.same hbb
  have q0 : wb.cell? ⟨w.heap.size, 0, none⟩ = some (.int .i64 3) := by rw [ewb, cell_of_row _ _ _ _ _ _ (heap_alloc_new w _)]; rfl
  have q4 : wb.cell? ⟨w.heap.size, 4, none⟩ = some (.int .i64 form) := by rw [ewb, cell_of_row _ _ _ _ _ _ (heap_alloc_new w _)]; rfl
  have q5 : wb.cell? ⟨w.heap.size, 5, none⟩ = some (.int .i64 (m : Int)) := by rw [ewb, cell_of_row _ _ _ _ _ _ (heap_alloc_new w _)]; rfl
  obtain ⟨⟨k0, _, _⟩, _⟩ := h1.cells
  have hSl := h1.lt
  have hzb : w.heap.size < wb.heap.size := by rw [ewb]; simp
  have HH : Hid (TsA wb B Sg b off cap gr cr gc cc ⟨W, R, C⟩) := h1
  have HB1 : Hid (Below B w wb) := hbb.mono hB
  have hBz : B ≤ wb.heap.size := by omega
  have hn1 : ¬ Sg = wb.heap.size := by omega
  have hn2 : ¬ w.heap.size = wb.heap.size := by omega
  have hn1' : ¬ wb.heap.size = Sg := by omega
  have hn2' : ¬ wb.heap.size = w.heap.size := by omega
  obtain ⟨W', hW'⟩ : ∃ W', W' = newWords W 0 form m := ⟨_, rfl⟩
  have HP : Hid (∀ w0, Below wb.heap.size wb w0 → Calls Try.prog 39 #[.agg #[.slice (some ⟨b, off, none⟩) W.length cap], .int .i64 0, .int .i64 form, .int .i64 (m : Int)] w0 fun e w' => NewFrom W' (2 * (W.length : Int)) w0.heap.size e w' ∧ Below wb.heap.size wb w' ∧ Below w0.heap.size w0 w') :=
    fun w0 hb0 => (rnew_yes W b off cap form m w0 (h1.row.same hb0) hc hno).mono fun e w' h => ⟨by rw [hW']; exact h.1, hb0.trans (h.2.mono hb0.size), h.2⟩
  obtain ⟨f1, f2, s1, s2, hfit, hh⟩ := hno
  simp only at f1 f2 s1 s2 hfit hh
  have hl2 : 2 ≤ W.length := (front_out (check_fine hc).1).1
  have HCW : Hid ((checkOf W').1 = 0) := by rw [hW']; exact (one_moreN W 0 form m hl2).may hc nil_zero ⟨f1, f2⟩ (by omega) (by omega) hh
  have HLW : Hid (W'.length = W.length + 3 + m) := by rw [hW']; exact (one_moreN W 0 form m hl2).length
  have HCL : Hid (C.length = W.length + 1) := hC
  have HNT : Hid (newT ⟨W, R, C⟩ ⟨3, oo, pos, what, form, (m : Int)⟩ = ⟨W', R ++ [2 * (W.length : Int)], (padC C (W'.length + 1)).set W.length 2⟩) := by rw [hW']; exact rfl
  have hm60 : m ≤ 60 := by omega
  have hWl : W.length + 3 + m ≤ 2000 := by omega
  clear h h1 hbb hc hW' f1 f2 s1 s2 hfit hh hC
  go_enter Try.func23, Try.ntmps23
  go_upto_region 1 with fail
  rw [← ewb]
  clear ewb
  go_upto_region 25 with fail
  go_cut [13, 14, 15] from 153 to 165 (fun s13 s14 s15 wx => ∃ (X g c : Nat), s13 = .pointer (some ⟨X, 0, none⟩) ∧ s14 = .int .i64 (2 * (W.length : Int)) ∧ s15 = .int .i64 0 ∧ Hid (wx.cell? ⟨X, 0, none⟩ = some (sl g W'.length c) ∧ X < wx.heap.size ∧ wb.heap.size ≤ X) ∧ Hid (wx.ownsRow 0 3 1 (sl g W'.length c) W'.length (vals W') ∧ wb.heap.size ≤ g) ∧ Hid (Below wb.heap.size wb wx))
  case first =>
    go_region_held3 (fun w' => w'.cell? ⟨Sg, 0, none⟩ = some (.slice (some ⟨b, off, none⟩) W.length cap) ∧ w'.cell? ⟨w.heap.size, 4, none⟩ = some (.int .i64 form) ∧ w'.cell? ⟨w.heap.size, 5, none⟩ = some (.int .i64 (m : Int))) (go_keep) (first | (go_at_call 39; refine (HP.out wb.drew (Below.refl _ wb).drew).mono ?_; rintro e w5 ⟨⟨g, c, rfl, hg, hown⟩, hq5, hb5⟩; have kk0 : w5.cell? ⟨Sg, 0, none⟩ = some (.slice (some ⟨b, off, none⟩) W.length cap) := (hq5.cell (p := ⟨Sg, 0, none⟩) hSl).trans k0; have kk4 : w5.cell? ⟨w.heap.size, 4, none⟩ = some (.int .i64 form) := (hq5.cell (p := ⟨w.heap.size, 4, none⟩) hzb).trans q4; have kk5 : w5.cell? ⟨w.heap.size, 5, none⟩ = some (.int .i64 (m : Int)) := (hq5.cell (p := ⟨w.heap.size, 5, none⟩) hzb).trans q5; have hz5 := hq5.size; have hz51 : Sg < w5.heap.size := (by omega); have hz52 : w.heap.size < w5.heap.size := (by omega); have hn3 : ¬ Sg = w5.heap.size := (by omega); have hn4 : ¬ w.heap.size = w5.heap.size := (by omega); have hn3' : ¬ w5.heap.size = Sg := (by omega); have hn4' : ¬ w5.heap.size = w.heap.size := (by omega)) | (go_at_call 39; refine (HP.out (wb.alloc (.cells #[.slice none 0 0] 24)).drew ((Below.refl _ wb).alloc (Nat.le_refl _) _).drew).mono ?_; rintro e w5 ⟨⟨g, c, rfl, hg, hown⟩, hq5, hb5⟩; have kb : w5.cell? ⟨wb.heap.size, 0, none⟩ = some (.slice none 0 0) := (by rw [hb5.cell (p := ⟨wb.heap.size, 0, none⟩) (by simp)]; simp); have kbf : w5.frozen? ⟨wb.heap.size, 0, none⟩ = false := (by rw [hb5.frozen (p := ⟨wb.heap.size, 0, none⟩) (by simp)]; simp); have hz53 : wb.heap.size < w5.heap.size := (by have := hb5.size; simp at this; omega); have hg2 : wb.heap.size + 1 ≤ g := (by simp at hg; omega); have kk0 : w5.cell? ⟨Sg, 0, none⟩ = some (.slice (some ⟨b, off, none⟩) W.length cap) := (hq5.cell (p := ⟨Sg, 0, none⟩) hSl).trans k0; have kk4 : w5.cell? ⟨w.heap.size, 4, none⟩ = some (.int .i64 form) := (hq5.cell (p := ⟨w.heap.size, 4, none⟩) hzb).trans q4; have kk5 : w5.cell? ⟨w.heap.size, 5, none⟩ = some (.int .i64 (m : Int)) := (hq5.cell (p := ⟨w.heap.size, 5, none⟩) hzb).trans q5; have hz5 := hq5.size; have hz51 : Sg < w5.heap.size := (by omega); have hz52 : w.heap.size < w5.heap.size := (by omega)))
    all_goals
      go_wp2_with fail
      go_meet
      first
        | exact ⟨_, g, c, rfl, rfl, rfl, ⟨by simp, by simp, by omega⟩, ⟨hown.alloc _, hg⟩, hq5.alloc (by omega) _⟩
        | exact ⟨_, g, c, rfl, rfl, rfl, ⟨by simp [go_sem, kb], by simpa using hz53, Nat.le_refl _⟩, ⟨own_set' hown (by dsimp only; omega) _, by omega⟩, hq5.setCell (p := ⟨wb.heap.size, 0, none⟩) (Nat.le_refl _) _⟩
  case rest =>
    obtain ⟨X, g, c, rfl, rfl, rfl, HX, HG, HQ⟩ := hcut
    obtain ⟨wo, ewo⟩ : ∃ wo, wo = wc := ⟨_, rfl⟩
    subst ewo
    have hTo := HH.out.same HQ.out
    obtain ⟨⟨m0, m1, m2⟩, mf⟩ := hTo.cells
    have hSo := hTo.lt
    obtain ⟨x1, x2, x3⟩ := HX.out
    obtain ⟨hla, hlb, hlc⟩ := HH.out.lt_all
    have hgo := HG.out.2
    have hT1 := hTo.setW (row_own HG.out.1 HCW.out) ⟨by omega, by omega, by omega⟩ (own_room HG.out.1)
    have HT1 : Hid (TsA (wo.setCell ⟨Sg, 0, none⟩ (sl g W'.length c)) B Sg g 0 c gr cr gc cc ⟨W', R, C⟩) := hT1
    have HB0 : Hid (Below B w (wo.setCell ⟨Sg, 0, none⟩ (sl g W'.length c))) := (HB1.out.trans (HQ.out.mono hBz)).setCell (p := ⟨Sg, 0, none⟩) HH.out.low _
    have hXS : X ≠ Sg := by omega
    have hXgc : X ≠ gc := by omega
    have HX1 : Hid ((wo.setCell ⟨Sg, 0, none⟩ (sl g W'.length c)).cell? ⟨X, 0, none⟩ = some (sl g W'.length c) ∧ X < (wo.setCell ⟨Sg, 0, none⟩ (sl g W'.length c)).heap.size) := ⟨by rw [World.cell?_of_block (Below.heap_setCell _ _ _ _ hXS)]; exact x1, by simpa using x2⟩
    have hzo := HQ.out.size
    have hBo : B ≤ (wo.setCell ⟨Sg, 0, none⟩ (sl g W'.length c)).heap.size := by simp; omega
    clear hTo hT1 HP k0 q0 q4 q5
    have hfew : W'.length ≤ 2000 := (fine_of HCW.out).few
    obtain ⟨i0, hi, hz0, hz1, hz2⟩ := info_parts info3
    go_wp2_with fail
    go_loopw [] (fun wr => ∃ (C' : List Int) (gc' cc' : Nat), Hid (∃ j, C' = C ++ List.replicate j 0) ∧ Hid (C'.length ≤ W'.length + 1) ∧ Hid (TsA wr B Sg g 0 c gr cr gc' cc' ⟨W', R, C'⟩) ∧ Hid (wr.cell? ⟨X, 0, none⟩ = some (sl g W'.length c) ∧ X < wr.heap.size ∧ X ≠ gc') ∧ Hid (Below B w wr)) (fun wr => 5000 - lenCell (wr.cell? ⟨Sg, 2, none⟩))
    case atStart => exact ⟨C, gc, cc, ⟨0, by simp⟩, by have h1 := HCL.out; have h2 := HLW.out; exact (by omega : C.length ≤ W'.length + 1), HT1.out, ⟨HX1.out.1, HX1.out.2, hXgc⟩, HB0.out⟩
    case round =>
      clear HT1 HX1 HB0 hXgc
      rename_i wr
      obtain ⟨C', gc', cc', HJ, HL', HT, HX', HBW⟩ := hrel
      obtain ⟨⟨n0, n1, n2⟩, nf⟩ := HT.out.cells
      have hSr := HT.out.lt
      obtain ⟨xx, xl, xg⟩ := HX'.out
      have hw1 := wrap_id (x := (W'.length : Int) + 1) (by omega) (by omega)
      have hBr : B ≤ wr.heap.size := by have := HBW.out.size; omega
      have hcols : wr.ownsRow B 3 1 (sl gc' C'.length cc') C'.length (vals C') := HT.out.cols
      have hgl := own_lt hcols
      have hSgc : Sg ≠ gc' := HT.out.ne.2.1
      by_cases hlt : C'.length < W'.length + 1
      · have hii : (C'.length : Int) < (W'.length : Int) + 1 := by omega
        go_upto_region 28 with fail
        go_quiet (fail)
        go_wp2_with (at_builtin; go_must (refine wpList_append_own_at _ rfl (.tmp 186) (.tmp 187) 22 rfl B 3 i0 (.int .i64 0) 1 8 ty30 hi hz0 hz1 hz2 rfl (by decide) (sl gc' C'.length cc') C'.length (vals C') rfl (hcols.drew.alloc _) ⟨wr.heap.size, 0, none⟩ 1 1 [.int .i64 0] rfl rfl (cell_one_new _ _ _) (ints_oneCell .i64 [0]) (by unfold maxLen; omega) (by omega) (by simp; omega) ?_); intro v' w7 hown7 hgrow7 hnil7 hat7; obtain ⟨g7, c7, rfl, hg7, hown70⟩ := own_shape hown7 (fun e => by have := (hnil7.1 e).1; cases this); have hbk : ∀ k, k < wr.heap.size → k ≠ gc' → w7.heap[k]? = wr.heap[k]? := (fun k hk hg => (hgrow7.block k (by simp; omega) (fun e => hg (by injection e))).trans (Below.heap_alloc _ _ _ hk)); have v2 : w7.cell? ⟨Sg, 2, none⟩ = some (sl gc' C'.length cc') := (World.cell?_of_block (hbk Sg hSr hSgc)).trans n2; have vf2 : w7.frozen? ⟨Sg, 2, none⟩ = false := (World.frozen?_of_block (hbk Sg hSr hSgc)).trans (nf 2); have hz7 := hgrow7.size; have hS7 : Sg < w7.heap.size := (by simp at hz7; omega))
        have hTd : TsA (wr.drewN nq) B Sg g 0 c gr cr gc' cc' ⟨W', R, C'⟩ := HT.out.same (below_drewN (Below.refl _ _) nq)
        have hat : g7 = gc' ∨ g7 = (wr.drewN nq).heap.size + 1 := by
          rcases hat7 with e | e
          · left; injection e
          · right
            have e' : g7 = ((wr.drewN nq).alloc (.cells #[.int .i64 0] 3)).heap.size := by injection e
            simpa using e'
        obtain ⟨t1, t2, t3⟩ := hTd.growC (x := 0) hBr (by simpa [vals] using hown7) hgrow7 hat
        have HE : Hid (∃ j, C' ++ [0] = C ++ List.replicate j 0) := by
          obtain ⟨j, e⟩ := HJ.out
          exact ⟨j + 1, by rw [e, List.replicate_succ', List.append_assoc]⟩
        refine ⟨⟨C' ++ [0], g7, c7, HE, by rw [List.length_append]; exact hlt, t1, ⟨?_, ?_, ?_⟩, (below_drewN HBW.out nq).trans t3⟩, ?_⟩
        · rw [World.cell?_of_block (t2 X xl xg hXS)]; exact xx
        · simp; simp at hz7; omega
        · rcases hat with e | e
          · rw [e]; exact xg
          · simp at e; omega
        · have e1 := t1.cells.1.2.2
          rw [e1, n2]
          simp [lenCell]; omega
      · have hii : ¬ (C'.length : Int) < (W'.length : Int) + 1 := by omega
        have hCe : C'.length = W'.length + 1 := by have : C'.length ≤ W'.length + 1 := HL'.out; omega
        have HP : Hid (padC C (W'.length + 1) = C') := by
          obtain ⟨j, e⟩ := HJ.out
          unfold padC
          rw [e] at hCe ⊢
          rw [List.length_append, List.length_replicate] at hCe
          rw [show W'.length + 1 - C.length = j by omega]; exact rfl
        have hLW := HLW.out
        have h2p : 2 * (W.length : Int) / 2 = (W.length : Int) := by omega
        have hw0 := wrap_id (x := (W.length : Int)) (by omega) (by omega)
        have hiW : (W.length : Int) < (C'.length : Int) := by omega
        have hcp := own_wd hcols (i := W.length) (by omega)
        have hfz := hcols.frozenAt W.length
        have hT8 : Hid (∀ nq, TsA ((wr.drewN nq).setCell ⟨gc', W.length, none⟩ (.int .i64 2)) B Sg g 0 c gr cr gc' cc' ⟨W', R, C'.set W.length 2⟩) := fun nq => (HT.out.same (below_drewN (Below.refl _ _) nq)).setC W.length 2
        clear hCe hLW HJ
        go_upto_region 28 with fail
        go_quiet (fail)
        have hT9 := hT8.out nq
        obtain ⟨⟨r0, r1, r2⟩, rf⟩ := hT9.cells
        have hS9 := hT9.lt
        have hroots : ((wr.drewN nq).setCell ⟨gc', W.length, none⟩ (.int .i64 2)).ownsRow B 3 1 (sl gr R.length cr) R.length (vals R) := hT9.roots
        have hsz9 : ((wr.drewN nq).setCell ⟨gc', W.length, none⟩ (.int .i64 2)).heap.size = wr.heap.size := by simp
        have hB9 : B ≤ ((wr.drewN nq).setCell ⟨gc', W.length, none⟩ (.int .i64 2)).heap.size := by omega
        have HB9 : Hid (Below B w ((wr.drewN nq).setCell ⟨gc', W.length, none⟩ (.int .i64 2))) := (below_drewN HBW.out nq).setCell (p := ⟨gc', W.length, none⟩) (hcols.lt gc' rfl).1 _
        have hSgr : Sg ≠ gr := hT9.ne.1
        have HT9 : Hid (TsA ((wr.drewN nq).setCell ⟨gc', W.length, none⟩ (.int .i64 2)) B Sg g 0 c gr cr gc' cc' ⟨W', R, C'.set W.length 2⟩) := hT9
        clear hT8 hT9
        go_wp2_with (at_builtin; go_must (refine wpList_append_own_at _ rfl (.tmp 202) (.tmp 204) 22 rfl B 3 i0 (.int .i64 0) 1 8 ty30 hi hz0 hz1 hz2 rfl (by decide) (sl gr R.length cr) R.length (vals R) rfl (hroots.alloc _) ⟨wr.heap.size, 0, none⟩ 1 1 [.int .i64 (2 * (W.length : Int))] rfl rfl (fun j u h => by have := cell_one_new ((wr.drewN nq).setCell ⟨gc', W.length, none⟩ (.int .i64 2)) (.int .i64 (2 * (W.length : Int))) 3 j u h; rw [hsz9] at this; exact this) (ints_oneCell .i64 [2 * (W.length : Int)]) (by unfold maxLen; omega) (by omega) (by simp; omega) ?_); intro v' w7 hown7 hgrow7 hnil7 hat7; obtain ⟨g7, c7, rfl, hg7, hown70⟩ := own_shape hown7 (fun e => by have := (hnil7.1 e).1; cases this); have hbk := ((hgrow7.block Sg (by simp; omega) (fun e => hSgr (by injection e))).trans (Below.heap_alloc _ _ _ hS9)); have v2 : w7.cell? ⟨Sg, 1, none⟩ = some (sl gr R.length cr) := (World.cell?_of_block hbk).trans r1; have vf2 : w7.frozen? ⟨Sg, 1, none⟩ = false := (World.frozen?_of_block hbk).trans (rf 1); have hz7 := hgrow7.size; have hS7 : Sg < w7.heap.size := (by simp at hz7; omega))
        go_end0
        have hat : g7 = gr ∨ g7 = ((wr.drewN nq).setCell ⟨gc', W.length, none⟩ (.int .i64 2)).heap.size + 1 := by
          rcases hat7 with e | e
          · left; injection e
          · right
            have e' : g7 = (((wr.drewN nq).setCell ⟨gc', W.length, none⟩ (.int .i64 2)).alloc (.cells #[.int .i64 (2 * (W.length : Int))] 3)).heap.size := by injection e
            simpa using e'
        obtain ⟨t1, t2⟩ := HT9.out.growR (x := 2 * (W.length : Int)) hB9 (by simpa [vals] using hown7) hgrow7 hat
        exact ⟨rfl, ⟨g, 0, c, g7, c7, gc', cc', by rw [HNT.out, HP.out]; exact t1⟩, HB9.out.trans t2⟩
end Go.Proofs.Ytabniplgibfgeaa
