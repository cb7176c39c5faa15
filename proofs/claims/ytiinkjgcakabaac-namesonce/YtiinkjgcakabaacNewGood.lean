/- heap.New where it makes a thing. -/
import Derived.Test.YtiinkjgcakabaacNew
namespace Go.Proofs.Ytiinkjgcakabaac
open Go.RowKit

theorem own_set {w : World} {b cap n : Nat} {xs : List Value} (h : w.ownsRow 0 3 1 (sl b n cap) n xs) {a : Addr} (hb : b ≠ a.block) (x : Value) : (w.setCell a x).ownsRow 0 3 1 (sl b n cap) n xs :=
  own_kept h ⟨rfl, rfl, rfl, by simp [World.setCell], fun k _ hk => Below.heap_setCell _ _ _ _ (fun e => hk (by rw [e]))⟩ hb

/-- A call of a Go function by its contract, as one step of a region that draws. -/
theorem step_call {P : Program} {ops : Array Oper} {o : Oper} {a : Act} {w : World} {K : Act → World → Prop} {Q : Exit → Act → World → Prop} {E : Prop}
    (hg : o.guard = none) (f : FuncId) (x : Operand) (t : TypeId) (hop : o.op = Op.call { callee := Callee.value (.func f), args := #[x], argTypes := #[t] })
    (v : Value) (hx : a.eval x = v) (hent : ∀ w, Sem.run P (callFunc f #[v]) w = .ok (.enter f #[v]) w) {R : Ending → World → Prop} (hC : Calls P f #[v] w R)
    (hR : ∀ e w', R e w' → ∃ u, e = .returned u ∧ K (a.put o.dst u) w') :
    if Region.wanted o (yielded ops a.tmps) = true then Oper.wp P o a w K Q else E := by
  have hw : Region.wanted o (yielded ops a.tmps) = true := by simp [Region.wanted, hg]
  rw [if_pos hw]
  subst hx
  have e : Sem.run P (execOp a.eval o) w = .ok (.enter f #[a.eval x]) w := by
    simp [execOp, hop, resolve, invoke, Deferred.ofValue, go_sem]
    have h9 := hent w
    simp [Act.eval] at h9
    exact h9
  unfold Oper.wp
  rw [e, Oper.upon_enter]
  refine hC.mono fun e w' hr => ?_
  obtain ⟨u, rfl, hk⟩ := hR e w' hr
  exact hk

/-- The words of a thing that is made. -/
def NewZ (W : List Int) (cl fo : Int) (m : Nat) (Z : List Int) : Prop := Z = [cl, wd W 1, 4 * (m : Int) + fo] ++ List.replicate m 0
theorem laid_enters (w : World) : ∀ {v : Value}, Sem.run Try.prog (callFunc 77 #[v]) w = .ok (.enter 77 #[v]) w := by intro v; kernel_rfl
theorem ownsRow_below_any {w w' : World} {base n cap b : Nat} {xs : List Value} (h : w.ownsRow base 3 1 (sl b n cap) n xs) (hb : Below w.heap.size w w') : w'.ownsRow base 3 1 (sl b n cap) n xs :=
  own_base (ownsRow_below (own_mono (Nat.zero_le _) h) hb (h.lt b rfl).2) (h.lt b rfl).1

/-- What New answers, in a block from B on. -/
def NewFrom (W' : List Int) (o : Int) (B : Nat) (e : Ending) (w : World) : Prop := ∃ g cap, e = .returned (.tuple #[.agg #[sl g W'.length cap], .int .i64 o, .int .i64 0]) ∧ B ≤ g ∧ w.ownsRow 0 3 1 (sl g W'.length cap) W'.length (vals W')

set_option maxRecDepth 20000 in
set_option maxHeartbeats 4000000 in
theorem new_from (W : List Int) (ad : Option Addr) (cap : Nat) (cl fo : Int) (m : Nat) (w : World) (hr : 2 ≤ W.length → ∃ b off, ad = some ⟨b, off, none⟩ ∧ Row w b off W) (h : (checkOf W).1 = 0) (hc : nilB W cl = true) (h1 : formB fo = true) (h2 : sizeB m = true) (hfit : (W.length : Int) + 3 + m ≤ 2000) (hh : wd W 1 ≤ 10000) :
    Calls Try.prog 45 #[heapV ad W.length cap, .int .i64 cl, .int .i64 fo, .int .i64 m] w fun e w' => NewFrom (newWords W cl fo m) (2 * (W.length : Int)) w.heap.size e w' ∧ Below w.heap.size w w' := by
  have hs : Hid (∀ w0, (2 ≤ W.length → ∃ b off, ad = some ⟨b, off, none⟩ ∧ Row w0 b off W) → Calls Try.prog 73 #[heapV ad W.length cap] w0 fun e w' => OpenAns W w0.heap.size e w' ∧ Below w0.heap.size w0 w') :=
    fun w0 hr0 => open_yes W ad cap w0 hr0 h
  have HR : Hid (2 ≤ W.length → ∃ b off, ad = some ⟨b, off, none⟩ ∧ Row w b off W) := hr
  obtain ⟨hf, _⟩ := check_ok h
  obtain ⟨hl2, hl, _, hh1, _⟩ := front_out hf
  have hsi : (m : Int) ≤ 60 := by unfold sizeB at h2; exact (of_decide_eq_true h2).2
  have hfo : 0 ≤ fo ∧ fo ≤ 2 := by unfold formB at h1; exact of_decide_eq_true h1
  clear h hr hf
  obtain ⟨i0, hi, hz0, hz1, hz2⟩ := info_parts info3
  have hmk : ∀ w : World, (Instr.makeSlice 22 (.int .i64 (m : Int)) (.int .i64 (m : Int))).run Try.prog w = .ok (.slice (some ⟨w.heap.size, 0, none⟩) m m) (w.alloc (.cells (madeCells #[.int .i64 0] m) 3)) := fun w => by
    have := run_make (P := Try.prog) w 22 3 i0 (.int .i64 0) ty30 hi hz0 .i64 .i64 m m (by omega) (Int.le_refl _) (by rw [hz2]; omega) (by omega)
    simpa [hz1, Value.cells] using this
  go_enter Try.func45, Try.ntmps45
  go_upto_region 11 with (first | (go_at_call 73; refine (hs.out _ (reads2 HR.out)).mono ?_; rintro e w1 ⟨⟨b, cap', bm, rfl, hv, hb, hbm, hne⟩, hb1⟩; have hz : w.heap.size + 1 < w1.heap.size := (boxes11 hb1).2.2.2) | (go_at_call 74; refine (isNil_any W b cap' bm _ _ (hv.alloc _)).mono ?_; rintro e w2 ⟨rfl, hb2⟩; have hb12 := hb1.trans ((below_call hb2).mono hb1.size); obtain ⟨c0, d1, d2, hz2'⟩ := boxes11 hb12; obtain ⟨v0, v1⟩ := box_cells hb2; have hv2 := hv.same (below_call hb2); have hcn := hv2.cell (k := 1) (by omega); have hz12 : w1.heap.size < w2.heap.size := (by have := hb2.size; simp at this; omega); have hblt := hv2.lt) | (go_at_call 75; refine (isForm_any _ _).mono ?_; rintro e w3 ⟨rfl, hw3⟩; rw [hw3]; clear hw3 w3) | (go_at_call 76; refine (isSize_any _ _).mono ?_; rintro e w3 ⟨rfl, hw3⟩; rw [hw3]; clear hw3 w3))
  have hb' : w.heap.size + 2 ≤ b := by simp at hb; omega
  have hl1 : 1 < W.length := by omega
  go_cut [14] from 62 to 83 (fun s14 wx => ∃ X g, s14 = .pointer (some ⟨X, 0, none⟩) ∧ w2.heap.size ≤ X ∧ w2.heap.size ≤ g ∧ (wx.cell? ⟨X, 0, none⟩ = some (.int .i64 cl) ∧ wx.cell? ⟨X, 1, none⟩ = some (.int .i64 (wd W 1)) ∧ wx.cell? ⟨X, 2, none⟩ = some (.int .i64 fo) ∧ wx.cell? ⟨X, 3, none⟩ = some (sl g m m)) ∧ wx.ownsRow 0 3 1 (sl g m m) m (vals (List.replicate m 0)) ∧ X < wx.heap.size ∧ Below w2.heap.size w2 wx)
  case first =>
    have hmade : ∀ w' : World, (w'.alloc (.cells (madeCells #[.int .i64 0] m) 3)).ownsRow 0 3 1 (sl w'.heap.size m m) m (vals (List.replicate m 0)) := fun w' => by
      have := World.ownsRow_lit (base := 0) (e := 3) (size := 1) w' (madeCells #[.int .i64 0] m) m (Nat.zero_le _) (by unfold maxLen; omega) (by simpa using size_madeCells #[.int .i64 0] m)
      simpa [toList_madeCells_one, vals] using this
    go_region
    all_goals go_wp2_with fail
    · go_meet
      case rel =>
        refine ⟨w2.heap.size + 1, w2.heap.size, by first | rfl | simp, by omega, Nat.le_refl _, ⟨?_, ?_, ?_, ?_⟩, ((hmade w2).alloc _).drew, by simp, (((Below.refl _ _).alloc (Nat.le_refl _) _).alloc (by simp) _).drew⟩
        all_goals (show World.cell? (World.alloc _ _) _ = _; rw [cell_at2 (by simp)]; rfl)
    · go_meet
      case rel =>
        refine ⟨w2.heap.size, w2.heap.size + 1, by first | rfl | simp, Nat.le_refl _, by omega, ⟨?_, ?_, ?_, ?_⟩, ?_, by simp; omega, (((Below.refl _ _).alloc (Nat.le_refl _) _).alloc (by simp) _).drew⟩
        all_goals first | (show World.cell? (World.alloc _ _) _ = _; rw [cell_past _ (by simp), cell_at2 rfl]; rfl) | skip
        have := (hmade (w2.alloc (.cells #[.int .i64 cl, .int .i64 (wd W 1), .int .i64 fo, sl (w2.heap.size + 1) m m] 82))).drew
        simpa using this
  case rest =>
    obtain ⟨X, g, rfl, hX, hg, ⟨x0, x1, x2, x3⟩, hownS, hXl, hb3⟩ := hcut
    have e0 := hb3.cell (p := ⟨w1.heap.size, 0, none⟩) hz12
    have e1 := hb3.cell (p := ⟨w1.heap.size, 1, none⟩) hz12
    rw [v0] at e0
    rw [v1] at e1
    have hv3 := hv2.same hb3
    have hb13 := hb12.trans (hb3.mono hb12.size)
    have hsz3 := hb3.size
    clear hmk
    have hS : SlotsOwn 0 (List.replicate m 0) (sl g m m) wc.drew := ⟨some ⟨g, 0, none⟩, m, by simp, fun _ => ⟨g, rfl, Nat.zero_le _, by simpa using hownS.drew⟩⟩
    have hL := laid_any cl (wd W 1) fo (List.replicate m 0) 0 (sl g m m) wc.drew hS (by simp; omega) hfo
    have hl' : (cl :: wd W 1 :: (4 * ((List.replicate m (0 : Int)).length : Int) + fo) :: List.replicate m 0 = [cl, wd W 1, 4 * (m : Int) + fo] ++ List.replicate m 0) := by simp
    rw [hl'] at hL
    clear hl'
    have hlen : ([cl, wd W 1, 4 * (m : Int) + fo] ++ List.replicate m 0).length = 3 + m := by simp; omega
    have HZ : Hid (NewZ W cl fo m ([cl, wd W 1, 4 * (m : Int) + fo] ++ List.replicate m 0)) := rfl
    have HLn : Hid (([cl, wd W 1, 4 * (m : Int) + fo] ++ List.replicate m 0).length = 3 + m) := hlen
    have hlen' : ([cl, wd W 1, 4 * (m : Int) + fo] ++ List.replicate m 0).length ≤ 63 := by omega
    clear hlen
    generalize [cl, wd W 1, 4 * (m : Int) + fo] ++ List.replicate m 0 = Z at *
    have hz0w : w.heap.size + 2 ≤ w2.heap.size := by have := hb12.size; simp at this; omega
    have hownW : wc.ownsRow (w.heap.size + 2) 3 1 (sl b W.length cap') W.length (vals W) := own_base hv3.own hb'
    go_upto_region 12 with fail
    go_cut [15] from 62 to 83 (fun s15 wx => ∃ g c, s15 = sl g (W.length + Z.length) c ∧ wx.ownsRow (w.heap.size + 2) 3 1 (sl g (W.length + Z.length) c) (W.length + Z.length) (vals (W ++ Z)) ∧ Below (w.heap.size + 2) w2 wx)
    case first =>
      go_region_law (first | (refine step_call rfl 77 (.tmp 73) 82 rfl (thingV cl (wd W 1) fo (sl g m m)) (by simp [Act.eval]) (fun w => laid_enters w) hL ?_; rintro e w5 ⟨⟨g5, c5, rfl, hg5, hown5⟩, hb5⟩; refine ⟨_, rfl, ?_⟩; have y0 : w5.cell? ⟨w1.heap.size, 0, none⟩ = some (sl b W.length cap') := ((hb5.cell (p := ⟨w1.heap.size, 0, none⟩) (by show w1.heap.size < wc.heap.size; omega)).trans e0); have hbc5 : Below wc.heap.size wc w5 := (Below.refl _ _).drew.trans hb5; have hownW5 := ownsRow_below_any hownW hbc5; have hn5 := news_at hown5; have z5 := hbc5.size) | (refine step_append_own rfl (.tmp 72) (.tmp 74) 22 rfl (w.heap.size + 2) 3 i0 (.int .i64 0) 1 8 ty30 hi hz0 hz1 hz2 rfl (by decide) (sl b W.length cap') W.length (vals W) (by simp [Act.eval]) hownW5 ⟨g5, 0, none⟩ Z.length c5 (vals Z) (by simp [Act.eval]) (by simp) hn5 (ints_oneCell .i64 _) (by unfold maxLen; omega) (by omega) (by omega) ?_; intro v' w6 hown6 hgrow6 hnil6))
      all_goals
        obtain ⟨g6, c6, rfl, hg6, hown7⟩ := own_shape hown6 (fun e => by have := (hnil6.1 e).1; cases this)
        go_wp2_with fail
        go_meet
        case rel => exact ⟨g6, c6, rfl, own_base (by simpa [vals] using hown7) hg6, ((hb3.mono hz0w).trans (hbc5.mono (by omega))).grown hgrow6 (by omega) (fun k hk => by simp [Value.ownBlock] at hk; omega)⟩
    case rest =>
      obtain ⟨g6, c6, rfl, hown6, hb6⟩ := hcut
      have hown6' := own_mono (Nat.zero_le _) hown6
      have hg6 := (hown6.lt g6 rfl).1
      have hb26 := hb12.trans (hb6.mono (by simp))
      have hcell4 := cell_one_of (W := W) (t := Z) (r := []) (by simpa using hown6') hl2 (by omega)
      have hfz4 := hown6'.frozenAt 1
      obtain ⟨e0, e1, e2, ez⟩ := boxes11 hb26
      have hst := (hown6'.stored 1 (.int .i64 (wd W 1 + 1))).1
      have hnv : (vals (W ++ Z)).set 1 (.int .i64 (wd W 1 + 1)) = vals (newWords W cl fo m) := by rw [show Z = _ from HZ.out, ← new_vals]; simp [vals]
      rw [hnv] at hst
      have HW : Hid ((newWords W cl fo m).length = W.length + Z.length) := by rw [new_length, HLn.out, Nat.add_assoc]; exact rfl
      clear hnv hlen' HLn HZ
      go_wp2_with fail
      refine bodyPost_ret (v := .tuple #[.agg #[sl g6 (W.length + Z.length) c6], .int .i64 (2 * (W.length : Int)), .int .i64 0]) (by simp [results, Try.results45, go_sem, e1]) rfl ⟨⟨g6, c6, by rw [HW.out], by omega, ?_⟩, ?_⟩
      · rw [HW.out]; exact own_set hst (by dsimp only; omega) _
      · exact ((below2 hb26).setCell (by dsimp only; omega) _).setCell (by dsimp only; omega) _

theorem new_good (W : List Int) (ad : Option Addr) (cap : Nat) (cl fo : Int) (m : Nat) (w : World) (hr : 2 ≤ W.length → ∃ b off, ad = some ⟨b, off, none⟩ ∧ Row w b off W) (h : (checkOf W).1 = 0) (hc : nilB W cl = true) (h1 : formB fo = true) (h2 : sizeB m = true) (hfit : (W.length : Int) + 3 + m ≤ 2000) (hh : wd W 1 ≤ 10000) :
    Calls Try.prog 45 #[heapV ad W.length cap, .int .i64 cl, .int .i64 fo, .int .i64 m] w fun e w' => NewAns (newWords W cl fo m) (2 * (W.length : Int)) e w' ∧ Below w.heap.size w w' :=
  (new_from W ad cap cl fo m w hr h hc h1 h2 hfit hh).mono fun _ _ hp => ⟨let ⟨g, c, he, _, ho⟩ := hp.1; ⟨g, c, he, ho⟩, hp.2⟩

end Go.Proofs.Ytiinkjgcakabaac
