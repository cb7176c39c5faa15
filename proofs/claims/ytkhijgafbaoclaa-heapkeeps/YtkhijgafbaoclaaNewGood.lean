/- heap.New where it makes a thing. -/
import Derived.Test.YtkhijgafbaoclaaNew
namespace Go.Proofs.Ytkhijgafbaoclaa
open Go.RowKit

theorem own_set {w : World} {b cap n : Nat} {xs : List Value} (h : w.ownsRow 0 3 1 (sl b n cap) n xs) {a : Addr} (hb : b ≠ a.block) (x : Value) : (w.setCell a x).ownsRow 0 3 1 (sl b n cap) n xs :=
  own_kept h ⟨rfl, rfl, rfl, by simp [World.setCell], fun k _ hk => Below.heap_setCell _ _ _ _ (fun e => hk (by rw [e]))⟩ hb

set_option maxHeartbeats 2000000 in
theorem new_good (W : List Int) (ad : Option Addr) (cap : Nat) (cl fo : Int) (m : Nat) (w : World) (hr : 2 ≤ W.length → ∃ b off, ad = some ⟨b, off, none⟩ ∧ Row w b off W) (h : (checkOf W).1 = 0) (hc : nilB W cl = true) (h1 : formB fo = true) (h2 : sizeB m = true) (hfit : (W.length : Int) + 3 + m ≤ 2000) (hh : wd W 1 ≤ 10000) :
    Calls Try.prog 26 #[heapV ad W.length cap, .int .i64 cl, .int .i64 fo, .int .i64 m] w fun e w' => NewAns (newWords W cl fo m) (2 * (W.length : Int)) e w' ∧ Below w.heap.size w w' := by
  have hs : Hid (∀ w0, (2 ≤ W.length → ∃ b off, ad = some ⟨b, off, none⟩ ∧ Row w0 b off W) → Calls Try.prog 45 #[heapV ad W.length cap] w0 fun e w' => OpenAns W w0.heap.size e w' ∧ Below w0.heap.size w0 w') :=
    fun w0 hr0 => open_yes W ad cap w0 hr0 h
  have HR : Hid (2 ≤ W.length → ∃ b off, ad = some ⟨b, off, none⟩ ∧ Row w b off W) := hr
  obtain ⟨hf, _⟩ := check_ok h
  obtain ⟨hl2, hl, _, hh1, _⟩ := front_out hf
  have hsi : (m : Int) ≤ 60 := by unfold sizeB at h2; exact (of_decide_eq_true h2).2
  have hfo : 0 ≤ fo ∧ fo ≤ 2 := by unfold formB at h1; exact of_decide_eq_true h1
  clear h hr hf
  obtain ⟨i0, hi, hz0, hz1, hz2⟩ := info_parts info3
  have hsh := shape_bits (m := m) (fo := fo) (by omega) hfo.1 hfo.2
  go_enter Try.func26, Try.ntmps26
  go_upto_region 11 with (first | (go_at_call 45; refine (hs.out _ (reads2 HR.out)).mono ?_; rintro e w1 ⟨⟨b, cap', bm, rfl, hv, hb, hbm, hne⟩, hb1⟩; have hz : w.heap.size + 1 < w1.heap.size := (boxes11 hb1).2.2.2) | (go_at_call 47; refine (isNil_any W b cap' bm _ _ (hv.alloc _)).mono ?_; rintro e w2 ⟨rfl, hb2⟩; have hb12 := hb1.trans ((below_call hb2).mono hb1.size); obtain ⟨c0, d1, d2, hz2'⟩ := boxes11 hb12; obtain ⟨v0, v1⟩ := box_cells hb2; have hv2 := hv.same (below_call hb2); have hcn := hv2.cell (k := 1) (by omega); have hz12 : w1.heap.size < w2.heap.size := (by have := hb2.size; simp at this; omega); have hblt := hv2.lt) | (go_at_call 48; refine (isForm_any _ _).mono ?_; rintro e w3 ⟨rfl, hw3⟩; rw [hw3]; clear hw3 w3) | (go_at_call 49; refine (isSize_any _ _).mono ?_; rintro e w3 ⟨rfl, hw3⟩; rw [hw3]; clear hw3 w3))
  have hb' : w.heap.size + 2 ≤ b := by simp at hb; omega
  have hown2 : w2.drew.ownsRow (w.heap.size + 2) 3 1 (sl b W.length cap') W.length (vals W) := own_base hv2.own hb'
  go_cut [14] from 61 to 84 (fun s14 wx => ∃ g c, s14 = sl g (W.length + 3) c ∧ wx.ownsRow (w.heap.size + 2) 3 1 (sl g (W.length + 3) c) (W.length + 3) (vals (W ++ [cl, wd W 1, 4 * (m : Int) + fo])) ∧ Below (w.heap.size + 2) w2 wx)
  case first =>
    go_region_law (refine step_append_own rfl (.tmp 62) (.tmp 72) 30 rfl (w.heap.size + 2) 3 i0 (.int .i64 0) 1 8 ty30 hi hz0 hz1 hz2 rfl (by decide) (sl b W.length cap') W.length (vals W) (by simp [Act.eval]) (hown2.alloc _) ⟨w2.heap.size, 0, none⟩ 3 3 [.int .i64 cl, .int .i64 (wd W 1), .int .i64 (4 * (m : Int) + fo)] (by simp [Act.eval]) rfl (cell_three_new w2 _ _ _ _) (ints_oneCell .i64 [cl, wd W 1, 4 * (m : Int) + fo]) (by unfold maxLen; omega) (by omega) (by have := hb12.size; simp at this ⊢; omega) ?_; intro v' w3 hown3 hgrow3 hnil3)
    all_goals
      obtain ⟨g, c, rfl, hg, hown4⟩ := own_shape hown3 (fun e => by have := (hnil3.1 e).1; cases this)
      go_wp2_with fail
      go_meet
      case rel => exact ⟨g, c, rfl, own_base (by simpa [vals] using hown4) hg, ((Below.refl _ _).drew.alloc (by simp; omega) _).grown hgrow3 (by simp; omega) (fun k hk => by simp [Value.ownBlock] at hk; omega)⟩
  case rest =>
    obtain ⟨g, c, rfl, hown3, hb3⟩ := hcut
    have hg2 := (hown3.lt g rfl).1
    have hb23 := hb12.trans (hb3.mono (by simp))
    clear hown2 hsh
    go_wp2_with (at_builtin; refine wpList_append_zeros rfl (.tmp 74) (.tmp 75) rfl g (W.length + 3) c m (vals (W ++ [cl, wd W 1, 4 * (m : Int) + fo])) rfl rfl (own_mono (Nat.zero_le _) hown3) (by omega) ?_; intro g' cap4 w4 hown4 hgrow4 hloc4; have hcell4 := cell_one_of hown4 hl2 (by omega); have hfz4 := hown4.frozenAt 1; have hz4 := hb23.size; have hb4 := ((Below.refl (w.heap.size + 2) wc).grown hgrow4 (by simp at hz4; omega) (fun k hk => by simp at hk; omega)); have hb24 := hb23.trans (hb4.mono (by simp)); obtain ⟨e0, e1, e2, ez⟩ := boxes11 hb24)
    have hg4 : w.heap.size + 1 < g' := by simp at hz4; omega
    have hst := (hown4.stored 1 (.int .i64 (wd W 1 + 1))).1
    rw [new_vals] at hst
    have hln := new_length W cl fo m
    rw [← hln] at hst
    refine bodyPost_ret (v := .tuple #[.agg #[sl g' (W.length + 3 + m) cap4], .int .i64 (2 * (W.length : Int)), .int .i64 0]) (by simp [results, Try.results26, go_sem, e1]) rfl ⟨⟨g', cap4, by rw [hln], ?_⟩, ?_⟩
    · exact own_set hst (by dsimp only; omega) _
    · repeat (first | exact below2 hb24 | refine Below.setCell ?_ (by dsimp only; omega) _)

end Go.Proofs.Ytkhijgafbaoclaa
