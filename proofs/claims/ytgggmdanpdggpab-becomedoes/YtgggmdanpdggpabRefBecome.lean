/- gessoref3.Become: some become others, as the document says. -/
import Derived.Test.YtgggmdanpdggpabRefOther
import Derived.Test.YtgggmdanpdggpabOwnKit
namespace Go.Proofs.Ytgggmdanpdggpab
open Go.RowKit

/-- A place of a thing, or the end. -/
structure OnWay (W : List Int) (p : Nat) : Prop where
  all : ∀ q, q ∈ places W p → q ∈ places W 2
  fit : unfit W p = none
  two : 2 ≤ p
  top : p ≤ W.length
theorem OnWay.next {W : List Int} {p : Nat} (h : OnWay W p) (hp : p < W.length) : OnWay W (nextAt W p) := by
  obtain ⟨hf, hu⟩ := unfit_head hp h.fit
  have := (fits_out hf).2.2.2.2
  exact ⟨fun q hq => h.all q (by rw [places_in hp]; exact List.mem_cons_of_mem _ hq), hu, by have := h.two; unfold nextAt; omega, by unfold nextAt; omega⟩
theorem OnWay.mem {W : List Int} {p : Nat} (h : OnWay W p) (hp : p < W.length) : p ∈ places W 2 := h.all p (by rw [places_in hp]; exact List.mem_cons_self ..)
/-- A heap and roots, in memory of their own. -/
def RBecAns (K L : List Int) (B : Nat) (e : Ending) (w : World) : Prop :=
  ∃ g c v, e = .returned (.tuple #[.agg #[sl g K.length c], v]) ∧ w.ownsRow 0 3 1 (sl g K.length c) K.length (vals K) ∧ w.ownsRow B 3 1 v L.length (vals L)
theorem own_row {w : World} {g n c i : Nat} {xs : List Int} (h : w.ownsRow 0 3 1 (sl g n c) n (vals xs)) (hi : i < n) : w.cell? ⟨g, i, none⟩ = some (.int .i64 (wd xs i)) := by
  have hl : xs.length = n := by have := h.1; simpa [vals] using this
  subst hl; exact own_cell h hi
theorem take_snocI {xs : List Int} {i : Nat} (h : i < xs.length) : xs.take (i + 1) = xs.take i ++ [wd xs i] := by
  rw [List.take_add_one, List.getElem?_eq_getElem h]; unfold wd; rw [List.getD_eq_getElem?_getD, List.getElem?_eq_getElem h]; rfl

set_option maxRecDepth 100000 in
set_option maxHeartbeats 16000000 in
theorem rbecome_any (W F T roots : List Int) (b off cap : Nat) (fad tad rad : Option Addr) (fc tc rcap : Nat) (both : Bool) (w : World) (hr : Row w b off W) (hF : RootsAt fad F w) (hT : RootsAt tad T w) (hroots : RootsAt rad roots w) (hFT : F.length = T.length) (hn : F.length ≤ 5000) (hrl : roots.length ≤ 5000) (hu : unfit W 2 = none) (h2 : 2 ≤ W.length) (hl : W.length ≤ 2000) :
    Calls Try.prog 24 #[heapV (some ⟨b, off, none⟩) W.length cap, .slice fad F.length fc, .slice tad T.length tc, .slice rad roots.length rcap, .bool both] w fun e w' => RBecAns (renW (otherP both (F.zip T)) W) (roots.map (otherP both (F.zip T))) w.heap.size e w' ∧ Below w.heap.size w w' := by
  obtain ⟨i0, hi, hz0, hz1, hz2⟩ := info_parts info3
  have HO : Hid (RootsAt rad roots w) := hroots
  have HF : Hid (RootsAt fad F w) := hF
  have HT : Hid (RootsAt tad T w) := hT
  have HOt : Hid (∀ o w0, Below w.heap.size w w0 → Calls Try.prog 41 #[.int .i64 o, .slice fad F.length fc, .slice tad T.length tc, .bool both] w0 fun e w' => e = .returned (.int .i64 (otherP both (F.zip T) o)) ∧ w' = w0) :=
    fun o w0 hb => rother_any F T fad tad fc tc both o w0 (hF.below hb) (hT.below hb) hFT hn
  have hVl := ren_length (t := otherP both (F.zip T)) h2 hu
  have HV0 : Hid (mixW (renW (otherP both (F.zip T)) W) W 2 = W) := by
    have := mix_skip (i := 0) (j := 2) hVl (Nat.zero_le _) h2 fun k _ hk => by
      match k, hk with
      | 0, _ => rfl
      | 1, _ => rfl
    rw [mix_zero] at this; exact this.symm
  have HV1 : Hid (mixW (renW (otherP both (F.zip T)) W) W W.length = renW (otherP both (F.zip T)) W) := mix_end hVl
  have HVc : Hid (∀ p, p ∈ places W 2 → wd (renW (otherP both (F.zip T)) W) p = otherP both (F.zip T) (wd W p)) := fun p hp => ren_cls hu hp
  have HVh : Hid (∀ p, p ∈ places W 2 → wd (renW (otherP both (F.zip T)) W) (p + 1) = wd W (p + 1)) := fun p hp => ren_hash hu hp
  have HVs : Hid (∀ p, p ∈ places W 2 → wd (renW (otherP both (F.zip T)) W) (p + 2) = wd W (p + 2)) := fun p hp => ren_shape hu hp
  have HVk : Hid (∀ p k, p ∈ places W 2 → k < slotsAt W p → wd (renW (otherP both (F.zip T)) W) (p + 3 + k) = if formAt W p = 1 then wd W (p + 3 + k) else otherP both (F.zip T) (wd W (p + 3 + k))) := fun p k hp hk => ren_slot hu hp hk
  generalize renW (otherP both (F.zip T)) W = V at *
  generalize otherP both (F.zip T) = t at *
  have HLt : Hid ((roots.map t).length = roots.length) := List.length_map _
  obtain ⟨w2, hw2⟩ : ∃ w2, w2 = ((w.alloc (.cells #[.slice (some ⟨b, off, none⟩) W.length cap] 24)).alloc (.cells #[.slice none 0 0] 24)) := ⟨_, rfl⟩
  have hb02 : Below w.heap.size w w2 := by rw [hw2]; exact ((Below.refl _ _).alloc (Nat.le_refl _) _).alloc (by simp) _
  have hs2 : w2.heap.size = w.heap.size + 2 := by rw [hw2]; simp
  have hc1 : w2.cell? ⟨w.heap.size + 1, 0, none⟩ = some (.slice none 0 0) := by rw [hw2, cell_at2 (by simp)]; rfl
  have hf1 : w2.frozen? ⟨w.heap.size + 1, 0, none⟩ = false := by rw [hw2, frozen_at2 (by simp)]
  have HW2 : Hid (w2 = ((w.alloc (.cells #[.slice (some ⟨b, off, none⟩) W.length cap] 24)).alloc (.cells #[.slice none 0 0] 24))) := hw2
  have HS2 : Hid (w2.heap.size = w.heap.size + 2) := hs2
  have hr2 := hr.same hb02
  clear hw2 hs2 hF hT hroots hFT
  go_enter Try.func24, Try.ntmps24
  have hown0 : (((w.alloc (.cells #[.slice (some ⟨b, off, none⟩) W.length cap] 24)).alloc (.cells #[.slice none 0 0] 24)).alloc (.cells #[] 3)).ownsRow w2.heap.size 3 1 (sl (w.heap.size + 1 + 1) 0 0) 0 [] := by
    have := World.ownsRow_lit (base := w2.heap.size) (e := 3) (size := 1) ((w.alloc (.cells #[.slice (some ⟨b, off, none⟩) W.length cap] 24)).alloc (.cells #[.slice none 0 0] 24)) #[] 0 (by rw [HS2.out]; simp) (Nat.zero_le _) rfl
    simpa using this
  have hr3 : Row (((w.alloc (.cells #[.slice (some ⟨b, off, none⟩) W.length cap] 24)).alloc (.cells #[.slice none 0 0] 24)).alloc (.cells #[] 3)) b off W := (((hr.alloc _).alloc _).alloc _)
  go_wp2_with (at_builtin; go_must (refine wpList_append_own _ rfl (.tmp 18) (.tmp 20) 22 rfl w2.heap.size 3 i0 (.int .i64 0) 1 8 ty30 hi hz0 hz1 hz2 rfl (by decide) (sl (w.heap.size + 1 + 1) 0 0) 0 [] rfl hown0 ⟨b, off, none⟩ W.length cap (vals W) rfl (by simp) (row_news hr3) (ints_oneCell _ _) (by unfold maxLen; omega) (by omega) (by have := HS2.out; simp; omega) ?_); intro v3 w3 hown3 hgrow3 hnil3; simp only [Nat.zero_add, List.nil_append] at hown3; obtain ⟨g, c3, rfl, hg, hown⟩ := own_shape hown3 (fun e => by have := (hnil3.1 e).1; cases this))
  have hgrow4 := hgrow3
  rw [← HW2.out] at hgrow4
  have hB3 : Below w2.heap.size w2 w3 := ((Below.refl _ _).alloc (Nat.le_refl _) (.cells #[] 3)).grown hgrow4 (by simp) (fun k hk => by simp [Value.ownBlock] at hk; rw [HS2.out]; omega)
  have hown1 : w3.ownsRow 0 3 1 (sl g W.length c3) W.length (vals (mixW V W 2)) := by rw [HV0.out]; exact hown
  clear hown hgrow4
  clear hown0 hr3 hown3 hgrow3 hnil3
  go_loopw [13] (fun s13 wr => ∃ (p : Nat), s13 = .int .i64 p ∧ OnWay W p ∧ wr.ownsRow 0 3 1 (sl g W.length c3) W.length (vals (mixW V W p)) ∧ Below w2.heap.size w2 wr) (fun s13 _ => 3000 - (intOf s13).toNat)
  case atStart => exact ⟨2, rfl, ⟨fun q hq => hq, hu, Nat.le_refl _, h2⟩, hown1, hB3⟩
  case round =>
    clear hown1 hB3
    obtain ⟨p, rfl, hAt, hown, hB⟩ := hrel
    have hB0 := hb02.trans (hB.mono hb02.size)
    have hgl := own_lt hown
    have hp2 := hAt.two
    by_cases hin : p < W.length
    · have hnx := hAt.next hin
      have hmem := hAt.mem hin
      have hfo := fits_out (unfit_head hin hAt.fit).1
      have hnn := next_num hfo.2.1
      have hge : p + 3 ≤ nextAt W p := by unfold nextAt; omega
      have hnl : nextAt W p ≤ W.length := by unfold nextAt; omega
      have hcp := own_row hown hin
      rw [mix_above hVl (Nat.le_refl _) (by omega)] at hcp
      have hfw := hown.frozenAt p
      have hii : (p : Int) < (W.length : Int) := by omega
      have hst := (hown.stored p (.int .i64 (t (wd W p)))).1
      rw [show (vals (mixW V W p)).set p (.int .i64 (t (wd W p))) = vals ((mixW V W p).set p (t (wd W p))) by simp [vals, List.map_set], ← HVc.out p hmem, mix_set hVl hin, mix_skip (i := p + 1) (j := p + 3) hVl (by omega) (by omega) (fun k h1 h3 => by
        by_cases e : k = p + 1
        · rw [e]; exact HVh.out p hmem
        · rw [show k = p + 2 by omega]; exact HVs.out p hmem), HVc.out p hmem] at hst
      have hBs : Below w2.heap.size w2 (wr.setCell ⟨g, p, none⟩ (.int .i64 (t (wd W p)))) := hB.setCell (p := ⟨g, p, none⟩) hg _
      clear hown
      go_wp2_with (go_at_call 41; refine (HOt.out _ _ hB0).mono ?_; rintro e w4 ⟨rfl, hw4⟩; rw [hw4]; clear hw4 w4)
      go_loopw [14] (fun s14 wr => ∃ (q : Nat), s14 = .int .i64 q ∧ p + 3 ≤ q ∧ q ≤ nextAt W p ∧ wr.ownsRow 0 3 1 (sl g W.length c3) W.length (vals (mixW V W q)) ∧ Below w2.heap.size w2 wr) (fun s14 _ => 3000 - (intOf s14).toNat)
      case atStart => exact ⟨p + 3, by first | rfl | simp, by omega, hge, hst, hBs⟩
      case round =>
        clear hst hBs hcp hfw hB hB0 hgl
        rename_i wr
        obtain ⟨q, rfl, hq1, hq2, hown, hB⟩ := hrel
        have hB0 := hb02.trans (hB.mono hb02.size)
        have hgl := own_lt hown
        have hcp2 := own_row hown (i := p + 2) (by omega)
        rw [mix_below hVl (by omega) (by omega), HVs.out p hmem] at hcp2
        have hii2 : (p : Int) + 2 < (W.length : Int) := by omega
        by_cases hgo : q < nextAt W p ∧ formAt W p ≠ 1
        · have hkni : (q : Int) < (p : Int) + 3 + wd W (p + 2) / 4 := by rw [hnn]; omega
          have heb : (wd W (p + 2) % 4 != 1) = true := by have := hgo.2; unfold formAt at this; simpa using this
          have hcq := own_row hown (i := q) (by omega)
          rw [mix_above hVl (Nat.le_refl _) (by omega)] at hcq
          have hfq := hown.frozenAt q
          have hqi : (q : Int) < (W.length : Int) := by omega
          have hVq : wd V q = t (wd W q) := by
            have := HVk.out p (q - (p + 3)) hmem (by have := hgo.1; unfold nextAt at this; omega)
            rw [show p + 3 + (q - (p + 3)) = q by omega, if_neg hgo.2] at this; exact this
          have hst := (hown.stored q (.int .i64 (t (wd W q)))).1
          rw [show (vals (mixW V W q)).set q (.int .i64 (t (wd W q))) = vals ((mixW V W q).set q (t (wd W q))) by simp [vals, List.map_set], ← hVq, mix_set hVl (by omega), hVq] at hst
          have hBs : Below w2.heap.size w2 (wr.setCell ⟨g, q, none⟩ (.int .i64 (t (wd W q)))) := hB.setCell (p := ⟨g, q, none⟩) hg _
          have hgoq := hgo.1
          clear hgo hVq hown
          go_wp2_with (go_at_call 41; refine (HOt.out _ _ hB0).mono ?_; rintro e w4 ⟨rfl, hw4⟩; rw [hw4]; clear hw4 w4)
          go_roundw
          case rel => exact ⟨q + 1, by first | rfl | simp, by omega, by omega, hst, hBs⟩
          case measure => simp [intOf]; omega
        · have hmix : mixW V W q = mixW V W (nextAt W p) := by
            by_cases h1 : formAt W p = 1
            · refine mix_skip hVl hq2 hnl fun k k1 k2 => ?_
              have := HVk.out p (k - (p + 3)) hmem (by unfold nextAt at k2; omega)
              rw [show p + 3 + (k - (p + 3)) = k by omega, if_pos h1] at this; exact this
            · have : q = nextAt W p := by
                by_cases h3 : q < nextAt W p
                · exact absurd ⟨h3, h1⟩ hgo
                · omega
              rw [this]
          rw [hmix] at hown
          clear hmix
          by_cases hq3 : q < nextAt W p
          · have hkni : (q : Int) < (p : Int) + 3 + wd W (p + 2) / 4 := by rw [hnn]; omega
            have heb : (wd W (p + 2) % 4 != 1) = false := by
              by_cases h1 : formAt W p = 1
              · unfold formAt at h1; simp [h1]
              · exact absurd ⟨hq3, h1⟩ hgo
            clear hgo
            go_wp2_with fail
            go_roundw
            case rel => exact ⟨nextAt W p, by first | rfl | simp, hnx, hown, hB⟩
            case measure => simp [intOf]; omega
          · have hkni : ¬ ((q : Int) < (p : Int) + 3 + wd W (p + 2) / 4) := by rw [hnn]; omega
            clear hgo
            go_wp2_with fail
            go_roundw
            case rel => exact ⟨nextAt W p, by first | rfl | simp, hnx, hown, hB⟩
            case measure => simp [intOf]; omega
    · have hpe : p = W.length := by have := hAt.top; omega
      subst hpe
      rw [HV1.out] at hown
      have HOr : Hid (RootsAt rad roots wr) := HO.out.below hB0
      have vc1 := through hB hc1 (by have := HS2.out; dsimp only; omega)
      have vf1 := throughF hB hf1 (by have := HS2.out; dsimp only; omega)
      have hz6 : w.heap.size + 1 < wr.heap.size := by have := hB.size; have := HS2.out; omega
      clear hAt
      go_wp2_with fail
      obtain ⟨w6, e6⟩ : ∃ w6, w6 = wr := ⟨wr, rfl⟩
      subst e6
      go_loopw [15, 16] (fun s15 s16 wr => ∃ (i : Nat), s16 = .int .i64 i ∧ i ≤ roots.length ∧ wr.ownsRow w6.heap.size 3 1 s15 i (vals ((roots.take i).map t)) ∧ Below w6.heap.size w6 wr) (fun _ s16 _ => roots.length - (intOf s16).toNat)
      case atStart => exact ⟨0, rfl, Nat.zero_le _, World.ownsRow_nil _ _ _ _, Below.refl _ _⟩
      case round =>
        obtain ⟨i, rfl, hir, hownl, hB6⟩ := hrel
        have hsz6 := hB6.size
        have hB06 := hB0.trans (hB6.mono hB0.size)
        by_cases hlt : i < roots.length
        · obtain ⟨rb, ro, hrad, hrr⟩ := HOr.out (by omega)
          subst hrad
          have hcr := (hrr.same hB6).cell i hlt
          have hii : (i : Int) < (roots.length : Int) := by omega
          have HL : Hid ((roots.take (i + 1)).map t = (roots.take i).map t ++ [t (wd roots i)]) := by rw [take_snocI hlt, List.map_append]; exact rfl
          go_wp2_with (first | (go_at_call 41; refine (HOt.out _ _ hB06).mono ?_; rintro e w4 ⟨rfl, hw4⟩; rw [hw4]; clear hw4 w4) | (at_builtin; go_must (refine wpList_append_own _ rfl (.tmp 95) (.tmp 97) 22 rfl w6.heap.size 3 i0 (.int .i64 0) 1 8 ty30 hi hz0 hz1 hz2 rfl (by decide) _ i (vals ((roots.take i).map t)) rfl (hownl.alloc _) ⟨wr.heap.size, 0, none⟩ 1 1 [.int .i64 (t (wd roots i))] rfl rfl (cell_one_new _ _ _) (ints_oneCell .i64 [t (wd roots i)]) (by unfold maxLen; omega) (by omega) (by simp; omega) ?_); intro v' w7 hown7 hgrow7 hnil7))
          go_roundw
          case rel => exact ⟨i + 1, by first | rfl | simp, by omega, by rw [HL.out]; simpa [vals] using hown7, (hB6.alloc (by omega) _).grown hgrow7 (by simp; omega) (fun k hk => (hownl.lt k hk).1)⟩
          case measure => simp [intOf]; omega
        · have he : i = roots.length := by omega
          subst he
          rw [List.take_length] at hownl
          have d1 := through hB6 vc1 (by dsimp only; omega)
          have d2 := throughF hB6 vf1 (by dsimp only; omega)
          have hownK : wr.ownsRow 0 3 1 (sl g W.length c3) W.length (vals V) := own_same hown fun g' hg' => hB6.block g' (hown.lt g' hg').2
          have hgg : w.heap.size + 1 < g := by have := HS2.out; omega
          have hnlt : ¬ ((roots.length : Int) < (roots.length : Int)) := by omega
          go_wp2_with fail
          refine bodyPost_ret (v := .tuple #[.agg #[sl g W.length c3], u15]) (by simp [results, Try.results24, go_sem, d1]) rfl ⟨⟨g, c3, u15, by rw [hVl], ?_, ?_⟩, ?_⟩
          · rw [hVl]; exact own_set' hownK (by dsimp only; omega) _
          · rw [HLt.out]
            have h3 := own_mono (show w.heap.size ≤ w6.heap.size by omega) hownl
            exact own_same h3 fun g' hg' => by
              have := (hownl.lt g' hg').1
              exact Below.heap_setCell _ _ _ _ (by dsimp only; omega)
          · exact hB06.setCell (by dsimp only; omega) _
end Go.Proofs.Ytgggmdanpdggpab
