/- gessoref6.Write. -/
import Derived.Test.YtdacgjjkgagjhacImgWrite
namespace Go.Proofs.Ytdacgjjkgagjhac
open Go.RowKit

theorem hasB_news {w : World} {g cap : Nat} {xs : List Int} (h : HasB w g cap xs) : ∀ j u, (bytesV xs)[j]? = some u → w.cell? ((⟨g, 0, none⟩ : Addr).add j) = some u := fun j u hj => by
  obtain ⟨hlt, rfl⟩ := bytesV_at hj
  rw [add_plain, Nat.zero_add]; exact h.cell j hlt
theorem numB_pos (x : Int) : 0 < (numB x).length := enc_pos _

set_option maxRecDepth 20000 in
set_option maxHeartbeats 4000000 in
theorem rWrite_any (W roots : List Int) (ad rad : Option Addr) (cap rcap : Nat) (w : World) (hr : WordsAt ad W w) (hroots : RootsAt rad roots w) (h : (rootsOf W roots).1 = 0) (h6 : roots.length ≤ 600) :
    Calls Try.prog 14 #[heapV ad W.length cap, .slice rad roots.length rcap] w fun e w' => AnsB w.heap.size (imageB W roots) e w' ∧ Below w.heap.size w w' := by
  obtain ⟨hc, _, _⟩ := roots_zero h
  obtain ⟨f1, f2, _⟩ := front_out (check_fine hc).1
  have hmW : ∀ x ∈ W, Mild x := words_mild hc
  have hmR : ∀ x ∈ roots, Mild x := fun x hx => ok_mild (ok_rootsOf h x hx)
  have hlW := listB_short hmW ⟨by omega, by omega⟩
  have hlR := listB_short hmR ⟨by omega, by omega⟩
  have HN : Hid (∀ (x : Int) (w0 : World), Mild x → Calls Try.prog 24 #[.int .i64 x] w0 fun e w' => AnsB w0.heap.size (numB x) e w' ∧ Below w0.heap.size w0 w') := fun x w0 hx => rNumber_any x w0 (by have := hx.1; omega) (by have := hx.2; omega) (numB_short hx)
  have HI : Hid ([71, 69] ++ listB W ++ listB roots = imageB W roots) := by
    have : [71, 69] ++ listB W ++ listB roots = imageB W roots := by unfold imageB; simp
    exact this
  have HlW : Hid (([71, 69] ++ listB W).length ≤ 800000) := by
    have : ([71, 69] ++ listB W).length ≤ 800000 := by simp; omega
    exact this
  have HlI : Hid ((imageB W roots).length ≤ 800000) := by
    have : (imageB W roots).length ≤ 800000 := by rw [← HI.out]; simp; omega
    exact this
  have HnW : Hid (Mild W.length) := ⟨by omega, by omega⟩
  have HnR : Hid (Mild roots.length) := ⟨by omega, by omega⟩
  have HR : Hid (WordsAt ad W w) := hr
  have HO : Hid (RootsAt rad roots w) := hroots
  have HmW : Hid (∀ x ∈ W, Mild x) := hmW
  have HmR : Hid (∀ x ∈ roots, Mild x) := hmR
  generalize imageB W roots = I at *
  clear h hr hroots hc hmW hmR hlW hlR
  have hbBox : Below w.heap.size w (w.alloc (.cells #[.slice ad W.length cap] 24)) := (Below.refl _ _).alloc (Nat.le_refl _) _
  have hlit : Hid (HasB ((w.alloc (.cells #[.slice ad W.length cap] 24)).alloc (.cells #[.int .u8 71, .int .u8 69] 5)) (w.heap.size + 1) 2 [71, 69]) := by
    have := hasB_lit (w.alloc (.cells #[.slice ad W.length cap] 24)) [71, 69] #[.int .u8 71, .int .u8 69] rfl (by simp)
    have e : (w.alloc (.cells #[.slice ad W.length cap] 24)).heap.size = w.heap.size + 1 := by simp
    rw [e] at this
    exact this
  have hbL : Below (w.heap.size + 1) (w.alloc (.cells #[.slice ad W.length cap] 24)) ((w.alloc (.cells #[.slice ad W.length cap] 24)).alloc (.cells #[.int .u8 71, .int .u8 69] 5)) := (Below.refl _ _).alloc (by simp) _
  have hbox : (w.alloc (.cells #[.slice ad W.length cap] 24)).cell? ⟨w.heap.size, 0, none⟩ = some (.slice ad W.length cap) := by rw [cell_at2 rfl]; rfl
  go_enter Try.func14, Try.ntmps14
  go_wp2_with (first | (go_at_call 24; (refine (HN.out W.length _ HnW.out).mono ?_; rintro e w1 ⟨⟨g1, cap1, rfl, hg1, hh1⟩, hb1⟩; have hb1' := hbL.trans (hb1.mono (by first | (simp; done) | (simp; omega))); have hs1 := hb1'.size)) | (at_builtin; go_must (refine wpList_append_B rfl _ _ rfl (w.heap.size + 1) _ [71, 69] rfl (Or.inr ⟨w.heap.size + 1, 2, rfl, Nat.le_refl _, hlit.out.same hb1⟩) ⟨g1, 0, none⟩ (numB W.length).length cap1 (numB W.length) rfl rfl (hasB_news hh1) (numB_pos _) (by have := numB_short HnW.out; simp; omega) (by simp at hs1; omega) ?_); intro g2 cap2 w2 hg2 hh2 hgr2; have hb2 := hb1'.grown hgr2 (by simp at hs1; omega) (fun k hk => by have hk' : some (w.heap.size + 1) = some k := hk; injection hk' with e; omega)))
  clear hh1 hlit
  go_loopw [5, 7] (fun s y wr => ∃ (ys : List Int) (i : Nat), y = .int .i64 i ∧ i ≤ W.length ∧ Hid (OwnB wr (w.heap.size + 1) s ys) ∧ Hid (ys ++ (W.drop i).flatMap numB = [71, 69] ++ listB W) ∧ Below (w.heap.size + 1) (w.alloc (.cells #[.slice ad W.length cap] 24)) wr) (fun _ y _ => W.length - (intOf y).toNat)
  case atStart => exact ⟨[71, 69] ++ numB W.length, 0, rfl, by omega, Or.inr ⟨g2, cap2, by (simp; try omega), hg2, hh2⟩, by (have : [71, 69] ++ numB W.length ++ (W.drop 0).flatMap numB = [71, 69] ++ listB W := (by unfold listB; simp); exact this), hb2⟩
  case round =>
    rename_i s y wr
    obtain ⟨ys, i, rfl, hi, ho, he, hb⟩ := hrel
    have hsz := hb.size
    have hys := few_left he.out HlW.out
    have hbc := through hb hbox (by dsimp only; omega)
    have hlb : w.heap.size < wr.heap.size := by simp at hsz; omega
    have hB : w.heap.size + 1 ≤ wr.heap.size := by omega
    clear hh2 hgr2
    by_cases hlt : i < W.length
    · obtain ⟨b, off, rfl, hrw⟩ := HR.out (by omega)
      have hrw' := hrw.same (hbBox.trans (hb.mono (by omega)))
      have hcell := hrw'.cell i hlt
      have hc : (i : Int) < (W.length : Int) := by omega
      have hmi := mild_wd HmW.out i
      clear hrw hrw'
      go_wp2_with (first | (go_at_call 24; refine (HN.out (wd W i) _ hmi).mono ?_; rintro e w3 ⟨⟨g3, cap3, rfl, hg3, hh3⟩, hb3⟩; have hb3' := hb.trans (hb3.mono hB); have hs3 := hb3'.size) | (at_builtin; go_must (refine wpList_append_B rfl _ _ rfl (w.heap.size + 1) _ ys rfl (ho.out.same hb3) ⟨g3, 0, none⟩ (numB (wd W i)).length cap3 (numB (wd W i)) rfl rfl (hasB_news hh3) (numB_pos _) (by have := numB_short hmi; omega) (by simp at hs3; omega) ?_); intro g4 cap4 w4 hg4 hh4 hgr4; have hb4 := hb3'.grown hgr4 (by simp at hs3; omega) (fun k hk => (ho.out.owns k hk).1)))
      go_roundw
      case rel => exact ⟨ys ++ numB (wd W i), i + 1, by first | rfl | simp, by omega, Or.inr ⟨g4, cap4, by simp, hg4, hh4⟩, step_list hlt he.out, hb4⟩
      case measure => simp [intOf]; omega
    · have hc : ¬ (i : Int) < (W.length : Int) := by omega
      have hfin : ys = [71, 69] ++ listB W := by
        have := he.out
        rw [List.drop_of_length_le (by omega)] at this
        simpa using this
      subst hfin
      clear hi hlt he
      go_wp2_with (first | (go_at_call 24; refine (HN.out roots.length _ HnR.out).mono ?_; rintro e w3 ⟨⟨g3, cap3, rfl, hg3, hh3⟩, hb3⟩; have hb3' := hb.trans (hb3.mono hB); have hs3 := hb3'.size) | (at_builtin; go_must (refine wpList_append_B rfl _ _ rfl (w.heap.size + 1) _ ([71, 69] ++ listB W) rfl (ho.out.same hb3) ⟨g3, 0, none⟩ (numB roots.length).length cap3 (numB roots.length) rfl rfl (hasB_news hh3) (numB_pos _) (by have := numB_short HnR.out; omega) (by simp at hs3; omega) ?_); intro g4 cap4 w4 hg4 hh4 hgr4; have hb4 := hb3'.grown hgr4 (by simp at hs3; omega) (fun k hk => (ho.out.owns k hk).1)))
      clear hh3 ho hbc hc
      go_loopw [5, 8] (fun s y wr => ∃ (ys : List Int) (i : Nat), y = .int .i64 i ∧ i ≤ roots.length ∧ Hid (OwnB wr (w.heap.size + 1) s ys) ∧ Hid (ys ++ (roots.drop i).flatMap numB = I) ∧ Below (w.heap.size + 1) (w.alloc (.cells #[.slice ad W.length cap] 24)) wr) (fun _ y _ => roots.length - (intOf y).toNat)
      case atStart => exact ⟨[71, 69] ++ listB W ++ numB roots.length, 0, rfl, by omega, Or.inr ⟨g4, cap4, by (simp; try omega), hg4, hh4⟩, by (have : [71, 69] ++ listB W ++ numB roots.length ++ (roots.drop 0).flatMap numB = I := (by rw [← HI.out]; unfold listB; simp); exact this), hb4⟩
      case round =>
        obtain ⟨zs, j, rfl, hj, ho2, he2, hb5⟩ := hrel
        have hsz5 := hb5.size
        have hzs := few_left he2.out HlI.out
        clear hh4 hgr4
        by_cases hlt2 : j < roots.length
        · obtain ⟨b, off, rfl, hrw⟩ := HO.out (by omega)
          have hrw' := hrw.same (hbBox.trans (hb5.mono (by omega)))
          have hcell := hrw'.cell j hlt2
          have hc2 : (j : Int) < (roots.length : Int) := by omega
          have hmi := mild_wd HmR.out j
          clear hrw hrw'
          go_wp2_with (first | (go_at_call 24; refine (HN.out (wd roots j) _ hmi).mono ?_; rintro e w5 ⟨⟨g5, cap5, rfl, hg5, hh5⟩, hb6⟩; have hb6' := hb5.trans (hb6.mono (by simp at hsz5; omega)); have hs5 := hb6'.size) | (at_builtin; go_must (refine wpList_append_B rfl _ _ rfl (w.heap.size + 1) _ zs rfl (ho2.out.same hb6) ⟨g5, 0, none⟩ (numB (wd roots j)).length cap5 (numB (wd roots j)) rfl rfl (hasB_news hh5) (numB_pos _) (by have := numB_short hmi; omega) (by simp at hs5; omega) ?_); intro g6 cap6 w6 hg6 hh6 hgr6; have hb7 := hb6'.grown hgr6 (by simp at hs5; omega) (fun k hk => (ho2.out.owns k hk).1)))
          go_roundw
          case rel => exact ⟨zs ++ numB (wd roots j), j + 1, by first | rfl | simp, by omega, Or.inr ⟨g6, cap6, by simp, hg6, hh6⟩, step_list hlt2 he2.out, hb7⟩
          case measure => simp [intOf]; omega
        · have hc2 : ¬ (j : Int) < (roots.length : Int) := by omega
          have hfin : Hid (zs = I) := by
            have := he2.out
            rw [List.drop_of_length_le (by omega)] at this
            have e : zs = I := by simpa using this
            exact e
          go_wp2
          go_ret
          obtain rfl := hfin.out
          have hbF := hbBox.trans (hb5.mono (by omega))
          rcases ho2.out with ⟨_, h0⟩ | ⟨g7, cap7, rfl, hg7, hh7⟩
          · exfalso
            have h1 := congrArg List.length HI.out
            rw [h0] at h1
            simp at h1
          · exact ⟨⟨g7, cap7, rfl, by omega, hh7⟩, hbF⟩
end Go.Proofs.Ytdacgjjkgagjhac
